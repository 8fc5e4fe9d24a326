/-
  A next hop that is taken.
-/
import Derived.Test.YtjliopclpjeieaaDoorFE1
namespace Go.Proofs.YtjliopclpjeieaaDoor
open Go.RowKit
theorem has_no (H B : List UInt8) (w : World) (h : H.length < B.length) :
    Calls Tryd.prog 91 #[.string ⟨H.toArray⟩, .string ⟨B.toArray⟩] w fun e w' => e = .returned (.bool false) ∧ w' = w := by
  go_enter Tryd.func91, Tryd.ntmps91
  go_wp2
  go_ret
  exact ⟨rfl, rfl⟩
theorem ext_l (H : List UInt8) (n : Nat) : (⟨H.toArray⟩ : ByteArray).extract 0 n = ⟨(H.take n).toArray⟩ := by apply ByteArray.ext; simp
theorem has_any (H B : List UInt8) (w : World) (h : B.length ≤ H.length) :
    Calls Tryd.prog 91 #[.string ⟨H.toArray⟩, .string ⟨B.toArray⟩] w fun e w' => e = .returned (.bool (H.take B.length == B)) ∧ w' = w := by
  go_enter Tryd.func91, Tryd.ntmps91
  go_wp2
  go_ret
  exact ⟨ret_bool (by rw [ext_l]; simp), rfl⟩
/-- Does it stand ahead? -/
def led (H B : List UInt8) : Bool := decide (B.length ≤ H.length) && H.take B.length == B
theorem has_led (H B : List UInt8) (w : World) :
    Calls Tryd.prog 91 #[.string ⟨H.toArray⟩, .string ⟨B.toArray⟩] w fun e w' => e = .returned (.bool (led H B)) ∧ w' = w := by
  unfold led
  by_cases h : B.length ≤ H.length
  · rw [decide_eq_true h, Bool.true_and]; exact has_any H B w h
  · rw [decide_eq_false h, Bool.false_and]; exact has_no H B w (by omega)
theorem cut75 (H B : List UInt8) (w : World) :
    Calls Tryd.prog 75 #[.string ⟨H.toArray⟩, .string ⟨B.toArray⟩] w fun e w' => e = .returned (.tuple #[.string ⟨(if led H B then H.drop B.length else H).toArray⟩, .bool (led H B)]) ∧ w' = w := by
  have HK : Hid (_ : Prop) := has_led H B w
  cases hl : led H B with
  | false =>
    rw [hl] at HK
    simp only [Bool.false_eq_true, if_false]
    clear hl
    go_enter Tryd.func75, Tryd.ntmps75
    go_wp2_with fail
    refine Calls.mono HK.out ?_
    rintro e w1 ⟨rfl, rfl⟩
    go_wp2
    go_ret2
    exact ⟨rfl, rfl⟩
  | true =>
    have hle : B.length ≤ H.length := by unfold led at hl; simp at hl; exact hl.1
    have HL : Hid (_ = _) := lsz H B.length
    rw [hl] at HK
    simp only [if_true]
    clear hl
    go_enter Tryd.func75, Tryd.ntmps75
    go_wp2_with fail
    refine Calls.mono HK.out ?_
    rintro e w1 ⟨rfl, rfl⟩
    go_wp2
    go_ret2
    exact ⟨by rw [← HL.out]; simp [list_size], rfl⟩
theorem cutP (H B : List UInt8) (w : World) :
    Calls Tryd.prog 59 #[.string ⟨H.toArray⟩, .string ⟨B.toArray⟩] w fun e w' => e = .returned (.tuple #[.string ⟨(if led H B then H.drop B.length else H).toArray⟩, .bool (led H B)]) ∧ w' = w := by
  have HK : Hid (_ : Prop) := cut75 H B w
  generalize (if led H B then H.drop B.length else H) = X at *
  go_enter Tryd.func59, Tryd.ntmps59
  go_wp2_with fail
  refine Calls.mono HK.out ?_
  rintro e w1 ⟨rfl, rfl⟩
  go_wp2
  go_ret2
  exact ⟨rfl, rfl⟩
/-- How many bytes a next hop is laid in. -/
def cntI (l : List UInt8) : Nat := worth (l.take 1)
def hopI (l : List UInt8) : List UInt8 := (l.drop 1).take (cntI l)
/-- Is a next hop there, and the byte behind it? -/
def wholeI (l : List UInt8) : Bool := decide (cntI l + 2 ≤ l.length)
/-- The address, cut to the first one. -/
def nxI (h : Nat) (B : List UInt8) (t : Bool) (l : List UInt8) : List UInt8 :=
  if t && decide (((hopI l).drop B.length).length = 2 * h) then ((hopI l).drop B.length).take h else (hopI l).drop B.length
def okN (h : Nat) (B : List UInt8) (t : Bool) (l : List UInt8) : Bool := wholeI l && (led (hopI l) B && decide ((nxI h B t l).length = h))
theorem cnt_lt (l : List UInt8) : cntI l < 256 := by
  have := worth_lt (l.take 1)
  have hl : (l.take 1).length ≤ 1 := by simp; omega
  exact Nat.lt_of_lt_of_le this (Nat.le_trans (Nat.pow_le_pow_right (by omega) hl) (by decide))
end Go.Proofs.YtjliopclpjeieaaDoor
