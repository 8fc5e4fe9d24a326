/-
  Bytes of opens: put, piece, entries.
-/
import Derived.Test.YtlhnfejgkhilkaaGreatDoorX1
import Derived.Deep.RegionHeld3
set_option linter.unusedVariables false
set_option linter.unusedSimpArgs false
namespace Go.Proofs.YtlhnfejgkhilkaaGreatDoor
open Go.RowKit
theorem app_l (X Y : List UInt8) : (⟨X.toArray⟩ : ByteArray) ++ ⟨Y.toArray⟩ = ⟨(X ++ Y).toArray⟩ := by apply ByteArray.ext; simp
theorem list_size (l : List UInt8) : (⟨l.toArray⟩ : ByteArray).size = l.length := rfl
theorem add_l (X Y : List UInt8) (hx : X.length ≤ 100000) (hy : Y.length ≤ 100000) (W : World) : (Op.stringOp .add ⟨X.toArray⟩ ⟨Y.toArray⟩).run Tryz.prog W = .ok (.string ⟨(X ++ Y).toArray⟩) W := by
  rw [run_string_add_if, if_neg (by rw [list_size, list_size]; omega), app_l]
theorem put_l (l : List UInt8) (v n : Nat) (w : World) (h0 : 1 ≤ n) (h1 : n ≤ 8) (hv : v < 256 ^ n) (hl : l.length ≤ 100000) :
    Calls Tryz.prog 38 #[.string ⟨l.toArray⟩, .int .u64 (v : Int), .int .i64 (n : Int)] w fun e w' => e = .returned (.string ⟨(l ++ laid v n).toArray⟩) ∧ Below w.heap.size w w' := by
  have HK : Hid (_ : Prop) := put_yes ⟨l.toArray⟩ v n w h0 h1 hv (by rw [list_size]; omega)
  rw [app_l] at HK
  clear h0 h1 hv hl
  go_enter Tryz.func38, Tryz.ntmps38
  go_wp2_with (go_at_call 50; refine Calls.mono HK.out ?_; rintro e w2 ⟨rfl, hb2⟩)
  go_ret
  exact ⟨rfl, hb2⟩
/-- A parameter or a capability: its code, how many bytes follow, and these. -/
def pcL (c : Nat) (l : List UInt8) : List UInt8 := laid c 1 ++ laid l.length 1 ++ l
theorem pcL_length (c : Nat) (l : List UInt8) : (pcL c l).length = l.length + 2 := by simp [pcL, laid_length]; omega
set_option maxHeartbeats 800000 in
theorem piece_any (c : Nat) (l : List UInt8) (w : World) (hc : c < 256) (hl : l.length < 256) :
    Calls Tryz.prog 40 #[.int .u8 (c : Int), .string ⟨l.toArray⟩] w fun e w' => e = .returned (.string ⟨(pcL c l).toArray⟩) ∧ Below w.heap.size w w' := by
  have K1 : Hid (_ : Prop) := put_l [] c 1 w (by omega) (by omega) (by omega) (by simp)
  have K2 : Hid (∀ X, Calls Tryz.prog 38 #[.string ⟨(laid c 1).toArray⟩, .int .u64 (l.length : Int), .int .i64 1] X fun e w' => e = .returned (.string ⟨(laid c 1 ++ laid l.length 1).toArray⟩) ∧ Below X.heap.size X w') := fun X => put_l (laid c 1) l.length 1 X (by omega) (by omega) (by omega) (by rw [laid_length]; omega)
  have ha : ∀ X : World, (Op.stringOp .add ⟨(laid c 1 ++ laid l.length 1).toArray⟩ ⟨l.toArray⟩).run Tryz.prog X = .ok (.string ⟨(pcL c l).toArray⟩) X := fun X => add_l _ _ (by simp [laid_length]) (by omega) X
  have hs : (⟨l.toArray⟩ : ByteArray).size = l.length := rfl
  have hm : IntKind.u64.wrap (l.length : Int) = (l.length : Int) := by simp [IntKind.wrap, IntKind.signed, IntKind.bits]; omega
  rw [List.nil_append] at K1
  generalize laid c 1 ++ laid l.length 1 = B at *
  generalize laid c 1 = A at *
  generalize pcL c l = C at *
  generalize l.length = n at *
  go_enter Tryz.func40, Tryz.ntmps40
  go_wp2_with fail
  refine Calls.mono K1.out ?_
  rintro e w1 ⟨rfl, hb1⟩
  go_wp2_with fail
  refine Calls.mono (K2.out _) ?_
  rintro e w2 ⟨rfl, hb2⟩
  go_wp2
  go_ret
  exact ⟨rfl, hb1.trans (hb2.mono hb1.size)⟩
/-- A bit that is set, if it is so. -/
def flN (b : Bool) (n : Int) : Int := if b = true then n else 0
theorem flag_any (b : Bool) (n : Int) (w : World) : Calls Tryz.prog 66 #[.bool b, .int .u64 n] w fun e w' => e = .returned (.int .u64 (flN b n)) ∧ w' = w := by
  cases b <;>
  · go_enter Tryz.func66, Tryz.ntmps66
    go_wp2
    go_ret
    exact ⟨rfl, rfl⟩
theorem shortAS_any (a : Nat) (w : World) (h : a < 4294967296) : Calls Tryz.prog 39 #[.int .u32 (a : Int)] w fun e w' => e = .returned (.int .u64 ((if a ≤ 65535 then a else 23456 : Nat) : Int)) ∧ w' = w := by
  by_cases h1 : a ≤ 65535
  · rw [if_pos h1]
    go_enter Tryz.func39, Tryz.ntmps39
    go_wp2
    go_ret
    exact ⟨rfl, rfl⟩
  · rw [if_neg h1]
    have h2 : 65535 < a := by omega
    clear h1
    go_enter Tryz.func39, Tryz.ntmps39
    go_wp2
    go_ret
    exact ⟨rfl, rfl⟩
theorem afN_bd (f : Int) : afN f < 65536 := by unfold afN; (repeat' split) <;> omega
theorem sfN_bd (f : Int) : sfN f < 256 := by unfold sfN; (repeat' split) <;> omega
/-- A family's pair, and what is told of it. -/
def entL (f : Int) (n : Nat) : List UInt8 := laid (afN f) 2 ++ laid (sfN f) 1 ++ laid n 1
theorem entL_length (f : Int) (n : Nat) : (entL f n).length = 4 := by simp [entL, laid_length]
set_option maxHeartbeats 800000 in
theorem entry_any (f : Int) (n : Nat) (w : World) (hg : FamSizes w) (hn : n < 256) :
    Calls Tryz.prog 67 #[.int .i64 f, .int .u64 (n : Int)] w fun e w' => e = .returned (.string ⟨(entL f n).toArray⟩) ∧ Below w.heap.size w w' := by
  have K0 : Hid (_ : Prop) := afi_any f w hg
  have K1 : Hid (∀ X, Calls Tryz.prog 38 #[.string ⟨#[]⟩, .int .u64 (afN f : Int), .int .i64 2] X fun e w' => e = .returned (.string ⟨(laid (afN f) 2).toArray⟩) ∧ Below X.heap.size X w') := fun X => put_l [] (afN f) 2 X (by omega) (by omega) (by have := afN_bd f; omega) (by simp)
  have K2 : Hid (∀ X, Calls Tryz.prog 38 #[.string ⟨(laid (afN f) 2).toArray⟩, .int .u64 (sfN f : Int), .int .i64 1] X fun e w' => e = .returned (.string ⟨(laid (afN f) 2 ++ laid (sfN f) 1).toArray⟩) ∧ Below X.heap.size X w') := fun X => put_l _ (sfN f) 1 X (by omega) (by omega) (by have := sfN_bd f; omega) (by rw [laid_length]; omega)
  have K3 : Hid (∀ X, Calls Tryz.prog 38 #[.string ⟨(laid (afN f) 2 ++ laid (sfN f) 1).toArray⟩, .int .u64 (n : Int), .int .i64 1] X fun e w' => e = .returned (.string ⟨(entL f n).toArray⟩) ∧ Below X.heap.size X w') := fun X => put_l _ n 1 X (by omega) (by omega) (by omega) (by simp [laid_length])
  have ha := afN_bd f
  have hs := sfN_bd f
  generalize entL f n = C at *
  generalize laid (afN f) 2 ++ laid (sfN f) 1 = B at *
  generalize laid (afN f) 2 = A at *
  generalize afN f = a at *
  generalize sfN f = s at *
  generalize isF f = z at *
  clear hg
  go_enter Tryz.func67, Tryz.ntmps67
  go_wp2_with fail
  refine Calls.mono K0.out ?_
  rintro e w0 ⟨rfl, hb0⟩
  go_wp2_with fail
  refine Calls.mono (K1.out _) ?_
  rintro e w1 ⟨rfl, hb1⟩
  go_wp2_with fail
  refine Calls.mono (K2.out _) ?_
  rintro e w2 ⟨rfl, hb2⟩
  go_wp2_with fail
  refine Calls.mono (K3.out _) ?_
  rintro e w3 ⟨rfl, hb3⟩
  go_wp2
  go_ret
  have h1 := hb0.trans (hb1.mono hb0.size)
  have h2 := h1.trans (hb2.mono h1.size)
  exact ⟨rfl, h2.trans (hb3.mono h2.size)⟩
end Go.Proofs.YtlhnfejgkhilkaaGreatDoor
