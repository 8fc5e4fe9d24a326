/-
  Sets that may be.
-/
import Derived.Test.YthaebbmekonacaaGreatDoorZ1
import Derived.Test.YthaebbmekonacaaGreatDoorZ3
set_option linter.unusedVariables false
set_option linter.unusedSimpArgs false
set_option maxRecDepth 100000
namespace Go.Proofs.YthaebbmekonacaaGreatDoor
open Go.RowKit
theorem below_drewN {B : Nat} {a w : World} (h : Below B a w) (n : Nat) : Below B a (w.drewN n) := ⟨h.os, h.tape, h.output, h.size, h.block⟩
/-- A set. -/
structure Sty where
  nm : ByteArray
  kind : Int
  items : List Itm
  comms : List Nat
  paths : List (List Atm)
def setV (S : Sty) (vi vc vp : Value) : Value := .agg #[.string S.nm, .int .i64 S.kind, vi, vc, vp]
/-- Its lists, in memory. -/
structure SetAt (w : World) (S : Sty) (vi vc vp : Value) : Prop where
  i : ItsAt w vi S.items
  c : ASAt w vc S.comms
  p : PsAt w vp S.paths
theorem SetAt.below {w w' : World} {S : Sty} {vi vc vp : Value} (h : SetAt w S vi vc vp) (hb : Below w.heap.size w w') : SetAt w' S vi vc vp := ⟨h.i.below hb, h.c.below hb, h.p.below hb⟩
/-- What is small enough. -/
structure Small (S : Sty) : Prop where
  n : S.nm.size ≤ maxLen
  i : S.items.length ≤ 1000000
  c : S.comms.length ≤ 1000000
  p : S.paths.length ≤ 1000000
  q : ∀ p ∈ S.paths, p.length ≤ 1000000
  l : ∀ x ∈ S.items, -9223372036854775808 ≤ x.l ∧ x.l ≤ 9223372036854775807
/-- Each above the one ahead. -/
def risB : List Nat → Bool
  | [] => true
  | [_] => true
  | a :: b :: l => decide (a < b) && risB (b :: l)
theorem risB_at (L : List Nat) (i : Nat) (h : i + 1 < L.length) : risB (L.drop i) = (decide (L[i] < L[i + 1]) && risB (L.drop (i + 1))) := by
  rw [List.drop_eq_getElem_cons (show i < L.length by omega), List.drop_eq_getElem_cons h]
  rfl
theorem risB_end (L : List Nat) (i : Nat) (h : L.length ≤ i + 1) : risB (L.drop i) = true := by
  have : (L.drop i).length ≤ 1 := by rw [List.length_drop]; omega
  generalize L.drop i = M at *
  cases M with
  | nil => rfl
  | cons a M =>
    cases M with
    | nil => rfl
    | cons b M => simp at this
def holdB (S : Sty) : Bool :=
  if S.kind = 1 then decide (S.comms.length = 0) && decide (S.paths.length = 0) && decide (S.items.length ≤ 64) && S.items.all okI
  else if S.kind = 2 then decide (S.items.length = 0) && decide (S.paths.length = 0) && decide (S.comms.length ≤ 64) && risB S.comms
  else if S.kind = 3 then decide (S.items.length = 0) && decide (S.comms.length = 0) && decide (S.paths.length ≤ 64) && S.paths.all okP
  else false
def okS (S : Sty) : Bool := nameB S.nm && holdB S
set_option maxHeartbeats 1600000 in
theorem rising_any (v : Value) (L : List Nat) (w : World) (hv : ASAt w v L) (hlen : L.length ≤ 1000000) :
    Calls Tryz.prog 150 #[v] w fun e w' => e = .returned (.bool (risB L)) ∧ Below w.heap.size w w' := by
  obtain ⟨ad, bb, off, cap, rfl, had, hcap, hrow⟩ := hv
  have HR : Hid (_ : Prop) := hrow
  clear hrow
  go_enter Tryz.func150, Tryz.ntmps150
  go_wp2
  go_loopw [3] (fun i wr => ∃ (k : Nat), k ≤ L.length ∧ i = .int .i64 ((k + 1 : Nat) : Int) ∧ Below w.heap.size w wr ∧ risB L = risB (L.drop k)) (fun i _ => L.length + 1 - (intOf i).toNat)
  case atStart => exact ⟨0, Nat.zero_le _, rfl, Below.refl _ _, rfl⟩
  case round =>
    obtain ⟨k, hk, rfl, hb, hany⟩ := hrel
    have HB : Hid (Below w.heap.size w wr) := hb
    have HRI : Hid (_ = _) := hany
    clear hb hany
    by_cases hlt : k + 1 < L.length
    · obtain rfl : ad = some ⟨bb, off, none⟩ := by
        rcases had with h | h
        · exact h
        · omega
      have hw1 : IntKind.i64.wrap (((k + 1 : Nat) : Int) - 1) = (k : Int) := by rw [IntKind.wrap_i64]; omega
      have c0 := below_cell HB.out (HR.out k (by omega))
      have c1 := below_cell HB.out (HR.out (k + 1) hlt)
      rw [risB_at L k hlt] at HRI
      by_cases hle : L[k + 1] ≤ L[k]
      · have hd : decide (L[k] < L[k + 1]) = false := by simpa using hle
        have hle' : (L[k + 1] : Int) ≤ (L[k] : Int) := by omega
        rw [hd, Bool.false_and] at HRI
        clear hd hle
        generalize L[k + 1] = y at *
        generalize L[k] = x at *
        go_wp2
        go_quiet (fail)
        go_wp2
        go_ret
        exact ⟨ret_bool HRI.out.symm, below_drewN HB.out _⟩
      · have hd : decide (L[k] < L[k + 1]) = true := by simpa using hle
        have hle' : ¬ (L[k + 1] : Int) ≤ (L[k] : Int) := by omega
        rw [hd, Bool.true_and] at HRI
        clear hd hle
        generalize L[k + 1] = y at *
        generalize L[k] = x at *
        go_wp2
        go_quiet (fail)
        go_wp2
        go_roundw
        case rel => exact ⟨k + 1, by omega, by go_num, below_drewN HB.out _, HRI.out⟩
        case measure => simp [intOf]; omega
    · rw [risB_end L k (by omega)] at HRI
      go_wp2
      go_ret
      exact ⟨ret_bool HRI.out.symm, HB.out⟩
end Go.Proofs.YthaebbmekonacaaGreatDoor
