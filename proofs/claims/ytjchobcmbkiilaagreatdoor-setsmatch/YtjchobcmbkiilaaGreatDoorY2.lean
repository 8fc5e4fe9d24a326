/-
  The closure of matches, which calls itself.
-/
import Derived.Test.YtjchobcmbkiilaaGreatDoorY1
import Derived.Test.YtjchobcmbkiilaaGreatDoorRF
set_option linter.unusedVariables false
set_option linter.unusedSimpArgs false
set_option maxRecDepth 100000
namespace Go.Proofs.YtjchobcmbkiilaaGreatDoor
open Go.RowKit
/-- What the closure finds in memory. -/
structure FrAt (w : World) (pb lb fb mb b : Nat) (vp vl : Value) (p : List Atm) (L : List Nat) : Prop where
  cp : w.cell? ⟨pb, 0, none⟩ = some vp
  cl : w.cell? ⟨lb, 0, none⟩ = some vl
  cf : w.cell? ⟨fb, 0, none⟩ = some (.func (.func 78) #[] #[.pointer (some ⟨pb, 0, none⟩), .pointer (some ⟨lb, 0, none⟩), .pointer (some ⟨fb, 0, none⟩), .pointer (some ⟨mb, 0, none⟩)])
  cm : w.cell? ⟨mb, 0, none⟩ = some (.map (some b))
  ap : AtAt w vp p
  al : ASAt w vl L
theorem FrAt.bst {w w' : World} {pb lb fb mb b : Nat} {vp vl : Value} {p : List Atm} {L : List Nat} (h : FrAt w pb lb fb mb b vp vl p L) (hb : Bst b w w') : FrAt w' pb lb fb mb b vp vl p L :=
  ⟨hb.cell h.cp, hb.cell h.cl, hb.cell h.cf, hb.cell h.cm, h.ap.bst hb, h.al.bst hb⟩
theorem FrAt.below {w w' : World} {pb lb fb mb b : Nat} {vp vl : Value} {p : List Atm} {L : List Nat} (h : FrAt w pb lb fb mb b vp vl p L) (hb : Below w.heap.size w w') : FrAt w' pb lb fb mb b vp vl p L :=
  ⟨below_cell hb h.cp, below_cell hb h.cl, below_cell hb h.cf, below_cell hb h.cm, h.ap.below hb, h.al.below hb⟩
/-- What it finds, and what it knows. -/
structure FrM (w : World) (pb lb fb mb b : Nat) (vp vl : Value) (p : List Atm) (L : List Nat) : Prop where
  at' : FrAt w pb lb fb mb b vp vl p L
  memo : ∃ f, Memo p L f ∧ MpI w b p.length f
theorem FrM.below {w w' : World} {pb lb fb mb b : Nat} {vp vl : Value} {p : List Atm} {L : List Nat} (h : FrM w pb lb fb mb b vp vl p L) (hb : Below w.heap.size w w') : FrM w' pb lb fb mb b vp vl p L := by
  obtain ⟨f, h1, h2⟩ := h.memo
  exact ⟨h.at'.below hb, f, h1, h2.below hb⟩
theorem FrM.isMap {w : World} {pb lb fb mb b : Nat} {vp vl : Value} {p : List Atm} {L : List Nat} (h : FrM w pb lb fb mb b vp vl p L) : ∃ es c, w.heap[b]? = some (.map es c) := by
  obtain ⟨f, h1, h2⟩ := h.memo
  exact h2.isMap
/-- What it answers. -/
def FrOk (pb lb fb mb b : Nat) (vp vl : Value) (p : List Atm) (L : List Nat) (w : World) (r : Bool) (e : Ending) (w' : World) : Prop :=
  e = .returned (.bool r) ∧ FrM w' pb lb fb mb b vp vl p L ∧ Bst b w w'
def FrI (pb lb fb mb b : Nat) (vp vl : Value) (p : List Atm) (L : List Nat) (i : Nat) : Prop :=
  ∀ k, k ≤ L.length → ∀ w, FrM w pb lb fb mb b vp vl p L → Calls Tryz.prog 78 #[.int .i64 (i : Int), .int .i64 (k : Int), .pointer (some ⟨pb, 0, none⟩), .pointer (some ⟨lb, 0, none⟩), .pointer (some ⟨fb, 0, none⟩), .pointer (some ⟨mb, 0, none⟩)] w (FrOk pb lb fb mb b vp vl p L w (mt (p.drop i) (L.drop k)))
set_option maxHeartbeats 1000000 in
theorem from_end {pb lb fb mb b : Nat} {vp vl : Value} {p : List Atm} {L : List Nat} : FrI pb lb fb mb b vp vl p L p.length := by
  intro k hk w h
  have HW : Hid (FrM w pb lb fb mb b vp vl p L) := h
  obtain ⟨ad, cap, rfl⟩ := h.at'.ap.len
  obtain ⟨ad2, cap2, rfl⟩ := h.at'.al.len
  have cp := h.at'.cp
  have cl := h.at'.cl
  have HR : Hid (mt (p.drop p.length) (L.drop k) = decide (k = L.length)) := by
    unfold Hid
    rw [List.drop_length, mt_nil, Bool.eq_iff_iff, List.isEmpty_iff, List.drop_eq_nil_iff, decide_eq_true_eq]
    omega
  generalize mt (p.drop p.length) (L.drop k) = r at *
  clear h
  by_cases e : (k : Int) = (L.length : Int)
  all_goals
    go_enter Tryz.func78, Tryz.ntmps78
    go_wp2
    go_ret
    exact ⟨ret_bool (by rw [HR.out, Bool.eq_iff_iff]; simp <;> omega), HW.out, Bst.refl HW.out.isMap⟩
end Go.Proofs.YtjchobcmbkiilaaGreatDoor
