/-
  The contracts of New, Take and Left.
-/
import Derived.Test.YtbdfigfjoiefiaaDoorW2
import Derived.RegionTactic
namespace Go.Proofs.YtbdfigfjoiefiaaDoor
open Go.RowKit
/-- A reader that New made lies in block p, and these bytes are left. -/
structure RdrAt (w : World) (p : Nat) (s : ByteArray) : Prop where
  c0 : w.cell? ⟨p, 0, none⟩ = some (.bool true)
  c1 : w.cell? ⟨p, 1, none⟩ = some (.string s)
  f0 : w.frozen? ⟨p, 0, none⟩ = false
  f1 : w.frozen? ⟨p, 1, none⟩ = false
theorem RdrAt.kept {w w' : World} {p B : Nat} {s : ByteArray} (h : RdrAt w p s) (hb : Below B w w') (hB : p < B) : RdrAt w' p s :=
  ⟨(hb.cell (p := ⟨p, 0, none⟩) hB).trans h.c0, (hb.cell (p := ⟨p, 1, none⟩) hB).trans h.c1, (hb.frozen (p := ⟨p, 0, none⟩) hB).trans h.f0, (hb.frozen (p := ⟨p, 1, none⟩) hB).trans h.f1⟩
theorem RdrAt.set {w : World} {p : Nat} {s : ByteArray} (h : RdrAt w p s) (t : ByteArray) : RdrAt (w.setCell ⟨p, 1, none⟩ (.string t)) p t :=
  ⟨by rw [World.cell?_setCell_other _ _ _ _ (by simp)]; exact h.c0, World.cell?_setCell_same _ _ _ h.c1, by rw [World.frozen?_setCell]; exact h.f0, by rw [World.frozen?_setCell]; exact h.f1⟩
theorem RdrAt.set_other {w : World} {p : Nat} {s : ByteArray} (h : RdrAt w p s) (a : Addr) (v : Value) (ha : a.block ≠ p) : RdrAt (w.setCell a v) p s := by
  have ne : ∀ i, a ≠ ⟨p, i, none⟩ := fun i e => ha (by rw [e])
  exact ⟨by rw [World.cell?_setCell_other _ _ _ _ (ne _)]; exact h.c0, by rw [World.cell?_setCell_other _ _ _ _ (ne _)]; exact h.c1, by rw [World.frozen?_setCell]; exact h.f0, by rw [World.frozen?_setCell]; exact h.f1⟩
theorem RdrAt.lt {w : World} {p : Nat} {s : ByteArray} (h : RdrAt w p s) : p < w.heap.size := by
  have := h.c0
  by_cases e : p < w.heap.size
  · exact e
  · rw [World.cell?] at this
    simp [Array.getElem?_eq_none (Nat.le_of_not_lt e)] at this
theorem new_any (s : ByteArray) (w : World) :
    Calls Tryd.prog 60 #[.string s] w fun e w' => e = .returned (.pointer (some ⟨w.heap.size, 0, none⟩)) ∧ RdrAt w' w.heap.size s ∧ Below w.heap.size w w' ∧ w'.heap.size = w.heap.size + 1 := by
  go_enter Tryd.func60, Tryd.ntmps60
  go_wp2
  go_ret
  refine ⟨rfl, ?_, (Below.refl _ _).alloc (by simp) _, by simp⟩
  constructor <;> simp
theorem left_any (p : Nat) (s : ByteArray) (w : World) (h : RdrAt w p s) :
    Calls Tryd.prog 76 #[.pointer (some ⟨p, 0, none⟩)] w fun e w' => e = .returned (.int .i64 (s.size : Int)) ∧ w' = w := by
  have c1 := h.c1
  go_enter Tryd.func76, Tryd.ntmps76
  go_wp2
  go_ret
  exact ⟨rfl, rfl⟩
theorem take_no (p : Nat) (s : ByteArray) (n : Int) (w : World) (h : RdrAt w p s) (hn : n < 0 ∨ (s.size : Int) < n) :
    Calls Tryd.prog 88 #[.pointer (some ⟨p, 0, none⟩), .int .i64 n] w fun e w' => e = .returned (.tuple #[.string ⟨#[]⟩, .bool false]) ∧ w' = w := by
  obtain ⟨c0, c1, _, _⟩ := h
  by_cases h0 : n < 0
  · clear hn
    go_enter Tryd.func88, Tryd.ntmps88
    go_wp2
    go_ret2
    exact ⟨rfl, rfl⟩
  · have h1 : (s.size : Int) < n := by omega
    clear hn
    go_enter Tryd.func88, Tryd.ntmps88
    go_wp2
    go_ret2
    exact ⟨rfl, rfl⟩
theorem take_yes (p : Nat) (s : ByteArray) (n : Nat) (w : World) (h : RdrAt w p s) (hn : n ≤ s.size) :
    Calls Tryd.prog 88 #[.pointer (some ⟨p, 0, none⟩), .int .i64 (n : Int)] w fun e w' =>
      e = .returned (.tuple #[.string (s.extract 0 n), .bool true]) ∧ w' = w.setCell ⟨p, 1, none⟩ (.string (s.extract n s.size)) := by
  obtain ⟨c0, c1, f0, f1⟩ := h
  go_enter Tryd.func88, Tryd.ntmps88
  go_wp2
  go_ret2
  exact ⟨rfl, rfl⟩
end Go.Proofs.YtbdfigfjoiefiaaDoor
