/-
  Paths that are written out; texts that are no path's.
-/
import Derived.Test.YtbdfigfjoiefiabGreatDoorQ2
import Derived.Test.YtbdfigfjoiefiabGreatDoorQ3
import Derived.Test.YtbdfigfjoiefiabGreatDoorC3
import Derived.Test.YtbdfigfjoiefiabGreatDoorX5
import Derived.Test.YtbdfigfjoiefiabGreatDoorZ1
set_option linter.unusedVariables false
set_option linter.unusedSimpArgs false
set_option maxRecDepth 100000
namespace Go.Proofs.YtbdfigfjoiefiabGreatDoor
open Go.RowKit
theorem cellsU_get (l : List Nat) (j : Nat) (h : j < l.length) : (cellsU l).toArray[j]? = some (.int .u32 (l[j] : Int)) := by
  simp [cellsU, h]
/-- ASs that a row was just made of. -/
theorem as_lit (w : World) (l : List Nat) (t : TypeId) (hl : ∀ x ∈ l, x < 4294967296) (hn : l.length ≤ 1000) : ASAt (w.alloc (.cells (cellsU l).toArray t)) (.slice (some ⟨w.heap.size, 0, none⟩) l.length l.length) l :=
  ⟨some ⟨w.heap.size, 0, none⟩, w.heap.size, 0, l.length, rfl, Or.inl rfl, ⟨Nat.le_refl _, by omega⟩, fun j hj => ⟨by rw [Nat.zero_add]; exact cell_row (heap_new _ _) j _ (cellsU_get l j hj), hl _ (List.getElem_mem hj)⟩⟩
theorem as_nil (w : World) : ASAt w (.slice none 0 0) [] := ⟨none, 0, 0, 0, rfl, Or.inr rfl, by simp, fun j hj => by simp at hj⟩
theorem path_nil (w : World) : PathAt w (.slice none 0 0) [] := ⟨none, 0, 0, 0, rfl, Or.inr rfl, by simp, fun j hj => by simp at hj⟩
/-- A path that a row was just made of. -/
theorem path_lit (w : World) (R : List Sv) (t : TypeId) (h : ∀ r ∈ R, ASAt w r.2.1 r.2.2) (hn : R.length ≤ 1000) : PathAt (w.alloc (.cells (cellsS R).toArray t)) (.slice (some ⟨w.heap.size, 0, none⟩) R.length R.length) (sgs R) := by
  have hb : Below w.heap.size w (w.alloc (.cells (cellsS R).toArray t)) := (Below.refl _ _).alloc (Nat.le_refl _) _
  refine ⟨some ⟨w.heap.size, 0, none⟩, w.heap.size, 0, R.length, by simp [sgs], Or.inl rfl, ⟨by simp [sgs], by simp [sgs]; omega⟩, fun i hi => ?_⟩
  have hi' : i < R.length := by simpa [sgs] using hi
  have hk := cellsS_at R i hi'
  have e : (sgs R)[i] = (R[i].1, R[i].2.2) := by simp [sgs]
  rw [e, Nat.zero_add]
  exact ⟨cell_row (heap_new _ _) _ _ (by simpa using hk.1), R[i].2.1, cell_row (heap_new _ _) _ _ (by simpa using hk.2), (h _ (List.getElem_mem hi')).below hb⟩
/-- A text that no path has. -/
theorem not_path (l : List UInt8) (hs : ¬ (okPath (scanF l [] 0 0) = true ∧ textOf (scanF l [] 0 0) = l)) (R : List Sv) (w : World) (base : Nat) (v : Value) (hO : OwnS w base v R) (hk : okPath (sgs R) = true) (ht : textOf (sgs R) = l) : False := by
  have hx : ∀ s ∈ sgs R, ∀ a ∈ s.2, a < 4294967296 := hO.at.lt
  have e := scan_text (sgs R) hk hx
  rw [ht] at e
  rw [e] at hs
  exact hs ⟨hk, ht⟩
/-- The texts that the statement hands to Parse. -/
def badT : List (List UInt8) := [[], [60, 62], [60, 49, 62, 32], [60, 48, 49, 62], [60, 49, 62, 32, 32, 60, 50, 62], [49], [60, 49], [60, 48, 62], [60, 52, 50, 57, 52, 57, 54, 55, 50, 57, 54, 62], [60, 49, 125], [60, 32, 49, 62]]
theorem badT_not : ∀ l ∈ badT, ¬ (okPath (scanF l [] 0 0) = true ∧ textOf (scanF l [] 0 0) = l) := by decide +kernel
/-- The bytes that the statement hands to Decode. -/
def badB : List (List UInt8) := [[2, 1, 0, 0, 0, 0], [2, 0], [5, 1, 0, 0, 0, 1], [2, 2, 0, 0, 0, 1], [2]]
theorem badB_not : ∀ l ∈ badB, decI 4 16 l = none := by decide +kernel
theorem bad_short : ∀ l ∈ badT, l.length < 140737488351233 := by decide +kernel
theorem parse_bad (l : List UInt8) (hl : l ∈ badT) (w : World) (ht : Tabs w) (hE : ErrsAt w) : Calls Tryz.prog 13 #[.string ⟨l.toArray⟩] w fun e w' => e = .returned (.tuple #[.slice none 0 0, .int .i64 4]) ∧ Below w.heap.size w w' :=
  (parse_any l (bad_short l hl) w ht hE).mono fun e w' ⟨hr, hb⟩ => by
    rcases hr with ⟨v, R, he, hO, hk, htx⟩ | he
    · exact (not_path l (badT_not l hl) R w' _ v hO hk htx).elim
    · exact ⟨he, hb⟩
theorem decode_bad (l : List UInt8) (hl : l ∈ badB) (w : World) : Calls Tryz.prog 12 #[.string ⟨l.toArray⟩, .bool true] w fun e w' => e = .returned (.tuple #[.slice none 0 0, .int .i64 4]) ∧ Below w.heap.size w w' :=
  (decode_any l true w).mono fun e w' h => by
    rw [show decI (szN true) 16 l = none from badB_not l hl] at h
    exact ⟨h.2, h.1⟩
end Go.Proofs.YtbdfigfjoiefiabGreatDoor
