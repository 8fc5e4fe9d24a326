/-
  Raw attributes of one's own, read; the example's plain facts.
-/
import Derived.Test.YtpahnebhcfpplaaGreatDoorB9
import Derived.Test.YtpahnebhcfpplaaGreatDoorC11
import Derived.Test.YtpahnebhcfpplaaGreatDoorF3
namespace Go.Proofs.YtpahnebhcfpplaaGreatDoor
open Go.RowKit
theorem cellsR_at (R : List Rw) (i : Nat) (h : i < R.length) : (cellsR R)[i * 3]? = some (.int .u8 (R[i].1 : Int)) ∧ (cellsR R)[i * 3 + 1]? = some (.int .u8 (R[i].2.1 : Int)) ∧ (cellsR R)[i * 3 + 2]? = some (.string R[i].2.2) := by
  induction R generalizing i with
  | nil => simp at h
  | cons r R ih =>
    cases i with
    | zero => simp [cellsR]
    | succ i =>
      have := ih i (by simpa using h)
      simp only [cellsR, List.flatMap_cons, List.getElem_cons_succ] at *
      rw [show (i + 1) * 3 = i * 3 + 3 by omega, show i * 3 + 3 + 1 = i * 3 + 1 + 3 by omega, show i * 3 + 3 + 2 = i * 3 + 2 + 3 by omega]
      simpa using this
theorem OwnR.at {w : World} {base : Nat} {v : Value} {R : List Rw} (h : OwnR w base v R) (hx : ∀ r ∈ R, r.1 < 256 ∧ r.2.1 < 256 ∧ r.2.2.size ≤ 4611686018427387904) (hl : R.length ≤ 35184372088832) : RawsAt w v R := by
  obtain ⟨hn, hv⟩ := h
  rcases hv with ⟨rfl, h0⟩ | ⟨g, cap, cur, rfl, hg, hh, hc, hm, hs, ht⟩
  · obtain rfl : R = [] := List.length_eq_zero_iff.mp h0
    exact ⟨none, 0, 0, 0, rfl, Or.inr rfl, by simp, fun j hj => by simp at hj⟩
  · refine ⟨some ⟨g, 0, none⟩, g, 0, cap, rfl, Or.inl rfl, ⟨hc, hl⟩, fun j hj => ?_⟩
    have e : ∀ i, i < R.length * 3 → cur.toList[i]? = (cellsR R)[i]? := fun i hi => by
      have : (cur.toList.take (R.length * 3))[i]? = (cellsR R)[i]? := by rw [ht]
      rwa [List.getElem?_take, if_pos hi] at this
    have hk := cellsR_at R j hj
    rw [Nat.zero_add]
    exact ⟨⟨cell_of_row hh _ _ (by rw [e _ (by omega)]; exact hk.1), cell_of_row hh _ _ (by rw [e _ (by omega)]; exact hk.2.1), cell_of_row hh _ _ (by rw [e _ (by omega)]; exact hk.2.2)⟩, hx _ (List.getElem_mem hj)⟩
/-- The example. -/
def mOne (v : Value) : Am := ⟨1, v, ⟨#[10, 0, 0, 1]⟩, false, 0, false, 0, false, 0, 0, .slice none 0 0, .slice none 0 0, .slice none 0 0, false, 0, .slice none 0 0, [(2, [1])], [], [], [], []⟩
theorem mOne_cells (v : Value) : cellsM (mOne v) = oneC v := rfl
theorem mOne_may (v : Value) : AMay (mOne v) := ⟨by show (0 : Int) ≤ 1; omega, by show (1 : Int) ≤ 2; omega, one_ok, rfl, rfl, rfl, by show 0 ≤ 32; omega⟩
theorem mOne_ok (v : Value) (w : World) (h : PathAt w v [(2, [1])]) : AOk w (mOne v) := ⟨h, nil_at w, nil_ex w, nil_la w, nil_at w, by show 0 < _; omega, by show 0 < _; omega, by show 0 < _; omega, by show 0 < _; omega, by show 0 < _; omega⟩
theorem wt_one (v : Value) : writeTo true (mOne v) 12 = R3 := by kernel_rfl
def laid20 : List UInt8 := [64, 1, 1, 1, 64, 2, 6, 2, 1, 0, 0, 0, 1, 64, 3, 4, 10, 0, 0, 1]
theorem lay_R3 : layAns R3 = .tuple #[.string ⟨laid20.toArray⟩, .int .i64 0] := by kernel_rfl
theorem split_R3 : splitI 20 laid20 = some R3 := by kernel_rfl
theorem R3_ok : ∀ r ∈ R3, r.1 < 256 ∧ r.2.1 < 256 ∧ r.2.2.size ≤ 4611686018427387904 := by
  intro r hr
  simp only [R3, List.mem_cons, List.not_mem_nil, or_false] at hr
  rcases hr with rfl | rfl | rfl <;> exact ⟨by show 64 < 256; omega, by first | (show 1 < 256; omega) | (show 2 < 256; omega) | (show 3 < 256; omega), by show _ ≤ _; decide⟩
end Go.Proofs.YtpahnebhcfpplaaGreatDoor
