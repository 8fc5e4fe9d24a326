/-
  A header with one byte turned.
-/
import Derived.Test.YtlinoklgchfedaaDoorF3
import Derived.Lib.SlBytesConst
namespace Go.Proofs.YtlinoklgchfedaaDoor
open Go.RowKit
def kbI (a x : Nat) : List UInt8 := keepL.set a (keepL.getD a 0 ^^^ UInt8.ofNat x)
def kbTest (a x : Nat) : Bool := x == 0 || (!(wrongI (kbI a x) == 0) && (!(decide (a < 16)) || wrongI (kbI a x) == 1))
set_option maxRecDepth 100000 in
theorem kb_all : ((List.range 19).all fun a => (List.range 256).all fun x => kbTest a x) = true := by kernel_rfl
theorem kb_wrong (a x : Nat) (ha : a < 19) (hx : x < 256) (h0 : x ≠ 0) : wrongI (kbI a x) ≠ 0 ∧ (a < 16 → wrongI (kbI a x) = 1) := by
  have h := List.all_eq_true.1 (List.all_eq_true.1 kb_all a (List.mem_range.2 ha)) x (List.mem_range.2 hx)
  unfold kbTest at h
  simp only [Bool.or_eq_true, beq_iff_eq, Bool.and_eq_true, Bool.not_eq_true', beq_eq_false_iff_ne, decide_eq_false_iff_not] at h
  rcases h with h | ⟨h1, h2⟩
  · exact absurd h h0
  · refine ⟨h1, fun k => ?_⟩
    rcases h2 with h2 | h2
    · exact absurd k h2
    · exact h2
theorem kb_len (a x : Nat) : (kbI a x).length = 19 := by unfold kbI; rw [List.length_set]; rfl
theorem kb_zero (a : Nat) (ha : a < 19) : kbI a 0 = keepL := by
  unfold kbI
  have e : keepL.getD a 0 ^^^ UInt8.ofNat 0 = keepL.getD a 0 := by
    have : UInt8.ofNat 0 = 0 := rfl
    rw [this]; simp
  have hl : a < keepL.length := ha
  rw [e, List.getD_eq_getElem?_getD, List.getElem?_eq_getElem hl]
  simp
theorem run_keep : runI st0 keepL = (st0, [⟨4, []⟩]) := by kernel_rfl
theorem run_kb (a x : Nat) (ha : a < 19) (hx : x < 256) (h0 : x ≠ 0) : runI st0 (kbI a x) = (⟨[], wrongI (kbI a x)⟩, []) :=
  run_wrong _ (by rw [kb_len]; exact Nat.le_refl _) (kb_wrong a x ha hx h0).1
def kpC : Array Value := #[.int .u8 255, .int .u8 255, .int .u8 255, .int .u8 255, .int .u8 255, .int .u8 255, .int .u8 255, .int .u8 255, .int .u8 255, .int .u8 255, .int .u8 255, .int .u8 255, .int .u8 255, .int .u8 255, .int .u8 255, .int .u8 255, .int .u8 0, .int .u8 19, .int .u8 4]
theorem kpC_at (a : Nat) (ha : a < 19) : kpC[a]? = some (.int .u8 ((keepL.getD a 0).toNat : Int)) := by
  have h : a = 0 ∨ a = 1 ∨ a = 2 ∨ a = 3 ∨ a = 4 ∨ a = 5 ∨ a = 6 ∨ a = 7 ∨ a = 8 ∨ a = 9 ∨ a = 10 ∨ a = 11 ∨ a = 12 ∨ a = 13 ∨ a = 14 ∨ a = 15 ∨ a = 16 ∨ a = 17 ∨ a = 18 := by omega
  rcases h with rfl | rfl | rfl | rfl | rfl | rfl | rfl | rfl | rfl | rfl | rfl | rfl | rfl | rfl | rfl | rfl | rfl | rfl | rfl <;> rfl
theorem cl_mark {w : World} {k i : Nat} {cs : Array Value} {t : TypeId} {fr : Nat × Nat} {v : Value} (hk : w.heap[k]? = some (.cells cs t fr)) (hi : cs[i]? = some v) : w.cell? ⟨k, i, none⟩ = some v := by
  rw [World.cell?, hk]
  exact hi
theorem set_mark (w : World) (g i : Nat) (cs : Array Value) (t : TypeId) (fr : Nat × Nat) (v : Value) (hg : w.heap[g]? = some (.cells cs t fr)) : (w.setCell ⟨g, i, none⟩ v).heap[g]? = some (.cells (cs.setIfInBounds i v) t fr) := by
  simp [World.setCell, Array.getElem?_modify, hg]
theorem conv_kb {w : World} {g a x : Nat} {fr : Nat × Nat} (ha : a < 19) (c : Nat) (h : w.heap[g]? = some (.cells (kpC.setIfInBounds a (.int .u8 ((keepL.getD a 0 ^^^ UInt8.ofNat x).toNat : Int))) 5 fr)) : (convert 43 9 (.slice (some ⟨g, 0, none⟩) 19 c)).run Tryd.prog w = .ok (.string ⟨(kbI a x).toArray⟩) w := by
  have e := run_convert_bytes_back (P := Tryd.prog) w 43 9 5 ⟨g, 0, none⟩ c (kbI a x) Tryd.underlying43 Tryd.underlying5 Tryd.underlying9 (fun j hj => by
    have hj2 : j < 19 := by rw [kb_len] at hj; exact hj
    have hadd : (⟨g, 0, none⟩ : Addr).add j = ⟨g, j, none⟩ := by unfold Addr.add; split <;> simp_all
    rw [hadd]
    refine cl_mark h ?_
    have hjk : j < keepL.length := hj2
    have hk : (kbI a x)[j] = if a = j then (keepL.getD a 0 ^^^ UInt8.ofNat x) else keepL[j] := by simp [kbI, List.getElem_set]
    rw [hk, Array.getElem?_setIfInBounds]
    by_cases z : a = j
    · subst z
      have hs : a < kpC.size := ha
      rw [if_pos rfl, if_pos hs, if_pos rfl]
    · rw [if_neg z, if_neg z, kpC_at j hj2, List.getD_eq_getElem?_getD, List.getElem?_eq_getElem hjk]
      rfl)
  rw [kb_len] at e
  exact e
theorem xor_kb (a x : Nat) (hx : x < 256) : bits .xor .u8 ((keepL.getD a 0).toNat : Int) (x : Int) = ((keepL.getD a 0 ^^^ UInt8.ofNat x).toNat : Int) := by
  rw [u8_xor_nat _ _ (UInt8.toNat_lt _) hx, UInt8.toNat_xor, UInt8.toNat_ofNat']
  rw [Nat.mod_eq_of_lt (by omega : x < 2 ^ 8)]
end Go.Proofs.YtlinoklgchfedaaDoor
