/-
  Conditions as texts.
-/
import Derived.Test.YthaebbmekonacaaGreatDoorTX
import Derived.Deep.RegionHeld
import Derived.BigQuiet
set_option linter.unusedVariables false
set_option linter.unusedSimpArgs false
set_option maxRecDepth 100000
namespace Go.Proofs.YthaebbmekonacaaGreatDoor
open Go.RowKit
set_option maxHeartbeats 4000000 in
theorem condText_any (c : Cd) (hok : okC c = true) (w : World) (he : EnvX w) : Calls Tryz.prog 44 #[cdV c] w fun e w' => e = .returned (.string ⟨(cT c).toArray⟩) ∧ Below w.heap.size w w' := by
  have hr := kind_range hok
  have hvl := cvT_len c hok
  have HV : Hid (∀ X, EnvX X → Calls Tryz.prog 78 #[cdV c] X fun e w' => e = .returned (.string ⟨(cvT c).toArray⟩) ∧ Below X.heap.size X w') := fun X hX => condValue_any c hok X hX
  have HREF : Hid (cT c = (if c.nt then [110, 111, 116, 32] else []) ++ (cwL.getD c.k.toNat [] ++ ([32] ++ cvT c))) := rfl
  obtain ⟨k, nt, nm, n⟩ := c
  dsimp only at hr HREF
  unfold cdV at HV ⊢
  dsimp only at HV ⊢
  obtain ⟨m, rfl⟩ : ∃ m : Nat, k = m := ⟨k.toNat, by omega⟩
  rw [Int.toNat_natCast] at HREF
  have HL : Hid (m < cwL.length) := by unfold Hid; simp [cwL]; omega
  obtain ⟨t, ht⟩ : ∃ t, cwL.getD m [] = t := ⟨_, rfl⟩
  have htl := cw_len m (by omega)
  rw [ht] at htl HREF
  have HT : Hid (_ = t) := ht
  have i1 : (m : Int) < 8 := by omega
  have i0 : (0 : Int) ≤ (m : Int) := by omega
  clear ht hok hr
  generalize cT ⟨(m : Int), nt, nm, n⟩ = r at *
  generalize cvT ⟨(m : Int), nt, nm, n⟩ = v at *
  have a1 : ∀ W, (Op.stringOp .add (⟨t.toArray⟩ : ByteArray) ⟨#[32]⟩).run Tryz.prog W = .ok (.string ⟨(t ++ [32]).toArray⟩) W := fun W => add_l t [32] (by simp; omega) W
  have hul : (t ++ [32]).length ≤ 7 := by simp; omega
  rw [← List.append_assoc t [32] v] at HREF
  generalize t ++ [32] = u at *
  have a2 := add_l u v (by omega)
  have hxl : (u ++ v).length ≤ 23 := by simp; omega
  generalize u ++ v = x at *
  have a3 : ∀ W, (Op.stringOp .add (⟨#[110, 111, 116, 32]⟩ : ByteArray) ⟨x.toArray⟩).run Tryz.prog W = .ok (.string ⟨([110, 111, 116, 32] ++ x).toArray⟩) W := fun W => add_l [110, 111, 116, 32] x (by simp; omega) W
  have HB : Hid (Below _ _ _) := below_box w (.cells #[.int .i64 (m : Int), .bool nt, .string nm, .int .i64 n] 37)
  have q0 : (w.alloc (.cells #[.int .i64 (m : Int), .bool nt, .string nm, .int .i64 n] 37)).cell? ⟨w.heap.size, 0, none⟩ = some (.int .i64 (m : Int)) := by rw [World.cell?_alloc_new]; rfl
  have q1 : (w.alloc (.cells #[.int .i64 (m : Int), .bool nt, .string nm, .int .i64 n] 37)).cell? ⟨w.heap.size, 1, none⟩ = some (.bool nt) := by rw [World.cell?_alloc_new]; rfl
  have q2 : (w.alloc (.cells #[.int .i64 (m : Int), .bool nt, .string nm, .int .i64 n] 37)).cell? ⟨w.heap.size, 2, none⟩ = some (.string nm) := by rw [World.cell?_alloc_new]; rfl
  have q3 : (w.alloc (.cells #[.int .i64 (m : Int), .bool nt, .string nm, .int .i64 n] 37)).cell? ⟨w.heap.size, 3, none⟩ = some (.int .i64 n) := by rw [World.cell?_alloc_new]; rfl
  have HE : Hid (EnvX (w.alloc (.cells #[.int .i64 (m : Int), .bool nt, .string nm, .int .i64 n] 37))) := he.below HB.out
  clear htl hvl hul hxl he
  go_enter Tryz.func44, Tryz.ntmps44
  go_wp2
  generalize w.alloc (.cells #[.int .i64 (m : Int), .bool nt, .string nm, .int .i64 n] 37) = W at *
  go_region_with (first
    | (go_at_call 77; refine Calls.mono (cw_any _) ?_; rintro e w5 ⟨rfl, ht5⟩; have t5 : w5.cell? ⟨W.heap.size, m, none⟩ = some _ := ht5.word HL.out HT.out; have p0 := below_cell ht5.2 q0; have p1 := below_cell ht5.2 q1; have p2 := below_cell ht5.2 q2; have p3 := below_cell ht5.2 q3)
    | (go_at_call 78; refine Calls.mono (HV.out _ (HE.out.below ((below_dr (Below.refl _ W) 1).trans ht5.2))) ?_; rintro e w6 ⟨rfl, hb6⟩; have t6 := below_cell hb6 t5; have p0 := below_cell hb6 p0; have p1 := below_cell hb6 p1; have p2 := below_cell hb6 p2; have p3 := below_cell hb6 p3))
  all_goals
    have HB6 : Hid (Below w.heap.size w w6) := ((below_dr HB.out 1).trans (ht5.2.mono HB.out.size)).trans (hb6.mono (Nat.le_trans HB.out.size ht5.2.size))
    clear ht5 hb6 t5 t6 q0 q1 q2 q3 a1 a2 HE HB HT HL HV
    cases nt
    · go_wp2
      go_ret
      exact ⟨by rw [HREF.out]; rfl, HB6.out⟩
    · go_wp2
      go_ret
      exact ⟨by rw [HREF.out]; rfl, HB6.out⟩
end Go.Proofs.YthaebbmekonacaaGreatDoor
