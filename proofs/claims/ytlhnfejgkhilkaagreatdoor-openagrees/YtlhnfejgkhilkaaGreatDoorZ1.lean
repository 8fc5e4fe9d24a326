/-
  Whether one is taken: the program's answer and the reference's.
-/
import Derived.Test.YtlhnfejgkhilkaaGreatDoorR4
import Derived.Test.YtlhnfejgkhilkaaGreatDoorRa
import Derived.Test.YtlhnfejgkhilkaaGreatDoorAG3
set_option linter.unusedVariables false
set_option linter.unusedSimpArgs false
namespace Go.Proofs.YtlhnfejgkhilkaaGreatDoor
open Go.RowKit
theorem two_new (w : World) (A B : Obj) : Below w.heap.size w ((w.alloc A).alloc B) ∧ ((w.alloc A).alloc B).heap[w.heap.size]? = some A ∧ ((w.alloc A).alloc B).heap[w.heap.size + 1]? = some B :=
  ⟨((Below.refl _ _).alloc (Nat.le_refl _) _).alloc (by simp) _, hp_up (hp_new rfl), hp_new (by simp)⟩
theorem rreset_any (s : Int) (w : World) : Calls Tryz.prog 24 #[.int .u8 s] w fun e w' => e = .returned (vdt 3 2 s) ∧ Below w.heap.size w w' := by
  go_enter Tryz.func24, Tryz.ntmps24
  go_wp2
  refine bodyPost_ret (v := vdt 3 2 s) (by simp [results, Tryz.results24, go_sem, vdt]) rfl ⟨rfl, ?_⟩
  first | exact (Below.refl _ _).alloc (Nat.le_refl _) _ | (simp; exact (Below.refl _ _).alloc (Nat.le_refl _) _)
/-- Whether an open is taken. -/
def accV (o : Opn) (x y : Int) : Value := if x ≠ 0 ∧ x ≠ o.asn then vdt 3 2 2 else if y = o.id then vdt 3 2 3 else vdt 0 0 0
set_option maxRecDepth 100000 in
set_option maxHeartbeats 3200000 in
theorem acc_n (o : Opn) (vf va vk : Value) (x y : Int) (w : World) (h0 : x ≠ 0) (hx : x ≠ o.asn) : Calls Tryz.prog 8 #[opV o vf va vk, .int .u32 x, .int .u32 y] w fun e w' => e = .returned (vdt 3 2 2) ∧ Below w.heap.size w w' := by
  have h2 := two_new w (.cells (opC o vf va vk) 27) (.cells #[.int .i64 0, .int .u8 0, .int .u8 0] 37)
  obtain ⟨asn, hold, id, fams, four, refr, adds, gr, again, time, kept⟩ := o
  unfold opV opC at *
  dsimp only at *
  have H2 : Hid (_ ∧ _) := h2
  clear h2
  have e0 : (x != 0) = true := by simpa using h0
  have e1 : (x != asn) = true := by simpa using hx
  go_enter Tryz.func8, Tryz.ntmps8
  go_wp2_with fail
  refine Calls.mono (reset_any 2 _) ?_
  rintro e w1 ⟨rfl, hb1⟩
  have HR : Hid (w1.heap[w.heap.size + 1]? = _) := (hb1.block _ (lt_of_heap H2.out.2.2)).trans H2.out.2.2
  have HB : Hid (Below w.heap.size w w1) := H2.out.1.trans (hb1.mono H2.out.1.size)
  clear H2 hb1
  unfold vdt
  go_wp2_with (refine wpList_store_row rfl 37 _ _ rfl (w.heap.size + 1) #[.int .i64 3, .int .u8 2, .int .u8 2] rfl rfl 37 _ HR.out size37 rfl (one37 _ _ _) ?_)
  exact bodyPost_ret (results_cell_row (P := Tryz.prog) rfl _ _ (w.heap.size + 1) 37 _ (0, 0) _ rfl (row_same _ _ _ _ HR.out) Tryz.underlying37 rfl size37) rfl ⟨rfl, below_setRow HB.out (by omega) _⟩
set_option maxRecDepth 100000 in
set_option maxHeartbeats 3200000 in
theorem acc_z0 (o : Opn) (vf va vk : Value) (x y : Int) (w : World) (hx : x = 0) (hy : y = o.id) : Calls Tryz.prog 8 #[opV o vf va vk, .int .u32 x, .int .u32 y] w fun e w' => e = .returned (vdt 3 2 3) ∧ Below w.heap.size w w' := by
  have h2 := two_new w (.cells (opC o vf va vk) 27) (.cells #[.int .i64 0, .int .u8 0, .int .u8 0] 37)
  obtain ⟨asn, hold, id, fams, four, refr, adds, gr, again, time, kept⟩ := o
  unfold opV opC at *
  dsimp only at *
  have H2 : Hid (_ ∧ _) := h2
  clear h2
  subst hx
  subst hy
  go_enter Tryz.func8, Tryz.ntmps8
  go_wp2_with fail
  refine Calls.mono (reset_any 3 _) ?_
  rintro e w1 ⟨rfl, hb1⟩
  have HR : Hid (w1.heap[w.heap.size + 1]? = _) := (hb1.block _ (lt_of_heap H2.out.2.2)).trans H2.out.2.2
  have HB : Hid (Below w.heap.size w w1) := H2.out.1.trans (hb1.mono H2.out.1.size)
  clear H2 hb1
  unfold vdt
  go_wp2_with (refine wpList_store_row rfl 37 _ _ rfl (w.heap.size + 1) #[.int .i64 3, .int .u8 2, .int .u8 3] rfl rfl 37 _ HR.out size37 rfl (one37 _ _ _) ?_)
  exact bodyPost_ret (results_cell_row (P := Tryz.prog) rfl _ _ (w.heap.size + 1) 37 _ (0, 0) _ rfl (row_same _ _ _ _ HR.out) Tryz.underlying37 rfl size37) rfl ⟨rfl, below_setRow HB.out (by omega) _⟩
set_option maxRecDepth 100000 in
set_option maxHeartbeats 3200000 in
theorem acc_z1 (o : Opn) (vf va vk : Value) (x y : Int) (w : World) (hx : x = 0) (hy : y ≠ o.id) : Calls Tryz.prog 8 #[opV o vf va vk, .int .u32 x, .int .u32 y] w fun e w' => e = .returned (vdt 0 0 0) ∧ Below w.heap.size w w' := by
  have h2 := two_new w (.cells (opC o vf va vk) 27) (.cells #[.int .i64 0, .int .u8 0, .int .u8 0] 37)
  obtain ⟨asn, hold, id, fams, four, refr, adds, gr, again, time, kept⟩ := o
  unfold opV opC at *
  dsimp only at *
  have H2 : Hid (_ ∧ _) := h2
  clear h2
  subst hx
  have e2 : (y == id) = false := by simpa using hy
  go_enter Tryz.func8, Tryz.ntmps8
  have HB : Hid (Below _ _ _) := H2.out.1
  clear H2
  go_wp2
  refine bodyPost_ret (v := vdt 0 0 0) (by simp [results, Tryz.results8, go_sem, vdt]) rfl ⟨rfl, ?_⟩
  first | exact HB.out | (simp; exact HB.out)
set_option maxRecDepth 100000 in
set_option maxHeartbeats 3200000 in
theorem acc_s0 (o : Opn) (vf va vk : Value) (x y : Int) (w : World) (h0 : x ≠ 0) (hx : x = o.asn) (hy : y = o.id) : Calls Tryz.prog 8 #[opV o vf va vk, .int .u32 x, .int .u32 y] w fun e w' => e = .returned (vdt 3 2 3) ∧ Below w.heap.size w w' := by
  have h2 := two_new w (.cells (opC o vf va vk) 27) (.cells #[.int .i64 0, .int .u8 0, .int .u8 0] 37)
  obtain ⟨asn, hold, id, fams, four, refr, adds, gr, again, time, kept⟩ := o
  unfold opV opC at *
  dsimp only at *
  have H2 : Hid (_ ∧ _) := h2
  clear h2
  subst hx
  have e0 : (x != 0) = true := by simpa using h0
  subst hy
  go_enter Tryz.func8, Tryz.ntmps8
  go_wp2_with fail
  refine Calls.mono (reset_any 3 _) ?_
  rintro e w1 ⟨rfl, hb1⟩
  have HR : Hid (w1.heap[w.heap.size + 1]? = _) := (hb1.block _ (lt_of_heap H2.out.2.2)).trans H2.out.2.2
  have HB : Hid (Below w.heap.size w w1) := H2.out.1.trans (hb1.mono H2.out.1.size)
  clear H2 hb1
  unfold vdt
  go_wp2_with (refine wpList_store_row rfl 37 _ _ rfl (w.heap.size + 1) #[.int .i64 3, .int .u8 2, .int .u8 3] rfl rfl 37 _ HR.out size37 rfl (one37 _ _ _) ?_)
  exact bodyPost_ret (results_cell_row (P := Tryz.prog) rfl _ _ (w.heap.size + 1) 37 _ (0, 0) _ rfl (row_same _ _ _ _ HR.out) Tryz.underlying37 rfl size37) rfl ⟨rfl, below_setRow HB.out (by omega) _⟩
set_option maxRecDepth 100000 in
set_option maxHeartbeats 3200000 in
theorem acc_s1 (o : Opn) (vf va vk : Value) (x y : Int) (w : World) (h0 : x ≠ 0) (hx : x = o.asn) (hy : y ≠ o.id) : Calls Tryz.prog 8 #[opV o vf va vk, .int .u32 x, .int .u32 y] w fun e w' => e = .returned (vdt 0 0 0) ∧ Below w.heap.size w w' := by
  have h2 := two_new w (.cells (opC o vf va vk) 27) (.cells #[.int .i64 0, .int .u8 0, .int .u8 0] 37)
  obtain ⟨asn, hold, id, fams, four, refr, adds, gr, again, time, kept⟩ := o
  unfold opV opC at *
  dsimp only at *
  have H2 : Hid (_ ∧ _) := h2
  clear h2
  subst hx
  have e0 : (x != 0) = true := by simpa using h0
  have e2 : (y == id) = false := by simpa using hy
  go_enter Tryz.func8, Tryz.ntmps8
  have HB : Hid (Below _ _ _) := H2.out.1
  clear H2
  go_wp2
  refine bodyPost_ret (v := vdt 0 0 0) (by simp [results, Tryz.results8, go_sem, vdt]) rfl ⟨rfl, ?_⟩
  first | exact HB.out | (simp; exact HB.out)
theorem acc_any (o : Opn) (vf va vk : Value) (x y : Int) (w : World) : Calls Tryz.prog 8 #[opV o vf va vk, .int .u32 x, .int .u32 y] w fun e w' => e = .returned (accV o x y) ∧ Below w.heap.size w w' := by
  unfold accV
  by_cases h0 : x = 0
  · rw [if_neg (fun h => h.1 h0)]
    by_cases hy : y = o.id
    · rw [if_pos hy]; exact acc_z0 o vf va vk x y w h0 hy
    · rw [if_neg hy]; exact acc_z1 o vf va vk x y w h0 hy
  · by_cases hx : x = o.asn
    · rw [if_neg (fun h => h.2 hx)]
      by_cases hy : y = o.id
      · rw [if_pos hy]; exact acc_s0 o vf va vk x y w h0 hx hy
      · rw [if_neg hy]; exact acc_s1 o vf va vk x y w h0 hx hy
    · rw [if_pos ⟨h0, hx⟩]; exact acc_n o vf va vk x y w h0 hx
set_option maxRecDepth 100000 in
set_option maxHeartbeats 3200000 in
theorem racc_n (o : Opn) (vf va vk : Value) (x y : Int) (w : World) (h0 : x ≠ 0) (hx : x ≠ o.asn) : Calls Tryz.prog 9 #[opV o vf va vk, .int .u32 x, .int .u32 y] w fun e w' => e = .returned (vdt 3 2 2) ∧ Below w.heap.size w w' := by
  have h2 := two_new w (.cells (opC o vf va vk) 27) (.cells #[.int .i64 0, .int .u8 0, .int .u8 0] 37)
  obtain ⟨asn, hold, id, fams, four, refr, adds, gr, again, time, kept⟩ := o
  unfold opV opC at *
  dsimp only at *
  have H2 : Hid (_ ∧ _) := h2
  clear h2
  have e0 : (x != 0) = true := by simpa using h0
  have e1 : (asn != x) = true := by simpa using (fun e => hx e.symm)
  go_enter Tryz.func9, Tryz.ntmps9
  go_wp2_with fail
  refine Calls.mono (rreset_any 2 _) ?_
  rintro e w1 ⟨rfl, hb1⟩
  have HR : Hid (w1.heap[w.heap.size + 1]? = _) := (hb1.block _ (lt_of_heap H2.out.2.2)).trans H2.out.2.2
  have HB : Hid (Below w.heap.size w w1) := H2.out.1.trans (hb1.mono H2.out.1.size)
  clear H2 hb1
  unfold vdt
  go_wp2_with (refine wpList_store_row rfl 37 _ _ rfl (w.heap.size + 1) #[.int .i64 3, .int .u8 2, .int .u8 2] rfl rfl 37 _ HR.out size37 rfl (one37 _ _ _) ?_)
  exact bodyPost_ret (results_cell_row (P := Tryz.prog) rfl _ _ (w.heap.size + 1) 37 _ (0, 0) _ rfl (row_same _ _ _ _ HR.out) Tryz.underlying37 rfl size37) rfl ⟨rfl, below_setRow HB.out (by omega) _⟩
set_option maxRecDepth 100000 in
set_option maxHeartbeats 3200000 in
theorem racc_z0 (o : Opn) (vf va vk : Value) (x y : Int) (w : World) (hx : x = 0) (hy : y = o.id) : Calls Tryz.prog 9 #[opV o vf va vk, .int .u32 x, .int .u32 y] w fun e w' => e = .returned (vdt 3 2 3) ∧ Below w.heap.size w w' := by
  have h2 := two_new w (.cells (opC o vf va vk) 27) (.cells #[.int .i64 0, .int .u8 0, .int .u8 0] 37)
  obtain ⟨asn, hold, id, fams, four, refr, adds, gr, again, time, kept⟩ := o
  unfold opV opC at *
  dsimp only at *
  have H2 : Hid (_ ∧ _) := h2
  clear h2
  subst hx
  subst hy
  go_enter Tryz.func9, Tryz.ntmps9
  go_wp2_with fail
  refine Calls.mono (rreset_any 3 _) ?_
  rintro e w1 ⟨rfl, hb1⟩
  have HR : Hid (w1.heap[w.heap.size + 1]? = _) := (hb1.block _ (lt_of_heap H2.out.2.2)).trans H2.out.2.2
  have HB : Hid (Below w.heap.size w w1) := H2.out.1.trans (hb1.mono H2.out.1.size)
  clear H2 hb1
  unfold vdt
  go_wp2_with (refine wpList_store_row rfl 37 _ _ rfl (w.heap.size + 1) #[.int .i64 3, .int .u8 2, .int .u8 3] rfl rfl 37 _ HR.out size37 rfl (one37 _ _ _) ?_)
  exact bodyPost_ret (results_cell_row (P := Tryz.prog) rfl _ _ (w.heap.size + 1) 37 _ (0, 0) _ rfl (row_same _ _ _ _ HR.out) Tryz.underlying37 rfl size37) rfl ⟨rfl, below_setRow HB.out (by omega) _⟩
set_option maxRecDepth 100000 in
set_option maxHeartbeats 3200000 in
theorem racc_z1 (o : Opn) (vf va vk : Value) (x y : Int) (w : World) (hx : x = 0) (hy : y ≠ o.id) : Calls Tryz.prog 9 #[opV o vf va vk, .int .u32 x, .int .u32 y] w fun e w' => e = .returned (vdt 0 0 0) ∧ Below w.heap.size w w' := by
  have h2 := two_new w (.cells (opC o vf va vk) 27) (.cells #[.int .i64 0, .int .u8 0, .int .u8 0] 37)
  obtain ⟨asn, hold, id, fams, four, refr, adds, gr, again, time, kept⟩ := o
  unfold opV opC at *
  dsimp only at *
  have H2 : Hid (_ ∧ _) := h2
  clear h2
  subst hx
  have e2 : (id == y) = false := by simpa using (fun e => hy e.symm)
  go_enter Tryz.func9, Tryz.ntmps9
  have HB : Hid (Below _ _ _) := H2.out.1
  clear H2
  go_wp2
  refine bodyPost_ret (v := vdt 0 0 0) (by simp [results, Tryz.results9, go_sem, vdt]) rfl ⟨rfl, ?_⟩
  first | exact HB.out | (simp; exact HB.out)
set_option maxRecDepth 100000 in
set_option maxHeartbeats 3200000 in
theorem racc_s0 (o : Opn) (vf va vk : Value) (x y : Int) (w : World) (h0 : x ≠ 0) (hx : x = o.asn) (hy : y = o.id) : Calls Tryz.prog 9 #[opV o vf va vk, .int .u32 x, .int .u32 y] w fun e w' => e = .returned (vdt 3 2 3) ∧ Below w.heap.size w w' := by
  have h2 := two_new w (.cells (opC o vf va vk) 27) (.cells #[.int .i64 0, .int .u8 0, .int .u8 0] 37)
  obtain ⟨asn, hold, id, fams, four, refr, adds, gr, again, time, kept⟩ := o
  unfold opV opC at *
  dsimp only at *
  have H2 : Hid (_ ∧ _) := h2
  clear h2
  subst hx
  have e0 : (x != 0) = true := by simpa using h0
  subst hy
  go_enter Tryz.func9, Tryz.ntmps9
  go_wp2_with fail
  refine Calls.mono (rreset_any 3 _) ?_
  rintro e w1 ⟨rfl, hb1⟩
  have HR : Hid (w1.heap[w.heap.size + 1]? = _) := (hb1.block _ (lt_of_heap H2.out.2.2)).trans H2.out.2.2
  have HB : Hid (Below w.heap.size w w1) := H2.out.1.trans (hb1.mono H2.out.1.size)
  clear H2 hb1
  unfold vdt
  go_wp2_with (refine wpList_store_row rfl 37 _ _ rfl (w.heap.size + 1) #[.int .i64 3, .int .u8 2, .int .u8 3] rfl rfl 37 _ HR.out size37 rfl (one37 _ _ _) ?_)
  exact bodyPost_ret (results_cell_row (P := Tryz.prog) rfl _ _ (w.heap.size + 1) 37 _ (0, 0) _ rfl (row_same _ _ _ _ HR.out) Tryz.underlying37 rfl size37) rfl ⟨rfl, below_setRow HB.out (by omega) _⟩
set_option maxRecDepth 100000 in
set_option maxHeartbeats 3200000 in
theorem racc_s1 (o : Opn) (vf va vk : Value) (x y : Int) (w : World) (h0 : x ≠ 0) (hx : x = o.asn) (hy : y ≠ o.id) : Calls Tryz.prog 9 #[opV o vf va vk, .int .u32 x, .int .u32 y] w fun e w' => e = .returned (vdt 0 0 0) ∧ Below w.heap.size w w' := by
  have h2 := two_new w (.cells (opC o vf va vk) 27) (.cells #[.int .i64 0, .int .u8 0, .int .u8 0] 37)
  obtain ⟨asn, hold, id, fams, four, refr, adds, gr, again, time, kept⟩ := o
  unfold opV opC at *
  dsimp only at *
  have H2 : Hid (_ ∧ _) := h2
  clear h2
  subst hx
  have e0 : (x != 0) = true := by simpa using h0
  have e2 : (id == y) = false := by simpa using (fun e => hy e.symm)
  go_enter Tryz.func9, Tryz.ntmps9
  have HB : Hid (Below _ _ _) := H2.out.1
  clear H2
  go_wp2
  refine bodyPost_ret (v := vdt 0 0 0) (by simp [results, Tryz.results9, go_sem, vdt]) rfl ⟨rfl, ?_⟩
  first | exact HB.out | (simp; exact HB.out)
theorem racc_any (o : Opn) (vf va vk : Value) (x y : Int) (w : World) : Calls Tryz.prog 9 #[opV o vf va vk, .int .u32 x, .int .u32 y] w fun e w' => e = .returned (accV o x y) ∧ Below w.heap.size w w' := by
  unfold accV
  by_cases h0 : x = 0
  · rw [if_neg (fun h => h.1 h0)]
    by_cases hy : y = o.id
    · rw [if_pos hy]; exact racc_z0 o vf va vk x y w h0 hy
    · rw [if_neg hy]; exact racc_z1 o vf va vk x y w h0 hy
  · by_cases hx : x = o.asn
    · rw [if_neg (fun h => h.2 hx)]
      by_cases hy : y = o.id
      · rw [if_pos hy]; exact racc_s0 o vf va vk x y w h0 hx hy
      · rw [if_neg hy]; exact racc_s1 o vf va vk x y w h0 hx hy
    · rw [if_pos ⟨h0, hx⟩]; exact racc_n o vf va vk x y w h0 hx
end Go.Proofs.YtlhnfejgkhilkaaGreatDoor
