/-
  Own of an open: the lists lie in rows of their own.
-/
import Derived.Test.YtlhnfejgkhilkaaGreatDoorOa
import Derived.Test.YtlhnfejgkhilkaaGreatDoorAG3
set_option linter.unusedVariables false
set_option linter.unusedSimpArgs false
namespace Go.Proofs.YtlhnfejgkhilkaaGreatDoor
open Go.RowKit
/-- The lists of an open, in rows of one's own. -/
structure OwnO (w : World) (base : Nat) (o : Opn) (vf va vk : Value) : Prop where
  f : w.ownsRow base 3 1 vf o.fams.length (intsC o.fams)
  a : w.ownsRow base 52 3 va o.adds.length (addsC o.adds)
  k : w.ownsRow base 40 2 vk o.kept.length (keptC o.kept)
theorem OwnO.lists {w : World} {base : Nat} {o : Opn} {vf va vk : Value} (h : OwnO w base o vf va vk) : ListsAt w o vf va vk := ⟨ints_of_owns h.f, adds_of_owns h.a, kept_of_owns h.k⟩
theorem OwnO.below {w w' : World} {base : Nat} {o : Opn} {vf va vk : Value} (h : OwnO w base o vf va vk) (hb : Below w.heap.size w w') : OwnO w' base o vf va vk := ⟨owns_below h.f hb, owns_below h.a hb, owns_below h.k hb⟩
theorem own_typ {w w' : World} {base : Nat} {e : TypeId} {size : Nat} {v : Value} {n : Nat} {xs : List Value} (h : w.ownsRow base e size v n xs) (he : e ≠ 27) (hh : ∀ (k : Nat) (C : Array Value) (t : TypeId) (fr : Nat × Nat), w.heap[k]? = some (.cells C t fr) → t ≠ 27 → w'.heap[k]? = w.heap[k]?) : w'.ownsRow base e size v n xs := by
  obtain ⟨h0, h1 | ⟨g, cap, cur, hv, hg, hk, r⟩⟩ := h
  · exact ⟨h0, Or.inl h1⟩
  · exact ⟨h0, Or.inr ⟨g, cap, cur, hv, hg, (hh g _ _ _ hk he).trans hk, r⟩⟩
theorem OwnO.typ {w w' : World} {base : Nat} {o : Opn} {vf va vk : Value} (h : OwnO w base o vf va vk) (hh : ∀ (k : Nat) (C : Array Value) (t : TypeId) (fr : Nat × Nat), w.heap[k]? = some (.cells C t fr) → t ≠ 27 → w'.heap[k]? = w.heap[k]?) : OwnO w' base o vf va vk := ⟨own_typ h.f (by decide) hh, own_typ h.a (by decide) hh, own_typ h.k (by decide) hh⟩
theorem OwnO.mono {w : World} {base base' : Nat} {o : Opn} {vf va vk : Value} (h : OwnO w base o vf va vk) (hb : base' ≤ base) : OwnO w base' o vf va vk := ⟨owns_mono h.f hb, owns_mono h.a hb, owns_mono h.k hb⟩
set_option maxRecDepth 100000 in
set_option maxHeartbeats 3200000 in
theorem own_anyO (o : Opn) (vf va vk : Value) (w : World) (h : ListsAt w o vf va vk) (hbd : Bnd o) :
    Calls Tryz.prog 4 #[opV o vf va vk] w fun e w' => ∃ rf ra rk, e = .returned (opV o rf ra rk) ∧ OwnO w' w.heap.size o rf ra rk ∧ Below w.heap.size w w' := by
  obtain ⟨W0, hW0⟩ : ∃ W0, W0 = (w.alloc (.cells (opC o vf va vk) 27)).alloc (.cells zOC 27) := ⟨_, rfl⟩
  have hb0 : Below w.heap.size w W0 := by rw [hW0]; exact ((Below.refl _ _).alloc (Nat.le_refl _) _).alloc (by simp) _
  have r0 : W0.heap[w.heap.size]? = some (.cells (opC o vf va vk) 27 (0, 0)) := by rw [hW0]; exact hp_up (hp_new rfl)
  have z0 : W0.heap[w.heap.size + 1]? = some (.cells zOC 27 (0, 0)) := by rw [hW0]; exact hp_new (by simp)
  have s0 : w.heap.size + 2 = W0.heap.size := by rw [hW0]; simp
  obtain ⟨rf, w1, e1, o1, b1⟩ := app_ints vf o.fams W0 (h.f.below hb0) hbd.f W0.heap.size (Nat.le_refl _)
  have r1 := blk10 b1 r0
  have z1 := blk10 b1 z0
  obtain ⟨W1, hW1⟩ : ∃ W1, W1 = w1.setCell ⟨w.heap.size, 3, none⟩ rf := ⟨_, rfl⟩
  have R1 : W1.heap[w.heap.size]? = some (.cells (opC o rf va vk) 27 (0, 0)) := by rw [hW1]; exact heap_setCell_same w1 w.heap.size 3 _ 27 rf r1
  have Z1 : W1.heap[w.heap.size + 1]? = some (.cells zOC 27 (0, 0)) := by rw [hW1]; exact (heap_setCell_other w1 _ _ rf (by show w.heap.size + 1 ≠ w.heap.size; omega)).trans z1
  have O1 : W1.ownsRow W0.heap.size 3 1 rf o.fams.length (intsC o.fams) := by rw [hW1]; exact owns_other o1 _ _ _ (by omega)
  have B1 : Below w.heap.size w W1 := by rw [hW1]; exact below_setT (hb0.trans (b1.mono hb0.size)) _ _ _ (Nat.le_refl _) (Nat.le_refl _)
  obtain ⟨ra, w2, e2, o2, b2⟩ := app_adds va o.adds W1 (h.a.below B1) hbd.a W1.heap.size (Nat.le_refl _)
  have r2 := blk10 b2 R1
  have z2 := blk10 b2 Z1
  have p2 := owns_below O1 b2
  obtain ⟨W2, hW2⟩ : ∃ W2, W2 = w2.setCell ⟨w.heap.size, 6, none⟩ ra := ⟨_, rfl⟩
  have R2 : W2.heap[w.heap.size]? = some (.cells (opC o rf ra vk) 27 (0, 0)) := by rw [hW2]; exact heap_setCell_same w2 w.heap.size 6 _ 27 ra r2
  have Z2 : W2.heap[w.heap.size + 1]? = some (.cells zOC 27 (0, 0)) := by rw [hW2]; exact (heap_setCell_other w2 _ _ ra (by show w.heap.size + 1 ≠ w.heap.size; omega)).trans z2
  have hW1s := lt_of_heap R1
  have O2 : W2.ownsRow W1.heap.size 52 3 ra o.adds.length (addsC o.adds) := by rw [hW2]; exact owns_other o2 _ _ _ hW1s
  have P2 : W2.ownsRow W0.heap.size 3 1 rf o.fams.length (intsC o.fams) := by rw [hW2]; exact owns_other p2 _ _ _ (by omega)
  have B2 : Below w.heap.size w W2 := by rw [hW2]; exact below_setT (B1.trans (b2.mono B1.size)) _ _ _ (Nat.le_refl _) (Nat.le_refl _)
  obtain ⟨rk, w3, e3, o3, b3⟩ := app_kept vk o.kept W2 (h.k.below B2) hbd.k W2.heap.size (Nat.le_refl _)
  have r3 := blk10 b3 R2
  have z3 := blk10 b3 Z2
  have p3 := owns_below P2 b3
  have q3 := owns_below O2 b3
  obtain ⟨W3, hW3⟩ : ∃ W3, W3 = w3.setCell ⟨w.heap.size, 10, none⟩ rk := ⟨_, rfl⟩
  have R3 : W3.heap[w.heap.size]? = some (.cells (opC o rf ra rk) 27 (0, 0)) := by rw [hW3]; exact heap_setCell_same w3 w.heap.size 10 _ 27 rk r3
  have Z3 : W3.heap[w.heap.size + 1]? = some (.cells zOC 27 (0, 0)) := by rw [hW3]; exact (heap_setCell_other w3 _ _ rk (by show w.heap.size + 1 ≠ w.heap.size; omega)).trans z3
  have hW2s := lt_of_heap R2
  have O3 : W3.ownsRow W2.heap.size 40 2 rk o.kept.length (keptC o.kept) := by rw [hW3]; exact owns_other o3 _ _ _ hW2s
  have P3 : W3.ownsRow W0.heap.size 3 1 rf o.fams.length (intsC o.fams) := by rw [hW3]; exact owns_other p3 _ _ _ (by omega)
  have Q3 : W3.ownsRow W1.heap.size 52 3 ra o.adds.length (addsC o.adds) := by rw [hW3]; exact owns_other q3 _ _ _ hW1s
  have B3 : Below w.heap.size w W3 := by rw [hW3]; exact below_setT (B2.trans (b3.mono B2.size)) _ _ _ (Nat.le_refl _) (Nat.le_refl _)
  have HL : Hid (ListsAt W3 o rf ra rk) := ⟨ints_of_owns P3, adds_of_owns Q3, kept_of_owns O3⟩
  obtain ⟨fa, fc, efv⟩ := slice_of_owns P3
  obtain ⟨aa, ac, eav⟩ := slice_of_owns Q3
  obtain ⟨ka, kc, ekv⟩ := slice_of_owns O3
  have HO1 : (opC o rf ra rk).all (·.oneCell') = true := one_op (by rw [efv]; rfl) (by rw [eav]; rfl) (by rw [ekv]; rfl)
  have HF : Hid (OwnO (W3.setRow (w.heap.size + 1) (opC o rf ra rk)) w.heap.size o rf ra rk ∧ Below w.heap.size w (W3.setRow (w.heap.size + 1) (opC o rf ra rk))) := by
    refine ⟨?_, below_setRow B3 (by omega) _⟩
    have hh : ∀ g, W0.heap.size ≤ g → (W3.setRow (w.heap.size + 1) (opC o rf ra rk)).heap[g]? = W3.heap[g]? := fun g hg => row_other _ _ _ _ (by omega)
    have k1 : (W3.setRow (w.heap.size + 1) (opC o rf ra rk)).ownsRow W0.heap.size 3 1 rf o.fams.length (intsC o.fams) := by
      obtain ⟨x0, x1 | ⟨g, cap, cur, hv, hg, hk, r⟩⟩ := P3
      · exact ⟨x0, Or.inl x1⟩
      · exact ⟨x0, Or.inr ⟨g, cap, cur, hv, hg, (hh g hg).trans hk, r⟩⟩
    have k2 : (W3.setRow (w.heap.size + 1) (opC o rf ra rk)).ownsRow W1.heap.size 52 3 ra o.adds.length (addsC o.adds) := by
      obtain ⟨x0, x1 | ⟨g, cap, cur, hv, hg, hk, r⟩⟩ := Q3
      · exact ⟨x0, Or.inl x1⟩
      · exact ⟨x0, Or.inr ⟨g, cap, cur, hv, hg, (hh g (by have := b1.size; have e : W1.heap.size = w1.heap.size := by rw [hW1]; simp
                                                          omega)).trans hk, r⟩⟩
    have k3 : (W3.setRow (w.heap.size + 1) (opC o rf ra rk)).ownsRow W2.heap.size 40 2 rk o.kept.length (keptC o.kept) := by
      obtain ⟨x0, x1 | ⟨g, cap, cur, hv, hg, hk, r⟩⟩ := O3
      · exact ⟨x0, Or.inl x1⟩
      · exact ⟨x0, Or.inr ⟨g, cap, cur, hv, hg, (hh g (by have := b1.size; have e : W1.heap.size = w1.heap.size := by rw [hW1]; simp
                                                          have := b2.size; have e2 : W2.heap.size = w2.heap.size := by rw [hW2]; simp
                                                          omega)).trans hk, r⟩⟩
    exact ⟨owns_mono k1 (by omega), owns_mono k2 (by omega), owns_mono k3 (by omega)⟩
  have c3 : W0.cell? ⟨w.heap.size, 3, none⟩ = some vf := cl_row r0 rfl
  have c6 : W1.cell? ⟨w.heap.size, 6, none⟩ = some va := cl_row R1 rfl
  have c10 : W2.cell? ⟨w.heap.size, 10, none⟩ = some vk := cl_row R2 rfl
  have d3 : w1.cell? ⟨w.heap.size, 3, none⟩ = some vf := cl_row r1 rfl
  have d6 : w2.cell? ⟨w.heap.size, 6, none⟩ = some va := cl_row r2 rfl
  have d10 : w3.cell? ⟨w.heap.size, 10, none⟩ = some vk := cl_row r3 rfl
  have f3 : w1.frozen? ⟨w.heap.size, 3, none⟩ = false := fz_row r1
  have f6 : w2.frozen? ⟨w.heap.size, 6, none⟩ = false := fz_row r2
  have f10 : w3.frozen? ⟨w.heap.size, 10, none⟩ = false := fz_row r3
  have HR3 : Hid (_ = _) := R3
  have HZ3 : Hid (_ = _) := Z3
  have g1 := hW1.symm
  have g2 := hW2.symm
  have g3 := hW3.symm
  obtain ⟨fa0, fc0, evf⟩ : ∃ a c, vf = .slice a o.fams.length c := by obtain ⟨a, _, _, c, e, _⟩ := h.f; exact ⟨a, c, e⟩
  obtain ⟨aa0, ac0, eva⟩ : ∃ a c, va = .slice a o.adds.length c := by obtain ⟨a, _, _, c, e, _⟩ := h.a; exact ⟨a, c, e⟩
  obtain ⟨ka0, kc0, evk⟩ : ∃ a c, vk = .slice a o.kept.length c := by obtain ⟨a, _, _, c, e, _⟩ := h.k; exact ⟨a, c, e⟩
  subst efv eav ekv evf eva evk
  have g0 := hW0.symm
  unfold zOC opC at g0
  clear r0 z0 s0 o1 b1 r1 z1 R1 Z1 O1 B1 o2 b2 r2 z2 p2 R2 Z2 O2 P2 B2 o3 b3 r3 z3 p3 q3 R3 Z3 O3 P3 Q3 B3 hb0 hW1s hW2s hW1 hW2 hW3 hW0 h hbd
  unfold opV opC
  go_enter Tryz.func4, Tryz.ntmps4
  go_wp2_with (first | (at_builtin; refine wpList_append_run _ rfl _ _ 23 rfl _ _ rfl rfl e1 ?_) | (at_builtin; refine wpList_append_run _ rfl _ _ 24 rfl _ _ rfl rfl e2 ?_) | (at_builtin; refine wpList_append_run _ rfl _ _ 25 rfl _ _ rfl rfl e3 ?_) | (refine wpList_load_row rfl 27 _ rfl w.heap.size rfl 27 _ (0, 0) _ HR3.out Tryz.underlying27 rfl size27 ?_) | (refine wpList_store_row rfl 27 _ _ rfl (w.heap.size + 1) (opC o _ _ _) rfl rfl 27 _ HZ3.out size27 rfl HO1 ?_))
  exact bodyPost_ret (v := opV o (.slice fa o.fams.length fc) (.slice aa o.adds.length ac) (.slice ka o.kept.length kc)) (results_cell_row (P := Tryz.prog) rfl _ _ (w.heap.size + 1) 27 (opC o (.slice fa o.fams.length fc) (.slice aa o.adds.length ac) (.slice ka o.kept.length kc)) (0, 0) _ rfl (row_same _ _ _ _ HZ3.out) Tryz.underlying27 rfl size27) rfl ⟨_, _, _, rfl, HF.out.1, HF.out.2⟩
end Go.Proofs.YtlhnfejgkhilkaaGreatDoor
