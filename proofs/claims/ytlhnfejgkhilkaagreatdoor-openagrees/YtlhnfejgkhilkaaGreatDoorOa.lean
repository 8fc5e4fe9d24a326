/-
  Own: an open whose lists are copied.
-/
import Derived.Test.YtlhnfejgkhilkaaGreatDoorNa
set_option linter.unusedVariables false
set_option linter.unusedSimpArgs false
namespace Go.Proofs.YtlhnfejgkhilkaaGreatDoor
open Go.RowKit
theorem lrow_mem {α : Type} {k : Nat} {L : List α} {f : α → List Value} (hf : ∀ a, (f a).length = k) (hk : 0 < k) (j : Nat) (u : Value) (h : (L.flatMap f)[j]? = some u) : ∃ (i : Nat) (hi : i < L.length) (c : Nat), c < k ∧ j = i * k + c ∧ (f L[i])[c]? = some u := by
  induction L generalizing j with
  | nil => simp at h
  | cons a L ih =>
    rw [List.flatMap_cons] at h
    by_cases hj : j < k
    · rw [List.getElem?_append_left (by rw [hf]; exact hj)] at h
      exact ⟨0, by simp, j, hj, by omega, by simpa using h⟩
    · rw [List.getElem?_append_right (by rw [hf]; omega), hf] at h
      obtain ⟨i, hi, c, hc, hjc, hx⟩ := ih (j - k) h
      refine ⟨i + 1, by simp; omega, c, hc, ?_, by simpa using hx⟩
      have := Nat.add_mul i 1 k
      omega
theorem add_midT (b o j : Nat) : (⟨b, o, none⟩ : Addr).add j = ⟨b, o + j, none⟩ := by unfold Addr.add; split <;> simp_all
theorem run_app_nil (t e : TypeId) (i0 : TypeInfo) (ht : Tryz.prog.underlying t = some (.slice e)) (hi : Tryz.prog.info? e = some i0) (cap : Nat) (w : World) : (Builtin.append_ #[t, t] t #[.slice none 0 0, .slice none 0 cap]).run Tryz.prog w = .ok (.slice none 0 0) w := by
  simp [Builtin.append_, run_underlying ht, Builtin.lenOf, Builtin.firstCells, sizeOf, typeInfo, hi]
/-- What lies in a slice, put behind nothing, is a list of its own. -/
theorem app_gen (t e : TypeId) (z : Value) (size bytes : Nat) (ht : Tryz.prog.underlying t = some (.slice e)) (hinf : (Tryz.prog.info? e).map (fun i => (i.zero, i.size, i.bytes)) = some (some z, size, bytes)) (hzs : z.cells.size = size) (hsz : 0 < size)
    (ad : Option Addr) (b off n cap : Nat) (had : ad = some ⟨b, off, none⟩ ∨ n = 0) (xs : List Value) (hl : xs.length = n * size) (h1 : ∀ u ∈ xs, u.oneCell' = true) (w : World) (hx : 0 < n → ∀ j u, xs[j]? = some u → w.cell? ⟨b, off + j, none⟩ = some u) (hb : n * bytes ≤ 140737488355328) (h63 : n ≤ maxLen) (base : Nat) (hbase : base ≤ w.heap.size) :
    ∃ r w', (Builtin.append_ #[t, t] t #[.slice none 0 0, .slice ad n cap]).run Tryz.prog w = .ok r w' ∧ w'.ownsRow base e size r n xs ∧ Below base w w' := by
  obtain ⟨i0, hi, hz0, hz1, hz2⟩ := info_parts hinf
  cases ad with
  | none =>
    have hn : n = 0 := by rcases had with h | h; cases h; exact h
    subst hn
    have hx0 : xs = [] := List.length_eq_zero_iff.mp (by rw [hl]; simp)
    subst hx0
    exact ⟨_, _, run_app_nil t e i0 ht hi cap w, World.ownsRow_nil _ _ _ _, Below.refl _ _⟩
  | some a =>
    have hnews : ∀ j u, xs[j]? = some u → w.cell? (a.add j) = some u := by
      intro j u hj
      by_cases hn : n = 0
      · have := (List.getElem?_eq_some_iff.1 hj).1
        rw [hl, hn] at this
        omega
      · rcases had with h | h
        · cases h
          rw [add_midT]
          exact hx (by omega) j u hj
        · exact absurd h hn
    obtain ⟨v', w', hr, hown, hgr, _⟩ := run_append_own w base t t e i0 z size bytes ht hi hz0 hz1 hz2 hzs hsz (.slice none 0 0) 0 [] (World.ownsRow_nil _ _ _ _) a n cap xs hl hnews h1 (by omega) (by rw [Nat.zero_add]; exact hb) hbase
    rw [Nat.zero_add, List.nil_append] at hown
    exact ⟨v', w', hr, hown, (Below.refl _ _).grown hgr hbase (fun k e => by cases e)⟩
theorem app_ints (v : Value) (L : List Int) (w : World) (h : IntsAt w v L) (hb : L.length * 8 ≤ 140737488355328) (base : Nat) (hbase : base ≤ w.heap.size) :
    ∃ r w', (Builtin.append_ #[23, 23] 23 #[.slice none 0 0, v]).run Tryz.prog w = .ok r w' ∧ w'.ownsRow base 3 1 r L.length (intsC L) ∧ Below base w w' := by
  obtain ⟨ad, b, off, cap, rfl, had, _, hrow⟩ := h
  refine app_gen 23 3 (.int .i64 0) 1 8 Tryz.underlying23 infoE_int rfl (by decide) ad b off L.length cap had (intsC L) (by rw [intsC_length]; omega) (one_ints L) w ?_ hb (by unfold maxLen; omega) base hbase
  intro _ j u hj
  have hj' : j < L.length := by have := (List.getElem?_eq_some_iff.1 hj).1; rwa [intsC_length] at this
  rw [intsC_at L j hj'] at hj
  rw [← hj]
  exact hrow j hj'
theorem app_adds (v : Value) (L : List Ad) (w : World) (h : AddsAt w v L) (hb : L.length * 16 ≤ 140737488355328) (base : Nat) (hbase : base ≤ w.heap.size) :
    ∃ r w', (Builtin.append_ #[24, 24] 24 #[.slice none 0 0, v]).run Tryz.prog w = .ok r w' ∧ w'.ownsRow base 52 3 r L.length (addsC L) ∧ Below base w w' := by
  obtain ⟨ad, b, off, cap, rfl, had, _, hrow⟩ := h
  refine app_gen 24 52 (.agg #[.int .i64 0, .bool false, .bool false]) 3 16 Tryz.underlying24 infoE_add rfl (by decide) ad b off L.length cap had (addsC L) (addsC_length L) (one_adds L) w ?_ hb (by unfold maxLen; omega) base hbase
  intro _ j u hj
  obtain ⟨i, hi, c, hc, rfl, hx⟩ := lrow_mem (k := 3) (f := fun a : Ad => [.int .i64 a.f, .bool a.s, .bool a.t]) (fun _ => rfl) (by decide) j u hj
  have hr := hrow i hi
  have hc' : c = 0 ∨ c = 1 ∨ c = 2 := by omega
  rcases hc' with rfl | rfl | rfl
  · simp at hx; rw [← hx, Nat.add_zero]; exact hr.1
  · simp at hx; rw [← hx, ← Nat.add_assoc]; exact hr.2.1
  · simp at hx; rw [← hx, ← Nat.add_assoc]; exact hr.2.2
theorem app_kept (v : Value) (L : List Kp) (w : World) (h : KeptsAt w v L) (hb : L.length * 16 ≤ 140737488355328) (base : Nat) (hbase : base ≤ w.heap.size) :
    ∃ r w', (Builtin.append_ #[25, 25] 25 #[.slice none 0 0, v]).run Tryz.prog w = .ok r w' ∧ w'.ownsRow base 40 2 r L.length (keptC L) ∧ Below base w w' := by
  obtain ⟨ad, b, off, cap, rfl, had, _, hrow⟩ := h
  refine app_gen 25 40 (.agg #[.int .i64 0, .bool false]) 2 16 Tryz.underlying25 infoE_kept rfl (by decide) ad b off L.length cap had (keptC L) (keptC_length L) (one_kept L) w ?_ hb (by unfold maxLen; omega) base hbase
  intro _ j u hj
  obtain ⟨i, hi, c, hc, rfl, hx⟩ := lrow_mem (k := 2) (f := fun a : Kp => [.int .i64 a.f, .bool a.k]) (fun _ => rfl) (by decide) j u hj
  have hr := hrow i hi
  have hc' : c = 0 ∨ c = 1 := by omega
  rcases hc' with rfl | rfl
  · simp at hx; rw [← hx, Nat.add_zero]; exact hr.1
  · simp at hx; rw [← hx, ← Nat.add_assoc]; exact hr.2
theorem wpList_append_run (w : World) {ops : Array Oper} {rest : List Oper} {o : Oper} {a : Act} {Q : Exit → Act → World → Prop} (hgd : o.guard = none) (s x : Operand) (t : TypeId)
    (ho : o.op = .call { callee := .builtin .append, args := #[s, x], argTypes := #[t, t] }) (v u : Value) (hs : a.eval s = v) (hx : a.eval x = u) {r : Value} {w' : World}
    (hr : (Builtin.append_ #[t, t] o.type #[v, u]).run Tryz.prog w = .ok r w') (h : wpList Tryz.prog ops Q rest (a.put o.dst r) w') : wpList Tryz.prog ops Q (o :: rest) a w :=
  wpList_plain hgd fun _ hK => by
    unfold Oper.wp
    simp only [execOp, ho, resolve, invoke, builtin, Sem.run_bind, Sem.run_pure, Result.andThen_ok, List.map_toArray, List.map_cons, List.map_nil, hs, hx, hr]
    exact hK _ _ h
theorem owns_other {w : World} {base : Nat} {e : TypeId} {size : Nat} {v : Value} {n : Nat} {xs : List Value} (h : w.ownsRow base e size v n xs) (q i : Nat) (u : Value) (hq : q < base) : (w.setCell ⟨q, i, none⟩ u).ownsRow base e size v n xs := by
  obtain ⟨h0, h1 | ⟨g, cap, cur, hv, hg, hk, r⟩⟩ := h
  · exact ⟨h0, Or.inl h1⟩
  · exact ⟨h0, Or.inr ⟨g, cap, cur, hv, hg, (heap_setCell_other w ⟨q, i, none⟩ g u (by show g ≠ q; omega)).trans hk, r⟩⟩
theorem below_setT {B : Nat} {a w : World} (h : Below B a w) (q i : Nat) (v : Value) (hq : B ≤ q) (hB : B ≤ a.heap.size) : Below B a (w.setCell ⟨q, i, none⟩ v) :=
  h.trans ((Beside.set (p := q) w i v).below hq (Nat.le_trans hB h.size))
end Go.Proofs.YtlhnfejgkhilkaaGreatDoor

set_option linter.unusedVariables false
set_option linter.unusedSimpArgs false
namespace Go.Proofs.YtlhnfejgkhilkaaGreatDoor
open Go.RowKit
def zOC : Array Value := #[.int .u32 0, .int .i64 0, .int .u32 0, .slice none 0 0, .bool false, .bool false, .slice none 0 0, .bool false, .bool false, .int .i64 0, .slice none 0 0]
theorem blk10 {w w' : World} {b : Nat} {x : Obj} (hb : Below w.heap.size w w') (h : w.heap[b]? = some x) : w'.heap[b]? = some x := (hb.block _ (lt_of_heap h)).trans h
theorem one_op {o : Opn} {vf va vk : Value} (h1 : vf.oneCell' = true) (h2 : va.oneCell' = true) (h3 : vk.oneCell' = true) : (opC o vf va vk).all (·.oneCell') = true := by
  simp [opC, Value.oneCell'] at *
  exact ⟨h1, h2, h3⟩
/-- What lists' sizes are bounded by. -/
structure Bnd (o : Opn) : Prop where
  f : o.fams.length * 8 ≤ 140737488355328
  a : o.adds.length * 16 ≤ 140737488355328
  k : o.kept.length * 16 ≤ 140737488355328
set_option maxRecDepth 100000 in
set_option maxHeartbeats 3200000 in
theorem own_any (o : Opn) (vf va vk : Value) (w : World) (h : ListsAt w o vf va vk) (hbd : Bnd o) :
    Calls Tryz.prog 4 #[opV o vf va vk] w fun e w' => ∃ rf ra rk, e = .returned (opV o rf ra rk) ∧ ListsAt w' o rf ra rk ∧ Below w.heap.size w w' := by
  obtain ⟨W0, hW0⟩ : ∃ W0, W0 = (w.alloc (.cells (opC o vf va vk) 27)).alloc (.cells zOC 27) := ⟨_, rfl⟩
  have hb0 : Below w.heap.size w W0 := by rw [hW0]; exact ((Below.refl _ _).alloc (Nat.le_refl _) _).alloc (by simp) _
  have r0 : W0.heap[w.heap.size]? = some (.cells (opC o vf va vk) 27 (0, 0)) := by rw [hW0]; exact hp_up (hp_new rfl)
  have z0 : W0.heap[w.heap.size + 1]? = some (.cells zOC 27 (0, 0)) := by rw [hW0]; exact hp_new (by simp)
  have s0 : w.heap.size + 2 = W0.heap.size := by rw [hW0]; simp
  obtain ⟨rf, w1, e1, o1, b1⟩ := app_ints vf o.fams W0 (h.f.below hb0) hbd.f W0.heap.size (Nat.le_refl _)
  have r1 := blk10 b1 r0
  have z1 := blk10 b1 z0
  obtain ⟨W1, hW1⟩ : ∃ W1, W1 = w1.setCell ⟨w.heap.size, 3, none⟩ rf := ⟨_, rfl⟩
  have R1 : W1.heap[w.heap.size]? = some (.cells (opC o rf va vk) 27 (0, 0)) := by rw [hW1]; exact heap_setCell_same w1 w.heap.size 3 _ 27 rf r1
  have Z1 : W1.heap[w.heap.size + 1]? = some (.cells zOC 27 (0, 0)) := by rw [hW1]; exact (heap_setCell_other w1 _ _ rf (by show w.heap.size + 1 ≠ w.heap.size; omega)).trans z1
  have O1 : W1.ownsRow W0.heap.size 3 1 rf o.fams.length (intsC o.fams) := by rw [hW1]; exact owns_other o1 _ _ _ (by omega)
  have B1 : Below w.heap.size w W1 := by rw [hW1]; exact below_setT (hb0.trans (b1.mono hb0.size)) _ _ _ (Nat.le_refl _) (Nat.le_refl _)
  obtain ⟨ra, w2, e2, o2, b2⟩ := app_adds va o.adds W1 (h.a.below B1) hbd.a W1.heap.size (Nat.le_refl _)
  have r2 := blk10 b2 R1
  have z2 := blk10 b2 Z1
  have p2 := owns_below O1 b2
  obtain ⟨W2, hW2⟩ : ∃ W2, W2 = w2.setCell ⟨w.heap.size, 6, none⟩ ra := ⟨_, rfl⟩
  have R2 : W2.heap[w.heap.size]? = some (.cells (opC o rf ra vk) 27 (0, 0)) := by rw [hW2]; exact heap_setCell_same w2 w.heap.size 6 _ 27 ra r2
  have Z2 : W2.heap[w.heap.size + 1]? = some (.cells zOC 27 (0, 0)) := by rw [hW2]; exact (heap_setCell_other w2 _ _ ra (by show w.heap.size + 1 ≠ w.heap.size; omega)).trans z2
  have hW1s := lt_of_heap R1
  have O2 : W2.ownsRow W1.heap.size 52 3 ra o.adds.length (addsC o.adds) := by rw [hW2]; exact owns_other o2 _ _ _ hW1s
  have P2 : W2.ownsRow W0.heap.size 3 1 rf o.fams.length (intsC o.fams) := by rw [hW2]; exact owns_other p2 _ _ _ (by omega)
  have B2 : Below w.heap.size w W2 := by rw [hW2]; exact below_setT (B1.trans (b2.mono B1.size)) _ _ _ (Nat.le_refl _) (Nat.le_refl _)
  obtain ⟨rk, w3, e3, o3, b3⟩ := app_kept vk o.kept W2 (h.k.below B2) hbd.k W2.heap.size (Nat.le_refl _)
  have r3 := blk10 b3 R2
  have z3 := blk10 b3 Z2
  have p3 := owns_below P2 b3
  have q3 := owns_below O2 b3
  obtain ⟨W3, hW3⟩ : ∃ W3, W3 = w3.setCell ⟨w.heap.size, 10, none⟩ rk := ⟨_, rfl⟩
  have R3 : W3.heap[w.heap.size]? = some (.cells (opC o rf ra rk) 27 (0, 0)) := by rw [hW3]; exact heap_setCell_same w3 w.heap.size 10 _ 27 rk r3
  have Z3 : W3.heap[w.heap.size + 1]? = some (.cells zOC 27 (0, 0)) := by rw [hW3]; exact (heap_setCell_other w3 _ _ rk (by show w.heap.size + 1 ≠ w.heap.size; omega)).trans z3
  have hW2s := lt_of_heap R2
  have O3 : W3.ownsRow W2.heap.size 40 2 rk o.kept.length (keptC o.kept) := by rw [hW3]; exact owns_other o3 _ _ _ hW2s
  have P3 : W3.ownsRow W0.heap.size 3 1 rf o.fams.length (intsC o.fams) := by rw [hW3]; exact owns_other p3 _ _ _ (by omega)
  have Q3 : W3.ownsRow W1.heap.size 52 3 ra o.adds.length (addsC o.adds) := by rw [hW3]; exact owns_other q3 _ _ _ hW1s
  have B3 : Below w.heap.size w W3 := by rw [hW3]; exact below_setT (B2.trans (b3.mono B2.size)) _ _ _ (Nat.le_refl _) (Nat.le_refl _)
  have HL : Hid (ListsAt W3 o rf ra rk) := ⟨ints_of_owns P3, adds_of_owns Q3, kept_of_owns O3⟩
  obtain ⟨fa, fc, efv⟩ := slice_of_owns P3
  obtain ⟨aa, ac, eav⟩ := slice_of_owns Q3
  obtain ⟨ka, kc, ekv⟩ := slice_of_owns O3
  have HO1 : (opC o rf ra rk).all (·.oneCell') = true := one_op (by rw [efv]; rfl) (by rw [eav]; rfl) (by rw [ekv]; rfl)
  have HF : Hid (ListsAt (W3.setRow (w.heap.size + 1) (opC o rf ra rk)) o rf ra rk ∧ Below w.heap.size w (W3.setRow (w.heap.size + 1) (opC o rf ra rk))) := by
    refine ⟨?_, below_setRow B3 (by omega) _⟩
    have hh : ∀ g, W0.heap.size ≤ g → (W3.setRow (w.heap.size + 1) (opC o rf ra rk)).heap[g]? = W3.heap[g]? := fun g hg => row_other _ _ _ _ (by omega)
    have k1 : (W3.setRow (w.heap.size + 1) (opC o rf ra rk)).ownsRow W0.heap.size 3 1 rf o.fams.length (intsC o.fams) := by
      obtain ⟨x0, x1 | ⟨g, cap, cur, hv, hg, hk, r⟩⟩ := P3
      · exact ⟨x0, Or.inl x1⟩
      · exact ⟨x0, Or.inr ⟨g, cap, cur, hv, hg, (hh g hg).trans hk, r⟩⟩
    have k2 : (W3.setRow (w.heap.size + 1) (opC o rf ra rk)).ownsRow W1.heap.size 52 3 ra o.adds.length (addsC o.adds) := by
      obtain ⟨x0, x1 | ⟨g, cap, cur, hv, hg, hk, r⟩⟩ := Q3
      · exact ⟨x0, Or.inl x1⟩
      · exact ⟨x0, Or.inr ⟨g, cap, cur, hv, hg, (hh g (by have := b1.size; have e : W1.heap.size = w1.heap.size := by rw [hW1]; simp
                                                          omega)).trans hk, r⟩⟩
    have k3 : (W3.setRow (w.heap.size + 1) (opC o rf ra rk)).ownsRow W2.heap.size 40 2 rk o.kept.length (keptC o.kept) := by
      obtain ⟨x0, x1 | ⟨g, cap, cur, hv, hg, hk, r⟩⟩ := O3
      · exact ⟨x0, Or.inl x1⟩
      · exact ⟨x0, Or.inr ⟨g, cap, cur, hv, hg, (hh g (by have := b1.size; have e : W1.heap.size = w1.heap.size := by rw [hW1]; simp
                                                          have := b2.size; have e2 : W2.heap.size = w2.heap.size := by rw [hW2]; simp
                                                          omega)).trans hk, r⟩⟩
    exact ⟨ints_of_owns k1, adds_of_owns k2, kept_of_owns k3⟩
  have c3 : W0.cell? ⟨w.heap.size, 3, none⟩ = some vf := cl_row r0 rfl
  have c6 : W1.cell? ⟨w.heap.size, 6, none⟩ = some va := cl_row R1 rfl
  have c10 : W2.cell? ⟨w.heap.size, 10, none⟩ = some vk := cl_row R2 rfl
  have d3 : w1.cell? ⟨w.heap.size, 3, none⟩ = some vf := cl_row r1 rfl
  have d6 : w2.cell? ⟨w.heap.size, 6, none⟩ = some va := cl_row r2 rfl
  have d10 : w3.cell? ⟨w.heap.size, 10, none⟩ = some vk := cl_row r3 rfl
  have f3 : w1.frozen? ⟨w.heap.size, 3, none⟩ = false := fz_row r1
  have f6 : w2.frozen? ⟨w.heap.size, 6, none⟩ = false := fz_row r2
  have f10 : w3.frozen? ⟨w.heap.size, 10, none⟩ = false := fz_row r3
  have HR3 : Hid (_ = _) := R3
  have HZ3 : Hid (_ = _) := Z3
  have g1 := hW1.symm
  have g2 := hW2.symm
  have g3 := hW3.symm
  obtain ⟨fa0, fc0, evf⟩ : ∃ a c, vf = .slice a o.fams.length c := by obtain ⟨a, _, _, c, e, _⟩ := h.f; exact ⟨a, c, e⟩
  obtain ⟨aa0, ac0, eva⟩ : ∃ a c, va = .slice a o.adds.length c := by obtain ⟨a, _, _, c, e, _⟩ := h.a; exact ⟨a, c, e⟩
  obtain ⟨ka0, kc0, evk⟩ : ∃ a c, vk = .slice a o.kept.length c := by obtain ⟨a, _, _, c, e, _⟩ := h.k; exact ⟨a, c, e⟩
  subst efv eav ekv evf eva evk
  have g0 := hW0.symm
  unfold zOC opC at g0
  clear r0 z0 s0 o1 b1 r1 z1 R1 Z1 O1 B1 o2 b2 r2 z2 p2 R2 Z2 O2 P2 B2 o3 b3 r3 z3 p3 q3 R3 Z3 O3 P3 Q3 B3 hb0 hW1s hW2s hW1 hW2 hW3 hW0 h hbd
  unfold opV opC
  go_enter Tryz.func4, Tryz.ntmps4
  go_wp2_with (first | (at_builtin; refine wpList_append_run _ rfl _ _ 23 rfl _ _ rfl rfl e1 ?_) | (at_builtin; refine wpList_append_run _ rfl _ _ 24 rfl _ _ rfl rfl e2 ?_) | (at_builtin; refine wpList_append_run _ rfl _ _ 25 rfl _ _ rfl rfl e3 ?_) | (refine wpList_load_row rfl 27 _ rfl w.heap.size rfl 27 _ (0, 0) _ HR3.out Tryz.underlying27 rfl size27 ?_) | (refine wpList_store_row rfl 27 _ _ rfl (w.heap.size + 1) (opC o _ _ _) rfl rfl 27 _ HZ3.out size27 rfl HO1 ?_))
  exact bodyPost_ret (v := opV o (.slice fa o.fams.length fc) (.slice aa o.adds.length ac) (.slice ka o.kept.length kc)) (results_cell_row (P := Tryz.prog) rfl _ _ (w.heap.size + 1) 27 (opC o (.slice fa o.fams.length fc) (.slice aa o.adds.length ac) (.slice ka o.kept.length kc)) (0, 0) _ rfl (row_same _ _ _ _ HZ3.out) Tryz.underlying27 rfl size27) rfl ⟨_, _, _, rfl, HF.out.1, HF.out.2⟩
end Go.Proofs.YtlhnfejgkhilkaaGreatDoor
