/-
  Two opens are copied in one region that draws its order.
-/
import Derived.Test.YtlhnfejgkhilkaaGreatDoorRFa
import Derived.Test.YtlhnfejgkhilkaaGreatDoorOLz
import Derived.Test.YtlhnfejgkhilkaaGreatDoorZ6
set_option linter.unusedVariables false
set_option linter.unusedSimpArgs false
namespace Go.Proofs.YtlhnfejgkhilkaaGreatDoor
open Go.RowKit
theorem puts_size (f : Nat → Value) : ∀ (ds : List Nat) (a : Act), (ds.foldl (fun a d => a.put (some d) (f d)) a).tmps.size = a.tmps.size
  | [], a => rfl
  | d :: ds, a => by rw [List.foldl_cons, puts_size f ds, put_size]
theorem puts_defers (f : Nat → Value) : ∀ (ds : List Nat) (a : Act), (ds.foldl (fun a d => a.put (some d) (f d)) a).defers = a.defers
  | [], a => rfl
  | d :: ds, a => by rw [List.foldl_cons, puts_defers f ds, put_defers]
theorem puts_off (f : Nat → Value) (t : Nat) : ∀ (ds : List Nat) (a : Act), t ∉ ds → (ds.foldl (fun a d => a.put (some d) (f d)) a).eval (.tmp t) = a.eval (.tmp t)
  | [], a, _ => rfl
  | d :: ds, a, h => by
    rw [List.foldl_cons, puts_off f t ds _ (fun hm => h (List.mem_cons_of_mem _ hm)), put_off (fun e => h (by rw [e]; exact List.mem_cons_self))]
theorem puts_at (f : Nat → Value) (t : Nat) : ∀ (ds : List Nat) (a : Act), t ∈ ds → t < a.tmps.size → (ds.foldl (fun a d => a.put (some d) (f d)) a).eval (.tmp t) = f t
  | [], a, h, _ => by cases h
  | d :: ds, a, h, hs => by
    rw [List.foldl_cons]
    by_cases hm : t ∈ ds
    · exact puts_at f t ds _ hm (by rw [put_size]; exact hs)
    · rcases List.mem_cons.1 h with rfl | h
      · rw [puts_off f t ds _ hm, put_at hs]
      · exact absurd h hm
/-- A frame is told by its slots. -/
theorem act_back (ds : List Nat) (x a0 : Act) (hs : x.tmps.size = a0.tmps.size) (hd : x.defers = a0.defers) (hf : ∀ t, t ∉ ds → x.eval (.tmp t) = a0.eval (.tmp t)) :
    x = ds.foldl (fun a d => a.put (some d) (x.eval (.tmp d))) a0 := by
  have h1 := puts_size (fun d => x.eval (.tmp d)) ds a0
  have h2 := puts_defers (fun d => x.eval (.tmp d)) ds a0
  have h3 : ∀ t, t < a0.tmps.size → (ds.foldl (fun a d => a.put (some d) (x.eval (.tmp d))) a0).eval (.tmp t) = x.eval (.tmp t) := fun t ht => by
    by_cases hm : t ∈ ds
    · exact puts_at (fun d => x.eval (.tmp d)) t ds a0 hm ht
    · rw [puts_off (fun d => x.eval (.tmp d)) t ds a0 hm, hf t hm]
  revert h1 h2 h3
  generalize ds.foldl (fun a d => a.put (some d) (x.eval (.tmp d))) a0 = y
  intro h1 h2 h3
  obtain ⟨xt, xd⟩ := x
  obtain ⟨yt, yd⟩ := y
  dsimp only at h1 h2 hs hd
  have e : xt = yt := by
    apply Array.ext (by omega)
    intro i hi hj
    have := h3 i (by omega)
    simp only [Act.eval, Array.getD_eq_getD_getElem?] at this
    rw [Array.getElem?_eq_getElem hi, Array.getElem?_eq_getElem hj] at this
    exact this.symm
  rw [e, hd, h2]
/-- What holds while two opens are copied. -/
structure OwI (W : World) (a0 : Act) (oa ob : Opn) (Va Vb : Value) (done : Nat → Prop) (x : Act) (X : World) : Prop where
  ts : x.tmps.size = a0.tmps.size
  df : x.defers = a0.defers
  fx : ∀ t, t ∉ [15, 16, 17, 18, 7, 8] → x.eval (.tmp t) = a0.eval (.tmp t)
  bl : Below W.heap.size W X
  d0 : done 0 → x.eval (.tmp 15) = Va
  d1 : done 1 → ∃ rf ra rk, x.eval (.tmp 16) = opV oa rf ra rk ∧ OwnO X W.heap.size oa rf ra rk
  d2 : done 2 → x.eval (.tmp 17) = Vb
  d3 : done 3 → ∃ rf ra rk, x.eval (.tmp 18) = opV ob rf ra rk ∧ OwnO X W.heap.size ob rf ra rk
  d4 : done 4 → ∃ p C, x.eval (.tmp 7) = .pointer (some ⟨p, 0, none⟩) ∧ W.heap.size ≤ p ∧ X.heap[p]? = some (.cells C 27 (0, 0)) ∧ C.size = 11 ∧ (done 6 → ∃ rf ra rk, C = opC oa rf ra rk ∧ OwnO X W.heap.size oa rf ra rk)
  d5 : done 5 → ∃ p C, x.eval (.tmp 8) = .pointer (some ⟨p, 0, none⟩) ∧ W.heap.size ≤ p ∧ X.heap[p]? = some (.cells C 27 (0, 0)) ∧ C.size = 11 ∧ (done 7 → ∃ rf ra rk, C = opC ob rf ra rk ∧ OwnO X W.heap.size ob rf ra rk)
  o6 : done 6 → done 4 ∧ done 5
  o7 : done 7 → done 6
  ne : done 4 → done 5 → ∀ p q, x.eval (.tmp 7) = .pointer (some ⟨p, 0, none⟩) → x.eval (.tmp 8) = .pointer (some ⟨q, 0, none⟩) → p ≠ q
variable {W : World} {a0 : Act} {oa ob : Opn} {Va Vb : Value} {done : Nat → Prop} {x : Act} {X Y : World}
/-- A value is put into one of the four slots 15 to 18, the world only grows. -/
theorem OwI.put (h : OwI W a0 oa ob Va Vb done x X) (hb : Below X.heap.size X Y) (i d : Nat) (v : Value) (hd : d = 15 ∨ d = 16 ∨ d = 17 ∨ d = 18) (hi : i = 0 ∨ i = 1 ∨ i = 2 ∨ i = 3) (hid : d = 15 + i) (hsz : 18 < a0.tmps.size)
    (k0 : i = 0 → v = Va) (k2 : i = 2 → v = Vb) (k1 : i = 1 → ∃ rf ra rk, v = opV oa rf ra rk ∧ OwnO Y W.heap.size oa rf ra rk) (k3 : i = 3 → ∃ rf ra rk, v = opV ob rf ra rk ∧ OwnO Y W.heap.size ob rf ra rk) (hno : ¬ done i) :
    OwI W a0 oa ob Va Vb (fun j => done j ∨ j = i) (x.put (some d) v) Y := by
  have hput : (x.put (some d) v).eval (.tmp d) = v := put_at (by rw [h.ts]; omega)
  have hoff : ∀ t, t ≠ d → (x.put (some d) v).eval (.tmp t) = x.eval (.tmp t) := fun t ht => put_off (Ne.symm ht)
  refine ⟨(put_size _).trans h.ts, (put_defers _).trans h.df, fun t ht => ?_, h.bl.trans (hb.mono h.bl.size), ?_, ?_, ?_, ?_, ?_, ?_, fun k => ⟨Or.inl (h.o6 (k.resolve_right (by omega))).1, Or.inl (h.o6 (k.resolve_right (by omega))).2⟩, fun k => Or.inl (h.o7 (k.resolve_right (by omega))), ?_⟩
  · rw [hoff t (fun e => ht (by rw [e]; rcases hd with rfl | rfl | rfl | rfl <;> decide))]; exact h.fx t ht
  · intro hd0
    by_cases e : i = 0
    · subst e; rw [← k0 rfl]; rw [show (15 : Nat) = d by omega]; exact hput
    · rw [hoff 15 (by omega)]; exact h.d0 (hd0.resolve_right (Ne.symm e))
  · intro hd1
    by_cases e : i = 1
    · obtain ⟨rf, ra, rk, e1, e2⟩ := k1 e
      exact ⟨rf, ra, rk, by rw [show (16 : Nat) = d by omega, hput]; exact e1, e2⟩
    · obtain ⟨rf, ra, rk, e1, e2⟩ := h.d1 (hd1.resolve_right (Ne.symm e))
      exact ⟨rf, ra, rk, (hoff 16 (by omega)).trans e1, e2.below hb⟩
  · intro hd2
    by_cases e : i = 2
    · subst e; rw [← k2 rfl]; rw [show (17 : Nat) = d by omega]; exact hput
    · rw [hoff 17 (by omega)]; exact h.d2 (hd2.resolve_right (Ne.symm e))
  · intro hd3
    by_cases e : i = 3
    · obtain ⟨rf, ra, rk, e1, e2⟩ := k3 e
      exact ⟨rf, ra, rk, by rw [show (18 : Nat) = d by omega, hput]; exact e1, e2⟩
    · obtain ⟨rf, ra, rk, e1, e2⟩ := h.d3 (hd3.resolve_right (Ne.symm e))
      exact ⟨rf, ra, rk, (hoff 18 (by omega)).trans e1, e2.below hb⟩
  · intro hd4
    obtain ⟨p, C, e1, e2, e3, e4, e5⟩ := h.d4 (hd4.resolve_right (by omega))
    refine ⟨p, C, (hoff 7 (by omega)).trans e1, e2, (hb.block _ (lt_of_heap e3)).trans e3, e4, fun h6 => ?_⟩
    obtain ⟨rf, ra, rk, f1, f2⟩ := e5 (h6.resolve_right (by omega))
    exact ⟨rf, ra, rk, f1, f2.below hb⟩
  · intro hd5
    obtain ⟨p, C, e1, e2, e3, e4, e5⟩ := h.d5 (hd5.resolve_right (by omega))
    refine ⟨p, C, (hoff 8 (by omega)).trans e1, e2, (hb.block _ (lt_of_heap e3)).trans e3, e4, fun h6 => ?_⟩
    obtain ⟨rf, ra, rk, f1, f2⟩ := e5 (h6.resolve_right (by omega))
    exact ⟨rf, ra, rk, f1, f2.below hb⟩
  · intro h4 h5 p q e1 e2
    rw [hoff 7 (by omega)] at e1
    rw [hoff 8 (by omega)] at e2
    exact h.ne (h4.resolve_right (by omega)) (h5.resolve_right (by omega)) p q e1 e2
/-- A zero open is made. -/
theorem OwI.make (h : OwI W a0 oa ob Va Vb done x X) (i d : Nat) (hid : i = 4 ∧ d = 7 ∨ i = 5 ∧ d = 8) (hsz : 18 < a0.tmps.size) (hno : ¬ done i) (h6 : ¬ done 6) (h7 : ¬ done 7) :
    OwI W a0 oa ob Va Vb (fun j => done j ∨ j = i) (x.put (some d) (.pointer (some ⟨X.heap.size, 0, none⟩))) (X.alloc (.cells zOC 27)) := by
  have hput : (x.put (some d) (.pointer (some ⟨X.heap.size, 0, none⟩))).eval (.tmp d) = .pointer (some ⟨X.heap.size, 0, none⟩) := put_at (by rw [h.ts]; omega)
  have hoff : ∀ t, t ≠ d → (x.put (some d) (.pointer (some ⟨X.heap.size, 0, none⟩))).eval (.tmp t) = x.eval (.tmp t) := fun t ht => put_off (Ne.symm ht)
  have hb : Below X.heap.size X (X.alloc (.cells zOC 27)) := (Below.refl _ _).alloc (Nat.le_refl _) _
  have hnew : (X.alloc (.cells zOC 27)).heap[X.heap.size]? = some (.cells zOC 27 (0, 0)) := hp_new rfl
  refine ⟨(put_size _).trans h.ts, (put_defers _).trans h.df, fun t ht => ?_, h.bl.trans (hb.mono h.bl.size), ?_, ?_, ?_, ?_, ?_, ?_, fun k => ⟨Or.inl (h.o6 (k.resolve_right (by omega))).1, Or.inl (h.o6 (k.resolve_right (by omega))).2⟩, fun k => Or.inl (h.o7 (k.resolve_right (by omega))), ?_⟩
  · rw [hoff t (fun e => ht (by rw [e]; rcases hid with ⟨_, rfl⟩ | ⟨_, rfl⟩ <;> decide))]; exact h.fx t ht
  · intro hd0; rw [hoff 15 (by omega)]; exact h.d0 (hd0.resolve_right (by omega))
  · intro hd1
    obtain ⟨rf, ra, rk, e1, e2⟩ := h.d1 (hd1.resolve_right (by omega))
    exact ⟨rf, ra, rk, (hoff 16 (by omega)).trans e1, e2.below hb⟩
  · intro hd0; rw [hoff 17 (by omega)]; exact h.d2 (hd0.resolve_right (by omega))
  · intro hd3
    obtain ⟨rf, ra, rk, e1, e2⟩ := h.d3 (hd3.resolve_right (by omega))
    exact ⟨rf, ra, rk, (hoff 18 (by omega)).trans e1, e2.below hb⟩
  · intro hd4
    by_cases e : i = 4
    · exact ⟨X.heap.size, zOC, by rw [show (7 : Nat) = d by omega]; exact hput, h.bl.size, hnew, rfl, fun k => absurd (k.resolve_right (by omega)) h6⟩
    · obtain ⟨p, C, e1, e2, e3, e4, e5⟩ := h.d4 (hd4.resolve_right (Ne.symm e))
      exact ⟨p, C, (hoff 7 (by omega)).trans e1, e2, (hb.block _ (lt_of_heap e3)).trans e3, e4, fun k => absurd (k.resolve_right (by omega)) h6⟩
  · intro hd5
    by_cases e : i = 5
    · exact ⟨X.heap.size, zOC, by rw [show (8 : Nat) = d by omega]; exact hput, h.bl.size, hnew, rfl, fun k => absurd (k.resolve_right (by omega)) h7⟩
    · obtain ⟨p, C, e1, e2, e3, e4, e5⟩ := h.d5 (hd5.resolve_right (Ne.symm e))
      exact ⟨p, C, (hoff 8 (by omega)).trans e1, e2, (hb.block _ (lt_of_heap e3)).trans e3, e4, fun k => absurd (k.resolve_right (by omega)) h7⟩
  · intro h4 h5 p q e1 e2
    by_cases e : i = 4
    · have hd : d = 7 := by omega
      subst hd
      rw [hput] at e1
      rw [hoff 8 (by omega)] at e2
      obtain ⟨q', C, f1, f2, f3, _⟩ := h.d5 (h5.resolve_right (by omega))
      rw [f1] at e2
      have hq := lt_of_heap f3
      simp only [Value.pointer.injEq, Option.some.injEq, Addr.mk.injEq, and_true] at e1 e2
      omega
    · have hd : d = 8 := by omega
      subst hd
      rw [hput] at e2
      rw [hoff 7 (by omega)] at e1
      obtain ⟨q', C, f1, f2, f3, _⟩ := h.d4 (h4.resolve_right (by omega))
      rw [f1] at e1
      have hq := lt_of_heap f3
      simp only [Value.pointer.injEq, Option.some.injEq, Addr.mk.injEq, and_true] at e1 e2
      omega
theorem row_typ {X : World} {p : Nat} {C C' : Array Value} (hp : X.heap[p]? = some (.cells C 27 (0, 0))) : ∀ (k : Nat) (D : Array Value) (t : TypeId) (fr : Nat × Nat), X.heap[k]? = some (.cells D t fr) → t ≠ 27 → (X.setRow p C').heap[k]? = X.heap[k]? := fun k D t fr hk ht => by
  refine row_other _ _ _ _ fun e => ?_
  subst e
  rw [hp] at hk
  simp at hk
  exact ht hk.2.1.symm
/-- The first copy is laid. -/
theorem OwI.lay6 (h : OwI W a0 oa ob Va Vb done x X) (h4 : done 4) (h5 : done 5) {p : Nat} {C : Array Value} {rf ra rk : Value} (hp : x.eval (.tmp 7) = .pointer (some ⟨p, 0, none⟩)) (hpw : W.heap.size ≤ p) (hC : X.heap[p]? = some (.cells C 27 (0, 0)))
    (ho : OwnO X W.heap.size oa rf ra rk) (h7 : ¬ done 7) : OwI W a0 oa ob Va Vb (fun j => done j ∨ j = 6) (x.put none undef) (X.setRow p (opC oa rf ra rk)) := by
  have hty := row_typ (C' := opC oa rf ra rk) hC
  refine ⟨h.ts, h.df, h.fx, below_setRow h.bl hpw _, ?_, ?_, ?_, ?_, ?_, ?_, fun _ => ⟨Or.inl h4, Or.inl h5⟩, fun k => Or.inr rfl, ?_⟩
  · intro hd0; exact h.d0 (hd0.resolve_right (by omega))
  · intro hd1
    obtain ⟨rf, ra, rk, e1, e2⟩ := h.d1 (hd1.resolve_right (by omega))
    exact ⟨rf, ra, rk, e1, e2.typ hty⟩
  · intro hd0; exact h.d2 (hd0.resolve_right (by omega))
  · intro hd3
    obtain ⟨rf, ra, rk, e1, e2⟩ := h.d3 (hd3.resolve_right (by omega))
    exact ⟨rf, ra, rk, e1, e2.typ hty⟩
  · intro hd4
    exact ⟨p, opC oa rf ra rk, hp, hpw, row_same _ _ _ _ hC, rfl, fun _ => ⟨rf, ra, rk, rfl, ho.typ hty⟩⟩
  · intro hd5
    obtain ⟨q, D, e1, e2, e3, e4, e5⟩ := h.d5 (hd5.resolve_right (by omega))
    have hne := h.ne h4 (hd5.resolve_right (by omega)) p q hp e1
    exact ⟨q, D, e1, e2, (row_other _ _ _ _ (Ne.symm hne)).trans e3, e4, fun k => absurd (k.resolve_right (by omega)) h7⟩
  · intro k4 k5 p q e1 e2
    exact h.ne (k4.resolve_right (by omega)) (k5.resolve_right (by omega)) p q e1 e2
theorem OwI.lay7 (h : OwI W a0 oa ob Va Vb done x X) (h5 : done 5) (h6 : done 6) {p : Nat} {C : Array Value} {rf ra rk : Value} (hp : x.eval (.tmp 8) = .pointer (some ⟨p, 0, none⟩)) (hpw : W.heap.size ≤ p) (hC : X.heap[p]? = some (.cells C 27 (0, 0)))
    (ho : OwnO X W.heap.size ob rf ra rk) : OwI W a0 oa ob Va Vb (fun j => done j ∨ j = 7) (x.put none undef) (X.setRow p (opC ob rf ra rk)) := by
  have hty := row_typ (C' := opC ob rf ra rk) hC
  refine ⟨h.ts, h.df, h.fx, below_setRow h.bl hpw _, ?_, ?_, ?_, ?_, ?_, ?_, fun k => ⟨Or.inl (h.o6 (k.resolve_right (by omega))).1, Or.inl (h.o6 (k.resolve_right (by omega))).2⟩, fun k => Or.inl h6, ?_⟩
  · intro hd0; exact h.d0 (hd0.resolve_right (by omega))
  · intro hd1
    obtain ⟨rf, ra, rk, e1, e2⟩ := h.d1 (hd1.resolve_right (by omega))
    exact ⟨rf, ra, rk, e1, e2.typ hty⟩
  · intro hd0; exact h.d2 (hd0.resolve_right (by omega))
  · intro hd3
    obtain ⟨rf, ra, rk, e1, e2⟩ := h.d3 (hd3.resolve_right (by omega))
    exact ⟨rf, ra, rk, e1, e2.typ hty⟩
  · intro hd4
    obtain ⟨q, D, e1, e2, e3, e4, e5⟩ := h.d4 (hd4.resolve_right (by omega))
    have hne := h.ne (hd4.resolve_right (by omega)) h5 q p e1 hp
    refine ⟨q, D, e1, e2, (row_other _ _ _ _ hne).trans e3, e4, fun k => ?_⟩
    obtain ⟨rf, ra, rk, f1, f2⟩ := e5 (k.resolve_right (by omega))
    exact ⟨rf, ra, rk, f1, f2.typ hty⟩
  · intro hd5
    exact ⟨p, opC ob rf ra rk, hp, hpw, row_same _ _ _ _ hC, rfl, fun _ => ⟨rf, ra, rk, rfl, ho.typ hty⟩⟩
  · intro k4 k5 p q e1 e2
    exact h.ne (k4.resolve_right (by omega)) (k5.resolve_right (by omega)) p q e1 e2
theorem OwnO.one {w : World} {base : Nat} {o : Opn} {vf va vk : Value} (h : OwnO w base o vf va vk) : (opC o vf va vk).all (·.oneCell') = true :=
  one_op (own_one h.f) (own_one h.a) (own_one h.k)
end Go.Proofs.YtlhnfejgkhilkaaGreatDoor
