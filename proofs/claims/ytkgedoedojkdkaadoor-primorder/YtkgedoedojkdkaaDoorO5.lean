/-
  Two calls of 'of' and two new variables in one statement, in whatever order: the stores, and the whole.
-/
import Derived.Test.YtkgedoedojkdkaaDoorO4
namespace Go.Proofs.YtkgedoedojkdkaaDoor
open Go.RowKit
/-- Four cells stored. -/
def sets (w : World) (b : Nat) (f r : Int) (s : ByteArray) (l : Int) : World := (((w.setCell ⟨b, 0, none⟩ (.int .i64 f)).setCell ⟨b, 1, none⟩ (.int .u64 r)).setCell ⟨b, 2, none⟩ (.string s)).setCell ⟨b, 3, none⟩ (.int .i64 l)
theorem sets_at {w : World} {b : Nat} {f0 r0 : Int} {s0 : ByteArray} {l0 : Int} (h : PfxAt w b f0 r0 s0 l0) (f r : Int) (s : ByteArray) (l : Int) : PfxAt (sets w b f r s l) b f r s l := by
  obtain ⟨c0, c1, c2, c3, g0, g1, g2, g3⟩ := h
  unfold sets
  refine ⟨?_, ?_, ?_, ?_, ?_, ?_, ?_, ?_⟩
  · rw [World.cell?_setCell_other _ _ _ _ (by simp), World.cell?_setCell_other _ _ _ _ (by simp), World.cell?_setCell_other _ _ _ _ (by simp), World.cell?_setCell_same _ _ _ c0]
  · rw [World.cell?_setCell_other _ _ _ _ (by simp), World.cell?_setCell_other _ _ _ _ (by simp), World.cell?_setCell_same _ _ _ (by rw [World.cell?_setCell_other _ _ _ _ (by simp)]; exact c1)]
  · rw [World.cell?_setCell_other _ _ _ _ (by simp), World.cell?_setCell_same _ _ _ (by rw [World.cell?_setCell_other _ _ _ _ (by simp), World.cell?_setCell_other _ _ _ _ (by simp)]; exact c2)]
  · rw [World.cell?_setCell_same _ _ _ (by rw [World.cell?_setCell_other _ _ _ _ (by simp), World.cell?_setCell_other _ _ _ _ (by simp), World.cell?_setCell_other _ _ _ _ (by simp)]; exact c3)]
  all_goals simp only [World.frozen?_setCell]
  · exact g0
  · exact g1
  · exact g2
  · exact g3
theorem sets_other {w : World} {b c : Nat} {f0 r0 : Int} {s0 : ByteArray} {l0 : Int} (h : PfxAt w c f0 r0 s0 l0) (f r : Int) (s : ByteArray) (l : Int) (hn : b ≠ c) : PfxAt (sets w b f r s l) c f0 r0 s0 l0 :=
  (((h.set_other _ _ hn).set_other _ _ hn).set_other _ _ hn).set_other _ _ hn
theorem sets_size (w : World) (b : Nat) (f r : Int) (s : ByteArray) (l : Int) : w.heap.size ≤ (sets w b f r s l).heap.size := by
  have h1 := ((((Below.refl 0 w).setCell (p := ⟨b, 0, none⟩) (Nat.zero_le _) (.int .i64 f)).setCell (p := ⟨b, 1, none⟩) (Nat.zero_le _) (.int .u64 r)).setCell (p := ⟨b, 2, none⟩) (Nat.zero_le _) (.string s)).setCell (p := ⟨b, 3, none⟩) (Nat.zero_le _) (.int .i64 l)
  exact h1.size
theorem VarAt.sets {w : World} {base c b : Nat} {v x : Value} {t : Bool} (h : VarAt w base v x t c) (f r : Int) (s : ByteArray) (l : Int) (hn : b ≠ c) : VarAt (sets w b f r s l) base v x t c := by
  refine ⟨h.p, h.lo, Nat.lt_of_lt_of_le h.hi (sets_size w b f r s l), fun e => sets_other (h.room e) f r s l hn, fun e => ?_⟩
  obtain ⟨f1, r1, s1, l1, e1, p1⟩ := h.has e
  exact ⟨f1, r1, s1, l1, e1, sets_other p1 f r s l hn⟩
section
variable {S : World → Prop} {base : Nat} {X Y : Array Value} {a0 a : Act} {w w' : World} {l0 l1 l2 l3 l4 l5 l6 l7 : Bool}
theorem inv_store6 (h : Inv2 S base X Y a0 l0 l1 l2 l3 l4 l5 l6 l7 a w) (h1 : l1 = true) (h4 : l4 = true) (h6 : l6 = false) (hset : ∀ w' (p : Addr) v, Held S w' → base ≤ p.block → Held S (w'.setCell p v)) :
    ∃ (b : Nat) (f r : Int) (s : ByteArray) (l : Int), a.tmps.getD 7 undef = .pointer (some ⟨b, 0, none⟩) ∧ a.tmps.getD 16 undef = .agg #[.int .i64 f, .int .u64 r, .string s, .int .i64 l] ∧ PfxAt w b 0 0 ⟨#[]⟩ 0 ∧ Inv2 S base X Y a0 l0 l1 l2 l3 l4 l5 true l7 a (sets w b f r s l) := by
  obtain ⟨hF, hS, i0, i1, i2, i3, i4, i5, i45, i6, i7⟩ := h
  obtain ⟨b, hv⟩ := i4 h4
  obtain ⟨f, r, s, l, e, hc⟩ := i1 h1
  refine ⟨b, f, r, s, l, hv.p, e, hv.room h6, hF, ?_, i0, i1, i2, i3, fun _ => ⟨b, hv.p, hv.lo, Nat.lt_of_lt_of_le hv.hi (sets_size w b f r s l), (fun x => by cases x), fun _ => ⟨f, r, s, l, e, sets_at (hv.room h6) f r s l⟩⟩, ?_, i45, fun _ => ⟨h1, h4⟩, i7⟩
  · exact hset _ _ _ (hset _ _ _ (hset _ _ _ (hset _ _ _ hS hv.lo) hv.lo) hv.lo) hv.lo
  · intro h5
    obtain ⟨c, hw⟩ := i5 h5
    refine ⟨c, hw.sets f r s l ?_⟩
    intro x
    subst x
    exact i45 h4 h5 (by rw [hv.p, hw.p])
theorem inv_store7 (h : Inv2 S base X Y a0 l0 l1 l2 l3 l4 l5 l6 l7 a w) (h3 : l3 = true) (h5 : l5 = true) (h7 : l7 = false) (hset : ∀ w' (p : Addr) v, Held S w' → base ≤ p.block → Held S (w'.setCell p v)) :
    ∃ (b : Nat) (f r : Int) (s : ByteArray) (l : Int), a.tmps.getD 8 undef = .pointer (some ⟨b, 0, none⟩) ∧ a.tmps.getD 18 undef = .agg #[.int .i64 f, .int .u64 r, .string s, .int .i64 l] ∧ PfxAt w b 0 0 ⟨#[]⟩ 0 ∧ Inv2 S base X Y a0 l0 l1 l2 l3 l4 l5 l6 true a (sets w b f r s l) := by
  obtain ⟨hF, hS, i0, i1, i2, i3, i4, i5, i45, i6, i7⟩ := h
  obtain ⟨b, hv⟩ := i5 h5
  obtain ⟨f, r, s, l, e, hc⟩ := i3 h3
  refine ⟨b, f, r, s, l, hv.p, e, hv.room h7, hF, ?_, i0, i1, i2, i3, ?_, fun _ => ⟨b, hv.p, hv.lo, Nat.lt_of_lt_of_le hv.hi (sets_size w b f r s l), (fun x => by cases x), fun _ => ⟨f, r, s, l, e, sets_at (hv.room h7) f r s l⟩⟩, i45, i6, fun _ => ⟨h3, h5⟩⟩
  · exact hset _ _ _ (hset _ _ _ (hset _ _ _ (hset _ _ _ hS hv.lo) hv.lo) hv.lo) hv.lo
  · intro h4
    obtain ⟨c, hw⟩ := i4 h4
    refine ⟨c, hw.sets f r s l ?_⟩
    intro x
    subst x
    exact i45 h4 h5 (by rw [hv.p, hw.p])
end
/-- The whole statement, in whatever order. -/
theorem two_region {S : World → Prop} {base bx by' : Nat} {X Y : Array Value} {a0 : Act} {w0 : World} {ops : Array Oper} {Q : Exit → Act → World → Prop} {id : Nat} {o0 o1 o2 o3 o4 o5 o6 o7 : Oper}
    (hm : Tryd.prog.follows .mixedOrders = true) (n8 : ops.size = 8)
    (h0 : ops[0]? = some o0) (h1 : ops[1]? = some o1) (h2 : ops[2]? = some o2) (h3 : ops[3]? = some o3) (h4 : ops[4]? = some o4) (h5 : ops[5]? = some o5) (h6 : ops[6]? = some o6) (h7 : ops[7]? = some o7)
    (g0 : o0.guard = none) (g1 : o1.guard = none) (g2 : o2.guard = none) (g3 : o3.guard = none) (g4 : o4.guard = none) (g5 : o5.guard = none) (g6 : o6.guard = none) (g7 : o7.guard = none)
    (d0 : o0.dst = some 15) (d1 : o1.dst = some 16) (d2 : o2.dst = some 17) (d3 : o3.dst = some 18) (d4 : o4.dst = some 7) (d5 : o5.dst = some 8) (d6 : o6.dst = none) (d7 : o7.dst = none)
    (p0 : o0.op = .load 43 (.tmp 3)) (p1 : o1.op = .call { callee := .value (.func 30), args := #[.tmp 15], argTypes := #[43] }) (p2 : o2.op = .load 43 (.tmp 4)) (p3 : o3.op = .call { callee := .value (.func 30), args := #[.tmp 17], argTypes := #[43] })
    (p4 : o4.op = .alloc 24) (p5 : o5.op = .alloc 24) (p6 : o6.op = .store 24 (.tmp 7) (.tmp 16)) (p7 : o7.op = .store 24 (.tmp 8) (.tmp 18))
    (hr : ∀ l0 l1 l2 l3 l4 l5 l6 l7 : Bool, ∀ i ∈ Region.ready .any ops #[l0, l1, l2, l3, l4, l5, l6, l7], cond2 i l0 l1 l2 l3 l4 l5 l6 l7 = true)
    (hf : ∀ l0 l1 l2 l3 l4 l5 l6 l7 : Bool, Region.ready .any ops #[l0, l1, l2, l3, l4, l5, l6, l7] = [] → (l0 && l1 && l2 && l3 && l4 && l5 && l6 && l7) = true)
    (e3 : a0.tmps.getD 3 undef = .pointer (some ⟨bx, 0, none⟩)) (e4 : a0.tmps.getD 4 undef = .pointer (some ⟨by', 0, none⟩)) (hz : 18 < a0.tmps.size)
    (ix : (Tryd.prog.info? 43).map (·.size) = some X.size) (iy : (Tryd.prog.info? 43).map (·.size) = some Y.size)
    (sx : ∀ w', Held S w' → w'.heap[bx]? = some (.cells X 43 (0, 0))) (sy : ∀ w', Held S w' → w'.heap[by']? = some (.cells Y 43 (0, 0)))
    (sb : ∀ w' w2, Held S w' → Below w'.heap.size w' w2 → Held S w2) (hset : ∀ w' (p : Addr) v, Held S w' → base ≤ p.block → Held S (w'.setCell p v)) (sbase : ∀ w', Held S w' → base ≤ w'.heap.size)
    (kx : ∀ w', Held S w' → Calls Tryd.prog 30 #[.agg X] w' fun e w2 => ∃ v, e = .returned v ∧ Good v ∧ Below w'.heap.size w' w2)
    (ky : ∀ w', Held S w' → Calls Tryd.prog 30 #[.agg Y] w' fun e w2 => ∃ v, e = .returned v ∧ Good v ∧ Below w'.heap.size w' w2)
    (hS : Held S w0.drew)
    (hQ : ∀ (v15 v17 : Value) (b7 b8 : Nat) (fa ra : Int) (sa : ByteArray) (la fb rb : Int) (sb : ByteArray) (lb : Int) (w' : World), PfxAt w' b7 fa ra sa la → PfxAt w' b8 fb rb sb lb → chk fa ra sa la = 0 → chk fb rb sb lb = 0 → Held S w' →
      Q .normal ((((((a0.put (some 15) v15).put (some 16) (.agg #[.int .i64 fa, .int .u64 ra, .string sa, .int .i64 la])).put (some 17) v17).put (some 18) (.agg #[.int .i64 fb, .int .u64 rb, .string sb, .int .i64 lb])).put (some 7) (.pointer (some ⟨b7, 0, none⟩))).put (some 8) (.pointer (some ⟨b8, 0, none⟩))) w') :
    (Code.region id ops true).wp Tryd.prog Q a0 w0 := by
  refine region_inv hm (fun listed a w => ∃ l0 l1 l2 l3 l4 l5 l6 l7 : Bool, listed = #[l0, l1, l2, l3, l4, l5, l6, l7] ∧ Inv2 S base X Y a0 l0 l1 l2 l3 l4 l5 l6 l7 a w) ?_ ?_ ?_
  · rintro listed a w ⟨l0, l1, l2, l3, l4, l5, l6, l7, rfl, hI⟩ i hi
    have hc := hr l0 l1 l2 l3 l4 l5 l6 l7 i hi
    have hF := hI.1
    have hS := hI.2.1
    match i, hc with
    | 0, hc =>
      refine op_value h0 g0 (ex_load a w (.tmp 3) bx X (0, 0) p0 ((hF.k 3 (by omega) (by omega) (by omega) (by omega) (by omega) (by omega)).trans e3) (sx w hS) ix) ?_
      rw [d0]
      exact ⟨true, l1, l2, l3, l4, l5, l6, l7, rfl, inv_load0 hI hz⟩
    | 1, hc =>
      simp [cond2] at hc
      refine op_enter h1 g1 (ex_call a w (.tmp 15) (.agg X) p1 (hI.2.2.1 hc.1)) ((kx w hS).mono ?_)
      rintro e w2 ⟨v, rfl, hv, hb⟩
      rw [d1]
      exact ⟨v, rfl, l0, true, l2, l3, l4, l5, l6, l7, rfl, inv_call1 hI hz hc.2 hb (sb _ _ hS hb) hv⟩
    | 2, hc =>
      refine op_value h2 g2 (ex_load a w (.tmp 4) by' Y (0, 0) p2 ((hF.k 4 (by omega) (by omega) (by omega) (by omega) (by omega) (by omega)).trans e4) (sy w hS) iy) ?_
      rw [d2]
      exact ⟨l0, l1, true, l3, l4, l5, l6, l7, rfl, inv_load2 hI hz⟩
    | 3, hc =>
      simp [cond2] at hc
      refine op_enter h3 g3 (ex_call a w (.tmp 17) (.agg Y) p3 (hI.2.2.2.2.1 hc.1)) ((ky w hS).mono ?_)
      rintro e w2 ⟨v, rfl, hv, hb⟩
      rw [d3]
      exact ⟨v, rfl, l0, l1, l2, true, l4, l5, l6, l7, rfl, inv_call3 hI hz hc.2 hb (sb _ _ hS hb) hv⟩
    | 4, hc =>
      simp [cond2] at hc
      refine op_value h4 g4 (ex_alloc a w p4) ?_
      rw [d4]
      exact ⟨l0, l1, l2, l3, true, l5, l6, l7, rfl, inv_alloc4 hI hz hc (sbase w hS) (sb _ _ hS ((Below.refl _ _).alloc (Nat.le_refl _) _))⟩
    | 5, hc =>
      simp [cond2] at hc
      refine op_value h5 g5 (ex_alloc a w p5) ?_
      rw [d5]
      exact ⟨l0, l1, l2, l3, l4, true, l6, l7, rfl, inv_alloc5 hI hz hc (sbase w hS) (sb _ _ hS ((Below.refl _ _).alloc (Nat.le_refl _) _))⟩
    | 6, hc =>
      simp [cond2] at hc
      obtain ⟨b, f, r, s, l, q1, q2, hp, hI'⟩ := inv_store6 hI hc.1.1 hc.1.2 hc.2 hset
      refine op_skip h6 g6 (ex_store a w (.tmp 7) (.tmp 16) b f r s l _ _ _ _ p6 q1 q2 hp.c0 hp.c1 hp.c2 hp.c3 hp.f0 hp.f1 hp.f2 hp.f3) ?_
      rw [d6]
      exact ⟨l0, l1, l2, l3, l4, l5, true, l7, rfl, hI'⟩
    | 7, hc =>
      simp [cond2] at hc
      obtain ⟨b, f, r, s, l, q1, q2, hp, hI'⟩ := inv_store7 hI hc.1.1 hc.1.2 hc.2 hset
      refine op_skip h7 g7 (ex_store a w (.tmp 8) (.tmp 18) b f r s l _ _ _ _ p7 q1 q2 hp.c0 hp.c1 hp.c2 hp.c3 hp.f0 hp.f1 hp.f2 hp.f3) ?_
      rw [d7]
      exact ⟨l0, l1, l2, l3, l4, l5, l6, true, rfl, hI'⟩
    | _ + 8, hc => exact absurd hc (by simp [cond2])
  · rintro listed a w ⟨l0, l1, l2, l3, l4, l5, l6, l7, rfl, hI⟩ hd
    have hall := hf l0 l1 l2 l3 l4 l5 l6 l7 hd
    simp only [Bool.and_eq_true] at hall
    obtain ⟨⟨⟨⟨⟨⟨⟨rfl, rfl⟩, rfl⟩, rfl⟩, rfl⟩, rfl⟩, rfl⟩, rfl⟩ := hall
    obtain ⟨hF, hS, i0, i1, i2, i3, i4, i5, i45, i6, i7⟩ := hI
    obtain ⟨b7, v7⟩ := i4 rfl
    obtain ⟨b8, v8⟩ := i5 rfl
    obtain ⟨fa, ra, sa, la, ea, pa⟩ := v7.has rfl
    obtain ⟨fb, rb, sb', lb, eb, pb⟩ := v8.has rfl
    obtain ⟨fa', ra', sa', la', ea', ca⟩ := i1 rfl
    obtain ⟨fb', rb', sb2, lb', eb', cb⟩ := i3 rfl
    have xa := ea.symm.trans ea'
    have xb := eb.symm.trans eb'
    simp at xa xb
    obtain ⟨rfl, rfl, rfl, rfl⟩ := xa
    obtain ⟨rfl, rfl, rfl, rfl⟩ := xb
    rw [hF.form hz rfl ea rfl eb v7.p v8.p]
    exact hQ _ _ b7 b8 fa ra sa la fb rb sb' lb w pa pb ca cb hS
  · refine ⟨false, false, false, false, false, false, false, false, by rw [n8]; rfl, ⟨rfl, rfl, fun _ _ _ _ _ _ _ => rfl⟩, hS, ?_, ?_, ?_, ?_, ?_, ?_, ?_, ?_, ?_⟩
    all_goals (intro e; cases e)
end Go.Proofs.YtkgedoedojkdkaaDoor
