/-
  Frames in a row of their own; Put.
-/
import Derived.Test.YtlinoklgchfedaaDoorB5
namespace Go.Proofs.YtlinoklgchfedaaDoor
open Go.RowKit
theorem slice_of_owns {w : World} {base : Nat} {e : TypeId} {size : Nat} {v : Value} {n : Nat} {xs : List Value} (h : w.ownsRow base e size v n xs) : ∃ ad c, v = .slice ad n c := by
  obtain ⟨_, h | ⟨g, cap, cur, h, _⟩⟩ := h
  · exact ⟨none, 0, by rw [h.1, h.2]⟩
  · exact ⟨_, _, h⟩
theorem owns_mono {w : World} {base base' : Nat} {e : TypeId} {size : Nat} {v : Value} {n : Nat} {xs : List Value} (h : w.ownsRow base e size v n xs) (hb : base' ≤ base) : w.ownsRow base' e size v n xs := by
  obtain ⟨h0, h | ⟨g, cap, cur, h, hg, k⟩⟩ := h
  · exact ⟨h0, Or.inl h⟩
  · exact ⟨h0, Or.inr ⟨g, cap, cur, h, Nat.le_trans hb hg, k⟩⟩
theorem owns_heap' {w w' : World} {base : Nat} {e : TypeId} {size : Nat} {v : Value} {n : Nat} {xs : List Value} (h : w.ownsRow base e size v n xs) (hh : ∀ g, v.ownBlock = some g → w'.heap[g]? = w.heap[g]?) : w'.ownsRow base e size v n xs := by
  obtain ⟨h0, h | ⟨g, cap, cur, rfl, hg, hk, r⟩⟩ := h
  · exact ⟨h0, Or.inl h⟩
  · exact ⟨h0, Or.inr ⟨g, cap, cur, rfl, hg, (hh g rfl).trans hk, r⟩⟩
theorem owns_lt {w : World} {base : Nat} {e : TypeId} {size : Nat} {v : Value} {n : Nat} {xs : List Value} (h : w.ownsRow base e size v n xs) (g : Nat) (hg : v.ownBlock = some g) : base ≤ g ∧ g < w.heap.size := by
  obtain ⟨h0, h | ⟨g', cap, cur, rfl, hg', hk, r⟩⟩ := h
  · rw [h.1] at hg; exact absurd hg (by simp [Value.ownBlock])
  · have : g' = g := by simpa [Value.ownBlock] using hg
    subst this
    exact ⟨hg', (Array.getElem?_eq_some_iff.mp hk).1⟩
theorem owns_below {w w' : World} {base : Nat} {e : TypeId} {size : Nat} {v : Value} {n : Nat} {xs : List Value} (h : w.ownsRow base e size v n xs) (hb : Below w.heap.size w w') : w'.ownsRow base e size v n xs :=
  owns_heap' h fun g hg => hb.block g (owns_lt h g hg).2
theorem owns_beside {w w' : World} {base p b : Nat} {e : TypeId} {size : Nat} {v : Value} {n : Nat} {xs : List Value} (h : w.ownsRow base e size v n xs) (hb : Beside p b w w') (hp : p < base) (hq : b < base) : w'.ownsRow base e size v n xs :=
  owns_heap' h fun g hg => hb.block g (owns_lt h g hg).2 (by have := (owns_lt h g hg).1; omega) (by have := (owns_lt h g hg).1; omega)
def Fm.cs (f : Fm) : List Value := [.int .i64 (f.k : Int), .string ⟨f.b.toArray⟩]
def cellsF (R : List Fm) : List Value := R.flatMap Fm.cs
theorem cellsF_snoc (R : List Fm) (f : Fm) : cellsF (R ++ [f]) = cellsF R ++ [.int .i64 (f.k : Int), .string ⟨f.b.toArray⟩] := by simp [cellsF, Fm.cs]
/-- Frames in a row of their own. -/
def OwnF (w : World) (base : Nat) (v : Value) (R : List Fm) : Prop := w.ownsRow base 37 2 v R.length (cellsF R)
theorem info37 : (Tryd.prog.info? 37).map (fun i => (i.zero, i.size, i.bytes)) = some (some (.agg #[.int .i64 0, .string ⟨#[]⟩]), 2, 24) := by kernel_rfl
theorem two_f (a : Int) (s : ByteArray) : ∀ u ∈ [Value.int .i64 a, .string s], u.oneCell' = true := by
  intro u hu
  simp at hu
  rcases hu with h | h <;> subst h <;> rfl
theorem news2 (w : World) (a b : Value) (t : TypeId) : ∀ (j : Nat) (u : Value), [a, b][j]? = some u → (w.alloc (.cells #[a, b] t)).cell? (Addr.add ⟨w.heap.size, 0, none⟩ j) = some u := by
  intro j u hj
  rcases j with _ | _ | j
  · simp at hj; subst hj; simp [Addr.add]
  · simp at hj; subst hj; simp [Addr.add]
  · simp at hj
/-- What Put answers. -/
def PutOk (r : St × List Fm) (p b : Nat) (w : World) (e : Ending) (w' : World) : Prop :=
  ∃ v, e = .returned (.tuple #[v, verV r.1.sub]) ∧ OwnF w' w.heap.size v r.2 ∧ FrAt w' p b r.1 ∧ Beside p b w w'
def strLen : Value → Nat
  | .string s => s.size
  | _ => 0
theorem put_end {p b : Nat} {s' : St} {R : List Fm} {w W wr w' : World} {v : Value} (ho : OwnF wr W.heap.size v R) (hf : FrAt wr p b s') (hbs : Beside p b W wr) (hb : Below w.heap.size w W) (hs : W.heap.size = w.heap.size + 1) (hp : p < w.heap.size ∧ b < w.heap.size) (hk : Beside w.heap.size w.heap.size wr w') :
    PutOk (s', R) p b w (.returned (.tuple #[v, .agg #[.int .i64 (vaI s'.sub), .int .u8 (vcI s'.sub), .int .u8 (s'.sub : Int)]])) w' := by
  have h1 := hbs.size
  refine ⟨v, rfl, ?_, ?_, ?_⟩
  · exact owns_mono (owns_heap' ho fun g hg => hk.block g (owns_lt ho g hg).2 (by have := (owns_lt ho g hg).1; omega) (by have := (owns_lt ho g hg).1; omega)) (by omega)
  · exact ⟨(hk.block p hf.ltp (by omega) (by omega)).trans hf.row, hf.buf.same (hk.block b hf.buf.lt (by omega) (by omega)), hf.ne, hf.ok⟩
  · have k1 : Beside p b w wr := Beside.trans (Beside.of_below hb (Nat.le_refl _)) hbs
    exact ⟨hk.os.trans k1.os, hk.tape.trans k1.tape, hk.output.trans k1.output, Nat.le_trans k1.size hk.size, fun j hj hjp hjb => (hk.block j (by omega) (by omega) (by omega)).trans (k1.block j hj hjp hjb)⟩
theorem beside_res (h : Nat) (w : World) (n : Nat) (x y z : Value) : Beside h h w ((((w.drewN n).setCell ⟨h, 0, none⟩ x).setCell ⟨h, 1, none⟩ y).setCell ⟨h, 2, none⟩ z) :=
  (((Beside.of_below (below_drewN (Below.refl w.heap.size w) n) (Nat.le_refl _)).trans (Beside.setp _ 0 x)).trans (Beside.setp _ 1 y)).trans (Beside.setp _ 2 z)
set_option maxRecDepth 100000 in
set_option maxHeartbeats 3200000 in
theorem put_any (p b : Nat) (s : St) (c : List UInt8) (w : World) (h : FrAt w p b s) (hs : SzAt w) (hp0 : 0 < p) (hb0 : 0 < b) (hl : c.length ≤ 1000000) :
    Calls Tryd.prog 9 #[.pointer (some ⟨p, 0, none⟩), .string ⟨c.toArray⟩] w fun e w' => PutOk (runI s c) p b w e w' := by
  obtain ⟨i0, hi, hz0, hz1, hz2⟩ := info_parts info37
  obtain ⟨X, hX⟩ : ∃ X, X = runI s c := ⟨_, rfl⟩
  have HX : Hid (_ = _) := hX
  rw [← hX]
  clear hX
  have hb1 : Below w.heap.size w (w.alloc (.cells #[.int .i64 0, .int .u8 0, .int .u8 0] 27)) := (Below.refl _ _).alloc (Nat.le_refl _) _
  have hF : FrAt (w.alloc (.cells #[.int .i64 0, .int .u8 0, .int .u8 0] 27)) p b s := h.below hb1 h.ltp h.buf.lt
  have hr : (w.alloc (.cells #[.int .i64 0, .int .u8 0, .int .u8 0] 27)).heap[w.heap.size]? = some (.cells #[.int .i64 0, .int .u8 0, .int .u8 0] 27 (0, 0)) := hp_new rfl
  have HB1 : Hid (Below w.heap.size w (w.alloc (.cells #[.int .i64 0, .int .u8 0, .int .u8 0] 27))) := hb1
  have HF : Hid (FrAt (w.alloc (.cells #[.int .i64 0, .int .u8 0, .int .u8 0] 27)) p b s) := hF
  have HR : Hid ((w.alloc (.cells #[.int .i64 0, .int .u8 0, .int .u8 0] 27)).heap[w.heap.size]? = some (.cells #[.int .i64 0, .int .u8 0, .int .u8 0] 27 (0, 0))) := hr
  have HZ : Hid (SzAt (w.alloc (.cells #[.int .i64 0, .int .u8 0, .int .u8 0] 27))) := hs.below hb1
  have HP : Hid (p < w.heap.size ∧ b < w.heap.size) := ⟨h.ltp, h.buf.lt⟩
  have HS : Hid ((w.alloc (.cells #[.int .i64 0, .int .u8 0, .int .u8 0] 27)).heap.size = w.heap.size + 1) := by unfold Hid; simp
  have HP0 : Hid (0 < p ∧ 0 < b) := ⟨hp0, hb0⟩
  clear hs h hb1 hF hr hp0 hb0
  go_enter Tryd.func9, Tryd.ntmps9
  go_wp2_with fail
  generalize w.alloc (.cells #[.int .i64 0, .int .u8 0, .int .u8 0] 27) = W at *
  refine (there_yes p W HF.out.c0).mono ?_
  rintro e w1 ⟨rfl, hw1⟩
  obtain rfl : W = w1 := hw1.symm
  clear hw1
  go_wp2
  go_loopw [1, 6] (fun t u wr => ∃ (s' : St) (c' : List UInt8) (R : List Fm), t = .string ⟨c'.toArray⟩ ∧ OwnF wr W.heap.size u R ∧ FrAt wr p b s' ∧ Beside p b W wr ∧ R.length + c'.length ≤ c.length ∧ X = ((runI s' c').1, R ++ (runI s' c').2)) (fun t _ _ => strLen t)
  case atStart => exact ⟨s, c, [], rfl, World.ownsRow_nil _ _ _ _, HF.out, Beside.refl W, by simp, by rw [HX.out]; simp⟩
  case round =>
    obtain ⟨s', c', R, rfl, ho, hfr, hbs, hlen, hx⟩ := hrel
    obtain ⟨ad, cp, rfl⟩ := slice_of_owns ho
    have HO : Hid (OwnF wr W.heap.size _ R) := ho
    have HFR : Hid (FrAt wr p b s') := hfr
    have HBS : Hid (Beside p b W wr) := hbs
    have HXX : Hid (X = _) := hx
    have HLEN : Hid (_ ≤ _) := hlen
    have hlen2 : R.length ≤ 1000000 := by omega
    have hl' : (⟨c'.toArray⟩ : ByteArray).toList = c' := by simp
    clear ho hfr hbs hx hlen
    by_cases hnil : c' = []
    · have HXN : Hid (X = (s', R)) := by unfold Hid; rw [HXX.out, hnil]; simp [runI]
      subst hnil
      clear HXX
      go_wp2
      have HRW : Hid (wr.heap[w.heap.size]? = some (.cells #[.int .i64 0, .int .u8 0, .int .u8 0] 27 (0, 0))) := (HBS.out.block _ (by have := HS.out; omega) (by have := HP.out; omega) (by have := HP.out; omega)).trans HR.out
      have q2 := HFR.out.c2
      have q3 := HFR.out.c3
      have q4 := HFR.out.c4
      have r0 : wr.cell? ⟨w.heap.size, 0, none⟩ = some (.int .i64 0) := cl_row HRW.out rfl
      have r1 : wr.cell? ⟨w.heap.size, 1, none⟩ = some (.int .u8 0) := cl_row HRW.out rfl
      have r2 : wr.cell? ⟨w.heap.size, 2, none⟩ = some (.int .u8 0) := cl_row HRW.out rfl
      have z0 : wr.frozen? ⟨w.heap.size, 0, none⟩ = false := fz_row HRW.out
      have z1 : wr.frozen? ⟨w.heap.size, 1, none⟩ = false := fz_row HRW.out
      have z2 : wr.frozen? ⟨w.heap.size, 2, none⟩ = false := fz_row HRW.out
      generalize hx2 : vaI s'.sub = x2 at *
      generalize hx3 : vcI s'.sub = x3 at *
      have HX2 : Hid (_ = _) := hx2
      have HX3 : Hid (_ = _) := hx3
      have HKE : Hid (∀ w', Beside w.heap.size w.heap.size wr w' → PutOk X p b w (.returned (.tuple #[.slice ad R.length cp, .agg #[.int .i64 x2, .int .u8 x3, .int .u8 (s'.sub : Int)]])) w') := fun w' hw => by
        rw [HXN.out, ← HX2.out, ← HX3.out]
        exact put_end HO.out HFR.out HBS.out HB1.out HS.out HP.out hw
      clear hx2 hx3
      go_region
      all_goals go_wp2
      all_goals refine bodyPost_ret (v := .tuple #[.slice ad R.length cp, .agg #[.int .i64 x2, .int .u8 x3, .int .u8 (s'.sub : Int)]]) (by simp [results, Tryd.results9, go_sem, r0, r1, r2]) rfl ?_
      all_goals exact HKE.out _ (beside_res w.heap.size wr 1 _ _ _)
    · have hne : ((⟨c'.toArray⟩ : ByteArray).toList == []) = false := by rw [hl']; cases c' with | nil => exact absurd rfl hnil | cons => rfl
      have HNE : Hid (c' ≠ []) := hnil
      clear hnil hl'
      by_cases hsub : s'.sub = 0
      · obtain ⟨a, n0⟩ := s'
        simp only at hsub
        subst hsub
        have KB : Hid (Calls Tryd.prog 19 #[.pointer (some ⟨p, 0, none⟩)] wr fun e w' => e = .returned (.bool false) ∧ w' = wr) := broken_any p _ wr HFR.out.c2
        have KT : Hid (_ : Prop) := take_any p b a c' wr HFR.out
        have HPC : Hid (_ : Prop) := run_piece a c' HFR.out.ok HNE.out
        have hgl := goal_le HFR.out.ok rfl
        have hg1 : a.length < goalI a := hgl.1
        have hg2 : goalI a ≤ 4096 := hgl.2
        have hc1 : 1 ≤ c'.length := by have := HNE.out; cases c' with | nil => exact absurd rfl this | cons => simp
        have hxl : (a ++ c'.take (goalI a - a.length)).length ≤ 4096 := by rw [List.length_append, List.length_take]; omega
        have HOK : Hid (OkS (endI (a ++ c'.take (goalI a - a.length))).1) := end_ok a _ HFR.out.ok (by intro z; have t := congrArg List.length z; rw [List.length_take, List.length_nil] at t; omega) (by rw [List.length_take]; omega)
        have HRL : Hid ((c'.drop (goalI a - a.length)).length + 1 ≤ c'.length) := by unfold Hid; rw [List.length_drop]; omega
        rw [HPC.out] at HXX
        generalize a ++ c'.take (goalI a - a.length) = x at *
        generalize c'.drop (goalI a - a.length) = c'' at *
        have HST : Hid ((⟨c'.toArray⟩ : ByteArray).size = c'.length) := list_size c'
        generalize (⟨c'.toArray⟩ : ByteArray) = t at *
        clear hgl hg1 hg2 hc1 HPC HNE
        go_wp2_with fail
        refine Calls.mono KB.out ?_
        rintro e w2 ⟨rfl, hw2⟩
        obtain rfl : wr = w2 := hw2.symm
        clear hw2 KB
        go_wp2_with fail
        refine Calls.mono KT.out ?_
        rintro e w3 ⟨rfl, hw3, hbs3⟩
        have HB3 : Hid (Beside p b W w3) := HBS.out.trans hbs3
        have HO3 : Hid (OwnF w3 W.heap.size (.slice ad R.length cp) R) := owns_beside HO.out hbs3 (by have := HP.out; have := HS.out; omega) (by have := HP.out; have := HS.out; omega)
        have HZ3 : Hid (SzAt w3) := HZ.out.beside HB3.out HP0.out.1 HP0.out.2
        have HW3 : Hid (WtAt w3 p b x) := hw3
        have c1 := hw3.c1
        clear hw3 hbs3 KT HFR HBS HO
        by_cases e19 : x.length = 19
        · by_cases ew : wrongI x = 0
          · by_cases el : x.length = lenI x
            · have HEND : Hid (endI x = (⟨[], 0⟩, [⟨kindI x, x.drop 19⟩])) := by
                unfold Hid endI
                rw [if_neg (by omega), if_pos ⟨by omega, by omega⟩]
              have KJ : Hid (_ : Prop) := judge_fine p b x w3 HW3.out (by omega) HZ3.out ew
              rw [e19] at c1
              go_wp2_with fail
              refine Calls.mono KJ.out ?_
              rintro e w4 ⟨rfl, hw4, hbs4⟩
              have HW4 : Hid (WtAt w4 p b x) := hw4
              have HB4 : Hid (Beside p b W w4) := HB3.out.trans hbs4
              have HO4 : Hid (OwnF w4 W.heap.size (.slice ad R.length cp) R) := owns_beside HO3.out hbs4 (by have := HP.out; have := HS.out; omega) (by have := HP.out; have := HS.out; omega)
              clear hw4 hbs4 KJ HW3 HB3 HO3 HZ3 c1
              have KW : Hid (Calls Tryd.prog 22 #[.pointer (some ⟨p, 0, none⟩)] w4 fun e w' => e = .returned (.bool true) ∧ ∃ q, w' = w4.drewN q) := by
                have k := whole_any p b x w4 HW4.out (by omega)
                rw [show ((x.length : Int) == lenI x) = true by rw [beq_iff_eq]; omega] at k
                exact k
              go_wp2_with fail
              refine Calls.mono KW.out ?_
              rintro e w5 ⟨rfl, q5, rfl⟩
              have HW5 : Hid (WtAt (w4.drewN q5) p b x) := ⟨HW4.out.row, ⟨HW4.out.buf.row⟩, HW4.out.ne⟩
              have HB5 : Hid (Beside p b W (w4.drewN q5)) := HB4.out.then (below_drewN (Below.refl _ _) q5)
              have HO5 : Hid (OwnF (w4.drewN q5) W.heap.size (.slice ad R.length cp) R) := HO4.out
              generalize w4.drewN q5 = w5 at *
              clear KW HW4 HB4 HO4
              have KC : Hid (_ : Prop) := cut_any p b x w5 HW5.out (by omega) hxl
              have HN : Hid (X = ((runI ⟨[], 0⟩ c'').1, (R ++ [⟨kindI x, x.drop 19⟩]) ++ (runI ⟨[], 0⟩ c'').2)) := by unfold Hid; rw [HXX.out, HEND.out]; simp
              generalize kindI x = kk at *
              generalize x.drop 19 = bd at *
              clear HXX HEND HOK
              go_wp2_with fail
              refine Calls.mono KC.out ?_
              rintro e w6 ⟨rfl, hw6, hbs6⟩
              have HW6 : Hid (WtAt w6 p b []) := hw6
              have HB6 : Hid (Beside p b W w6) := HB5.out.trans hbs6
              have HO6 : Hid (OwnF w6 W.heap.size (.slice ad R.length cp) R) := owns_beside HO5.out hbs6 (by have := HP.out; have := HS.out; omega) (by have := HP.out; have := HS.out; omega)
              have h6 := HB6.out.size
              have HNW : Hid (∀ (j : Nat) (u : Value), ([.int .i64 (kk : Int), .string ⟨bd.toArray⟩] : List Value)[j]? = some u → (w6.alloc (.cells #[.int .i64 (kk : Int), .string ⟨bd.toArray⟩] 37)).cell? (Addr.add ⟨w6.heap.size, 0, none⟩ j) = some u) := news2 w6 _ _ 37
              clear hw6 hbs6 KC HW5 HB5 HO5
              go_wp2_with (at_builtin; refine wpList_append_own _ rfl _ _ 25 rfl W.heap.size 37 i0 (.agg #[.int .i64 0, .string ⟨#[]⟩]) 2 24 Tryd.underlying25 hi hz0 hz1 hz2 rfl (by decide) _ _ _ rfl (World.ownsRow.alloc HO6.out _) ⟨w6.heap.size, 0, none⟩ 1 1 [.int .i64 (kk : Int), .string ⟨bd.toArray⟩] rfl rfl HNW.out (two_f _ _) (by unfold maxLen; omega) (by omega) (Nat.le_trans HB6.out.size (by simp)) ?_; intro v7 w7 hown7 hgrow7 _)
              have hos : OwnF w7 W.heap.size v7 (R ++ [⟨kk, bd⟩]) := by
                unfold OwnF; rw [cellsF_snoc, List.length_append]; exact hown7
              obtain ⟨ad7, c7, rfl⟩ := slice_of_owns hown7
              have hbw : Below W.heap.size w6 w7 := ((Below.refl _ _).alloc h6 _).grown hgrow7 (Nat.le_trans h6 (by simp)) (fun k e => (owns_lt HO6.out k e).1)
              have HB7 : Hid (Beside p b W w7) := HB6.out.over hbw (Nat.le_refl _)
              have HFO : Hid (FrAt w7 p b st0) := ⟨(hbw.block p (by have := HP.out; have := HS.out; omega)).trans HW6.out.row, HW6.out.buf.same (hbw.block b (by have := HP.out; have := HS.out; omega)), HW6.out.ne, ok0⟩
              have HOS : Hid (OwnF w7 W.heap.size _ (R ++ [⟨kk, bd⟩])) := hos
              clear hown7 hgrow7 hbw hos HW6 HB6 HO6 HNW
              go_roundw
              case rel => exact ⟨st0, c'', _, rfl, HOS.out, HFO.out, HB7.out, by have := HLEN.out; have := HRL.out; rw [List.length_append]; simp only [List.length_cons, List.length_nil]; omega, HN.out⟩
              case measure => have := HRL.out; have := HST.out; simp only [strLen, list_size]; omega
            · have HEND : Hid (endI x = (⟨x, 0⟩, [])) := by
                unfold Hid endI
                rw [if_neg (by omega), if_neg (by omega)]
              have KJ : Hid (_ : Prop) := judge_fine p b x w3 HW3.out (by omega) HZ3.out ew
              rw [e19] at c1
              go_wp2_with fail
              refine Calls.mono KJ.out ?_
              rintro e w4 ⟨rfl, hw4, hbs4⟩
              have HW4 : Hid (WtAt w4 p b x) := hw4
              have HB4 : Hid (Beside p b W w4) := HB3.out.trans hbs4
              have HO4 : Hid (OwnF w4 W.heap.size (.slice ad R.length cp) R) := owns_beside HO3.out hbs4 (by have := HP.out; have := HS.out; omega) (by have := HP.out; have := HS.out; omega)
              clear hw4 hbs4 KJ HW3 HB3 HO3 HZ3 c1
              have KW : Hid (Calls Tryd.prog 22 #[.pointer (some ⟨p, 0, none⟩)] w4 fun e w' => e = .returned (.bool false) ∧ ∃ q, w' = w4.drewN q) := by
                have k := whole_any p b x w4 HW4.out (by omega)
                rw [show ((x.length : Int) == lenI x) = false by rw [beq_eq_false_iff_ne]; omega] at k
                exact k
              go_wp2_with fail
              refine Calls.mono KW.out ?_
              rintro e w5 ⟨rfl, q5, rfl⟩
              have HW5 : Hid (WtAt (w4.drewN q5) p b x) := ⟨HW4.out.row, ⟨HW4.out.buf.row⟩, HW4.out.ne⟩
              have HB5 : Hid (Beside p b W (w4.drewN q5)) := HB4.out.then (below_drewN (Below.refl _ _) q5)
              have HO5 : Hid (OwnF (w4.drewN q5) W.heap.size (.slice ad R.length cp) R) := HO4.out
              generalize w4.drewN q5 = w5 at *
              clear KW HW4 HB4 HO4
              have HN : Hid (X = ((runI ⟨x, 0⟩ c'').1, R ++ (runI ⟨x, 0⟩ c'').2)) := by unfold Hid; rw [HXX.out, HEND.out]; simp
              have HFO : Hid (FrAt w5 p b ⟨x, 0⟩) := ⟨HW5.out.row, HW5.out.buf, HW5.out.ne, by have := HOK.out; rw [HEND.out] at this; exact this⟩
              go_wp2
              go_roundw
              case rel => exact ⟨⟨x, 0⟩, c'', R, rfl, HO5.out, HFO.out, HB5.out, by have := HLEN.out; have := HRL.out; omega, HN.out⟩
              case measure => have := HRL.out; have := HST.out; simp only [strLen, list_size]; omega
          · have HEND : Hid (endI x = (⟨[], wrongI x⟩, [])) := by
              unfold Hid endI
              rw [if_pos ⟨e19, ew⟩]
            have KJ : Hid (_ : Prop) := judge_wrong p b x w3 HW3.out (by omega) HZ3.out (wrongI x) rfl ew
            have HEW : Hid (wrongI x ≠ 0) := ew
            rw [e19] at c1
            clear ew
            generalize wrongI x = m at *
            go_wp2_with fail
            refine Calls.mono KJ.out ?_
            rintro e w4 ⟨rfl, hw4, hbs4⟩
            have HW4 : Hid (BrAt w4 p b m) := hw4
            have HB4 : Hid (Beside p b W w4) := HB3.out.trans hbs4
            have HO4 : Hid (OwnF w4 W.heap.size (.slice ad R.length cp) R) := owns_beside HO3.out hbs4 (by have := HP.out; have := HS.out; omega) (by have := HP.out; have := HS.out; omega)
            clear hw4 hbs4 KJ HW3 HB3 HO3 HZ3 c1
            have KW : Hid (_ : Prop) := whole_no p 0 0 none w4 (cl_row HW4.out.row rfl) (by decide)
            go_wp2_with fail
            refine Calls.mono KW.out ?_
            rintro e w5 ⟨rfl, q5, rfl⟩
            have HB5 : Hid (Beside p b W (w4.drewN q5)) := HB4.out.then (below_drewN (Below.refl _ _) q5)
            have HO5 : Hid (OwnF (w4.drewN q5) W.heap.size (.slice ad R.length cp) R) := HO4.out
            have HFO : Hid (FrAt (w4.drewN q5) p b ⟨[], m⟩) := ⟨by
              have e := HW4.out.row
              simp only [wv, vaI, vcI, if_neg HEW.out]
              exact e, ⟨HW4.out.buf.row⟩, HW4.out.ne, by have := HOK.out; rw [HEND.out] at this; exact this⟩
            generalize w4.drewN q5 = w5 at *
            have HN : Hid (X = ((runI ⟨[], m⟩ c'').1, R ++ (runI ⟨[], m⟩ c'').2)) := by unfold Hid; rw [HXX.out, HEND.out]; simp
            clear KW HW4 HB4 HO4
            go_wp2
            go_roundw
            case rel => exact ⟨⟨[], m⟩, c'', R, rfl, HO5.out, HFO.out, HB5.out, by have := HLEN.out; have := HRL.out; omega, HN.out⟩
            case measure => have := HRL.out; have := HST.out; simp only [strLen, list_size]; omega
        · by_cases es : x.length < 19
          · have HEND : Hid (endI x = (⟨x, 0⟩, [])) := by
              unfold Hid endI
              rw [if_neg (by omega), if_neg (by omega)]
            have x19 : ((x.length : Int) == 19) = false := by rw [beq_eq_false_iff_ne]; omega
            have KW : Hid (_ : Prop) := whole_no p x.length 4096 (some ⟨b, 0, none⟩) w3 c1 es
            go_wp2_with fail
            refine Calls.mono KW.out ?_
            rintro e w5 ⟨rfl, q5, rfl⟩
            have HW5 : Hid (WtAt (w3.drewN q5) p b x) := ⟨HW3.out.row, ⟨HW3.out.buf.row⟩, HW3.out.ne⟩
            have HB5 : Hid (Beside p b W (w3.drewN q5)) := HB3.out.then (below_drewN (Below.refl _ _) q5)
            have HO5 : Hid (OwnF (w3.drewN q5) W.heap.size (.slice ad R.length cp) R) := HO3.out
            generalize w3.drewN q5 = w5 at *
            clear KW HW3 HB3 HO3
            have HN : Hid (X = ((runI ⟨x, 0⟩ c'').1, R ++ (runI ⟨x, 0⟩ c'').2)) := by unfold Hid; rw [HXX.out, HEND.out]; simp
            have HFO : Hid (FrAt w5 p b ⟨x, 0⟩) := ⟨HW5.out.row, HW5.out.buf, HW5.out.ne, by have := HOK.out; rw [HEND.out] at this; exact this⟩
            go_wp2
            go_roundw
            case rel => exact ⟨⟨x, 0⟩, c'', R, rfl, HO5.out, HFO.out, HB5.out, by have := HLEN.out; have := HRL.out; omega, HN.out⟩
            case measure => have := HRL.out; have := HST.out; simp only [strLen, list_size]; omega
          · by_cases el : x.length = lenI x
            · have HEND : Hid (endI x = (⟨[], 0⟩, [⟨kindI x, x.drop 19⟩])) := by
                unfold Hid endI
                rw [if_neg (by omega), if_pos ⟨by omega, by omega⟩]
              have x19 : ((x.length : Int) == 19) = false := by rw [beq_eq_false_iff_ne]; omega
              have KW : Hid (Calls Tryd.prog 22 #[.pointer (some ⟨p, 0, none⟩)] w3 fun e w' => e = .returned (.bool true) ∧ ∃ q, w' = w3.drewN q) := by
                have k := whole_any p b x w3 HW3.out (by omega)
                rw [show ((x.length : Int) == lenI x) = true by rw [beq_iff_eq]; omega] at k
                exact k
              go_wp2_with fail
              refine Calls.mono KW.out ?_
              rintro e w5 ⟨rfl, q5, rfl⟩
              have HW5 : Hid (WtAt (w3.drewN q5) p b x) := ⟨HW3.out.row, ⟨HW3.out.buf.row⟩, HW3.out.ne⟩
              have HB5 : Hid (Beside p b W (w3.drewN q5)) := HB3.out.then (below_drewN (Below.refl _ _) q5)
              have HO5 : Hid (OwnF (w3.drewN q5) W.heap.size (.slice ad R.length cp) R) := HO3.out
              generalize w3.drewN q5 = w5 at *
              clear KW HW3 HB3 HO3
              have KC : Hid (_ : Prop) := cut_any p b x w5 HW5.out (by omega) hxl
              have HN : Hid (X = ((runI ⟨[], 0⟩ c'').1, (R ++ [⟨kindI x, x.drop 19⟩]) ++ (runI ⟨[], 0⟩ c'').2)) := by unfold Hid; rw [HXX.out, HEND.out]; simp
              generalize kindI x = kk at *
              generalize x.drop 19 = bd at *
              clear HXX HEND HOK
              go_wp2_with fail
              refine Calls.mono KC.out ?_
              rintro e w6 ⟨rfl, hw6, hbs6⟩
              have HW6 : Hid (WtAt w6 p b []) := hw6
              have HB6 : Hid (Beside p b W w6) := HB5.out.trans hbs6
              have HO6 : Hid (OwnF w6 W.heap.size (.slice ad R.length cp) R) := owns_beside HO5.out hbs6 (by have := HP.out; have := HS.out; omega) (by have := HP.out; have := HS.out; omega)
              have h6 := HB6.out.size
              have HNW : Hid (∀ (j : Nat) (u : Value), ([.int .i64 (kk : Int), .string ⟨bd.toArray⟩] : List Value)[j]? = some u → (w6.alloc (.cells #[.int .i64 (kk : Int), .string ⟨bd.toArray⟩] 37)).cell? (Addr.add ⟨w6.heap.size, 0, none⟩ j) = some u) := news2 w6 _ _ 37
              clear hw6 hbs6 KC HW5 HB5 HO5
              go_wp2_with (at_builtin; refine wpList_append_own _ rfl _ _ 25 rfl W.heap.size 37 i0 (.agg #[.int .i64 0, .string ⟨#[]⟩]) 2 24 Tryd.underlying25 hi hz0 hz1 hz2 rfl (by decide) _ _ _ rfl (World.ownsRow.alloc HO6.out _) ⟨w6.heap.size, 0, none⟩ 1 1 [.int .i64 (kk : Int), .string ⟨bd.toArray⟩] rfl rfl HNW.out (two_f _ _) (by unfold maxLen; omega) (by omega) (Nat.le_trans HB6.out.size (by simp)) ?_; intro v7 w7 hown7 hgrow7 _)
              have hos : OwnF w7 W.heap.size v7 (R ++ [⟨kk, bd⟩]) := by
                unfold OwnF; rw [cellsF_snoc, List.length_append]; exact hown7
              obtain ⟨ad7, c7, rfl⟩ := slice_of_owns hown7
              have hbw : Below W.heap.size w6 w7 := ((Below.refl _ _).alloc h6 _).grown hgrow7 (Nat.le_trans h6 (by simp)) (fun k e => (owns_lt HO6.out k e).1)
              have HB7 : Hid (Beside p b W w7) := HB6.out.over hbw (Nat.le_refl _)
              have HFO : Hid (FrAt w7 p b st0) := ⟨(hbw.block p (by have := HP.out; have := HS.out; omega)).trans HW6.out.row, HW6.out.buf.same (hbw.block b (by have := HP.out; have := HS.out; omega)), HW6.out.ne, ok0⟩
              have HOS : Hid (OwnF w7 W.heap.size _ (R ++ [⟨kk, bd⟩])) := hos
              clear hown7 hgrow7 hbw hos HW6 HB6 HO6 HNW
              go_roundw
              case rel => exact ⟨st0, c'', _, rfl, HOS.out, HFO.out, HB7.out, by have := HLEN.out; have := HRL.out; rw [List.length_append]; simp only [List.length_cons, List.length_nil]; omega, HN.out⟩
              case measure => have := HRL.out; have := HST.out; simp only [strLen, list_size]; omega
            · have HEND : Hid (endI x = (⟨x, 0⟩, [])) := by
                unfold Hid endI
                rw [if_neg (by omega), if_neg (by omega)]
              have x19 : ((x.length : Int) == 19) = false := by rw [beq_eq_false_iff_ne]; omega
              have KW : Hid (Calls Tryd.prog 22 #[.pointer (some ⟨p, 0, none⟩)] w3 fun e w' => e = .returned (.bool false) ∧ ∃ q, w' = w3.drewN q) := by
                have k := whole_any p b x w3 HW3.out (by omega)
                rw [show ((x.length : Int) == lenI x) = false by rw [beq_eq_false_iff_ne]; omega] at k
                exact k
              go_wp2_with fail
              refine Calls.mono KW.out ?_
              rintro e w5 ⟨rfl, q5, rfl⟩
              have HW5 : Hid (WtAt (w3.drewN q5) p b x) := ⟨HW3.out.row, ⟨HW3.out.buf.row⟩, HW3.out.ne⟩
              have HB5 : Hid (Beside p b W (w3.drewN q5)) := HB3.out.then (below_drewN (Below.refl _ _) q5)
              have HO5 : Hid (OwnF (w3.drewN q5) W.heap.size (.slice ad R.length cp) R) := HO3.out
              generalize w3.drewN q5 = w5 at *
              clear KW HW3 HB3 HO3
              have HN : Hid (X = ((runI ⟨x, 0⟩ c'').1, R ++ (runI ⟨x, 0⟩ c'').2)) := by unfold Hid; rw [HXX.out, HEND.out]; simp
              have HFO : Hid (FrAt w5 p b ⟨x, 0⟩) := ⟨HW5.out.row, HW5.out.buf, HW5.out.ne, by have := HOK.out; rw [HEND.out] at this; exact this⟩
              go_wp2
              go_roundw
              case rel => exact ⟨⟨x, 0⟩, c'', R, rfl, HO5.out, HFO.out, HB5.out, by have := HLEN.out; have := HRL.out; omega, HN.out⟩
              case measure => have := HRL.out; have := HST.out; simp only [strLen, list_size]; omega
      · have HXN : Hid (X = (s', R)) := by unfold Hid; rw [HXX.out, run_broken _ _ hsub]; simp
        have KB : Hid (Calls Tryd.prog 19 #[.pointer (some ⟨p, 0, none⟩)] wr fun e w' => e = .returned (.bool true) ∧ w' = wr) := by
          have k := broken_any p _ wr HFR.out.c2
          rw [va_ne, decide_eq_false hsub] at k
          exact k
        generalize (⟨c'.toArray⟩ : ByteArray) = t at *
        clear HXX hsub
        go_wp2_with fail
        refine Calls.mono KB.out ?_
        rintro e w2 ⟨rfl, hw2⟩
        obtain rfl : wr = w2 := hw2.symm
        clear hw2 KB
        go_wp2
        have HRW : Hid (wr.heap[w.heap.size]? = some (.cells #[.int .i64 0, .int .u8 0, .int .u8 0] 27 (0, 0))) := (HBS.out.block _ (by have := HS.out; omega) (by have := HP.out; omega) (by have := HP.out; omega)).trans HR.out
        have q2 := HFR.out.c2
        have q3 := HFR.out.c3
        have q4 := HFR.out.c4
        have r0 : wr.cell? ⟨w.heap.size, 0, none⟩ = some (.int .i64 0) := cl_row HRW.out rfl
        have r1 : wr.cell? ⟨w.heap.size, 1, none⟩ = some (.int .u8 0) := cl_row HRW.out rfl
        have r2 : wr.cell? ⟨w.heap.size, 2, none⟩ = some (.int .u8 0) := cl_row HRW.out rfl
        have z0 : wr.frozen? ⟨w.heap.size, 0, none⟩ = false := fz_row HRW.out
        have z1 : wr.frozen? ⟨w.heap.size, 1, none⟩ = false := fz_row HRW.out
        have z2 : wr.frozen? ⟨w.heap.size, 2, none⟩ = false := fz_row HRW.out
        generalize hx2 : vaI s'.sub = x2 at *
        generalize hx3 : vcI s'.sub = x3 at *
        have HX2 : Hid (_ = _) := hx2
        have HX3 : Hid (_ = _) := hx3
        have HKE : Hid (∀ w', Beside w.heap.size w.heap.size wr w' → PutOk X p b w (.returned (.tuple #[.slice ad R.length cp, .agg #[.int .i64 x2, .int .u8 x3, .int .u8 (s'.sub : Int)]])) w') := fun w' hw => by
          rw [HXN.out, ← HX2.out, ← HX3.out]
          exact put_end HO.out HFR.out HBS.out HB1.out HS.out HP.out hw
        clear hx2 hx3
        go_region
        all_goals go_wp2
        all_goals refine bodyPost_ret (v := .tuple #[.slice ad R.length cp, .agg #[.int .i64 x2, .int .u8 x3, .int .u8 (s'.sub : Int)]]) (by simp [results, Tryd.results9, go_sem, r0, r1, r2]) rfl ?_
        all_goals exact HKE.out _ (beside_res w.heap.size wr 1 _ _ _)
end Go.Proofs.YtlinoklgchfedaaDoor
