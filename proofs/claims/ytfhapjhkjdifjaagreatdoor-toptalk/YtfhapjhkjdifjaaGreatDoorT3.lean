/-
  What one says: the frames of a talk, in turn.
-/
import Derived.Test.YtfhapjhkjdifjaaGreatDoorT2
import Derived.Test.YtfhapjhkjdifjaaGreatDoorP4
import Derived.Test.YtfhapjhkjdifjaaGreatDoormZ
import Derived.Deep.MidRow
namespace Go.Proofs.YtfhapjhkjdifjaaGreatDoor
open Go.RowKit
open Fr (Fm OwnF cellsF)
/-- A note: its code, its subcode, its data. -/
structure Nt where
  c : Nat
  s : Nat
  d : List UInt8
/-- Opens in memory. -/
def OpensAt (w : World) (v : Value) (L : List Opn) : Prop :=
  ∃ (ad : Option Addr) (b off cap : Nat), v = .slice ad L.length cap ∧ (ad = some ⟨b, off, none⟩ ∨ L.length = 0) ∧ ∀ j (h : j < L.length), OpnWf L[j] ∧ ∃ vf va vk, w.rangeAt b (off + j * 11) (opC L[j] vf va vk).toList ∧ ListsAt w L[j] vf va vk
/-- Notes in memory. -/
def NotesAt (w : World) (v : Value) (L : List Nt) : Prop :=
  ∃ (ad : Option Addr) (b off cap : Nat), v = .slice ad L.length cap ∧ (ad = some ⟨b, off, none⟩ ∨ L.length = 0) ∧ ∀ j (h : j < L.length), (L[j].c < 256 ∧ L[j].s < 256 ∧ L[j].d.length ≤ 281474976710656) ∧ w.cell? ⟨b, off + j * 3, none⟩ = some (.int .u8 (L[j].c : Int)) ∧ w.cell? ⟨b, off + j * 3 + 1, none⟩ = some (.int .u8 (L[j].s : Int)) ∧ w.cell? ⟨b, off + j * 3 + 2, none⟩ = some (.string ⟨L[j].d.toArray⟩)
/-- What a talk's frame is. -/
def Meant (f : Fm) : Prop :=
  (f.k = 1 ∧ ∃ o : Opn, mayB o = true ∧ OpnWf o ∧ f.b = encL o) ∨
  (f.k = 3 ∧ ∃ (c s : Nat) (d : List UInt8), c < 256 ∧ s < 256 ∧ c ≠ 0 ∧ d.length ≤ 4075 ∧ f.b = Ms.ntL c s d) ∨
  (f.k = 4 ∧ f.b = []) ∨
  (f.k = 5 ∧ ∃ x : Int, isF x = true ∧ f.b = Ms.rfL x)
theorem newsN (w : World) (l : List Value) (t : TypeId) : ∀ (j : Nat) (u : Value), l[j]? = some u → (w.alloc (.cells l.toArray t)).cell? (Addr.add ⟨w.heap.size, 0, none⟩ j) = some u := by
  intro j u hj
  rw [Addr.add_mid, Nat.zero_add]
  exact cl_row (hp_new rfl) (by simpa using hj)
theorem nt_cases (c s : Nat) (d : List UInt8) : (∃ e : Int, (e = 2 ∨ e = 3) ∧ Ms.ntA c s d = .tuple #[.string ⟨#[]⟩, .int .i64 e]) ∨ (c ≠ 0 ∧ d.length ≤ 4075 ∧ Ms.ntA c s d = .tuple #[.string ⟨(Ms.ntL c s d).toArray⟩, .int .i64 0]) := by
  by_cases h0 : c = 0
  · exact Or.inl ⟨2, Or.inl rfl, by unfold Ms.ntA; rw [if_pos h0]⟩
  · by_cases h1 : 4075 < d.length
    · exact Or.inl ⟨3, Or.inr rfl, by unfold Ms.ntA; rw [if_neg h0, if_pos h1]⟩
    · exact Or.inr ⟨h0, by omega, by unfold Ms.ntA; rw [if_neg h0, if_neg h1]⟩
theorem size50 : (Tryz.prog.info? 50).map (·.size) = some 11 := by kernel_rfl
theorem blkT {w w' : World} {b : Nat} {x : Obj} (hb : Below w.heap.size w w') (h : w.heap[b]? = some x) : w'.heap[b]? = some x := (hb.block _ (lt_of_heap h)).trans h
theorem range_below {w w' : World} {b o : Nat} {l : List Value} (hb : Below w.heap.size w w') (h : w.rangeAt b o l) : w'.rangeAt b o l := fun j v hj => below_cell hb (h j v hj)
theorem intOf_nat (n : Nat) : (Fr.intOf (.int .i64 (n : Int))).toNat = n := by simp [Fr.intOf]
set_option maxRecDepth 100000 in
set_option maxHeartbeats 12800000 in
theorem said_any (OL : List Opn) (NL : List Nt) (FL : List Int) (ao an af : Option Addr) (ko kn kf : Nat) (vc : Value) (w : World) (hg : FamSizes w)
    (hO : OpensAt w (.slice ao OL.length ko) OL) (hN : NotesAt w (.slice an NL.length kn) NL) (hF : IntsAt w (.slice af FL.length kf) FL) :
    Calls Tryz.prog 5 #[.agg #[.slice ao OL.length ko, .slice an NL.length kn, .slice af FL.length kf, vc]] w fun e w' => ∃ (R : List Fm) (ad : Option Addr) (cp : Nat), e = .returned (.slice ad R.length cp) ∧ OwnF w' w.heap.size (.slice ad R.length cp) R ∧ (∀ f ∈ R, Meant f) ∧ R.length ≤ 80 ∧ Below w.heap.size w w' := by
  obtain ⟨i0, hi, hz0, hz1, hz2⟩ := info_parts Fr.info37
  have hbw0 : Below w.heap.size w (w.alloc (.cells #[.slice ao OL.length ko, .slice an NL.length kn, .slice af FL.length kf, vc] 27)) := (Below.refl _ _).alloc (Nat.le_refl _) _
  have HT : Hid ((w.alloc (.cells #[.slice ao OL.length ko, .slice an NL.length kn, .slice af FL.length kf, vc] 27)).heap[w.heap.size]? = some (.cells #[.slice ao OL.length ko, .slice an NL.length kn, .slice af FL.length kf, vc] 27 (0, 0))) := hp_new rfl
  have HG : Hid (FamSizes (w.alloc (.cells #[.slice ao OL.length ko, .slice an NL.length kn, .slice af FL.length kf, vc] 27))) := hg.below hbw0
  have HBW0 : Hid (Below _ _ _) := hbw0
  have hWs : w.heap.size ≤ (w.alloc (.cells #[.slice ao OL.length ko, .slice an NL.length kn, .slice af FL.length kf, vc] 27)).heap.size := by simp
  have HWS : Hid (_ ≤ _) := hWs
  obtain ⟨ao', bo, oo, ko', e1, hao, hop⟩ := hO
  obtain ⟨an', bn, on, kn', e2, han, hno⟩ := hN
  obtain ⟨af', bf, of_, kf', e3, haf, _, hfa⟩ := hF
  simp only [Value.slice.injEq, true_and] at e1 e2 e3
  obtain ⟨rfl, rfl⟩ := e1
  obtain ⟨rfl, rfl⟩ := e2
  obtain ⟨rfl, rfl⟩ := e3
  have HAO : Hid (ao = some ⟨bo, oo, none⟩ ∨ OL.length = 0) := hao
  have HAN : Hid (an = some ⟨bn, on, none⟩ ∨ NL.length = 0) := han
  have HAF : Hid (af = some ⟨bf, of_, none⟩ ∨ FL.length = 0) := haf
  have HOP : Hid (∀ j (h : j < OL.length), OpnWf OL[j] ∧ ∃ vf va vk, (w.alloc (.cells #[.slice ao OL.length ko, .slice an NL.length kn, .slice af FL.length kf, vc] 27)).rangeAt bo (oo + j * 11) (opC OL[j] vf va vk).toList ∧ ListsAt (w.alloc (.cells #[.slice ao OL.length ko, .slice an NL.length kn, .slice af FL.length kf, vc] 27)) OL[j] vf va vk) := fun j h => by
    obtain ⟨a, vf, va, vk, b, c⟩ := hop j h
    exact ⟨a, vf, va, vk, range_below hbw0 b, c.below hbw0⟩
  have HNO : Hid (∀ j (h : j < NL.length), (NL[j].c < 256 ∧ NL[j].s < 256 ∧ NL[j].d.length ≤ 281474976710656) ∧ (w.alloc (.cells #[.slice ao OL.length ko, .slice an NL.length kn, .slice af FL.length kf, vc] 27)).cell? ⟨bn, on + j * 3, none⟩ = some (.int .u8 (NL[j].c : Int)) ∧ (w.alloc (.cells #[.slice ao OL.length ko, .slice an NL.length kn, .slice af FL.length kf, vc] 27)).cell? ⟨bn, on + j * 3 + 1, none⟩ = some (.int .u8 (NL[j].s : Int)) ∧ (w.alloc (.cells #[.slice ao OL.length ko, .slice an NL.length kn, .slice af FL.length kf, vc] 27)).cell? ⟨bn, on + j * 3 + 2, none⟩ = some (.string ⟨NL[j].d.toArray⟩)) := fun j h => by
    obtain ⟨a, b, c, d⟩ := hno j h
    exact ⟨a, below_cell hbw0 b, below_cell hbw0 c, below_cell hbw0 d⟩
  have HFA : Hid (∀ j (h : j < FL.length), (w.alloc (.cells #[.slice ao OL.length ko, .slice an NL.length kn, .slice af FL.length kf, vc] 27)).cell? ⟨bf, of_ + j, none⟩ = some (.int .i64 FL[j])) := fun j h => below_cell hbw0 (hfa j h)
  clear hao han haf hop hno hfa hg hbw0 hWs
  go_enter Tryz.func5, Tryz.ntmps5
  go_wp2_with fail
  generalize w.alloc (.cells #[.slice ao OL.length ko, .slice an NL.length kn, .slice af FL.length kf, vc] 27) = W at *
  go_loopw [3, 4] (fun u i wr => ∃ (n : Nat) (G : List Fm), i = .int .i64 (n : Int) ∧ n ≤ 20 ∧ OwnF wr W.heap.size u G ∧ (∀ f ∈ G, Meant f) ∧ G.length ≤ 4 * n ∧ Below W.heap.size W wr) (fun _ i _ => 20 - (Fr.intOf i).toNat)
  case atStart => exact ⟨0, [], rfl, by omega, World.ownsRow_nil _ _ _ _, fun f hf => by simp at hf, by simp, Below.refl _ _⟩
  case round =>
    obtain ⟨n, G, rfl, hn, ho, hmt, hgl, hb⟩ := hrel
    obtain ⟨adg, cpg, rfl⟩ := Fr.slice_of_owns ho
    have HO0 : Hid (OwnF wr W.heap.size (.slice adg G.length cpg) G) := ho
    have HM0 : Hid (∀ f ∈ G, Meant f) := hmt
    have HB0 : Hid (Below W.heap.size W wr) := hb
    clear ho hmt hb
    by_cases hlt20 : n < 20
    · have hl20 : (n : Int) < 20 := by omega
      clear HBW0 HWS
      by_cases hho : n < OL.length
      · have hlto : (n : Int) < OL.length := by omega
        obtain rfl : ao = some ⟨bo, oo, none⟩ := by rcases HAO.out with h | h; exact h; omega
        obtain ⟨hwf, vf, va, vk, hrg, hls⟩ := HOP.out n hho
        have HWF : Hid (OpnWf OL[n]) := hwf
        have HRG : Hid (W.rangeAt bo (oo + n * 11) (opC OL[n] vf va vk).toList) := hrg
        have HLS : Hid (ListsAt W OL[n] vf va vk) := hls
        clear hwf hrg hls
        generalize OL[n] = ob at *
        cases hm : mayB ob with
        | false =>
          have KE : Hid (∀ X, Below W.heap.size W X → _) := fun X hX => encode_no ob vf va vk X (HG.out.below hX) (HLS.out.below hX) hm
          clear HWF HLS hm
          by_cases hhn : n < NL.length
          · have hltn : (n : Int) < NL.length := by omega
            obtain rfl : an = some ⟨bn, on, none⟩ := by rcases HAN.out with h | h; exact h; omega
            obtain ⟨⟨hc, hs, hd⟩, x0, x1, x2⟩ := HNO.out n hhn
            have HX0 : Hid (_ = _) := x0
            have HX1 : Hid (_ = _) := x1
            have HX2 : Hid (_ = _) := x2
            generalize NL[n] = nt at *
            have KN : Hid (∀ X, Below W.heap.size W X → _) := fun X _ => Ms.note_any nt.c nt.s nt.d hc hs hd X
            have HNB : Hid (nt.c < 256 ∧ nt.s < 256) := ⟨hc, hs⟩
            unfold Ms.ntC at KN
            clear x0 x1 x2 hc hs hd
            rcases nt_cases nt.c nt.s nt.d with ⟨e2, he2, hA⟩ | ⟨hz, hd, hA⟩
            · rw [hA] at KN
              have ge : (e2 == 0) = false := beq_eq_false_iff_ne.2 (by omega)
              clear he2 hA HNB
              by_cases hhf : n < FL.length
              · have hltf : (n : Int) < FL.length := by omega
                obtain rfl : af = some ⟨bf, of_, none⟩ := by rcases HAF.out with h | h; exact h; omega
                have HF0 : Hid (_ = _) := HFA.out n hhf
                generalize FL[n] = fx at *
                have KR : Hid (∀ X, Below W.heap.size W X → _) := fun X hX => Ms.refresh_any fx X (HG.out.below hX)
                cases hf : isF fx with
                | false =>
                  rw [show Ms.rfA fx = .tuple #[.string ⟨#[]⟩, .int .i64 2] by unfold Ms.rfA; rw [hf]; rfl] at KR
                  clear hf
                  have hsz0 := HB0.out.size
                  have t0 := cl_row (i := 0) (blkT HB0.out HT.out) rfl
                  have t1 := cl_row (i := 1) (blkT HB0.out HT.out) rfl
                  have t2 := cl_row (i := 2) (blkT HB0.out HT.out) rfl
                  have c0 := below_cell HB0.out HX0.out
                  have c1 := below_cell HB0.out HX1.out
                  have c2 := below_cell HB0.out HX2.out
                  have f0 := below_cell HB0.out HF0.out
                  have HRW : Hid (wr.rangeAt bo (oo + n * 11) (opC ob vf va vk).toList) := range_below HB0.out HRG.out
                  go_wp2_with (refine wpList_load_mid rfl 50 _ rfl bo (oo + n * 11) rfl (opC ob vf va vk).toList _ HRW.out Tryz.underlying50 rfl size50 ?_)
                  refine Calls.mono (KE.out wr HB0.out) ?_
                  rintro e wq1 ⟨rfl, hb⟩
                  clear t0 t1 t2 c0 c1 c2 f0
                  have HBq1 : Hid (Below W.heap.size W wq1) := HB0.out.trans (hb.mono hsz0)
                  have HOq1 : Hid (wq1.ownsRow W.heap.size 35 2 (.slice adg (G.length) cpg) (G.length) (cellsF (G))) := Fr.owns_below HO0.out hb
                  have hszq1 := HBq1.out.size
                  clear hb HO0 HB0 hsz0
                  have t0 := cl_row (i := 0) (blkT HBq1.out HT.out) rfl
                  have t1 := cl_row (i := 1) (blkT HBq1.out HT.out) rfl
                  have t2 := cl_row (i := 2) (blkT HBq1.out HT.out) rfl
                  have c0 := below_cell HBq1.out HX0.out
                  have c1 := below_cell HBq1.out HX1.out
                  have c2 := below_cell HBq1.out HX2.out
                  have f0 := below_cell HBq1.out HF0.out
                  go_wp2_with fail
                  refine Calls.mono (KN.out wq1 HBq1.out) ?_
                  rintro e wq2 ⟨rfl, hb⟩
                  clear t0 t1 t2 c0 c1 c2 f0
                  have HBq2 : Hid (Below W.heap.size W wq2) := HBq1.out.trans (hb.mono hszq1)
                  have HOq2 : Hid (wq2.ownsRow W.heap.size 35 2 (.slice adg (G.length) cpg) (G.length) (cellsF (G))) := Fr.owns_below HOq1.out hb
                  have hszq2 := HBq2.out.size
                  clear hb HOq1 HBq1 hszq1
                  have t0 := cl_row (i := 0) (blkT HBq2.out HT.out) rfl
                  have t1 := cl_row (i := 1) (blkT HBq2.out HT.out) rfl
                  have t2 := cl_row (i := 2) (blkT HBq2.out HT.out) rfl
                  have f0 := below_cell HBq2.out HF0.out
                  go_wp2_with fail
                  refine Calls.mono (KR.out wq2 HBq2.out) ?_
                  rintro e wq3 ⟨rfl, hb⟩
                  clear t0 t1 t2 f0
                  have HBq3 : Hid (Below W.heap.size W wq3) := HBq2.out.trans (hb.mono hszq2)
                  have HOq3 : Hid (wq3.ownsRow W.heap.size 35 2 (.slice adg (G.length) cpg) (G.length) (cellsF (G))) := Fr.owns_below HOq2.out hb
                  have hszq3 := HBq3.out.size
                  clear hb HOq2 HBq2 hszq2
                  have t0 := cl_row (i := 0) (blkT HBq3.out HT.out) rfl
                  have t1 := cl_row (i := 1) (blkT HBq3.out HT.out) rfl
                  have t2 := cl_row (i := 2) (blkT HBq3.out HT.out) rfl
                  have HE : Hid (OwnF wq3 W.heap.size (.slice adg (G.length) cpg) (G)) := by
                    have hl : (G).length = G.length := by simp
                    unfold Hid OwnF
                    rw [hl]
                    exact HOq3.out
                  have HLE : Hid ((G).length ≤ 4 * (n + 1)) := by unfold Hid; (try simp); omega
                  go_wp2
                  go_roundw
                  case rel => exact ⟨n + 1, G, by simp, by omega, HE.out, HM0.out, HLE.out, HBq3.out⟩
                  case measure => simp [Fr.intOf]; omega
                | true =>
                  rw [show Ms.rfA fx = .tuple #[.string ⟨(Ms.rfL fx).toArray⟩, .int .i64 0] by unfold Ms.rfA; rw [hf]; rfl] at KR
                  have HMF : Hid (Meant ⟨5, Ms.rfL fx⟩) := Or.inr (Or.inr (Or.inr ⟨rfl, fx, hf, rfl⟩))
                  clear hf
                  generalize Ms.rfL fx = E3 at *
                  have hsz0 := HB0.out.size
                  have t0 := cl_row (i := 0) (blkT HB0.out HT.out) rfl
                  have t1 := cl_row (i := 1) (blkT HB0.out HT.out) rfl
                  have t2 := cl_row (i := 2) (blkT HB0.out HT.out) rfl
                  have c0 := below_cell HB0.out HX0.out
                  have c1 := below_cell HB0.out HX1.out
                  have c2 := below_cell HB0.out HX2.out
                  have f0 := below_cell HB0.out HF0.out
                  have HRW : Hid (wr.rangeAt bo (oo + n * 11) (opC ob vf va vk).toList) := range_below HB0.out HRG.out
                  go_wp2_with (refine wpList_load_mid rfl 50 _ rfl bo (oo + n * 11) rfl (opC ob vf va vk).toList _ HRW.out Tryz.underlying50 rfl size50 ?_)
                  refine Calls.mono (KE.out wr HB0.out) ?_
                  rintro e wq4 ⟨rfl, hb⟩
                  clear t0 t1 t2 c0 c1 c2 f0
                  have HBq4 : Hid (Below W.heap.size W wq4) := HB0.out.trans (hb.mono hsz0)
                  have HOq4 : Hid (wq4.ownsRow W.heap.size 35 2 (.slice adg (G.length) cpg) (G.length) (cellsF (G))) := Fr.owns_below HO0.out hb
                  have hszq4 := HBq4.out.size
                  clear hb HO0 HB0 hsz0
                  have t0 := cl_row (i := 0) (blkT HBq4.out HT.out) rfl
                  have t1 := cl_row (i := 1) (blkT HBq4.out HT.out) rfl
                  have t2 := cl_row (i := 2) (blkT HBq4.out HT.out) rfl
                  have c0 := below_cell HBq4.out HX0.out
                  have c1 := below_cell HBq4.out HX1.out
                  have c2 := below_cell HBq4.out HX2.out
                  have f0 := below_cell HBq4.out HF0.out
                  go_wp2_with fail
                  refine Calls.mono (KN.out wq4 HBq4.out) ?_
                  rintro e wq5 ⟨rfl, hb⟩
                  clear t0 t1 t2 c0 c1 c2 f0
                  have HBq5 : Hid (Below W.heap.size W wq5) := HBq4.out.trans (hb.mono hszq4)
                  have HOq5 : Hid (wq5.ownsRow W.heap.size 35 2 (.slice adg (G.length) cpg) (G.length) (cellsF (G))) := Fr.owns_below HOq4.out hb
                  have hszq5 := HBq5.out.size
                  clear hb HOq4 HBq4 hszq4
                  have t0 := cl_row (i := 0) (blkT HBq5.out HT.out) rfl
                  have t1 := cl_row (i := 1) (blkT HBq5.out HT.out) rfl
                  have t2 := cl_row (i := 2) (blkT HBq5.out HT.out) rfl
                  have f0 := below_cell HBq5.out HF0.out
                  go_wp2_with fail
                  refine Calls.mono (KR.out wq5 HBq5.out) ?_
                  rintro e wq6 ⟨rfl, hb⟩
                  clear t0 t1 t2 f0
                  have HBq6 : Hid (Below W.heap.size W wq6) := HBq5.out.trans (hb.mono hszq5)
                  have HOq6 : Hid (wq6.ownsRow W.heap.size 35 2 (.slice adg (G.length) cpg) (G.length) (cellsF (G))) := Fr.owns_below HOq5.out hb
                  have hszq6 := HBq6.out.size
                  clear hb HOq5 HBq5 hszq5
                  go_wp2_with (at_builtin; refine wpList_append_own _ rfl _ _ 29 rfl W.heap.size 35 i0 (.agg #[.int .i64 0, .string ⟨#[]⟩]) 2 24 Tryz.underlying29 hi hz0 hz1 hz2 rfl (by decide) (.slice adg (G.length) cpg) (G.length) (cellsF (G)) rfl (World.ownsRow.alloc HOq6.out _) ⟨wq6.heap.size, 0, none⟩ 1 1 (cellsF ([⟨5, E3⟩] : List Fm)) rfl rfl (newsN wq6 (cellsF ([⟨5, E3⟩] : List Fm)) 35) (Fr.cellsF_one ([⟨5, E3⟩] : List Fm)) (by unfold maxLen; omega) (by omega) (Nat.le_trans hszq6 (by simp)) ?_; intro v7 wq7 hown7 hgrow7 _; obtain ⟨adq7, cpq7, rfl⟩ := Fr.slice_of_owns hown7; have hbw : Below W.heap.size wq6 wq7 := ((Below.refl _ _).alloc hszq6 _).grown hgrow7 (Nat.le_trans hszq6 (by simp)) (fun k e => (Fr.owns_lt HOq6.out k e).1); have HBq7 : Hid (Below W.heap.size W wq7) := HBq6.out.trans hbw; have t0 := cl_row (i := 0) (blkT HBq7.out HT.out) rfl; have t1 := cl_row (i := 1) (blkT HBq7.out HT.out) rfl; have t2 := cl_row (i := 2) (blkT HBq7.out HT.out) rfl)
                  have HOq7 : Hid (wq7.ownsRow W.heap.size 35 2 (.slice adq7 (G.length + 1) cpq7) (G.length + 1) (cellsF (G ++ ([⟨5, E3⟩] : List Fm)))) := by
                    unfold Hid
                    rw [Fr.cellsF_app]
                    exact hown7
                  have HMq7 : Hid (∀ f ∈ G ++ ([⟨5, E3⟩] : List Fm), Meant f) := by
                    intro f hf
                    rcases List.mem_append.1 hf with h | h
                    · exact HM0.out f h
                    · obtain rfl := List.mem_singleton.1 h; exact HMF.out
                  have hszq7 := HBq7.out.size
                  clear hown7 hgrow7 hbw HOq6 HBq6 hszq6 HM0
                  have HE : Hid (OwnF wq7 W.heap.size (.slice adq7 (G.length + 1) cpq7) (G ++ ([⟨5, E3⟩] : List Fm))) := by
                    have hl : (G ++ ([⟨5, E3⟩] : List Fm)).length = G.length + 1 := by simp
                    unfold Hid OwnF
                    rw [hl]
                    exact HOq7.out
                  have HLE : Hid ((G ++ ([⟨5, E3⟩] : List Fm)).length ≤ 4 * (n + 1)) := by unfold Hid; (try simp); omega
                  go_wp2
                  go_roundw
                  case rel => exact ⟨n + 1, G ++ ([⟨5, E3⟩] : List Fm), by simp, by omega, HE.out, HMq7.out, HLE.out, HBq7.out⟩
                  case measure => simp [Fr.intOf]; omega
              · have hltf : ¬ ((n : Int) < FL.length) := by omega
                have hsz0 := HB0.out.size
                have t0 := cl_row (i := 0) (blkT HB0.out HT.out) rfl
                have t1 := cl_row (i := 1) (blkT HB0.out HT.out) rfl
                have t2 := cl_row (i := 2) (blkT HB0.out HT.out) rfl
                have c0 := below_cell HB0.out HX0.out
                have c1 := below_cell HB0.out HX1.out
                have c2 := below_cell HB0.out HX2.out
                have HRW : Hid (wr.rangeAt bo (oo + n * 11) (opC ob vf va vk).toList) := range_below HB0.out HRG.out
                go_wp2_with (refine wpList_load_mid rfl 50 _ rfl bo (oo + n * 11) rfl (opC ob vf va vk).toList _ HRW.out Tryz.underlying50 rfl size50 ?_)
                refine Calls.mono (KE.out wr HB0.out) ?_
                rintro e wq8 ⟨rfl, hb⟩
                clear t0 t1 t2 c0 c1 c2
                have HBq8 : Hid (Below W.heap.size W wq8) := HB0.out.trans (hb.mono hsz0)
                have HOq8 : Hid (wq8.ownsRow W.heap.size 35 2 (.slice adg (G.length) cpg) (G.length) (cellsF (G))) := Fr.owns_below HO0.out hb
                have hszq8 := HBq8.out.size
                clear hb HO0 HB0 hsz0
                have t0 := cl_row (i := 0) (blkT HBq8.out HT.out) rfl
                have t1 := cl_row (i := 1) (blkT HBq8.out HT.out) rfl
                have t2 := cl_row (i := 2) (blkT HBq8.out HT.out) rfl
                have c0 := below_cell HBq8.out HX0.out
                have c1 := below_cell HBq8.out HX1.out
                have c2 := below_cell HBq8.out HX2.out
                go_wp2_with fail
                refine Calls.mono (KN.out wq8 HBq8.out) ?_
                rintro e wq9 ⟨rfl, hb⟩
                clear t0 t1 t2 c0 c1 c2
                have HBq9 : Hid (Below W.heap.size W wq9) := HBq8.out.trans (hb.mono hszq8)
                have HOq9 : Hid (wq9.ownsRow W.heap.size 35 2 (.slice adg (G.length) cpg) (G.length) (cellsF (G))) := Fr.owns_below HOq8.out hb
                have hszq9 := HBq9.out.size
                clear hb HOq8 HBq8 hszq8
                have t0 := cl_row (i := 0) (blkT HBq9.out HT.out) rfl
                have t1 := cl_row (i := 1) (blkT HBq9.out HT.out) rfl
                have t2 := cl_row (i := 2) (blkT HBq9.out HT.out) rfl
                have HE : Hid (OwnF wq9 W.heap.size (.slice adg (G.length) cpg) (G)) := by
                  have hl : (G).length = G.length := by simp
                  unfold Hid OwnF
                  rw [hl]
                  exact HOq9.out
                have HLE : Hid ((G).length ≤ 4 * (n + 1)) := by unfold Hid; (try simp); omega
                go_wp2
                go_roundw
                case rel => exact ⟨n + 1, G, by simp, by omega, HE.out, HM0.out, HLE.out, HBq9.out⟩
                case measure => simp [Fr.intOf]; omega
            · rw [hA] at KN
              have HMN : Hid (Meant ⟨3, Ms.ntL nt.c nt.s nt.d⟩ ∧ Meant ⟨4, []⟩) := ⟨Or.inr (Or.inl ⟨rfl, nt.c, nt.s, nt.d, HNB.out.1, HNB.out.2, hz, hd, rfl⟩), Or.inr (Or.inr (Or.inl ⟨rfl, rfl⟩))⟩
              clear hA HNB hz hd
              generalize Ms.ntL nt.c nt.s nt.d = E2 at *
              by_cases hhf : n < FL.length
              · have hltf : (n : Int) < FL.length := by omega
                obtain rfl : af = some ⟨bf, of_, none⟩ := by rcases HAF.out with h | h; exact h; omega
                have HF0 : Hid (_ = _) := HFA.out n hhf
                generalize FL[n] = fx at *
                have KR : Hid (∀ X, Below W.heap.size W X → _) := fun X hX => Ms.refresh_any fx X (HG.out.below hX)
                cases hf : isF fx with
                | false =>
                  rw [show Ms.rfA fx = .tuple #[.string ⟨#[]⟩, .int .i64 2] by unfold Ms.rfA; rw [hf]; rfl] at KR
                  clear hf
                  have hsz0 := HB0.out.size
                  have t0 := cl_row (i := 0) (blkT HB0.out HT.out) rfl
                  have t1 := cl_row (i := 1) (blkT HB0.out HT.out) rfl
                  have t2 := cl_row (i := 2) (blkT HB0.out HT.out) rfl
                  have c0 := below_cell HB0.out HX0.out
                  have c1 := below_cell HB0.out HX1.out
                  have c2 := below_cell HB0.out HX2.out
                  have f0 := below_cell HB0.out HF0.out
                  have HRW : Hid (wr.rangeAt bo (oo + n * 11) (opC ob vf va vk).toList) := range_below HB0.out HRG.out
                  go_wp2_with (refine wpList_load_mid rfl 50 _ rfl bo (oo + n * 11) rfl (opC ob vf va vk).toList _ HRW.out Tryz.underlying50 rfl size50 ?_)
                  refine Calls.mono (KE.out wr HB0.out) ?_
                  rintro e wq10 ⟨rfl, hb⟩
                  clear t0 t1 t2 c0 c1 c2 f0
                  have HBq10 : Hid (Below W.heap.size W wq10) := HB0.out.trans (hb.mono hsz0)
                  have HOq10 : Hid (wq10.ownsRow W.heap.size 35 2 (.slice adg (G.length) cpg) (G.length) (cellsF (G))) := Fr.owns_below HO0.out hb
                  have hszq10 := HBq10.out.size
                  clear hb HO0 HB0 hsz0
                  have t0 := cl_row (i := 0) (blkT HBq10.out HT.out) rfl
                  have t1 := cl_row (i := 1) (blkT HBq10.out HT.out) rfl
                  have t2 := cl_row (i := 2) (blkT HBq10.out HT.out) rfl
                  have c0 := below_cell HBq10.out HX0.out
                  have c1 := below_cell HBq10.out HX1.out
                  have c2 := below_cell HBq10.out HX2.out
                  have f0 := below_cell HBq10.out HF0.out
                  go_wp2_with fail
                  refine Calls.mono (KN.out wq10 HBq10.out) ?_
                  rintro e wq11 ⟨rfl, hb⟩
                  clear t0 t1 t2 c0 c1 c2 f0
                  have HBq11 : Hid (Below W.heap.size W wq11) := HBq10.out.trans (hb.mono hszq10)
                  have HOq11 : Hid (wq11.ownsRow W.heap.size 35 2 (.slice adg (G.length) cpg) (G.length) (cellsF (G))) := Fr.owns_below HOq10.out hb
                  have hszq11 := HBq11.out.size
                  clear hb HOq10 HBq10 hszq10
                  go_wp2_with (at_builtin; refine wpList_append_own _ rfl _ _ 29 rfl W.heap.size 35 i0 (.agg #[.int .i64 0, .string ⟨#[]⟩]) 2 24 Tryz.underlying29 hi hz0 hz1 hz2 rfl (by decide) (.slice adg (G.length) cpg) (G.length) (cellsF (G)) rfl (World.ownsRow.alloc HOq11.out _) ⟨wq11.heap.size, 0, none⟩ 2 2 (cellsF ([⟨3, E2⟩, ⟨4, []⟩] : List Fm)) rfl rfl (newsN wq11 (cellsF ([⟨3, E2⟩, ⟨4, []⟩] : List Fm)) 35) (Fr.cellsF_one ([⟨3, E2⟩, ⟨4, []⟩] : List Fm)) (by unfold maxLen; omega) (by omega) (Nat.le_trans hszq11 (by simp)) ?_; intro v7 wq12 hown7 hgrow7 _; obtain ⟨adq12, cpq12, rfl⟩ := Fr.slice_of_owns hown7; have hbw : Below W.heap.size wq11 wq12 := ((Below.refl _ _).alloc hszq11 _).grown hgrow7 (Nat.le_trans hszq11 (by simp)) (fun k e => (Fr.owns_lt HOq11.out k e).1); have HBq12 : Hid (Below W.heap.size W wq12) := HBq11.out.trans hbw; have t0 := cl_row (i := 0) (blkT HBq12.out HT.out) rfl; have t1 := cl_row (i := 1) (blkT HBq12.out HT.out) rfl; have t2 := cl_row (i := 2) (blkT HBq12.out HT.out) rfl; have f0 := below_cell HBq12.out HF0.out)
                  have HOq12 : Hid (wq12.ownsRow W.heap.size 35 2 (.slice adq12 (G.length + 2) cpq12) (G.length + 2) (cellsF (G ++ ([⟨3, E2⟩, ⟨4, []⟩] : List Fm)))) := by
                    unfold Hid
                    rw [Fr.cellsF_app]
                    exact hown7
                  have HMq12 : Hid (∀ f ∈ G ++ ([⟨3, E2⟩, ⟨4, []⟩] : List Fm), Meant f) := by
                    intro f hf
                    rcases List.mem_append.1 hf with h | h
                    · exact HM0.out f h
                    · simp only [List.mem_cons, List.not_mem_nil, or_false] at h; rcases h with rfl | rfl; exact HMN.out.1; exact HMN.out.2
                  have hszq12 := HBq12.out.size
                  clear hown7 hgrow7 hbw HOq11 HBq11 hszq11 HM0
                  go_wp2_with fail
                  refine Calls.mono (KR.out wq12 HBq12.out) ?_
                  rintro e wq13 ⟨rfl, hb⟩
                  clear t0 t1 t2 f0
                  have HBq13 : Hid (Below W.heap.size W wq13) := HBq12.out.trans (hb.mono hszq12)
                  have HOq13 : Hid (wq13.ownsRow W.heap.size 35 2 (.slice adq12 (G.length + 2) cpq12) (G.length + 2) (cellsF (G ++ ([⟨3, E2⟩, ⟨4, []⟩] : List Fm)))) := Fr.owns_below HOq12.out hb
                  have hszq13 := HBq13.out.size
                  clear hb HOq12 HBq12 hszq12
                  have t0 := cl_row (i := 0) (blkT HBq13.out HT.out) rfl
                  have t1 := cl_row (i := 1) (blkT HBq13.out HT.out) rfl
                  have t2 := cl_row (i := 2) (blkT HBq13.out HT.out) rfl
                  have HE : Hid (OwnF wq13 W.heap.size (.slice adq12 (G.length + 2) cpq12) (G ++ ([⟨3, E2⟩, ⟨4, []⟩] : List Fm))) := by
                    have hl : (G ++ ([⟨3, E2⟩, ⟨4, []⟩] : List Fm)).length = G.length + 2 := by simp
                    unfold Hid OwnF
                    rw [hl]
                    exact HOq13.out
                  have HLE : Hid ((G ++ ([⟨3, E2⟩, ⟨4, []⟩] : List Fm)).length ≤ 4 * (n + 1)) := by unfold Hid; (try simp); omega
                  go_wp2
                  go_roundw
                  case rel => exact ⟨n + 1, G ++ ([⟨3, E2⟩, ⟨4, []⟩] : List Fm), by simp, by omega, HE.out, HMq12.out, HLE.out, HBq13.out⟩
                  case measure => simp [Fr.intOf]; omega
                | true =>
                  rw [show Ms.rfA fx = .tuple #[.string ⟨(Ms.rfL fx).toArray⟩, .int .i64 0] by unfold Ms.rfA; rw [hf]; rfl] at KR
                  have HMF : Hid (Meant ⟨5, Ms.rfL fx⟩) := Or.inr (Or.inr (Or.inr ⟨rfl, fx, hf, rfl⟩))
                  clear hf
                  generalize Ms.rfL fx = E3 at *
                  have hsz0 := HB0.out.size
                  have t0 := cl_row (i := 0) (blkT HB0.out HT.out) rfl
                  have t1 := cl_row (i := 1) (blkT HB0.out HT.out) rfl
                  have t2 := cl_row (i := 2) (blkT HB0.out HT.out) rfl
                  have c0 := below_cell HB0.out HX0.out
                  have c1 := below_cell HB0.out HX1.out
                  have c2 := below_cell HB0.out HX2.out
                  have f0 := below_cell HB0.out HF0.out
                  have HRW : Hid (wr.rangeAt bo (oo + n * 11) (opC ob vf va vk).toList) := range_below HB0.out HRG.out
                  go_wp2_with (refine wpList_load_mid rfl 50 _ rfl bo (oo + n * 11) rfl (opC ob vf va vk).toList _ HRW.out Tryz.underlying50 rfl size50 ?_)
                  refine Calls.mono (KE.out wr HB0.out) ?_
                  rintro e wq14 ⟨rfl, hb⟩
                  clear t0 t1 t2 c0 c1 c2 f0
                  have HBq14 : Hid (Below W.heap.size W wq14) := HB0.out.trans (hb.mono hsz0)
                  have HOq14 : Hid (wq14.ownsRow W.heap.size 35 2 (.slice adg (G.length) cpg) (G.length) (cellsF (G))) := Fr.owns_below HO0.out hb
                  have hszq14 := HBq14.out.size
                  clear hb HO0 HB0 hsz0
                  have t0 := cl_row (i := 0) (blkT HBq14.out HT.out) rfl
                  have t1 := cl_row (i := 1) (blkT HBq14.out HT.out) rfl
                  have t2 := cl_row (i := 2) (blkT HBq14.out HT.out) rfl
                  have c0 := below_cell HBq14.out HX0.out
                  have c1 := below_cell HBq14.out HX1.out
                  have c2 := below_cell HBq14.out HX2.out
                  have f0 := below_cell HBq14.out HF0.out
                  go_wp2_with fail
                  refine Calls.mono (KN.out wq14 HBq14.out) ?_
                  rintro e wq15 ⟨rfl, hb⟩
                  clear t0 t1 t2 c0 c1 c2 f0
                  have HBq15 : Hid (Below W.heap.size W wq15) := HBq14.out.trans (hb.mono hszq14)
                  have HOq15 : Hid (wq15.ownsRow W.heap.size 35 2 (.slice adg (G.length) cpg) (G.length) (cellsF (G))) := Fr.owns_below HOq14.out hb
                  have hszq15 := HBq15.out.size
                  clear hb HOq14 HBq14 hszq14
                  go_wp2_with (at_builtin; refine wpList_append_own _ rfl _ _ 29 rfl W.heap.size 35 i0 (.agg #[.int .i64 0, .string ⟨#[]⟩]) 2 24 Tryz.underlying29 hi hz0 hz1 hz2 rfl (by decide) (.slice adg (G.length) cpg) (G.length) (cellsF (G)) rfl (World.ownsRow.alloc HOq15.out _) ⟨wq15.heap.size, 0, none⟩ 2 2 (cellsF ([⟨3, E2⟩, ⟨4, []⟩] : List Fm)) rfl rfl (newsN wq15 (cellsF ([⟨3, E2⟩, ⟨4, []⟩] : List Fm)) 35) (Fr.cellsF_one ([⟨3, E2⟩, ⟨4, []⟩] : List Fm)) (by unfold maxLen; omega) (by omega) (Nat.le_trans hszq15 (by simp)) ?_; intro v7 wq16 hown7 hgrow7 _; obtain ⟨adq16, cpq16, rfl⟩ := Fr.slice_of_owns hown7; have hbw : Below W.heap.size wq15 wq16 := ((Below.refl _ _).alloc hszq15 _).grown hgrow7 (Nat.le_trans hszq15 (by simp)) (fun k e => (Fr.owns_lt HOq15.out k e).1); have HBq16 : Hid (Below W.heap.size W wq16) := HBq15.out.trans hbw; have t0 := cl_row (i := 0) (blkT HBq16.out HT.out) rfl; have t1 := cl_row (i := 1) (blkT HBq16.out HT.out) rfl; have t2 := cl_row (i := 2) (blkT HBq16.out HT.out) rfl; have f0 := below_cell HBq16.out HF0.out)
                  have HOq16 : Hid (wq16.ownsRow W.heap.size 35 2 (.slice adq16 (G.length + 2) cpq16) (G.length + 2) (cellsF (G ++ ([⟨3, E2⟩, ⟨4, []⟩] : List Fm)))) := by
                    unfold Hid
                    rw [Fr.cellsF_app]
                    exact hown7
                  have HMq16 : Hid (∀ f ∈ G ++ ([⟨3, E2⟩, ⟨4, []⟩] : List Fm), Meant f) := by
                    intro f hf
                    rcases List.mem_append.1 hf with h | h
                    · exact HM0.out f h
                    · simp only [List.mem_cons, List.not_mem_nil, or_false] at h; rcases h with rfl | rfl; exact HMN.out.1; exact HMN.out.2
                  have hszq16 := HBq16.out.size
                  clear hown7 hgrow7 hbw HOq15 HBq15 hszq15 HM0
                  go_wp2_with fail
                  refine Calls.mono (KR.out wq16 HBq16.out) ?_
                  rintro e wq17 ⟨rfl, hb⟩
                  clear t0 t1 t2 f0
                  have HBq17 : Hid (Below W.heap.size W wq17) := HBq16.out.trans (hb.mono hszq16)
                  have HOq17 : Hid (wq17.ownsRow W.heap.size 35 2 (.slice adq16 (G.length + 2) cpq16) (G.length + 2) (cellsF (G ++ ([⟨3, E2⟩, ⟨4, []⟩] : List Fm)))) := Fr.owns_below HOq16.out hb
                  have hszq17 := HBq17.out.size
                  clear hb HOq16 HBq16 hszq16
                  go_wp2_with (at_builtin; refine wpList_append_own _ rfl _ _ 29 rfl W.heap.size 35 i0 (.agg #[.int .i64 0, .string ⟨#[]⟩]) 2 24 Tryz.underlying29 hi hz0 hz1 hz2 rfl (by decide) (.slice adq16 (G.length + 2) cpq16) (G.length + 2) (cellsF (G ++ ([⟨3, E2⟩, ⟨4, []⟩] : List Fm))) rfl (World.ownsRow.alloc HOq17.out _) ⟨wq17.heap.size, 0, none⟩ 1 1 (cellsF ([⟨5, E3⟩] : List Fm)) rfl rfl (newsN wq17 (cellsF ([⟨5, E3⟩] : List Fm)) 35) (Fr.cellsF_one ([⟨5, E3⟩] : List Fm)) (by unfold maxLen; omega) (by omega) (Nat.le_trans hszq17 (by simp)) ?_; intro v7 wq18 hown7 hgrow7 _; obtain ⟨adq18, cpq18, rfl⟩ := Fr.slice_of_owns hown7; have hbw : Below W.heap.size wq17 wq18 := ((Below.refl _ _).alloc hszq17 _).grown hgrow7 (Nat.le_trans hszq17 (by simp)) (fun k e => (Fr.owns_lt HOq17.out k e).1); have HBq18 : Hid (Below W.heap.size W wq18) := HBq17.out.trans hbw; have t0 := cl_row (i := 0) (blkT HBq18.out HT.out) rfl; have t1 := cl_row (i := 1) (blkT HBq18.out HT.out) rfl; have t2 := cl_row (i := 2) (blkT HBq18.out HT.out) rfl)
                  have HOq18 : Hid (wq18.ownsRow W.heap.size 35 2 (.slice adq18 (G.length + 2 + 1) cpq18) (G.length + 2 + 1) (cellsF (G ++ ([⟨3, E2⟩, ⟨4, []⟩] : List Fm) ++ ([⟨5, E3⟩] : List Fm)))) := by
                    unfold Hid
                    rw [Fr.cellsF_app]
                    exact hown7
                  have HMq18 : Hid (∀ f ∈ G ++ ([⟨3, E2⟩, ⟨4, []⟩] : List Fm) ++ ([⟨5, E3⟩] : List Fm), Meant f) := by
                    intro f hf
                    rcases List.mem_append.1 hf with h | h
                    · exact HMq16.out f h
                    · obtain rfl := List.mem_singleton.1 h; exact HMF.out
                  have hszq18 := HBq18.out.size
                  clear hown7 hgrow7 hbw HOq17 HBq17 hszq17 HMq16
                  have HE : Hid (OwnF wq18 W.heap.size (.slice adq18 (G.length + 2 + 1) cpq18) (G ++ ([⟨3, E2⟩, ⟨4, []⟩] : List Fm) ++ ([⟨5, E3⟩] : List Fm))) := by
                    have hl : (G ++ ([⟨3, E2⟩, ⟨4, []⟩] : List Fm) ++ ([⟨5, E3⟩] : List Fm)).length = G.length + 2 + 1 := by simp
                    unfold Hid OwnF
                    rw [hl]
                    exact HOq18.out
                  have HLE : Hid ((G ++ ([⟨3, E2⟩, ⟨4, []⟩] : List Fm) ++ ([⟨5, E3⟩] : List Fm)).length ≤ 4 * (n + 1)) := by unfold Hid; (try simp); omega
                  go_wp2
                  go_roundw
                  case rel => exact ⟨n + 1, G ++ ([⟨3, E2⟩, ⟨4, []⟩] : List Fm) ++ ([⟨5, E3⟩] : List Fm), by simp, by omega, HE.out, HMq18.out, HLE.out, HBq18.out⟩
                  case measure => simp [Fr.intOf]; omega
              · have hltf : ¬ ((n : Int) < FL.length) := by omega
                have hsz0 := HB0.out.size
                have t0 := cl_row (i := 0) (blkT HB0.out HT.out) rfl
                have t1 := cl_row (i := 1) (blkT HB0.out HT.out) rfl
                have t2 := cl_row (i := 2) (blkT HB0.out HT.out) rfl
                have c0 := below_cell HB0.out HX0.out
                have c1 := below_cell HB0.out HX1.out
                have c2 := below_cell HB0.out HX2.out
                have HRW : Hid (wr.rangeAt bo (oo + n * 11) (opC ob vf va vk).toList) := range_below HB0.out HRG.out
                go_wp2_with (refine wpList_load_mid rfl 50 _ rfl bo (oo + n * 11) rfl (opC ob vf va vk).toList _ HRW.out Tryz.underlying50 rfl size50 ?_)
                refine Calls.mono (KE.out wr HB0.out) ?_
                rintro e wq19 ⟨rfl, hb⟩
                clear t0 t1 t2 c0 c1 c2
                have HBq19 : Hid (Below W.heap.size W wq19) := HB0.out.trans (hb.mono hsz0)
                have HOq19 : Hid (wq19.ownsRow W.heap.size 35 2 (.slice adg (G.length) cpg) (G.length) (cellsF (G))) := Fr.owns_below HO0.out hb
                have hszq19 := HBq19.out.size
                clear hb HO0 HB0 hsz0
                have t0 := cl_row (i := 0) (blkT HBq19.out HT.out) rfl
                have t1 := cl_row (i := 1) (blkT HBq19.out HT.out) rfl
                have t2 := cl_row (i := 2) (blkT HBq19.out HT.out) rfl
                have c0 := below_cell HBq19.out HX0.out
                have c1 := below_cell HBq19.out HX1.out
                have c2 := below_cell HBq19.out HX2.out
                go_wp2_with fail
                refine Calls.mono (KN.out wq19 HBq19.out) ?_
                rintro e wq20 ⟨rfl, hb⟩
                clear t0 t1 t2 c0 c1 c2
                have HBq20 : Hid (Below W.heap.size W wq20) := HBq19.out.trans (hb.mono hszq19)
                have HOq20 : Hid (wq20.ownsRow W.heap.size 35 2 (.slice adg (G.length) cpg) (G.length) (cellsF (G))) := Fr.owns_below HOq19.out hb
                have hszq20 := HBq20.out.size
                clear hb HOq19 HBq19 hszq19
                go_wp2_with (at_builtin; refine wpList_append_own _ rfl _ _ 29 rfl W.heap.size 35 i0 (.agg #[.int .i64 0, .string ⟨#[]⟩]) 2 24 Tryz.underlying29 hi hz0 hz1 hz2 rfl (by decide) (.slice adg (G.length) cpg) (G.length) (cellsF (G)) rfl (World.ownsRow.alloc HOq20.out _) ⟨wq20.heap.size, 0, none⟩ 2 2 (cellsF ([⟨3, E2⟩, ⟨4, []⟩] : List Fm)) rfl rfl (newsN wq20 (cellsF ([⟨3, E2⟩, ⟨4, []⟩] : List Fm)) 35) (Fr.cellsF_one ([⟨3, E2⟩, ⟨4, []⟩] : List Fm)) (by unfold maxLen; omega) (by omega) (Nat.le_trans hszq20 (by simp)) ?_; intro v7 wq21 hown7 hgrow7 _; obtain ⟨adq21, cpq21, rfl⟩ := Fr.slice_of_owns hown7; have hbw : Below W.heap.size wq20 wq21 := ((Below.refl _ _).alloc hszq20 _).grown hgrow7 (Nat.le_trans hszq20 (by simp)) (fun k e => (Fr.owns_lt HOq20.out k e).1); have HBq21 : Hid (Below W.heap.size W wq21) := HBq20.out.trans hbw; have t0 := cl_row (i := 0) (blkT HBq21.out HT.out) rfl; have t1 := cl_row (i := 1) (blkT HBq21.out HT.out) rfl; have t2 := cl_row (i := 2) (blkT HBq21.out HT.out) rfl)
                have HOq21 : Hid (wq21.ownsRow W.heap.size 35 2 (.slice adq21 (G.length + 2) cpq21) (G.length + 2) (cellsF (G ++ ([⟨3, E2⟩, ⟨4, []⟩] : List Fm)))) := by
                  unfold Hid
                  rw [Fr.cellsF_app]
                  exact hown7
                have HMq21 : Hid (∀ f ∈ G ++ ([⟨3, E2⟩, ⟨4, []⟩] : List Fm), Meant f) := by
                  intro f hf
                  rcases List.mem_append.1 hf with h | h
                  · exact HM0.out f h
                  · simp only [List.mem_cons, List.not_mem_nil, or_false] at h; rcases h with rfl | rfl; exact HMN.out.1; exact HMN.out.2
                have hszq21 := HBq21.out.size
                clear hown7 hgrow7 hbw HOq20 HBq20 hszq20 HM0
                have HE : Hid (OwnF wq21 W.heap.size (.slice adq21 (G.length + 2) cpq21) (G ++ ([⟨3, E2⟩, ⟨4, []⟩] : List Fm))) := by
                  have hl : (G ++ ([⟨3, E2⟩, ⟨4, []⟩] : List Fm)).length = G.length + 2 := by simp
                  unfold Hid OwnF
                  rw [hl]
                  exact HOq21.out
                have HLE : Hid ((G ++ ([⟨3, E2⟩, ⟨4, []⟩] : List Fm)).length ≤ 4 * (n + 1)) := by unfold Hid; (try simp); omega
                go_wp2
                go_roundw
                case rel => exact ⟨n + 1, G ++ ([⟨3, E2⟩, ⟨4, []⟩] : List Fm), by simp, by omega, HE.out, HMq21.out, HLE.out, HBq21.out⟩
                case measure => simp [Fr.intOf]; omega
          · have hltn : ¬ ((n : Int) < NL.length) := by omega
            by_cases hhf : n < FL.length
            · have hltf : (n : Int) < FL.length := by omega
              obtain rfl : af = some ⟨bf, of_, none⟩ := by rcases HAF.out with h | h; exact h; omega
              have HF0 : Hid (_ = _) := HFA.out n hhf
              generalize FL[n] = fx at *
              have KR : Hid (∀ X, Below W.heap.size W X → _) := fun X hX => Ms.refresh_any fx X (HG.out.below hX)
              cases hf : isF fx with
              | false =>
                rw [show Ms.rfA fx = .tuple #[.string ⟨#[]⟩, .int .i64 2] by unfold Ms.rfA; rw [hf]; rfl] at KR
                clear hf
                have hsz0 := HB0.out.size
                have t0 := cl_row (i := 0) (blkT HB0.out HT.out) rfl
                have t1 := cl_row (i := 1) (blkT HB0.out HT.out) rfl
                have t2 := cl_row (i := 2) (blkT HB0.out HT.out) rfl
                have f0 := below_cell HB0.out HF0.out
                have HRW : Hid (wr.rangeAt bo (oo + n * 11) (opC ob vf va vk).toList) := range_below HB0.out HRG.out
                go_wp2_with (refine wpList_load_mid rfl 50 _ rfl bo (oo + n * 11) rfl (opC ob vf va vk).toList _ HRW.out Tryz.underlying50 rfl size50 ?_)
                refine Calls.mono (KE.out wr HB0.out) ?_
                rintro e wq22 ⟨rfl, hb⟩
                clear t0 t1 t2 f0
                have HBq22 : Hid (Below W.heap.size W wq22) := HB0.out.trans (hb.mono hsz0)
                have HOq22 : Hid (wq22.ownsRow W.heap.size 35 2 (.slice adg (G.length) cpg) (G.length) (cellsF (G))) := Fr.owns_below HO0.out hb
                have hszq22 := HBq22.out.size
                clear hb HO0 HB0 hsz0
                have t0 := cl_row (i := 0) (blkT HBq22.out HT.out) rfl
                have t1 := cl_row (i := 1) (blkT HBq22.out HT.out) rfl
                have t2 := cl_row (i := 2) (blkT HBq22.out HT.out) rfl
                have f0 := below_cell HBq22.out HF0.out
                go_wp2_with fail
                refine Calls.mono (KR.out wq22 HBq22.out) ?_
                rintro e wq23 ⟨rfl, hb⟩
                clear t0 t1 t2 f0
                have HBq23 : Hid (Below W.heap.size W wq23) := HBq22.out.trans (hb.mono hszq22)
                have HOq23 : Hid (wq23.ownsRow W.heap.size 35 2 (.slice adg (G.length) cpg) (G.length) (cellsF (G))) := Fr.owns_below HOq22.out hb
                have hszq23 := HBq23.out.size
                clear hb HOq22 HBq22 hszq22
                have t0 := cl_row (i := 0) (blkT HBq23.out HT.out) rfl
                have t1 := cl_row (i := 1) (blkT HBq23.out HT.out) rfl
                have t2 := cl_row (i := 2) (blkT HBq23.out HT.out) rfl
                have HE : Hid (OwnF wq23 W.heap.size (.slice adg (G.length) cpg) (G)) := by
                  have hl : (G).length = G.length := by simp
                  unfold Hid OwnF
                  rw [hl]
                  exact HOq23.out
                have HLE : Hid ((G).length ≤ 4 * (n + 1)) := by unfold Hid; (try simp); omega
                go_wp2
                go_roundw
                case rel => exact ⟨n + 1, G, by simp, by omega, HE.out, HM0.out, HLE.out, HBq23.out⟩
                case measure => simp [Fr.intOf]; omega
              | true =>
                rw [show Ms.rfA fx = .tuple #[.string ⟨(Ms.rfL fx).toArray⟩, .int .i64 0] by unfold Ms.rfA; rw [hf]; rfl] at KR
                have HMF : Hid (Meant ⟨5, Ms.rfL fx⟩) := Or.inr (Or.inr (Or.inr ⟨rfl, fx, hf, rfl⟩))
                clear hf
                generalize Ms.rfL fx = E3 at *
                have hsz0 := HB0.out.size
                have t0 := cl_row (i := 0) (blkT HB0.out HT.out) rfl
                have t1 := cl_row (i := 1) (blkT HB0.out HT.out) rfl
                have t2 := cl_row (i := 2) (blkT HB0.out HT.out) rfl
                have f0 := below_cell HB0.out HF0.out
                have HRW : Hid (wr.rangeAt bo (oo + n * 11) (opC ob vf va vk).toList) := range_below HB0.out HRG.out
                go_wp2_with (refine wpList_load_mid rfl 50 _ rfl bo (oo + n * 11) rfl (opC ob vf va vk).toList _ HRW.out Tryz.underlying50 rfl size50 ?_)
                refine Calls.mono (KE.out wr HB0.out) ?_
                rintro e wq24 ⟨rfl, hb⟩
                clear t0 t1 t2 f0
                have HBq24 : Hid (Below W.heap.size W wq24) := HB0.out.trans (hb.mono hsz0)
                have HOq24 : Hid (wq24.ownsRow W.heap.size 35 2 (.slice adg (G.length) cpg) (G.length) (cellsF (G))) := Fr.owns_below HO0.out hb
                have hszq24 := HBq24.out.size
                clear hb HO0 HB0 hsz0
                have t0 := cl_row (i := 0) (blkT HBq24.out HT.out) rfl
                have t1 := cl_row (i := 1) (blkT HBq24.out HT.out) rfl
                have t2 := cl_row (i := 2) (blkT HBq24.out HT.out) rfl
                have f0 := below_cell HBq24.out HF0.out
                go_wp2_with fail
                refine Calls.mono (KR.out wq24 HBq24.out) ?_
                rintro e wq25 ⟨rfl, hb⟩
                clear t0 t1 t2 f0
                have HBq25 : Hid (Below W.heap.size W wq25) := HBq24.out.trans (hb.mono hszq24)
                have HOq25 : Hid (wq25.ownsRow W.heap.size 35 2 (.slice adg (G.length) cpg) (G.length) (cellsF (G))) := Fr.owns_below HOq24.out hb
                have hszq25 := HBq25.out.size
                clear hb HOq24 HBq24 hszq24
                go_wp2_with (at_builtin; refine wpList_append_own _ rfl _ _ 29 rfl W.heap.size 35 i0 (.agg #[.int .i64 0, .string ⟨#[]⟩]) 2 24 Tryz.underlying29 hi hz0 hz1 hz2 rfl (by decide) (.slice adg (G.length) cpg) (G.length) (cellsF (G)) rfl (World.ownsRow.alloc HOq25.out _) ⟨wq25.heap.size, 0, none⟩ 1 1 (cellsF ([⟨5, E3⟩] : List Fm)) rfl rfl (newsN wq25 (cellsF ([⟨5, E3⟩] : List Fm)) 35) (Fr.cellsF_one ([⟨5, E3⟩] : List Fm)) (by unfold maxLen; omega) (by omega) (Nat.le_trans hszq25 (by simp)) ?_; intro v7 wq26 hown7 hgrow7 _; obtain ⟨adq26, cpq26, rfl⟩ := Fr.slice_of_owns hown7; have hbw : Below W.heap.size wq25 wq26 := ((Below.refl _ _).alloc hszq25 _).grown hgrow7 (Nat.le_trans hszq25 (by simp)) (fun k e => (Fr.owns_lt HOq25.out k e).1); have HBq26 : Hid (Below W.heap.size W wq26) := HBq25.out.trans hbw; have t0 := cl_row (i := 0) (blkT HBq26.out HT.out) rfl; have t1 := cl_row (i := 1) (blkT HBq26.out HT.out) rfl; have t2 := cl_row (i := 2) (blkT HBq26.out HT.out) rfl)
                have HOq26 : Hid (wq26.ownsRow W.heap.size 35 2 (.slice adq26 (G.length + 1) cpq26) (G.length + 1) (cellsF (G ++ ([⟨5, E3⟩] : List Fm)))) := by
                  unfold Hid
                  rw [Fr.cellsF_app]
                  exact hown7
                have HMq26 : Hid (∀ f ∈ G ++ ([⟨5, E3⟩] : List Fm), Meant f) := by
                  intro f hf
                  rcases List.mem_append.1 hf with h | h
                  · exact HM0.out f h
                  · obtain rfl := List.mem_singleton.1 h; exact HMF.out
                have hszq26 := HBq26.out.size
                clear hown7 hgrow7 hbw HOq25 HBq25 hszq25 HM0
                have HE : Hid (OwnF wq26 W.heap.size (.slice adq26 (G.length + 1) cpq26) (G ++ ([⟨5, E3⟩] : List Fm))) := by
                  have hl : (G ++ ([⟨5, E3⟩] : List Fm)).length = G.length + 1 := by simp
                  unfold Hid OwnF
                  rw [hl]
                  exact HOq26.out
                have HLE : Hid ((G ++ ([⟨5, E3⟩] : List Fm)).length ≤ 4 * (n + 1)) := by unfold Hid; (try simp); omega
                go_wp2
                go_roundw
                case rel => exact ⟨n + 1, G ++ ([⟨5, E3⟩] : List Fm), by simp, by omega, HE.out, HMq26.out, HLE.out, HBq26.out⟩
                case measure => simp [Fr.intOf]; omega
            · have hltf : ¬ ((n : Int) < FL.length) := by omega
              have hsz0 := HB0.out.size
              have t0 := cl_row (i := 0) (blkT HB0.out HT.out) rfl
              have t1 := cl_row (i := 1) (blkT HB0.out HT.out) rfl
              have t2 := cl_row (i := 2) (blkT HB0.out HT.out) rfl
              have HRW : Hid (wr.rangeAt bo (oo + n * 11) (opC ob vf va vk).toList) := range_below HB0.out HRG.out
              go_wp2_with (refine wpList_load_mid rfl 50 _ rfl bo (oo + n * 11) rfl (opC ob vf va vk).toList _ HRW.out Tryz.underlying50 rfl size50 ?_)
              refine Calls.mono (KE.out wr HB0.out) ?_
              rintro e wq27 ⟨rfl, hb⟩
              clear t0 t1 t2
              have HBq27 : Hid (Below W.heap.size W wq27) := HB0.out.trans (hb.mono hsz0)
              have HOq27 : Hid (wq27.ownsRow W.heap.size 35 2 (.slice adg (G.length) cpg) (G.length) (cellsF (G))) := Fr.owns_below HO0.out hb
              have hszq27 := HBq27.out.size
              clear hb HO0 HB0 hsz0
              have t0 := cl_row (i := 0) (blkT HBq27.out HT.out) rfl
              have t1 := cl_row (i := 1) (blkT HBq27.out HT.out) rfl
              have t2 := cl_row (i := 2) (blkT HBq27.out HT.out) rfl
              have HE : Hid (OwnF wq27 W.heap.size (.slice adg (G.length) cpg) (G)) := by
                have hl : (G).length = G.length := by simp
                unfold Hid OwnF
                rw [hl]
                exact HOq27.out
              have HLE : Hid ((G).length ≤ 4 * (n + 1)) := by unfold Hid; (try simp); omega
              go_wp2
              go_roundw
              case rel => exact ⟨n + 1, G, by simp, by omega, HE.out, HM0.out, HLE.out, HBq27.out⟩
              case measure => simp [Fr.intOf]; omega
        | true =>
          have KE : Hid (∀ X, Below W.heap.size W X → _) := fun X hX => encode_yes ob vf va vk X (HG.out.below hX) (HLS.out.below hX) HWF.out hm
          have HMO : Hid (Meant ⟨1, encL ob⟩) := Or.inl ⟨rfl, ob, hm, HWF.out, rfl⟩
          clear HWF HLS hm
          generalize encL ob = E1 at *
          by_cases hhn : n < NL.length
          · have hltn : (n : Int) < NL.length := by omega
            obtain rfl : an = some ⟨bn, on, none⟩ := by rcases HAN.out with h | h; exact h; omega
            obtain ⟨⟨hc, hs, hd⟩, x0, x1, x2⟩ := HNO.out n hhn
            have HX0 : Hid (_ = _) := x0
            have HX1 : Hid (_ = _) := x1
            have HX2 : Hid (_ = _) := x2
            generalize NL[n] = nt at *
            have KN : Hid (∀ X, Below W.heap.size W X → _) := fun X _ => Ms.note_any nt.c nt.s nt.d hc hs hd X
            have HNB : Hid (nt.c < 256 ∧ nt.s < 256) := ⟨hc, hs⟩
            unfold Ms.ntC at KN
            clear x0 x1 x2 hc hs hd
            rcases nt_cases nt.c nt.s nt.d with ⟨e2, he2, hA⟩ | ⟨hz, hd, hA⟩
            · rw [hA] at KN
              have ge : (e2 == 0) = false := beq_eq_false_iff_ne.2 (by omega)
              clear he2 hA HNB
              by_cases hhf : n < FL.length
              · have hltf : (n : Int) < FL.length := by omega
                obtain rfl : af = some ⟨bf, of_, none⟩ := by rcases HAF.out with h | h; exact h; omega
                have HF0 : Hid (_ = _) := HFA.out n hhf
                generalize FL[n] = fx at *
                have KR : Hid (∀ X, Below W.heap.size W X → _) := fun X hX => Ms.refresh_any fx X (HG.out.below hX)
                cases hf : isF fx with
                | false =>
                  rw [show Ms.rfA fx = .tuple #[.string ⟨#[]⟩, .int .i64 2] by unfold Ms.rfA; rw [hf]; rfl] at KR
                  clear hf
                  have hsz0 := HB0.out.size
                  have t0 := cl_row (i := 0) (blkT HB0.out HT.out) rfl
                  have t1 := cl_row (i := 1) (blkT HB0.out HT.out) rfl
                  have t2 := cl_row (i := 2) (blkT HB0.out HT.out) rfl
                  have c0 := below_cell HB0.out HX0.out
                  have c1 := below_cell HB0.out HX1.out
                  have c2 := below_cell HB0.out HX2.out
                  have f0 := below_cell HB0.out HF0.out
                  have HRW : Hid (wr.rangeAt bo (oo + n * 11) (opC ob vf va vk).toList) := range_below HB0.out HRG.out
                  go_wp2_with (refine wpList_load_mid rfl 50 _ rfl bo (oo + n * 11) rfl (opC ob vf va vk).toList _ HRW.out Tryz.underlying50 rfl size50 ?_)
                  refine Calls.mono (KE.out wr HB0.out) ?_
                  rintro e wq28 ⟨rfl, hb⟩
                  clear t0 t1 t2 c0 c1 c2 f0
                  have HBq28 : Hid (Below W.heap.size W wq28) := HB0.out.trans (hb.mono hsz0)
                  have HOq28 : Hid (wq28.ownsRow W.heap.size 35 2 (.slice adg (G.length) cpg) (G.length) (cellsF (G))) := Fr.owns_below HO0.out hb
                  have hszq28 := HBq28.out.size
                  clear hb HO0 HB0 hsz0
                  go_wp2_with (at_builtin; refine wpList_append_own _ rfl _ _ 29 rfl W.heap.size 35 i0 (.agg #[.int .i64 0, .string ⟨#[]⟩]) 2 24 Tryz.underlying29 hi hz0 hz1 hz2 rfl (by decide) (.slice adg (G.length) cpg) (G.length) (cellsF (G)) rfl (World.ownsRow.alloc HOq28.out _) ⟨wq28.heap.size, 0, none⟩ 1 1 (cellsF ([⟨1, E1⟩] : List Fm)) rfl rfl (newsN wq28 (cellsF ([⟨1, E1⟩] : List Fm)) 35) (Fr.cellsF_one ([⟨1, E1⟩] : List Fm)) (by unfold maxLen; omega) (by omega) (Nat.le_trans hszq28 (by simp)) ?_; intro v7 wq29 hown7 hgrow7 _; obtain ⟨adq29, cpq29, rfl⟩ := Fr.slice_of_owns hown7; have hbw : Below W.heap.size wq28 wq29 := ((Below.refl _ _).alloc hszq28 _).grown hgrow7 (Nat.le_trans hszq28 (by simp)) (fun k e => (Fr.owns_lt HOq28.out k e).1); have HBq29 : Hid (Below W.heap.size W wq29) := HBq28.out.trans hbw; have t0 := cl_row (i := 0) (blkT HBq29.out HT.out) rfl; have t1 := cl_row (i := 1) (blkT HBq29.out HT.out) rfl; have t2 := cl_row (i := 2) (blkT HBq29.out HT.out) rfl; have c0 := below_cell HBq29.out HX0.out; have c1 := below_cell HBq29.out HX1.out; have c2 := below_cell HBq29.out HX2.out; have f0 := below_cell HBq29.out HF0.out)
                  have HOq29 : Hid (wq29.ownsRow W.heap.size 35 2 (.slice adq29 (G.length + 1) cpq29) (G.length + 1) (cellsF (G ++ ([⟨1, E1⟩] : List Fm)))) := by
                    unfold Hid
                    rw [Fr.cellsF_app]
                    exact hown7
                  have HMq29 : Hid (∀ f ∈ G ++ ([⟨1, E1⟩] : List Fm), Meant f) := by
                    intro f hf
                    rcases List.mem_append.1 hf with h | h
                    · exact HM0.out f h
                    · obtain rfl := List.mem_singleton.1 h; exact HMO.out
                  have hszq29 := HBq29.out.size
                  clear hown7 hgrow7 hbw HOq28 HBq28 hszq28 HM0
                  go_wp2_with fail
                  refine Calls.mono (KN.out wq29 HBq29.out) ?_
                  rintro e wq30 ⟨rfl, hb⟩
                  clear t0 t1 t2 c0 c1 c2 f0
                  have HBq30 : Hid (Below W.heap.size W wq30) := HBq29.out.trans (hb.mono hszq29)
                  have HOq30 : Hid (wq30.ownsRow W.heap.size 35 2 (.slice adq29 (G.length + 1) cpq29) (G.length + 1) (cellsF (G ++ ([⟨1, E1⟩] : List Fm)))) := Fr.owns_below HOq29.out hb
                  have hszq30 := HBq30.out.size
                  clear hb HOq29 HBq29 hszq29
                  have t0 := cl_row (i := 0) (blkT HBq30.out HT.out) rfl
                  have t1 := cl_row (i := 1) (blkT HBq30.out HT.out) rfl
                  have t2 := cl_row (i := 2) (blkT HBq30.out HT.out) rfl
                  have f0 := below_cell HBq30.out HF0.out
                  go_wp2_with fail
                  refine Calls.mono (KR.out wq30 HBq30.out) ?_
                  rintro e wq31 ⟨rfl, hb⟩
                  clear t0 t1 t2 f0
                  have HBq31 : Hid (Below W.heap.size W wq31) := HBq30.out.trans (hb.mono hszq30)
                  have HOq31 : Hid (wq31.ownsRow W.heap.size 35 2 (.slice adq29 (G.length + 1) cpq29) (G.length + 1) (cellsF (G ++ ([⟨1, E1⟩] : List Fm)))) := Fr.owns_below HOq30.out hb
                  have hszq31 := HBq31.out.size
                  clear hb HOq30 HBq30 hszq30
                  have t0 := cl_row (i := 0) (blkT HBq31.out HT.out) rfl
                  have t1 := cl_row (i := 1) (blkT HBq31.out HT.out) rfl
                  have t2 := cl_row (i := 2) (blkT HBq31.out HT.out) rfl
                  have HE : Hid (OwnF wq31 W.heap.size (.slice adq29 (G.length + 1) cpq29) (G ++ ([⟨1, E1⟩] : List Fm))) := by
                    have hl : (G ++ ([⟨1, E1⟩] : List Fm)).length = G.length + 1 := by simp
                    unfold Hid OwnF
                    rw [hl]
                    exact HOq31.out
                  have HLE : Hid ((G ++ ([⟨1, E1⟩] : List Fm)).length ≤ 4 * (n + 1)) := by unfold Hid; (try simp); omega
                  go_wp2
                  go_roundw
                  case rel => exact ⟨n + 1, G ++ ([⟨1, E1⟩] : List Fm), by simp, by omega, HE.out, HMq29.out, HLE.out, HBq31.out⟩
                  case measure => simp [Fr.intOf]; omega
                | true =>
                  rw [show Ms.rfA fx = .tuple #[.string ⟨(Ms.rfL fx).toArray⟩, .int .i64 0] by unfold Ms.rfA; rw [hf]; rfl] at KR
                  have HMF : Hid (Meant ⟨5, Ms.rfL fx⟩) := Or.inr (Or.inr (Or.inr ⟨rfl, fx, hf, rfl⟩))
                  clear hf
                  generalize Ms.rfL fx = E3 at *
                  have hsz0 := HB0.out.size
                  have t0 := cl_row (i := 0) (blkT HB0.out HT.out) rfl
                  have t1 := cl_row (i := 1) (blkT HB0.out HT.out) rfl
                  have t2 := cl_row (i := 2) (blkT HB0.out HT.out) rfl
                  have c0 := below_cell HB0.out HX0.out
                  have c1 := below_cell HB0.out HX1.out
                  have c2 := below_cell HB0.out HX2.out
                  have f0 := below_cell HB0.out HF0.out
                  have HRW : Hid (wr.rangeAt bo (oo + n * 11) (opC ob vf va vk).toList) := range_below HB0.out HRG.out
                  go_wp2_with (refine wpList_load_mid rfl 50 _ rfl bo (oo + n * 11) rfl (opC ob vf va vk).toList _ HRW.out Tryz.underlying50 rfl size50 ?_)
                  refine Calls.mono (KE.out wr HB0.out) ?_
                  rintro e wq32 ⟨rfl, hb⟩
                  clear t0 t1 t2 c0 c1 c2 f0
                  have HBq32 : Hid (Below W.heap.size W wq32) := HB0.out.trans (hb.mono hsz0)
                  have HOq32 : Hid (wq32.ownsRow W.heap.size 35 2 (.slice adg (G.length) cpg) (G.length) (cellsF (G))) := Fr.owns_below HO0.out hb
                  have hszq32 := HBq32.out.size
                  clear hb HO0 HB0 hsz0
                  go_wp2_with (at_builtin; refine wpList_append_own _ rfl _ _ 29 rfl W.heap.size 35 i0 (.agg #[.int .i64 0, .string ⟨#[]⟩]) 2 24 Tryz.underlying29 hi hz0 hz1 hz2 rfl (by decide) (.slice adg (G.length) cpg) (G.length) (cellsF (G)) rfl (World.ownsRow.alloc HOq32.out _) ⟨wq32.heap.size, 0, none⟩ 1 1 (cellsF ([⟨1, E1⟩] : List Fm)) rfl rfl (newsN wq32 (cellsF ([⟨1, E1⟩] : List Fm)) 35) (Fr.cellsF_one ([⟨1, E1⟩] : List Fm)) (by unfold maxLen; omega) (by omega) (Nat.le_trans hszq32 (by simp)) ?_; intro v7 wq33 hown7 hgrow7 _; obtain ⟨adq33, cpq33, rfl⟩ := Fr.slice_of_owns hown7; have hbw : Below W.heap.size wq32 wq33 := ((Below.refl _ _).alloc hszq32 _).grown hgrow7 (Nat.le_trans hszq32 (by simp)) (fun k e => (Fr.owns_lt HOq32.out k e).1); have HBq33 : Hid (Below W.heap.size W wq33) := HBq32.out.trans hbw; have t0 := cl_row (i := 0) (blkT HBq33.out HT.out) rfl; have t1 := cl_row (i := 1) (blkT HBq33.out HT.out) rfl; have t2 := cl_row (i := 2) (blkT HBq33.out HT.out) rfl; have c0 := below_cell HBq33.out HX0.out; have c1 := below_cell HBq33.out HX1.out; have c2 := below_cell HBq33.out HX2.out; have f0 := below_cell HBq33.out HF0.out)
                  have HOq33 : Hid (wq33.ownsRow W.heap.size 35 2 (.slice adq33 (G.length + 1) cpq33) (G.length + 1) (cellsF (G ++ ([⟨1, E1⟩] : List Fm)))) := by
                    unfold Hid
                    rw [Fr.cellsF_app]
                    exact hown7
                  have HMq33 : Hid (∀ f ∈ G ++ ([⟨1, E1⟩] : List Fm), Meant f) := by
                    intro f hf
                    rcases List.mem_append.1 hf with h | h
                    · exact HM0.out f h
                    · obtain rfl := List.mem_singleton.1 h; exact HMO.out
                  have hszq33 := HBq33.out.size
                  clear hown7 hgrow7 hbw HOq32 HBq32 hszq32 HM0
                  go_wp2_with fail
                  refine Calls.mono (KN.out wq33 HBq33.out) ?_
                  rintro e wq34 ⟨rfl, hb⟩
                  clear t0 t1 t2 c0 c1 c2 f0
                  have HBq34 : Hid (Below W.heap.size W wq34) := HBq33.out.trans (hb.mono hszq33)
                  have HOq34 : Hid (wq34.ownsRow W.heap.size 35 2 (.slice adq33 (G.length + 1) cpq33) (G.length + 1) (cellsF (G ++ ([⟨1, E1⟩] : List Fm)))) := Fr.owns_below HOq33.out hb
                  have hszq34 := HBq34.out.size
                  clear hb HOq33 HBq33 hszq33
                  have t0 := cl_row (i := 0) (blkT HBq34.out HT.out) rfl
                  have t1 := cl_row (i := 1) (blkT HBq34.out HT.out) rfl
                  have t2 := cl_row (i := 2) (blkT HBq34.out HT.out) rfl
                  have f0 := below_cell HBq34.out HF0.out
                  go_wp2_with fail
                  refine Calls.mono (KR.out wq34 HBq34.out) ?_
                  rintro e wq35 ⟨rfl, hb⟩
                  clear t0 t1 t2 f0
                  have HBq35 : Hid (Below W.heap.size W wq35) := HBq34.out.trans (hb.mono hszq34)
                  have HOq35 : Hid (wq35.ownsRow W.heap.size 35 2 (.slice adq33 (G.length + 1) cpq33) (G.length + 1) (cellsF (G ++ ([⟨1, E1⟩] : List Fm)))) := Fr.owns_below HOq34.out hb
                  have hszq35 := HBq35.out.size
                  clear hb HOq34 HBq34 hszq34
                  go_wp2_with (at_builtin; refine wpList_append_own _ rfl _ _ 29 rfl W.heap.size 35 i0 (.agg #[.int .i64 0, .string ⟨#[]⟩]) 2 24 Tryz.underlying29 hi hz0 hz1 hz2 rfl (by decide) (.slice adq33 (G.length + 1) cpq33) (G.length + 1) (cellsF (G ++ ([⟨1, E1⟩] : List Fm))) rfl (World.ownsRow.alloc HOq35.out _) ⟨wq35.heap.size, 0, none⟩ 1 1 (cellsF ([⟨5, E3⟩] : List Fm)) rfl rfl (newsN wq35 (cellsF ([⟨5, E3⟩] : List Fm)) 35) (Fr.cellsF_one ([⟨5, E3⟩] : List Fm)) (by unfold maxLen; omega) (by omega) (Nat.le_trans hszq35 (by simp)) ?_; intro v7 wq36 hown7 hgrow7 _; obtain ⟨adq36, cpq36, rfl⟩ := Fr.slice_of_owns hown7; have hbw : Below W.heap.size wq35 wq36 := ((Below.refl _ _).alloc hszq35 _).grown hgrow7 (Nat.le_trans hszq35 (by simp)) (fun k e => (Fr.owns_lt HOq35.out k e).1); have HBq36 : Hid (Below W.heap.size W wq36) := HBq35.out.trans hbw; have t0 := cl_row (i := 0) (blkT HBq36.out HT.out) rfl; have t1 := cl_row (i := 1) (blkT HBq36.out HT.out) rfl; have t2 := cl_row (i := 2) (blkT HBq36.out HT.out) rfl)
                  have HOq36 : Hid (wq36.ownsRow W.heap.size 35 2 (.slice adq36 (G.length + 1 + 1) cpq36) (G.length + 1 + 1) (cellsF (G ++ ([⟨1, E1⟩] : List Fm) ++ ([⟨5, E3⟩] : List Fm)))) := by
                    unfold Hid
                    rw [Fr.cellsF_app]
                    exact hown7
                  have HMq36 : Hid (∀ f ∈ G ++ ([⟨1, E1⟩] : List Fm) ++ ([⟨5, E3⟩] : List Fm), Meant f) := by
                    intro f hf
                    rcases List.mem_append.1 hf with h | h
                    · exact HMq33.out f h
                    · obtain rfl := List.mem_singleton.1 h; exact HMF.out
                  have hszq36 := HBq36.out.size
                  clear hown7 hgrow7 hbw HOq35 HBq35 hszq35 HMq33
                  have HE : Hid (OwnF wq36 W.heap.size (.slice adq36 (G.length + 1 + 1) cpq36) (G ++ ([⟨1, E1⟩] : List Fm) ++ ([⟨5, E3⟩] : List Fm))) := by
                    have hl : (G ++ ([⟨1, E1⟩] : List Fm) ++ ([⟨5, E3⟩] : List Fm)).length = G.length + 1 + 1 := by simp
                    unfold Hid OwnF
                    rw [hl]
                    exact HOq36.out
                  have HLE : Hid ((G ++ ([⟨1, E1⟩] : List Fm) ++ ([⟨5, E3⟩] : List Fm)).length ≤ 4 * (n + 1)) := by unfold Hid; (try simp); omega
                  go_wp2
                  go_roundw
                  case rel => exact ⟨n + 1, G ++ ([⟨1, E1⟩] : List Fm) ++ ([⟨5, E3⟩] : List Fm), by simp, by omega, HE.out, HMq36.out, HLE.out, HBq36.out⟩
                  case measure => simp [Fr.intOf]; omega
              · have hltf : ¬ ((n : Int) < FL.length) := by omega
                have hsz0 := HB0.out.size
                have t0 := cl_row (i := 0) (blkT HB0.out HT.out) rfl
                have t1 := cl_row (i := 1) (blkT HB0.out HT.out) rfl
                have t2 := cl_row (i := 2) (blkT HB0.out HT.out) rfl
                have c0 := below_cell HB0.out HX0.out
                have c1 := below_cell HB0.out HX1.out
                have c2 := below_cell HB0.out HX2.out
                have HRW : Hid (wr.rangeAt bo (oo + n * 11) (opC ob vf va vk).toList) := range_below HB0.out HRG.out
                go_wp2_with (refine wpList_load_mid rfl 50 _ rfl bo (oo + n * 11) rfl (opC ob vf va vk).toList _ HRW.out Tryz.underlying50 rfl size50 ?_)
                refine Calls.mono (KE.out wr HB0.out) ?_
                rintro e wq37 ⟨rfl, hb⟩
                clear t0 t1 t2 c0 c1 c2
                have HBq37 : Hid (Below W.heap.size W wq37) := HB0.out.trans (hb.mono hsz0)
                have HOq37 : Hid (wq37.ownsRow W.heap.size 35 2 (.slice adg (G.length) cpg) (G.length) (cellsF (G))) := Fr.owns_below HO0.out hb
                have hszq37 := HBq37.out.size
                clear hb HO0 HB0 hsz0
                go_wp2_with (at_builtin; refine wpList_append_own _ rfl _ _ 29 rfl W.heap.size 35 i0 (.agg #[.int .i64 0, .string ⟨#[]⟩]) 2 24 Tryz.underlying29 hi hz0 hz1 hz2 rfl (by decide) (.slice adg (G.length) cpg) (G.length) (cellsF (G)) rfl (World.ownsRow.alloc HOq37.out _) ⟨wq37.heap.size, 0, none⟩ 1 1 (cellsF ([⟨1, E1⟩] : List Fm)) rfl rfl (newsN wq37 (cellsF ([⟨1, E1⟩] : List Fm)) 35) (Fr.cellsF_one ([⟨1, E1⟩] : List Fm)) (by unfold maxLen; omega) (by omega) (Nat.le_trans hszq37 (by simp)) ?_; intro v7 wq38 hown7 hgrow7 _; obtain ⟨adq38, cpq38, rfl⟩ := Fr.slice_of_owns hown7; have hbw : Below W.heap.size wq37 wq38 := ((Below.refl _ _).alloc hszq37 _).grown hgrow7 (Nat.le_trans hszq37 (by simp)) (fun k e => (Fr.owns_lt HOq37.out k e).1); have HBq38 : Hid (Below W.heap.size W wq38) := HBq37.out.trans hbw; have t0 := cl_row (i := 0) (blkT HBq38.out HT.out) rfl; have t1 := cl_row (i := 1) (blkT HBq38.out HT.out) rfl; have t2 := cl_row (i := 2) (blkT HBq38.out HT.out) rfl; have c0 := below_cell HBq38.out HX0.out; have c1 := below_cell HBq38.out HX1.out; have c2 := below_cell HBq38.out HX2.out)
                have HOq38 : Hid (wq38.ownsRow W.heap.size 35 2 (.slice adq38 (G.length + 1) cpq38) (G.length + 1) (cellsF (G ++ ([⟨1, E1⟩] : List Fm)))) := by
                  unfold Hid
                  rw [Fr.cellsF_app]
                  exact hown7
                have HMq38 : Hid (∀ f ∈ G ++ ([⟨1, E1⟩] : List Fm), Meant f) := by
                  intro f hf
                  rcases List.mem_append.1 hf with h | h
                  · exact HM0.out f h
                  · obtain rfl := List.mem_singleton.1 h; exact HMO.out
                have hszq38 := HBq38.out.size
                clear hown7 hgrow7 hbw HOq37 HBq37 hszq37 HM0
                go_wp2_with fail
                refine Calls.mono (KN.out wq38 HBq38.out) ?_
                rintro e wq39 ⟨rfl, hb⟩
                clear t0 t1 t2 c0 c1 c2
                have HBq39 : Hid (Below W.heap.size W wq39) := HBq38.out.trans (hb.mono hszq38)
                have HOq39 : Hid (wq39.ownsRow W.heap.size 35 2 (.slice adq38 (G.length + 1) cpq38) (G.length + 1) (cellsF (G ++ ([⟨1, E1⟩] : List Fm)))) := Fr.owns_below HOq38.out hb
                have hszq39 := HBq39.out.size
                clear hb HOq38 HBq38 hszq38
                have t0 := cl_row (i := 0) (blkT HBq39.out HT.out) rfl
                have t1 := cl_row (i := 1) (blkT HBq39.out HT.out) rfl
                have t2 := cl_row (i := 2) (blkT HBq39.out HT.out) rfl
                have HE : Hid (OwnF wq39 W.heap.size (.slice adq38 (G.length + 1) cpq38) (G ++ ([⟨1, E1⟩] : List Fm))) := by
                  have hl : (G ++ ([⟨1, E1⟩] : List Fm)).length = G.length + 1 := by simp
                  unfold Hid OwnF
                  rw [hl]
                  exact HOq39.out
                have HLE : Hid ((G ++ ([⟨1, E1⟩] : List Fm)).length ≤ 4 * (n + 1)) := by unfold Hid; (try simp); omega
                go_wp2
                go_roundw
                case rel => exact ⟨n + 1, G ++ ([⟨1, E1⟩] : List Fm), by simp, by omega, HE.out, HMq38.out, HLE.out, HBq39.out⟩
                case measure => simp [Fr.intOf]; omega
            · rw [hA] at KN
              have HMN : Hid (Meant ⟨3, Ms.ntL nt.c nt.s nt.d⟩ ∧ Meant ⟨4, []⟩) := ⟨Or.inr (Or.inl ⟨rfl, nt.c, nt.s, nt.d, HNB.out.1, HNB.out.2, hz, hd, rfl⟩), Or.inr (Or.inr (Or.inl ⟨rfl, rfl⟩))⟩
              clear hA HNB hz hd
              generalize Ms.ntL nt.c nt.s nt.d = E2 at *
              by_cases hhf : n < FL.length
              · have hltf : (n : Int) < FL.length := by omega
                obtain rfl : af = some ⟨bf, of_, none⟩ := by rcases HAF.out with h | h; exact h; omega
                have HF0 : Hid (_ = _) := HFA.out n hhf
                generalize FL[n] = fx at *
                have KR : Hid (∀ X, Below W.heap.size W X → _) := fun X hX => Ms.refresh_any fx X (HG.out.below hX)
                cases hf : isF fx with
                | false =>
                  rw [show Ms.rfA fx = .tuple #[.string ⟨#[]⟩, .int .i64 2] by unfold Ms.rfA; rw [hf]; rfl] at KR
                  clear hf
                  have hsz0 := HB0.out.size
                  have t0 := cl_row (i := 0) (blkT HB0.out HT.out) rfl
                  have t1 := cl_row (i := 1) (blkT HB0.out HT.out) rfl
                  have t2 := cl_row (i := 2) (blkT HB0.out HT.out) rfl
                  have c0 := below_cell HB0.out HX0.out
                  have c1 := below_cell HB0.out HX1.out
                  have c2 := below_cell HB0.out HX2.out
                  have f0 := below_cell HB0.out HF0.out
                  have HRW : Hid (wr.rangeAt bo (oo + n * 11) (opC ob vf va vk).toList) := range_below HB0.out HRG.out
                  go_wp2_with (refine wpList_load_mid rfl 50 _ rfl bo (oo + n * 11) rfl (opC ob vf va vk).toList _ HRW.out Tryz.underlying50 rfl size50 ?_)
                  refine Calls.mono (KE.out wr HB0.out) ?_
                  rintro e wq40 ⟨rfl, hb⟩
                  clear t0 t1 t2 c0 c1 c2 f0
                  have HBq40 : Hid (Below W.heap.size W wq40) := HB0.out.trans (hb.mono hsz0)
                  have HOq40 : Hid (wq40.ownsRow W.heap.size 35 2 (.slice adg (G.length) cpg) (G.length) (cellsF (G))) := Fr.owns_below HO0.out hb
                  have hszq40 := HBq40.out.size
                  clear hb HO0 HB0 hsz0
                  go_wp2_with (at_builtin; refine wpList_append_own _ rfl _ _ 29 rfl W.heap.size 35 i0 (.agg #[.int .i64 0, .string ⟨#[]⟩]) 2 24 Tryz.underlying29 hi hz0 hz1 hz2 rfl (by decide) (.slice adg (G.length) cpg) (G.length) (cellsF (G)) rfl (World.ownsRow.alloc HOq40.out _) ⟨wq40.heap.size, 0, none⟩ 1 1 (cellsF ([⟨1, E1⟩] : List Fm)) rfl rfl (newsN wq40 (cellsF ([⟨1, E1⟩] : List Fm)) 35) (Fr.cellsF_one ([⟨1, E1⟩] : List Fm)) (by unfold maxLen; omega) (by omega) (Nat.le_trans hszq40 (by simp)) ?_; intro v7 wq41 hown7 hgrow7 _; obtain ⟨adq41, cpq41, rfl⟩ := Fr.slice_of_owns hown7; have hbw : Below W.heap.size wq40 wq41 := ((Below.refl _ _).alloc hszq40 _).grown hgrow7 (Nat.le_trans hszq40 (by simp)) (fun k e => (Fr.owns_lt HOq40.out k e).1); have HBq41 : Hid (Below W.heap.size W wq41) := HBq40.out.trans hbw; have t0 := cl_row (i := 0) (blkT HBq41.out HT.out) rfl; have t1 := cl_row (i := 1) (blkT HBq41.out HT.out) rfl; have t2 := cl_row (i := 2) (blkT HBq41.out HT.out) rfl; have c0 := below_cell HBq41.out HX0.out; have c1 := below_cell HBq41.out HX1.out; have c2 := below_cell HBq41.out HX2.out; have f0 := below_cell HBq41.out HF0.out)
                  have HOq41 : Hid (wq41.ownsRow W.heap.size 35 2 (.slice adq41 (G.length + 1) cpq41) (G.length + 1) (cellsF (G ++ ([⟨1, E1⟩] : List Fm)))) := by
                    unfold Hid
                    rw [Fr.cellsF_app]
                    exact hown7
                  have HMq41 : Hid (∀ f ∈ G ++ ([⟨1, E1⟩] : List Fm), Meant f) := by
                    intro f hf
                    rcases List.mem_append.1 hf with h | h
                    · exact HM0.out f h
                    · obtain rfl := List.mem_singleton.1 h; exact HMO.out
                  have hszq41 := HBq41.out.size
                  clear hown7 hgrow7 hbw HOq40 HBq40 hszq40 HM0
                  go_wp2_with fail
                  refine Calls.mono (KN.out wq41 HBq41.out) ?_
                  rintro e wq42 ⟨rfl, hb⟩
                  clear t0 t1 t2 c0 c1 c2 f0
                  have HBq42 : Hid (Below W.heap.size W wq42) := HBq41.out.trans (hb.mono hszq41)
                  have HOq42 : Hid (wq42.ownsRow W.heap.size 35 2 (.slice adq41 (G.length + 1) cpq41) (G.length + 1) (cellsF (G ++ ([⟨1, E1⟩] : List Fm)))) := Fr.owns_below HOq41.out hb
                  have hszq42 := HBq42.out.size
                  clear hb HOq41 HBq41 hszq41
                  go_wp2_with (at_builtin; refine wpList_append_own _ rfl _ _ 29 rfl W.heap.size 35 i0 (.agg #[.int .i64 0, .string ⟨#[]⟩]) 2 24 Tryz.underlying29 hi hz0 hz1 hz2 rfl (by decide) (.slice adq41 (G.length + 1) cpq41) (G.length + 1) (cellsF (G ++ ([⟨1, E1⟩] : List Fm))) rfl (World.ownsRow.alloc HOq42.out _) ⟨wq42.heap.size, 0, none⟩ 2 2 (cellsF ([⟨3, E2⟩, ⟨4, []⟩] : List Fm)) rfl rfl (newsN wq42 (cellsF ([⟨3, E2⟩, ⟨4, []⟩] : List Fm)) 35) (Fr.cellsF_one ([⟨3, E2⟩, ⟨4, []⟩] : List Fm)) (by unfold maxLen; omega) (by omega) (Nat.le_trans hszq42 (by simp)) ?_; intro v7 wq43 hown7 hgrow7 _; obtain ⟨adq43, cpq43, rfl⟩ := Fr.slice_of_owns hown7; have hbw : Below W.heap.size wq42 wq43 := ((Below.refl _ _).alloc hszq42 _).grown hgrow7 (Nat.le_trans hszq42 (by simp)) (fun k e => (Fr.owns_lt HOq42.out k e).1); have HBq43 : Hid (Below W.heap.size W wq43) := HBq42.out.trans hbw; have t0 := cl_row (i := 0) (blkT HBq43.out HT.out) rfl; have t1 := cl_row (i := 1) (blkT HBq43.out HT.out) rfl; have t2 := cl_row (i := 2) (blkT HBq43.out HT.out) rfl; have f0 := below_cell HBq43.out HF0.out)
                  have HOq43 : Hid (wq43.ownsRow W.heap.size 35 2 (.slice adq43 (G.length + 1 + 2) cpq43) (G.length + 1 + 2) (cellsF (G ++ ([⟨1, E1⟩] : List Fm) ++ ([⟨3, E2⟩, ⟨4, []⟩] : List Fm)))) := by
                    unfold Hid
                    rw [Fr.cellsF_app]
                    exact hown7
                  have HMq43 : Hid (∀ f ∈ G ++ ([⟨1, E1⟩] : List Fm) ++ ([⟨3, E2⟩, ⟨4, []⟩] : List Fm), Meant f) := by
                    intro f hf
                    rcases List.mem_append.1 hf with h | h
                    · exact HMq41.out f h
                    · simp only [List.mem_cons, List.not_mem_nil, or_false] at h; rcases h with rfl | rfl; exact HMN.out.1; exact HMN.out.2
                  have hszq43 := HBq43.out.size
                  clear hown7 hgrow7 hbw HOq42 HBq42 hszq42 HMq41
                  go_wp2_with fail
                  refine Calls.mono (KR.out wq43 HBq43.out) ?_
                  rintro e wq44 ⟨rfl, hb⟩
                  clear t0 t1 t2 f0
                  have HBq44 : Hid (Below W.heap.size W wq44) := HBq43.out.trans (hb.mono hszq43)
                  have HOq44 : Hid (wq44.ownsRow W.heap.size 35 2 (.slice adq43 (G.length + 1 + 2) cpq43) (G.length + 1 + 2) (cellsF (G ++ ([⟨1, E1⟩] : List Fm) ++ ([⟨3, E2⟩, ⟨4, []⟩] : List Fm)))) := Fr.owns_below HOq43.out hb
                  have hszq44 := HBq44.out.size
                  clear hb HOq43 HBq43 hszq43
                  have t0 := cl_row (i := 0) (blkT HBq44.out HT.out) rfl
                  have t1 := cl_row (i := 1) (blkT HBq44.out HT.out) rfl
                  have t2 := cl_row (i := 2) (blkT HBq44.out HT.out) rfl
                  have HE : Hid (OwnF wq44 W.heap.size (.slice adq43 (G.length + 1 + 2) cpq43) (G ++ ([⟨1, E1⟩] : List Fm) ++ ([⟨3, E2⟩, ⟨4, []⟩] : List Fm))) := by
                    have hl : (G ++ ([⟨1, E1⟩] : List Fm) ++ ([⟨3, E2⟩, ⟨4, []⟩] : List Fm)).length = G.length + 1 + 2 := by simp
                    unfold Hid OwnF
                    rw [hl]
                    exact HOq44.out
                  have HLE : Hid ((G ++ ([⟨1, E1⟩] : List Fm) ++ ([⟨3, E2⟩, ⟨4, []⟩] : List Fm)).length ≤ 4 * (n + 1)) := by unfold Hid; (try simp); omega
                  go_wp2
                  go_roundw
                  case rel => exact ⟨n + 1, G ++ ([⟨1, E1⟩] : List Fm) ++ ([⟨3, E2⟩, ⟨4, []⟩] : List Fm), by simp, by omega, HE.out, HMq43.out, HLE.out, HBq44.out⟩
                  case measure => simp [Fr.intOf]; omega
                | true =>
                  rw [show Ms.rfA fx = .tuple #[.string ⟨(Ms.rfL fx).toArray⟩, .int .i64 0] by unfold Ms.rfA; rw [hf]; rfl] at KR
                  have HMF : Hid (Meant ⟨5, Ms.rfL fx⟩) := Or.inr (Or.inr (Or.inr ⟨rfl, fx, hf, rfl⟩))
                  clear hf
                  generalize Ms.rfL fx = E3 at *
                  have hsz0 := HB0.out.size
                  have t0 := cl_row (i := 0) (blkT HB0.out HT.out) rfl
                  have t1 := cl_row (i := 1) (blkT HB0.out HT.out) rfl
                  have t2 := cl_row (i := 2) (blkT HB0.out HT.out) rfl
                  have c0 := below_cell HB0.out HX0.out
                  have c1 := below_cell HB0.out HX1.out
                  have c2 := below_cell HB0.out HX2.out
                  have f0 := below_cell HB0.out HF0.out
                  have HRW : Hid (wr.rangeAt bo (oo + n * 11) (opC ob vf va vk).toList) := range_below HB0.out HRG.out
                  go_wp2_with (refine wpList_load_mid rfl 50 _ rfl bo (oo + n * 11) rfl (opC ob vf va vk).toList _ HRW.out Tryz.underlying50 rfl size50 ?_)
                  refine Calls.mono (KE.out wr HB0.out) ?_
                  rintro e wq45 ⟨rfl, hb⟩
                  clear t0 t1 t2 c0 c1 c2 f0
                  have HBq45 : Hid (Below W.heap.size W wq45) := HB0.out.trans (hb.mono hsz0)
                  have HOq45 : Hid (wq45.ownsRow W.heap.size 35 2 (.slice adg (G.length) cpg) (G.length) (cellsF (G))) := Fr.owns_below HO0.out hb
                  have hszq45 := HBq45.out.size
                  clear hb HO0 HB0 hsz0
                  go_wp2_with (at_builtin; refine wpList_append_own _ rfl _ _ 29 rfl W.heap.size 35 i0 (.agg #[.int .i64 0, .string ⟨#[]⟩]) 2 24 Tryz.underlying29 hi hz0 hz1 hz2 rfl (by decide) (.slice adg (G.length) cpg) (G.length) (cellsF (G)) rfl (World.ownsRow.alloc HOq45.out _) ⟨wq45.heap.size, 0, none⟩ 1 1 (cellsF ([⟨1, E1⟩] : List Fm)) rfl rfl (newsN wq45 (cellsF ([⟨1, E1⟩] : List Fm)) 35) (Fr.cellsF_one ([⟨1, E1⟩] : List Fm)) (by unfold maxLen; omega) (by omega) (Nat.le_trans hszq45 (by simp)) ?_; intro v7 wq46 hown7 hgrow7 _; obtain ⟨adq46, cpq46, rfl⟩ := Fr.slice_of_owns hown7; have hbw : Below W.heap.size wq45 wq46 := ((Below.refl _ _).alloc hszq45 _).grown hgrow7 (Nat.le_trans hszq45 (by simp)) (fun k e => (Fr.owns_lt HOq45.out k e).1); have HBq46 : Hid (Below W.heap.size W wq46) := HBq45.out.trans hbw; have t0 := cl_row (i := 0) (blkT HBq46.out HT.out) rfl; have t1 := cl_row (i := 1) (blkT HBq46.out HT.out) rfl; have t2 := cl_row (i := 2) (blkT HBq46.out HT.out) rfl; have c0 := below_cell HBq46.out HX0.out; have c1 := below_cell HBq46.out HX1.out; have c2 := below_cell HBq46.out HX2.out; have f0 := below_cell HBq46.out HF0.out)
                  have HOq46 : Hid (wq46.ownsRow W.heap.size 35 2 (.slice adq46 (G.length + 1) cpq46) (G.length + 1) (cellsF (G ++ ([⟨1, E1⟩] : List Fm)))) := by
                    unfold Hid
                    rw [Fr.cellsF_app]
                    exact hown7
                  have HMq46 : Hid (∀ f ∈ G ++ ([⟨1, E1⟩] : List Fm), Meant f) := by
                    intro f hf
                    rcases List.mem_append.1 hf with h | h
                    · exact HM0.out f h
                    · obtain rfl := List.mem_singleton.1 h; exact HMO.out
                  have hszq46 := HBq46.out.size
                  clear hown7 hgrow7 hbw HOq45 HBq45 hszq45 HM0
                  go_wp2_with fail
                  refine Calls.mono (KN.out wq46 HBq46.out) ?_
                  rintro e wq47 ⟨rfl, hb⟩
                  clear t0 t1 t2 c0 c1 c2 f0
                  have HBq47 : Hid (Below W.heap.size W wq47) := HBq46.out.trans (hb.mono hszq46)
                  have HOq47 : Hid (wq47.ownsRow W.heap.size 35 2 (.slice adq46 (G.length + 1) cpq46) (G.length + 1) (cellsF (G ++ ([⟨1, E1⟩] : List Fm)))) := Fr.owns_below HOq46.out hb
                  have hszq47 := HBq47.out.size
                  clear hb HOq46 HBq46 hszq46
                  go_wp2_with (at_builtin; refine wpList_append_own _ rfl _ _ 29 rfl W.heap.size 35 i0 (.agg #[.int .i64 0, .string ⟨#[]⟩]) 2 24 Tryz.underlying29 hi hz0 hz1 hz2 rfl (by decide) (.slice adq46 (G.length + 1) cpq46) (G.length + 1) (cellsF (G ++ ([⟨1, E1⟩] : List Fm))) rfl (World.ownsRow.alloc HOq47.out _) ⟨wq47.heap.size, 0, none⟩ 2 2 (cellsF ([⟨3, E2⟩, ⟨4, []⟩] : List Fm)) rfl rfl (newsN wq47 (cellsF ([⟨3, E2⟩, ⟨4, []⟩] : List Fm)) 35) (Fr.cellsF_one ([⟨3, E2⟩, ⟨4, []⟩] : List Fm)) (by unfold maxLen; omega) (by omega) (Nat.le_trans hszq47 (by simp)) ?_; intro v7 wq48 hown7 hgrow7 _; obtain ⟨adq48, cpq48, rfl⟩ := Fr.slice_of_owns hown7; have hbw : Below W.heap.size wq47 wq48 := ((Below.refl _ _).alloc hszq47 _).grown hgrow7 (Nat.le_trans hszq47 (by simp)) (fun k e => (Fr.owns_lt HOq47.out k e).1); have HBq48 : Hid (Below W.heap.size W wq48) := HBq47.out.trans hbw; have t0 := cl_row (i := 0) (blkT HBq48.out HT.out) rfl; have t1 := cl_row (i := 1) (blkT HBq48.out HT.out) rfl; have t2 := cl_row (i := 2) (blkT HBq48.out HT.out) rfl; have f0 := below_cell HBq48.out HF0.out)
                  have HOq48 : Hid (wq48.ownsRow W.heap.size 35 2 (.slice adq48 (G.length + 1 + 2) cpq48) (G.length + 1 + 2) (cellsF (G ++ ([⟨1, E1⟩] : List Fm) ++ ([⟨3, E2⟩, ⟨4, []⟩] : List Fm)))) := by
                    unfold Hid
                    rw [Fr.cellsF_app]
                    exact hown7
                  have HMq48 : Hid (∀ f ∈ G ++ ([⟨1, E1⟩] : List Fm) ++ ([⟨3, E2⟩, ⟨4, []⟩] : List Fm), Meant f) := by
                    intro f hf
                    rcases List.mem_append.1 hf with h | h
                    · exact HMq46.out f h
                    · simp only [List.mem_cons, List.not_mem_nil, or_false] at h; rcases h with rfl | rfl; exact HMN.out.1; exact HMN.out.2
                  have hszq48 := HBq48.out.size
                  clear hown7 hgrow7 hbw HOq47 HBq47 hszq47 HMq46
                  go_wp2_with fail
                  refine Calls.mono (KR.out wq48 HBq48.out) ?_
                  rintro e wq49 ⟨rfl, hb⟩
                  clear t0 t1 t2 f0
                  have HBq49 : Hid (Below W.heap.size W wq49) := HBq48.out.trans (hb.mono hszq48)
                  have HOq49 : Hid (wq49.ownsRow W.heap.size 35 2 (.slice adq48 (G.length + 1 + 2) cpq48) (G.length + 1 + 2) (cellsF (G ++ ([⟨1, E1⟩] : List Fm) ++ ([⟨3, E2⟩, ⟨4, []⟩] : List Fm)))) := Fr.owns_below HOq48.out hb
                  have hszq49 := HBq49.out.size
                  clear hb HOq48 HBq48 hszq48
                  go_wp2_with (at_builtin; refine wpList_append_own _ rfl _ _ 29 rfl W.heap.size 35 i0 (.agg #[.int .i64 0, .string ⟨#[]⟩]) 2 24 Tryz.underlying29 hi hz0 hz1 hz2 rfl (by decide) (.slice adq48 (G.length + 1 + 2) cpq48) (G.length + 1 + 2) (cellsF (G ++ ([⟨1, E1⟩] : List Fm) ++ ([⟨3, E2⟩, ⟨4, []⟩] : List Fm))) rfl (World.ownsRow.alloc HOq49.out _) ⟨wq49.heap.size, 0, none⟩ 1 1 (cellsF ([⟨5, E3⟩] : List Fm)) rfl rfl (newsN wq49 (cellsF ([⟨5, E3⟩] : List Fm)) 35) (Fr.cellsF_one ([⟨5, E3⟩] : List Fm)) (by unfold maxLen; omega) (by omega) (Nat.le_trans hszq49 (by simp)) ?_; intro v7 wq50 hown7 hgrow7 _; obtain ⟨adq50, cpq50, rfl⟩ := Fr.slice_of_owns hown7; have hbw : Below W.heap.size wq49 wq50 := ((Below.refl _ _).alloc hszq49 _).grown hgrow7 (Nat.le_trans hszq49 (by simp)) (fun k e => (Fr.owns_lt HOq49.out k e).1); have HBq50 : Hid (Below W.heap.size W wq50) := HBq49.out.trans hbw; have t0 := cl_row (i := 0) (blkT HBq50.out HT.out) rfl; have t1 := cl_row (i := 1) (blkT HBq50.out HT.out) rfl; have t2 := cl_row (i := 2) (blkT HBq50.out HT.out) rfl)
                  have HOq50 : Hid (wq50.ownsRow W.heap.size 35 2 (.slice adq50 (G.length + 1 + 2 + 1) cpq50) (G.length + 1 + 2 + 1) (cellsF (G ++ ([⟨1, E1⟩] : List Fm) ++ ([⟨3, E2⟩, ⟨4, []⟩] : List Fm) ++ ([⟨5, E3⟩] : List Fm)))) := by
                    unfold Hid
                    rw [Fr.cellsF_app]
                    exact hown7
                  have HMq50 : Hid (∀ f ∈ G ++ ([⟨1, E1⟩] : List Fm) ++ ([⟨3, E2⟩, ⟨4, []⟩] : List Fm) ++ ([⟨5, E3⟩] : List Fm), Meant f) := by
                    intro f hf
                    rcases List.mem_append.1 hf with h | h
                    · exact HMq48.out f h
                    · obtain rfl := List.mem_singleton.1 h; exact HMF.out
                  have hszq50 := HBq50.out.size
                  clear hown7 hgrow7 hbw HOq49 HBq49 hszq49 HMq48
                  have HE : Hid (OwnF wq50 W.heap.size (.slice adq50 (G.length + 1 + 2 + 1) cpq50) (G ++ ([⟨1, E1⟩] : List Fm) ++ ([⟨3, E2⟩, ⟨4, []⟩] : List Fm) ++ ([⟨5, E3⟩] : List Fm))) := by
                    have hl : (G ++ ([⟨1, E1⟩] : List Fm) ++ ([⟨3, E2⟩, ⟨4, []⟩] : List Fm) ++ ([⟨5, E3⟩] : List Fm)).length = G.length + 1 + 2 + 1 := by simp
                    unfold Hid OwnF
                    rw [hl]
                    exact HOq50.out
                  have HLE : Hid ((G ++ ([⟨1, E1⟩] : List Fm) ++ ([⟨3, E2⟩, ⟨4, []⟩] : List Fm) ++ ([⟨5, E3⟩] : List Fm)).length ≤ 4 * (n + 1)) := by unfold Hid; (try simp); omega
                  go_wp2
                  go_roundw
                  case rel => exact ⟨n + 1, G ++ ([⟨1, E1⟩] : List Fm) ++ ([⟨3, E2⟩, ⟨4, []⟩] : List Fm) ++ ([⟨5, E3⟩] : List Fm), by simp, by omega, HE.out, HMq50.out, HLE.out, HBq50.out⟩
                  case measure => simp [Fr.intOf]; omega
              · have hltf : ¬ ((n : Int) < FL.length) := by omega
                have hsz0 := HB0.out.size
                have t0 := cl_row (i := 0) (blkT HB0.out HT.out) rfl
                have t1 := cl_row (i := 1) (blkT HB0.out HT.out) rfl
                have t2 := cl_row (i := 2) (blkT HB0.out HT.out) rfl
                have c0 := below_cell HB0.out HX0.out
                have c1 := below_cell HB0.out HX1.out
                have c2 := below_cell HB0.out HX2.out
                have HRW : Hid (wr.rangeAt bo (oo + n * 11) (opC ob vf va vk).toList) := range_below HB0.out HRG.out
                go_wp2_with (refine wpList_load_mid rfl 50 _ rfl bo (oo + n * 11) rfl (opC ob vf va vk).toList _ HRW.out Tryz.underlying50 rfl size50 ?_)
                refine Calls.mono (KE.out wr HB0.out) ?_
                rintro e wq51 ⟨rfl, hb⟩
                clear t0 t1 t2 c0 c1 c2
                have HBq51 : Hid (Below W.heap.size W wq51) := HB0.out.trans (hb.mono hsz0)
                have HOq51 : Hid (wq51.ownsRow W.heap.size 35 2 (.slice adg (G.length) cpg) (G.length) (cellsF (G))) := Fr.owns_below HO0.out hb
                have hszq51 := HBq51.out.size
                clear hb HO0 HB0 hsz0
                go_wp2_with (at_builtin; refine wpList_append_own _ rfl _ _ 29 rfl W.heap.size 35 i0 (.agg #[.int .i64 0, .string ⟨#[]⟩]) 2 24 Tryz.underlying29 hi hz0 hz1 hz2 rfl (by decide) (.slice adg (G.length) cpg) (G.length) (cellsF (G)) rfl (World.ownsRow.alloc HOq51.out _) ⟨wq51.heap.size, 0, none⟩ 1 1 (cellsF ([⟨1, E1⟩] : List Fm)) rfl rfl (newsN wq51 (cellsF ([⟨1, E1⟩] : List Fm)) 35) (Fr.cellsF_one ([⟨1, E1⟩] : List Fm)) (by unfold maxLen; omega) (by omega) (Nat.le_trans hszq51 (by simp)) ?_; intro v7 wq52 hown7 hgrow7 _; obtain ⟨adq52, cpq52, rfl⟩ := Fr.slice_of_owns hown7; have hbw : Below W.heap.size wq51 wq52 := ((Below.refl _ _).alloc hszq51 _).grown hgrow7 (Nat.le_trans hszq51 (by simp)) (fun k e => (Fr.owns_lt HOq51.out k e).1); have HBq52 : Hid (Below W.heap.size W wq52) := HBq51.out.trans hbw; have t0 := cl_row (i := 0) (blkT HBq52.out HT.out) rfl; have t1 := cl_row (i := 1) (blkT HBq52.out HT.out) rfl; have t2 := cl_row (i := 2) (blkT HBq52.out HT.out) rfl; have c0 := below_cell HBq52.out HX0.out; have c1 := below_cell HBq52.out HX1.out; have c2 := below_cell HBq52.out HX2.out)
                have HOq52 : Hid (wq52.ownsRow W.heap.size 35 2 (.slice adq52 (G.length + 1) cpq52) (G.length + 1) (cellsF (G ++ ([⟨1, E1⟩] : List Fm)))) := by
                  unfold Hid
                  rw [Fr.cellsF_app]
                  exact hown7
                have HMq52 : Hid (∀ f ∈ G ++ ([⟨1, E1⟩] : List Fm), Meant f) := by
                  intro f hf
                  rcases List.mem_append.1 hf with h | h
                  · exact HM0.out f h
                  · obtain rfl := List.mem_singleton.1 h; exact HMO.out
                have hszq52 := HBq52.out.size
                clear hown7 hgrow7 hbw HOq51 HBq51 hszq51 HM0
                go_wp2_with fail
                refine Calls.mono (KN.out wq52 HBq52.out) ?_
                rintro e wq53 ⟨rfl, hb⟩
                clear t0 t1 t2 c0 c1 c2
                have HBq53 : Hid (Below W.heap.size W wq53) := HBq52.out.trans (hb.mono hszq52)
                have HOq53 : Hid (wq53.ownsRow W.heap.size 35 2 (.slice adq52 (G.length + 1) cpq52) (G.length + 1) (cellsF (G ++ ([⟨1, E1⟩] : List Fm)))) := Fr.owns_below HOq52.out hb
                have hszq53 := HBq53.out.size
                clear hb HOq52 HBq52 hszq52
                go_wp2_with (at_builtin; refine wpList_append_own _ rfl _ _ 29 rfl W.heap.size 35 i0 (.agg #[.int .i64 0, .string ⟨#[]⟩]) 2 24 Tryz.underlying29 hi hz0 hz1 hz2 rfl (by decide) (.slice adq52 (G.length + 1) cpq52) (G.length + 1) (cellsF (G ++ ([⟨1, E1⟩] : List Fm))) rfl (World.ownsRow.alloc HOq53.out _) ⟨wq53.heap.size, 0, none⟩ 2 2 (cellsF ([⟨3, E2⟩, ⟨4, []⟩] : List Fm)) rfl rfl (newsN wq53 (cellsF ([⟨3, E2⟩, ⟨4, []⟩] : List Fm)) 35) (Fr.cellsF_one ([⟨3, E2⟩, ⟨4, []⟩] : List Fm)) (by unfold maxLen; omega) (by omega) (Nat.le_trans hszq53 (by simp)) ?_; intro v7 wq54 hown7 hgrow7 _; obtain ⟨adq54, cpq54, rfl⟩ := Fr.slice_of_owns hown7; have hbw : Below W.heap.size wq53 wq54 := ((Below.refl _ _).alloc hszq53 _).grown hgrow7 (Nat.le_trans hszq53 (by simp)) (fun k e => (Fr.owns_lt HOq53.out k e).1); have HBq54 : Hid (Below W.heap.size W wq54) := HBq53.out.trans hbw; have t0 := cl_row (i := 0) (blkT HBq54.out HT.out) rfl; have t1 := cl_row (i := 1) (blkT HBq54.out HT.out) rfl; have t2 := cl_row (i := 2) (blkT HBq54.out HT.out) rfl)
                have HOq54 : Hid (wq54.ownsRow W.heap.size 35 2 (.slice adq54 (G.length + 1 + 2) cpq54) (G.length + 1 + 2) (cellsF (G ++ ([⟨1, E1⟩] : List Fm) ++ ([⟨3, E2⟩, ⟨4, []⟩] : List Fm)))) := by
                  unfold Hid
                  rw [Fr.cellsF_app]
                  exact hown7
                have HMq54 : Hid (∀ f ∈ G ++ ([⟨1, E1⟩] : List Fm) ++ ([⟨3, E2⟩, ⟨4, []⟩] : List Fm), Meant f) := by
                  intro f hf
                  rcases List.mem_append.1 hf with h | h
                  · exact HMq52.out f h
                  · simp only [List.mem_cons, List.not_mem_nil, or_false] at h; rcases h with rfl | rfl; exact HMN.out.1; exact HMN.out.2
                have hszq54 := HBq54.out.size
                clear hown7 hgrow7 hbw HOq53 HBq53 hszq53 HMq52
                have HE : Hid (OwnF wq54 W.heap.size (.slice adq54 (G.length + 1 + 2) cpq54) (G ++ ([⟨1, E1⟩] : List Fm) ++ ([⟨3, E2⟩, ⟨4, []⟩] : List Fm))) := by
                  have hl : (G ++ ([⟨1, E1⟩] : List Fm) ++ ([⟨3, E2⟩, ⟨4, []⟩] : List Fm)).length = G.length + 1 + 2 := by simp
                  unfold Hid OwnF
                  rw [hl]
                  exact HOq54.out
                have HLE : Hid ((G ++ ([⟨1, E1⟩] : List Fm) ++ ([⟨3, E2⟩, ⟨4, []⟩] : List Fm)).length ≤ 4 * (n + 1)) := by unfold Hid; (try simp); omega
                go_wp2
                go_roundw
                case rel => exact ⟨n + 1, G ++ ([⟨1, E1⟩] : List Fm) ++ ([⟨3, E2⟩, ⟨4, []⟩] : List Fm), by simp, by omega, HE.out, HMq54.out, HLE.out, HBq54.out⟩
                case measure => simp [Fr.intOf]; omega
          · have hltn : ¬ ((n : Int) < NL.length) := by omega
            by_cases hhf : n < FL.length
            · have hltf : (n : Int) < FL.length := by omega
              obtain rfl : af = some ⟨bf, of_, none⟩ := by rcases HAF.out with h | h; exact h; omega
              have HF0 : Hid (_ = _) := HFA.out n hhf
              generalize FL[n] = fx at *
              have KR : Hid (∀ X, Below W.heap.size W X → _) := fun X hX => Ms.refresh_any fx X (HG.out.below hX)
              cases hf : isF fx with
              | false =>
                rw [show Ms.rfA fx = .tuple #[.string ⟨#[]⟩, .int .i64 2] by unfold Ms.rfA; rw [hf]; rfl] at KR
                clear hf
                have hsz0 := HB0.out.size
                have t0 := cl_row (i := 0) (blkT HB0.out HT.out) rfl
                have t1 := cl_row (i := 1) (blkT HB0.out HT.out) rfl
                have t2 := cl_row (i := 2) (blkT HB0.out HT.out) rfl
                have f0 := below_cell HB0.out HF0.out
                have HRW : Hid (wr.rangeAt bo (oo + n * 11) (opC ob vf va vk).toList) := range_below HB0.out HRG.out
                go_wp2_with (refine wpList_load_mid rfl 50 _ rfl bo (oo + n * 11) rfl (opC ob vf va vk).toList _ HRW.out Tryz.underlying50 rfl size50 ?_)
                refine Calls.mono (KE.out wr HB0.out) ?_
                rintro e wq55 ⟨rfl, hb⟩
                clear t0 t1 t2 f0
                have HBq55 : Hid (Below W.heap.size W wq55) := HB0.out.trans (hb.mono hsz0)
                have HOq55 : Hid (wq55.ownsRow W.heap.size 35 2 (.slice adg (G.length) cpg) (G.length) (cellsF (G))) := Fr.owns_below HO0.out hb
                have hszq55 := HBq55.out.size
                clear hb HO0 HB0 hsz0
                go_wp2_with (at_builtin; refine wpList_append_own _ rfl _ _ 29 rfl W.heap.size 35 i0 (.agg #[.int .i64 0, .string ⟨#[]⟩]) 2 24 Tryz.underlying29 hi hz0 hz1 hz2 rfl (by decide) (.slice adg (G.length) cpg) (G.length) (cellsF (G)) rfl (World.ownsRow.alloc HOq55.out _) ⟨wq55.heap.size, 0, none⟩ 1 1 (cellsF ([⟨1, E1⟩] : List Fm)) rfl rfl (newsN wq55 (cellsF ([⟨1, E1⟩] : List Fm)) 35) (Fr.cellsF_one ([⟨1, E1⟩] : List Fm)) (by unfold maxLen; omega) (by omega) (Nat.le_trans hszq55 (by simp)) ?_; intro v7 wq56 hown7 hgrow7 _; obtain ⟨adq56, cpq56, rfl⟩ := Fr.slice_of_owns hown7; have hbw : Below W.heap.size wq55 wq56 := ((Below.refl _ _).alloc hszq55 _).grown hgrow7 (Nat.le_trans hszq55 (by simp)) (fun k e => (Fr.owns_lt HOq55.out k e).1); have HBq56 : Hid (Below W.heap.size W wq56) := HBq55.out.trans hbw; have t0 := cl_row (i := 0) (blkT HBq56.out HT.out) rfl; have t1 := cl_row (i := 1) (blkT HBq56.out HT.out) rfl; have t2 := cl_row (i := 2) (blkT HBq56.out HT.out) rfl; have f0 := below_cell HBq56.out HF0.out)
                have HOq56 : Hid (wq56.ownsRow W.heap.size 35 2 (.slice adq56 (G.length + 1) cpq56) (G.length + 1) (cellsF (G ++ ([⟨1, E1⟩] : List Fm)))) := by
                  unfold Hid
                  rw [Fr.cellsF_app]
                  exact hown7
                have HMq56 : Hid (∀ f ∈ G ++ ([⟨1, E1⟩] : List Fm), Meant f) := by
                  intro f hf
                  rcases List.mem_append.1 hf with h | h
                  · exact HM0.out f h
                  · obtain rfl := List.mem_singleton.1 h; exact HMO.out
                have hszq56 := HBq56.out.size
                clear hown7 hgrow7 hbw HOq55 HBq55 hszq55 HM0
                go_wp2_with fail
                refine Calls.mono (KR.out wq56 HBq56.out) ?_
                rintro e wq57 ⟨rfl, hb⟩
                clear t0 t1 t2 f0
                have HBq57 : Hid (Below W.heap.size W wq57) := HBq56.out.trans (hb.mono hszq56)
                have HOq57 : Hid (wq57.ownsRow W.heap.size 35 2 (.slice adq56 (G.length + 1) cpq56) (G.length + 1) (cellsF (G ++ ([⟨1, E1⟩] : List Fm)))) := Fr.owns_below HOq56.out hb
                have hszq57 := HBq57.out.size
                clear hb HOq56 HBq56 hszq56
                have t0 := cl_row (i := 0) (blkT HBq57.out HT.out) rfl
                have t1 := cl_row (i := 1) (blkT HBq57.out HT.out) rfl
                have t2 := cl_row (i := 2) (blkT HBq57.out HT.out) rfl
                have HE : Hid (OwnF wq57 W.heap.size (.slice adq56 (G.length + 1) cpq56) (G ++ ([⟨1, E1⟩] : List Fm))) := by
                  have hl : (G ++ ([⟨1, E1⟩] : List Fm)).length = G.length + 1 := by simp
                  unfold Hid OwnF
                  rw [hl]
                  exact HOq57.out
                have HLE : Hid ((G ++ ([⟨1, E1⟩] : List Fm)).length ≤ 4 * (n + 1)) := by unfold Hid; (try simp); omega
                go_wp2
                go_roundw
                case rel => exact ⟨n + 1, G ++ ([⟨1, E1⟩] : List Fm), by simp, by omega, HE.out, HMq56.out, HLE.out, HBq57.out⟩
                case measure => simp [Fr.intOf]; omega
              | true =>
                rw [show Ms.rfA fx = .tuple #[.string ⟨(Ms.rfL fx).toArray⟩, .int .i64 0] by unfold Ms.rfA; rw [hf]; rfl] at KR
                have HMF : Hid (Meant ⟨5, Ms.rfL fx⟩) := Or.inr (Or.inr (Or.inr ⟨rfl, fx, hf, rfl⟩))
                clear hf
                generalize Ms.rfL fx = E3 at *
                have hsz0 := HB0.out.size
                have t0 := cl_row (i := 0) (blkT HB0.out HT.out) rfl
                have t1 := cl_row (i := 1) (blkT HB0.out HT.out) rfl
                have t2 := cl_row (i := 2) (blkT HB0.out HT.out) rfl
                have f0 := below_cell HB0.out HF0.out
                have HRW : Hid (wr.rangeAt bo (oo + n * 11) (opC ob vf va vk).toList) := range_below HB0.out HRG.out
                go_wp2_with (refine wpList_load_mid rfl 50 _ rfl bo (oo + n * 11) rfl (opC ob vf va vk).toList _ HRW.out Tryz.underlying50 rfl size50 ?_)
                refine Calls.mono (KE.out wr HB0.out) ?_
                rintro e wq58 ⟨rfl, hb⟩
                clear t0 t1 t2 f0
                have HBq58 : Hid (Below W.heap.size W wq58) := HB0.out.trans (hb.mono hsz0)
                have HOq58 : Hid (wq58.ownsRow W.heap.size 35 2 (.slice adg (G.length) cpg) (G.length) (cellsF (G))) := Fr.owns_below HO0.out hb
                have hszq58 := HBq58.out.size
                clear hb HO0 HB0 hsz0
                go_wp2_with (at_builtin; refine wpList_append_own _ rfl _ _ 29 rfl W.heap.size 35 i0 (.agg #[.int .i64 0, .string ⟨#[]⟩]) 2 24 Tryz.underlying29 hi hz0 hz1 hz2 rfl (by decide) (.slice adg (G.length) cpg) (G.length) (cellsF (G)) rfl (World.ownsRow.alloc HOq58.out _) ⟨wq58.heap.size, 0, none⟩ 1 1 (cellsF ([⟨1, E1⟩] : List Fm)) rfl rfl (newsN wq58 (cellsF ([⟨1, E1⟩] : List Fm)) 35) (Fr.cellsF_one ([⟨1, E1⟩] : List Fm)) (by unfold maxLen; omega) (by omega) (Nat.le_trans hszq58 (by simp)) ?_; intro v7 wq59 hown7 hgrow7 _; obtain ⟨adq59, cpq59, rfl⟩ := Fr.slice_of_owns hown7; have hbw : Below W.heap.size wq58 wq59 := ((Below.refl _ _).alloc hszq58 _).grown hgrow7 (Nat.le_trans hszq58 (by simp)) (fun k e => (Fr.owns_lt HOq58.out k e).1); have HBq59 : Hid (Below W.heap.size W wq59) := HBq58.out.trans hbw; have t0 := cl_row (i := 0) (blkT HBq59.out HT.out) rfl; have t1 := cl_row (i := 1) (blkT HBq59.out HT.out) rfl; have t2 := cl_row (i := 2) (blkT HBq59.out HT.out) rfl; have f0 := below_cell HBq59.out HF0.out)
                have HOq59 : Hid (wq59.ownsRow W.heap.size 35 2 (.slice adq59 (G.length + 1) cpq59) (G.length + 1) (cellsF (G ++ ([⟨1, E1⟩] : List Fm)))) := by
                  unfold Hid
                  rw [Fr.cellsF_app]
                  exact hown7
                have HMq59 : Hid (∀ f ∈ G ++ ([⟨1, E1⟩] : List Fm), Meant f) := by
                  intro f hf
                  rcases List.mem_append.1 hf with h | h
                  · exact HM0.out f h
                  · obtain rfl := List.mem_singleton.1 h; exact HMO.out
                have hszq59 := HBq59.out.size
                clear hown7 hgrow7 hbw HOq58 HBq58 hszq58 HM0
                go_wp2_with fail
                refine Calls.mono (KR.out wq59 HBq59.out) ?_
                rintro e wq60 ⟨rfl, hb⟩
                clear t0 t1 t2 f0
                have HBq60 : Hid (Below W.heap.size W wq60) := HBq59.out.trans (hb.mono hszq59)
                have HOq60 : Hid (wq60.ownsRow W.heap.size 35 2 (.slice adq59 (G.length + 1) cpq59) (G.length + 1) (cellsF (G ++ ([⟨1, E1⟩] : List Fm)))) := Fr.owns_below HOq59.out hb
                have hszq60 := HBq60.out.size
                clear hb HOq59 HBq59 hszq59
                go_wp2_with (at_builtin; refine wpList_append_own _ rfl _ _ 29 rfl W.heap.size 35 i0 (.agg #[.int .i64 0, .string ⟨#[]⟩]) 2 24 Tryz.underlying29 hi hz0 hz1 hz2 rfl (by decide) (.slice adq59 (G.length + 1) cpq59) (G.length + 1) (cellsF (G ++ ([⟨1, E1⟩] : List Fm))) rfl (World.ownsRow.alloc HOq60.out _) ⟨wq60.heap.size, 0, none⟩ 1 1 (cellsF ([⟨5, E3⟩] : List Fm)) rfl rfl (newsN wq60 (cellsF ([⟨5, E3⟩] : List Fm)) 35) (Fr.cellsF_one ([⟨5, E3⟩] : List Fm)) (by unfold maxLen; omega) (by omega) (Nat.le_trans hszq60 (by simp)) ?_; intro v7 wq61 hown7 hgrow7 _; obtain ⟨adq61, cpq61, rfl⟩ := Fr.slice_of_owns hown7; have hbw : Below W.heap.size wq60 wq61 := ((Below.refl _ _).alloc hszq60 _).grown hgrow7 (Nat.le_trans hszq60 (by simp)) (fun k e => (Fr.owns_lt HOq60.out k e).1); have HBq61 : Hid (Below W.heap.size W wq61) := HBq60.out.trans hbw; have t0 := cl_row (i := 0) (blkT HBq61.out HT.out) rfl; have t1 := cl_row (i := 1) (blkT HBq61.out HT.out) rfl; have t2 := cl_row (i := 2) (blkT HBq61.out HT.out) rfl)
                have HOq61 : Hid (wq61.ownsRow W.heap.size 35 2 (.slice adq61 (G.length + 1 + 1) cpq61) (G.length + 1 + 1) (cellsF (G ++ ([⟨1, E1⟩] : List Fm) ++ ([⟨5, E3⟩] : List Fm)))) := by
                  unfold Hid
                  rw [Fr.cellsF_app]
                  exact hown7
                have HMq61 : Hid (∀ f ∈ G ++ ([⟨1, E1⟩] : List Fm) ++ ([⟨5, E3⟩] : List Fm), Meant f) := by
                  intro f hf
                  rcases List.mem_append.1 hf with h | h
                  · exact HMq59.out f h
                  · obtain rfl := List.mem_singleton.1 h; exact HMF.out
                have hszq61 := HBq61.out.size
                clear hown7 hgrow7 hbw HOq60 HBq60 hszq60 HMq59
                have HE : Hid (OwnF wq61 W.heap.size (.slice adq61 (G.length + 1 + 1) cpq61) (G ++ ([⟨1, E1⟩] : List Fm) ++ ([⟨5, E3⟩] : List Fm))) := by
                  have hl : (G ++ ([⟨1, E1⟩] : List Fm) ++ ([⟨5, E3⟩] : List Fm)).length = G.length + 1 + 1 := by simp
                  unfold Hid OwnF
                  rw [hl]
                  exact HOq61.out
                have HLE : Hid ((G ++ ([⟨1, E1⟩] : List Fm) ++ ([⟨5, E3⟩] : List Fm)).length ≤ 4 * (n + 1)) := by unfold Hid; (try simp); omega
                go_wp2
                go_roundw
                case rel => exact ⟨n + 1, G ++ ([⟨1, E1⟩] : List Fm) ++ ([⟨5, E3⟩] : List Fm), by simp, by omega, HE.out, HMq61.out, HLE.out, HBq61.out⟩
                case measure => simp [Fr.intOf]; omega
            · have hltf : ¬ ((n : Int) < FL.length) := by omega
              have hsz0 := HB0.out.size
              have t0 := cl_row (i := 0) (blkT HB0.out HT.out) rfl
              have t1 := cl_row (i := 1) (blkT HB0.out HT.out) rfl
              have t2 := cl_row (i := 2) (blkT HB0.out HT.out) rfl
              have HRW : Hid (wr.rangeAt bo (oo + n * 11) (opC ob vf va vk).toList) := range_below HB0.out HRG.out
              go_wp2_with (refine wpList_load_mid rfl 50 _ rfl bo (oo + n * 11) rfl (opC ob vf va vk).toList _ HRW.out Tryz.underlying50 rfl size50 ?_)
              refine Calls.mono (KE.out wr HB0.out) ?_
              rintro e wq62 ⟨rfl, hb⟩
              clear t0 t1 t2
              have HBq62 : Hid (Below W.heap.size W wq62) := HB0.out.trans (hb.mono hsz0)
              have HOq62 : Hid (wq62.ownsRow W.heap.size 35 2 (.slice adg (G.length) cpg) (G.length) (cellsF (G))) := Fr.owns_below HO0.out hb
              have hszq62 := HBq62.out.size
              clear hb HO0 HB0 hsz0
              go_wp2_with (at_builtin; refine wpList_append_own _ rfl _ _ 29 rfl W.heap.size 35 i0 (.agg #[.int .i64 0, .string ⟨#[]⟩]) 2 24 Tryz.underlying29 hi hz0 hz1 hz2 rfl (by decide) (.slice adg (G.length) cpg) (G.length) (cellsF (G)) rfl (World.ownsRow.alloc HOq62.out _) ⟨wq62.heap.size, 0, none⟩ 1 1 (cellsF ([⟨1, E1⟩] : List Fm)) rfl rfl (newsN wq62 (cellsF ([⟨1, E1⟩] : List Fm)) 35) (Fr.cellsF_one ([⟨1, E1⟩] : List Fm)) (by unfold maxLen; omega) (by omega) (Nat.le_trans hszq62 (by simp)) ?_; intro v7 wq63 hown7 hgrow7 _; obtain ⟨adq63, cpq63, rfl⟩ := Fr.slice_of_owns hown7; have hbw : Below W.heap.size wq62 wq63 := ((Below.refl _ _).alloc hszq62 _).grown hgrow7 (Nat.le_trans hszq62 (by simp)) (fun k e => (Fr.owns_lt HOq62.out k e).1); have HBq63 : Hid (Below W.heap.size W wq63) := HBq62.out.trans hbw; have t0 := cl_row (i := 0) (blkT HBq63.out HT.out) rfl; have t1 := cl_row (i := 1) (blkT HBq63.out HT.out) rfl; have t2 := cl_row (i := 2) (blkT HBq63.out HT.out) rfl)
              have HOq63 : Hid (wq63.ownsRow W.heap.size 35 2 (.slice adq63 (G.length + 1) cpq63) (G.length + 1) (cellsF (G ++ ([⟨1, E1⟩] : List Fm)))) := by
                unfold Hid
                rw [Fr.cellsF_app]
                exact hown7
              have HMq63 : Hid (∀ f ∈ G ++ ([⟨1, E1⟩] : List Fm), Meant f) := by
                intro f hf
                rcases List.mem_append.1 hf with h | h
                · exact HM0.out f h
                · obtain rfl := List.mem_singleton.1 h; exact HMO.out
              have hszq63 := HBq63.out.size
              clear hown7 hgrow7 hbw HOq62 HBq62 hszq62 HM0
              have HE : Hid (OwnF wq63 W.heap.size (.slice adq63 (G.length + 1) cpq63) (G ++ ([⟨1, E1⟩] : List Fm))) := by
                have hl : (G ++ ([⟨1, E1⟩] : List Fm)).length = G.length + 1 := by simp
                unfold Hid OwnF
                rw [hl]
                exact HOq63.out
              have HLE : Hid ((G ++ ([⟨1, E1⟩] : List Fm)).length ≤ 4 * (n + 1)) := by unfold Hid; (try simp); omega
              go_wp2
              go_roundw
              case rel => exact ⟨n + 1, G ++ ([⟨1, E1⟩] : List Fm), by simp, by omega, HE.out, HMq63.out, HLE.out, HBq63.out⟩
              case measure => simp [Fr.intOf]; omega
      · have hlto : ¬ ((n : Int) < OL.length) := by omega
        by_cases hhn : n < NL.length
        · have hltn : (n : Int) < NL.length := by omega
          obtain rfl : an = some ⟨bn, on, none⟩ := by rcases HAN.out with h | h; exact h; omega
          obtain ⟨⟨hc, hs, hd⟩, x0, x1, x2⟩ := HNO.out n hhn
          have HX0 : Hid (_ = _) := x0
          have HX1 : Hid (_ = _) := x1
          have HX2 : Hid (_ = _) := x2
          generalize NL[n] = nt at *
          have KN : Hid (∀ X, Below W.heap.size W X → _) := fun X _ => Ms.note_any nt.c nt.s nt.d hc hs hd X
          have HNB : Hid (nt.c < 256 ∧ nt.s < 256) := ⟨hc, hs⟩
          unfold Ms.ntC at KN
          clear x0 x1 x2 hc hs hd
          rcases nt_cases nt.c nt.s nt.d with ⟨e2, he2, hA⟩ | ⟨hz, hd, hA⟩
          · rw [hA] at KN
            have ge : (e2 == 0) = false := beq_eq_false_iff_ne.2 (by omega)
            clear he2 hA HNB
            by_cases hhf : n < FL.length
            · have hltf : (n : Int) < FL.length := by omega
              obtain rfl : af = some ⟨bf, of_, none⟩ := by rcases HAF.out with h | h; exact h; omega
              have HF0 : Hid (_ = _) := HFA.out n hhf
              generalize FL[n] = fx at *
              have KR : Hid (∀ X, Below W.heap.size W X → _) := fun X hX => Ms.refresh_any fx X (HG.out.below hX)
              cases hf : isF fx with
              | false =>
                rw [show Ms.rfA fx = .tuple #[.string ⟨#[]⟩, .int .i64 2] by unfold Ms.rfA; rw [hf]; rfl] at KR
                clear hf
                have hsz0 := HB0.out.size
                have t0 := cl_row (i := 0) (blkT HB0.out HT.out) rfl
                have t1 := cl_row (i := 1) (blkT HB0.out HT.out) rfl
                have t2 := cl_row (i := 2) (blkT HB0.out HT.out) rfl
                have c0 := below_cell HB0.out HX0.out
                have c1 := below_cell HB0.out HX1.out
                have c2 := below_cell HB0.out HX2.out
                have f0 := below_cell HB0.out HF0.out
                go_wp2_with fail
                refine Calls.mono (KN.out wr HB0.out) ?_
                rintro e wq64 ⟨rfl, hb⟩
                clear t0 t1 t2 c0 c1 c2 f0
                have HBq64 : Hid (Below W.heap.size W wq64) := HB0.out.trans (hb.mono hsz0)
                have HOq64 : Hid (wq64.ownsRow W.heap.size 35 2 (.slice adg (G.length) cpg) (G.length) (cellsF (G))) := Fr.owns_below HO0.out hb
                have hszq64 := HBq64.out.size
                clear hb HO0 HB0 hsz0
                have t0 := cl_row (i := 0) (blkT HBq64.out HT.out) rfl
                have t1 := cl_row (i := 1) (blkT HBq64.out HT.out) rfl
                have t2 := cl_row (i := 2) (blkT HBq64.out HT.out) rfl
                have f0 := below_cell HBq64.out HF0.out
                go_wp2_with fail
                refine Calls.mono (KR.out wq64 HBq64.out) ?_
                rintro e wq65 ⟨rfl, hb⟩
                clear t0 t1 t2 f0
                have HBq65 : Hid (Below W.heap.size W wq65) := HBq64.out.trans (hb.mono hszq64)
                have HOq65 : Hid (wq65.ownsRow W.heap.size 35 2 (.slice adg (G.length) cpg) (G.length) (cellsF (G))) := Fr.owns_below HOq64.out hb
                have hszq65 := HBq65.out.size
                clear hb HOq64 HBq64 hszq64
                have t0 := cl_row (i := 0) (blkT HBq65.out HT.out) rfl
                have t1 := cl_row (i := 1) (blkT HBq65.out HT.out) rfl
                have t2 := cl_row (i := 2) (blkT HBq65.out HT.out) rfl
                have HE : Hid (OwnF wq65 W.heap.size (.slice adg (G.length) cpg) (G)) := by
                  have hl : (G).length = G.length := by simp
                  unfold Hid OwnF
                  rw [hl]
                  exact HOq65.out
                have HLE : Hid ((G).length ≤ 4 * (n + 1)) := by unfold Hid; (try simp); omega
                go_wp2
                go_roundw
                case rel => exact ⟨n + 1, G, by simp, by omega, HE.out, HM0.out, HLE.out, HBq65.out⟩
                case measure => simp [Fr.intOf]; omega
              | true =>
                rw [show Ms.rfA fx = .tuple #[.string ⟨(Ms.rfL fx).toArray⟩, .int .i64 0] by unfold Ms.rfA; rw [hf]; rfl] at KR
                have HMF : Hid (Meant ⟨5, Ms.rfL fx⟩) := Or.inr (Or.inr (Or.inr ⟨rfl, fx, hf, rfl⟩))
                clear hf
                generalize Ms.rfL fx = E3 at *
                have hsz0 := HB0.out.size
                have t0 := cl_row (i := 0) (blkT HB0.out HT.out) rfl
                have t1 := cl_row (i := 1) (blkT HB0.out HT.out) rfl
                have t2 := cl_row (i := 2) (blkT HB0.out HT.out) rfl
                have c0 := below_cell HB0.out HX0.out
                have c1 := below_cell HB0.out HX1.out
                have c2 := below_cell HB0.out HX2.out
                have f0 := below_cell HB0.out HF0.out
                go_wp2_with fail
                refine Calls.mono (KN.out wr HB0.out) ?_
                rintro e wq66 ⟨rfl, hb⟩
                clear t0 t1 t2 c0 c1 c2 f0
                have HBq66 : Hid (Below W.heap.size W wq66) := HB0.out.trans (hb.mono hsz0)
                have HOq66 : Hid (wq66.ownsRow W.heap.size 35 2 (.slice adg (G.length) cpg) (G.length) (cellsF (G))) := Fr.owns_below HO0.out hb
                have hszq66 := HBq66.out.size
                clear hb HO0 HB0 hsz0
                have t0 := cl_row (i := 0) (blkT HBq66.out HT.out) rfl
                have t1 := cl_row (i := 1) (blkT HBq66.out HT.out) rfl
                have t2 := cl_row (i := 2) (blkT HBq66.out HT.out) rfl
                have f0 := below_cell HBq66.out HF0.out
                go_wp2_with fail
                refine Calls.mono (KR.out wq66 HBq66.out) ?_
                rintro e wq67 ⟨rfl, hb⟩
                clear t0 t1 t2 f0
                have HBq67 : Hid (Below W.heap.size W wq67) := HBq66.out.trans (hb.mono hszq66)
                have HOq67 : Hid (wq67.ownsRow W.heap.size 35 2 (.slice adg (G.length) cpg) (G.length) (cellsF (G))) := Fr.owns_below HOq66.out hb
                have hszq67 := HBq67.out.size
                clear hb HOq66 HBq66 hszq66
                go_wp2_with (at_builtin; refine wpList_append_own _ rfl _ _ 29 rfl W.heap.size 35 i0 (.agg #[.int .i64 0, .string ⟨#[]⟩]) 2 24 Tryz.underlying29 hi hz0 hz1 hz2 rfl (by decide) (.slice adg (G.length) cpg) (G.length) (cellsF (G)) rfl (World.ownsRow.alloc HOq67.out _) ⟨wq67.heap.size, 0, none⟩ 1 1 (cellsF ([⟨5, E3⟩] : List Fm)) rfl rfl (newsN wq67 (cellsF ([⟨5, E3⟩] : List Fm)) 35) (Fr.cellsF_one ([⟨5, E3⟩] : List Fm)) (by unfold maxLen; omega) (by omega) (Nat.le_trans hszq67 (by simp)) ?_; intro v7 wq68 hown7 hgrow7 _; obtain ⟨adq68, cpq68, rfl⟩ := Fr.slice_of_owns hown7; have hbw : Below W.heap.size wq67 wq68 := ((Below.refl _ _).alloc hszq67 _).grown hgrow7 (Nat.le_trans hszq67 (by simp)) (fun k e => (Fr.owns_lt HOq67.out k e).1); have HBq68 : Hid (Below W.heap.size W wq68) := HBq67.out.trans hbw; have t0 := cl_row (i := 0) (blkT HBq68.out HT.out) rfl; have t1 := cl_row (i := 1) (blkT HBq68.out HT.out) rfl; have t2 := cl_row (i := 2) (blkT HBq68.out HT.out) rfl)
                have HOq68 : Hid (wq68.ownsRow W.heap.size 35 2 (.slice adq68 (G.length + 1) cpq68) (G.length + 1) (cellsF (G ++ ([⟨5, E3⟩] : List Fm)))) := by
                  unfold Hid
                  rw [Fr.cellsF_app]
                  exact hown7
                have HMq68 : Hid (∀ f ∈ G ++ ([⟨5, E3⟩] : List Fm), Meant f) := by
                  intro f hf
                  rcases List.mem_append.1 hf with h | h
                  · exact HM0.out f h
                  · obtain rfl := List.mem_singleton.1 h; exact HMF.out
                have hszq68 := HBq68.out.size
                clear hown7 hgrow7 hbw HOq67 HBq67 hszq67 HM0
                have HE : Hid (OwnF wq68 W.heap.size (.slice adq68 (G.length + 1) cpq68) (G ++ ([⟨5, E3⟩] : List Fm))) := by
                  have hl : (G ++ ([⟨5, E3⟩] : List Fm)).length = G.length + 1 := by simp
                  unfold Hid OwnF
                  rw [hl]
                  exact HOq68.out
                have HLE : Hid ((G ++ ([⟨5, E3⟩] : List Fm)).length ≤ 4 * (n + 1)) := by unfold Hid; (try simp); omega
                go_wp2
                go_roundw
                case rel => exact ⟨n + 1, G ++ ([⟨5, E3⟩] : List Fm), by simp, by omega, HE.out, HMq68.out, HLE.out, HBq68.out⟩
                case measure => simp [Fr.intOf]; omega
            · have hltf : ¬ ((n : Int) < FL.length) := by omega
              have hsz0 := HB0.out.size
              have t0 := cl_row (i := 0) (blkT HB0.out HT.out) rfl
              have t1 := cl_row (i := 1) (blkT HB0.out HT.out) rfl
              have t2 := cl_row (i := 2) (blkT HB0.out HT.out) rfl
              have c0 := below_cell HB0.out HX0.out
              have c1 := below_cell HB0.out HX1.out
              have c2 := below_cell HB0.out HX2.out
              go_wp2_with fail
              refine Calls.mono (KN.out wr HB0.out) ?_
              rintro e wq69 ⟨rfl, hb⟩
              clear t0 t1 t2 c0 c1 c2
              have HBq69 : Hid (Below W.heap.size W wq69) := HB0.out.trans (hb.mono hsz0)
              have HOq69 : Hid (wq69.ownsRow W.heap.size 35 2 (.slice adg (G.length) cpg) (G.length) (cellsF (G))) := Fr.owns_below HO0.out hb
              have hszq69 := HBq69.out.size
              clear hb HO0 HB0 hsz0
              have t0 := cl_row (i := 0) (blkT HBq69.out HT.out) rfl
              have t1 := cl_row (i := 1) (blkT HBq69.out HT.out) rfl
              have t2 := cl_row (i := 2) (blkT HBq69.out HT.out) rfl
              have HE : Hid (OwnF wq69 W.heap.size (.slice adg (G.length) cpg) (G)) := by
                have hl : (G).length = G.length := by simp
                unfold Hid OwnF
                rw [hl]
                exact HOq69.out
              have HLE : Hid ((G).length ≤ 4 * (n + 1)) := by unfold Hid; (try simp); omega
              go_wp2
              go_roundw
              case rel => exact ⟨n + 1, G, by simp, by omega, HE.out, HM0.out, HLE.out, HBq69.out⟩
              case measure => simp [Fr.intOf]; omega
          · rw [hA] at KN
            have HMN : Hid (Meant ⟨3, Ms.ntL nt.c nt.s nt.d⟩ ∧ Meant ⟨4, []⟩) := ⟨Or.inr (Or.inl ⟨rfl, nt.c, nt.s, nt.d, HNB.out.1, HNB.out.2, hz, hd, rfl⟩), Or.inr (Or.inr (Or.inl ⟨rfl, rfl⟩))⟩
            clear hA HNB hz hd
            generalize Ms.ntL nt.c nt.s nt.d = E2 at *
            by_cases hhf : n < FL.length
            · have hltf : (n : Int) < FL.length := by omega
              obtain rfl : af = some ⟨bf, of_, none⟩ := by rcases HAF.out with h | h; exact h; omega
              have HF0 : Hid (_ = _) := HFA.out n hhf
              generalize FL[n] = fx at *
              have KR : Hid (∀ X, Below W.heap.size W X → _) := fun X hX => Ms.refresh_any fx X (HG.out.below hX)
              cases hf : isF fx with
              | false =>
                rw [show Ms.rfA fx = .tuple #[.string ⟨#[]⟩, .int .i64 2] by unfold Ms.rfA; rw [hf]; rfl] at KR
                clear hf
                have hsz0 := HB0.out.size
                have t0 := cl_row (i := 0) (blkT HB0.out HT.out) rfl
                have t1 := cl_row (i := 1) (blkT HB0.out HT.out) rfl
                have t2 := cl_row (i := 2) (blkT HB0.out HT.out) rfl
                have c0 := below_cell HB0.out HX0.out
                have c1 := below_cell HB0.out HX1.out
                have c2 := below_cell HB0.out HX2.out
                have f0 := below_cell HB0.out HF0.out
                go_wp2_with fail
                refine Calls.mono (KN.out wr HB0.out) ?_
                rintro e wq70 ⟨rfl, hb⟩
                clear t0 t1 t2 c0 c1 c2 f0
                have HBq70 : Hid (Below W.heap.size W wq70) := HB0.out.trans (hb.mono hsz0)
                have HOq70 : Hid (wq70.ownsRow W.heap.size 35 2 (.slice adg (G.length) cpg) (G.length) (cellsF (G))) := Fr.owns_below HO0.out hb
                have hszq70 := HBq70.out.size
                clear hb HO0 HB0 hsz0
                go_wp2_with (at_builtin; refine wpList_append_own _ rfl _ _ 29 rfl W.heap.size 35 i0 (.agg #[.int .i64 0, .string ⟨#[]⟩]) 2 24 Tryz.underlying29 hi hz0 hz1 hz2 rfl (by decide) (.slice adg (G.length) cpg) (G.length) (cellsF (G)) rfl (World.ownsRow.alloc HOq70.out _) ⟨wq70.heap.size, 0, none⟩ 2 2 (cellsF ([⟨3, E2⟩, ⟨4, []⟩] : List Fm)) rfl rfl (newsN wq70 (cellsF ([⟨3, E2⟩, ⟨4, []⟩] : List Fm)) 35) (Fr.cellsF_one ([⟨3, E2⟩, ⟨4, []⟩] : List Fm)) (by unfold maxLen; omega) (by omega) (Nat.le_trans hszq70 (by simp)) ?_; intro v7 wq71 hown7 hgrow7 _; obtain ⟨adq71, cpq71, rfl⟩ := Fr.slice_of_owns hown7; have hbw : Below W.heap.size wq70 wq71 := ((Below.refl _ _).alloc hszq70 _).grown hgrow7 (Nat.le_trans hszq70 (by simp)) (fun k e => (Fr.owns_lt HOq70.out k e).1); have HBq71 : Hid (Below W.heap.size W wq71) := HBq70.out.trans hbw; have t0 := cl_row (i := 0) (blkT HBq71.out HT.out) rfl; have t1 := cl_row (i := 1) (blkT HBq71.out HT.out) rfl; have t2 := cl_row (i := 2) (blkT HBq71.out HT.out) rfl; have f0 := below_cell HBq71.out HF0.out)
                have HOq71 : Hid (wq71.ownsRow W.heap.size 35 2 (.slice adq71 (G.length + 2) cpq71) (G.length + 2) (cellsF (G ++ ([⟨3, E2⟩, ⟨4, []⟩] : List Fm)))) := by
                  unfold Hid
                  rw [Fr.cellsF_app]
                  exact hown7
                have HMq71 : Hid (∀ f ∈ G ++ ([⟨3, E2⟩, ⟨4, []⟩] : List Fm), Meant f) := by
                  intro f hf
                  rcases List.mem_append.1 hf with h | h
                  · exact HM0.out f h
                  · simp only [List.mem_cons, List.not_mem_nil, or_false] at h; rcases h with rfl | rfl; exact HMN.out.1; exact HMN.out.2
                have hszq71 := HBq71.out.size
                clear hown7 hgrow7 hbw HOq70 HBq70 hszq70 HM0
                go_wp2_with fail
                refine Calls.mono (KR.out wq71 HBq71.out) ?_
                rintro e wq72 ⟨rfl, hb⟩
                clear t0 t1 t2 f0
                have HBq72 : Hid (Below W.heap.size W wq72) := HBq71.out.trans (hb.mono hszq71)
                have HOq72 : Hid (wq72.ownsRow W.heap.size 35 2 (.slice adq71 (G.length + 2) cpq71) (G.length + 2) (cellsF (G ++ ([⟨3, E2⟩, ⟨4, []⟩] : List Fm)))) := Fr.owns_below HOq71.out hb
                have hszq72 := HBq72.out.size
                clear hb HOq71 HBq71 hszq71
                have t0 := cl_row (i := 0) (blkT HBq72.out HT.out) rfl
                have t1 := cl_row (i := 1) (blkT HBq72.out HT.out) rfl
                have t2 := cl_row (i := 2) (blkT HBq72.out HT.out) rfl
                have HE : Hid (OwnF wq72 W.heap.size (.slice adq71 (G.length + 2) cpq71) (G ++ ([⟨3, E2⟩, ⟨4, []⟩] : List Fm))) := by
                  have hl : (G ++ ([⟨3, E2⟩, ⟨4, []⟩] : List Fm)).length = G.length + 2 := by simp
                  unfold Hid OwnF
                  rw [hl]
                  exact HOq72.out
                have HLE : Hid ((G ++ ([⟨3, E2⟩, ⟨4, []⟩] : List Fm)).length ≤ 4 * (n + 1)) := by unfold Hid; (try simp); omega
                go_wp2
                go_roundw
                case rel => exact ⟨n + 1, G ++ ([⟨3, E2⟩, ⟨4, []⟩] : List Fm), by simp, by omega, HE.out, HMq71.out, HLE.out, HBq72.out⟩
                case measure => simp [Fr.intOf]; omega
              | true =>
                rw [show Ms.rfA fx = .tuple #[.string ⟨(Ms.rfL fx).toArray⟩, .int .i64 0] by unfold Ms.rfA; rw [hf]; rfl] at KR
                have HMF : Hid (Meant ⟨5, Ms.rfL fx⟩) := Or.inr (Or.inr (Or.inr ⟨rfl, fx, hf, rfl⟩))
                clear hf
                generalize Ms.rfL fx = E3 at *
                have hsz0 := HB0.out.size
                have t0 := cl_row (i := 0) (blkT HB0.out HT.out) rfl
                have t1 := cl_row (i := 1) (blkT HB0.out HT.out) rfl
                have t2 := cl_row (i := 2) (blkT HB0.out HT.out) rfl
                have c0 := below_cell HB0.out HX0.out
                have c1 := below_cell HB0.out HX1.out
                have c2 := below_cell HB0.out HX2.out
                have f0 := below_cell HB0.out HF0.out
                go_wp2_with fail
                refine Calls.mono (KN.out wr HB0.out) ?_
                rintro e wq73 ⟨rfl, hb⟩
                clear t0 t1 t2 c0 c1 c2 f0
                have HBq73 : Hid (Below W.heap.size W wq73) := HB0.out.trans (hb.mono hsz0)
                have HOq73 : Hid (wq73.ownsRow W.heap.size 35 2 (.slice adg (G.length) cpg) (G.length) (cellsF (G))) := Fr.owns_below HO0.out hb
                have hszq73 := HBq73.out.size
                clear hb HO0 HB0 hsz0
                go_wp2_with (at_builtin; refine wpList_append_own _ rfl _ _ 29 rfl W.heap.size 35 i0 (.agg #[.int .i64 0, .string ⟨#[]⟩]) 2 24 Tryz.underlying29 hi hz0 hz1 hz2 rfl (by decide) (.slice adg (G.length) cpg) (G.length) (cellsF (G)) rfl (World.ownsRow.alloc HOq73.out _) ⟨wq73.heap.size, 0, none⟩ 2 2 (cellsF ([⟨3, E2⟩, ⟨4, []⟩] : List Fm)) rfl rfl (newsN wq73 (cellsF ([⟨3, E2⟩, ⟨4, []⟩] : List Fm)) 35) (Fr.cellsF_one ([⟨3, E2⟩, ⟨4, []⟩] : List Fm)) (by unfold maxLen; omega) (by omega) (Nat.le_trans hszq73 (by simp)) ?_; intro v7 wq74 hown7 hgrow7 _; obtain ⟨adq74, cpq74, rfl⟩ := Fr.slice_of_owns hown7; have hbw : Below W.heap.size wq73 wq74 := ((Below.refl _ _).alloc hszq73 _).grown hgrow7 (Nat.le_trans hszq73 (by simp)) (fun k e => (Fr.owns_lt HOq73.out k e).1); have HBq74 : Hid (Below W.heap.size W wq74) := HBq73.out.trans hbw; have t0 := cl_row (i := 0) (blkT HBq74.out HT.out) rfl; have t1 := cl_row (i := 1) (blkT HBq74.out HT.out) rfl; have t2 := cl_row (i := 2) (blkT HBq74.out HT.out) rfl; have f0 := below_cell HBq74.out HF0.out)
                have HOq74 : Hid (wq74.ownsRow W.heap.size 35 2 (.slice adq74 (G.length + 2) cpq74) (G.length + 2) (cellsF (G ++ ([⟨3, E2⟩, ⟨4, []⟩] : List Fm)))) := by
                  unfold Hid
                  rw [Fr.cellsF_app]
                  exact hown7
                have HMq74 : Hid (∀ f ∈ G ++ ([⟨3, E2⟩, ⟨4, []⟩] : List Fm), Meant f) := by
                  intro f hf
                  rcases List.mem_append.1 hf with h | h
                  · exact HM0.out f h
                  · simp only [List.mem_cons, List.not_mem_nil, or_false] at h; rcases h with rfl | rfl; exact HMN.out.1; exact HMN.out.2
                have hszq74 := HBq74.out.size
                clear hown7 hgrow7 hbw HOq73 HBq73 hszq73 HM0
                go_wp2_with fail
                refine Calls.mono (KR.out wq74 HBq74.out) ?_
                rintro e wq75 ⟨rfl, hb⟩
                clear t0 t1 t2 f0
                have HBq75 : Hid (Below W.heap.size W wq75) := HBq74.out.trans (hb.mono hszq74)
                have HOq75 : Hid (wq75.ownsRow W.heap.size 35 2 (.slice adq74 (G.length + 2) cpq74) (G.length + 2) (cellsF (G ++ ([⟨3, E2⟩, ⟨4, []⟩] : List Fm)))) := Fr.owns_below HOq74.out hb
                have hszq75 := HBq75.out.size
                clear hb HOq74 HBq74 hszq74
                go_wp2_with (at_builtin; refine wpList_append_own _ rfl _ _ 29 rfl W.heap.size 35 i0 (.agg #[.int .i64 0, .string ⟨#[]⟩]) 2 24 Tryz.underlying29 hi hz0 hz1 hz2 rfl (by decide) (.slice adq74 (G.length + 2) cpq74) (G.length + 2) (cellsF (G ++ ([⟨3, E2⟩, ⟨4, []⟩] : List Fm))) rfl (World.ownsRow.alloc HOq75.out _) ⟨wq75.heap.size, 0, none⟩ 1 1 (cellsF ([⟨5, E3⟩] : List Fm)) rfl rfl (newsN wq75 (cellsF ([⟨5, E3⟩] : List Fm)) 35) (Fr.cellsF_one ([⟨5, E3⟩] : List Fm)) (by unfold maxLen; omega) (by omega) (Nat.le_trans hszq75 (by simp)) ?_; intro v7 wq76 hown7 hgrow7 _; obtain ⟨adq76, cpq76, rfl⟩ := Fr.slice_of_owns hown7; have hbw : Below W.heap.size wq75 wq76 := ((Below.refl _ _).alloc hszq75 _).grown hgrow7 (Nat.le_trans hszq75 (by simp)) (fun k e => (Fr.owns_lt HOq75.out k e).1); have HBq76 : Hid (Below W.heap.size W wq76) := HBq75.out.trans hbw; have t0 := cl_row (i := 0) (blkT HBq76.out HT.out) rfl; have t1 := cl_row (i := 1) (blkT HBq76.out HT.out) rfl; have t2 := cl_row (i := 2) (blkT HBq76.out HT.out) rfl)
                have HOq76 : Hid (wq76.ownsRow W.heap.size 35 2 (.slice adq76 (G.length + 2 + 1) cpq76) (G.length + 2 + 1) (cellsF (G ++ ([⟨3, E2⟩, ⟨4, []⟩] : List Fm) ++ ([⟨5, E3⟩] : List Fm)))) := by
                  unfold Hid
                  rw [Fr.cellsF_app]
                  exact hown7
                have HMq76 : Hid (∀ f ∈ G ++ ([⟨3, E2⟩, ⟨4, []⟩] : List Fm) ++ ([⟨5, E3⟩] : List Fm), Meant f) := by
                  intro f hf
                  rcases List.mem_append.1 hf with h | h
                  · exact HMq74.out f h
                  · obtain rfl := List.mem_singleton.1 h; exact HMF.out
                have hszq76 := HBq76.out.size
                clear hown7 hgrow7 hbw HOq75 HBq75 hszq75 HMq74
                have HE : Hid (OwnF wq76 W.heap.size (.slice adq76 (G.length + 2 + 1) cpq76) (G ++ ([⟨3, E2⟩, ⟨4, []⟩] : List Fm) ++ ([⟨5, E3⟩] : List Fm))) := by
                  have hl : (G ++ ([⟨3, E2⟩, ⟨4, []⟩] : List Fm) ++ ([⟨5, E3⟩] : List Fm)).length = G.length + 2 + 1 := by simp
                  unfold Hid OwnF
                  rw [hl]
                  exact HOq76.out
                have HLE : Hid ((G ++ ([⟨3, E2⟩, ⟨4, []⟩] : List Fm) ++ ([⟨5, E3⟩] : List Fm)).length ≤ 4 * (n + 1)) := by unfold Hid; (try simp); omega
                go_wp2
                go_roundw
                case rel => exact ⟨n + 1, G ++ ([⟨3, E2⟩, ⟨4, []⟩] : List Fm) ++ ([⟨5, E3⟩] : List Fm), by simp, by omega, HE.out, HMq76.out, HLE.out, HBq76.out⟩
                case measure => simp [Fr.intOf]; omega
            · have hltf : ¬ ((n : Int) < FL.length) := by omega
              have hsz0 := HB0.out.size
              have t0 := cl_row (i := 0) (blkT HB0.out HT.out) rfl
              have t1 := cl_row (i := 1) (blkT HB0.out HT.out) rfl
              have t2 := cl_row (i := 2) (blkT HB0.out HT.out) rfl
              have c0 := below_cell HB0.out HX0.out
              have c1 := below_cell HB0.out HX1.out
              have c2 := below_cell HB0.out HX2.out
              go_wp2_with fail
              refine Calls.mono (KN.out wr HB0.out) ?_
              rintro e wq77 ⟨rfl, hb⟩
              clear t0 t1 t2 c0 c1 c2
              have HBq77 : Hid (Below W.heap.size W wq77) := HB0.out.trans (hb.mono hsz0)
              have HOq77 : Hid (wq77.ownsRow W.heap.size 35 2 (.slice adg (G.length) cpg) (G.length) (cellsF (G))) := Fr.owns_below HO0.out hb
              have hszq77 := HBq77.out.size
              clear hb HO0 HB0 hsz0
              go_wp2_with (at_builtin; refine wpList_append_own _ rfl _ _ 29 rfl W.heap.size 35 i0 (.agg #[.int .i64 0, .string ⟨#[]⟩]) 2 24 Tryz.underlying29 hi hz0 hz1 hz2 rfl (by decide) (.slice adg (G.length) cpg) (G.length) (cellsF (G)) rfl (World.ownsRow.alloc HOq77.out _) ⟨wq77.heap.size, 0, none⟩ 2 2 (cellsF ([⟨3, E2⟩, ⟨4, []⟩] : List Fm)) rfl rfl (newsN wq77 (cellsF ([⟨3, E2⟩, ⟨4, []⟩] : List Fm)) 35) (Fr.cellsF_one ([⟨3, E2⟩, ⟨4, []⟩] : List Fm)) (by unfold maxLen; omega) (by omega) (Nat.le_trans hszq77 (by simp)) ?_; intro v7 wq78 hown7 hgrow7 _; obtain ⟨adq78, cpq78, rfl⟩ := Fr.slice_of_owns hown7; have hbw : Below W.heap.size wq77 wq78 := ((Below.refl _ _).alloc hszq77 _).grown hgrow7 (Nat.le_trans hszq77 (by simp)) (fun k e => (Fr.owns_lt HOq77.out k e).1); have HBq78 : Hid (Below W.heap.size W wq78) := HBq77.out.trans hbw; have t0 := cl_row (i := 0) (blkT HBq78.out HT.out) rfl; have t1 := cl_row (i := 1) (blkT HBq78.out HT.out) rfl; have t2 := cl_row (i := 2) (blkT HBq78.out HT.out) rfl)
              have HOq78 : Hid (wq78.ownsRow W.heap.size 35 2 (.slice adq78 (G.length + 2) cpq78) (G.length + 2) (cellsF (G ++ ([⟨3, E2⟩, ⟨4, []⟩] : List Fm)))) := by
                unfold Hid
                rw [Fr.cellsF_app]
                exact hown7
              have HMq78 : Hid (∀ f ∈ G ++ ([⟨3, E2⟩, ⟨4, []⟩] : List Fm), Meant f) := by
                intro f hf
                rcases List.mem_append.1 hf with h | h
                · exact HM0.out f h
                · simp only [List.mem_cons, List.not_mem_nil, or_false] at h; rcases h with rfl | rfl; exact HMN.out.1; exact HMN.out.2
              have hszq78 := HBq78.out.size
              clear hown7 hgrow7 hbw HOq77 HBq77 hszq77 HM0
              have HE : Hid (OwnF wq78 W.heap.size (.slice adq78 (G.length + 2) cpq78) (G ++ ([⟨3, E2⟩, ⟨4, []⟩] : List Fm))) := by
                have hl : (G ++ ([⟨3, E2⟩, ⟨4, []⟩] : List Fm)).length = G.length + 2 := by simp
                unfold Hid OwnF
                rw [hl]
                exact HOq78.out
              have HLE : Hid ((G ++ ([⟨3, E2⟩, ⟨4, []⟩] : List Fm)).length ≤ 4 * (n + 1)) := by unfold Hid; (try simp); omega
              go_wp2
              go_roundw
              case rel => exact ⟨n + 1, G ++ ([⟨3, E2⟩, ⟨4, []⟩] : List Fm), by simp, by omega, HE.out, HMq78.out, HLE.out, HBq78.out⟩
              case measure => simp [Fr.intOf]; omega
        · have hltn : ¬ ((n : Int) < NL.length) := by omega
          by_cases hhf : n < FL.length
          · have hltf : (n : Int) < FL.length := by omega
            obtain rfl : af = some ⟨bf, of_, none⟩ := by rcases HAF.out with h | h; exact h; omega
            have HF0 : Hid (_ = _) := HFA.out n hhf
            generalize FL[n] = fx at *
            have KR : Hid (∀ X, Below W.heap.size W X → _) := fun X hX => Ms.refresh_any fx X (HG.out.below hX)
            cases hf : isF fx with
            | false =>
              rw [show Ms.rfA fx = .tuple #[.string ⟨#[]⟩, .int .i64 2] by unfold Ms.rfA; rw [hf]; rfl] at KR
              clear hf
              have hsz0 := HB0.out.size
              have t0 := cl_row (i := 0) (blkT HB0.out HT.out) rfl
              have t1 := cl_row (i := 1) (blkT HB0.out HT.out) rfl
              have t2 := cl_row (i := 2) (blkT HB0.out HT.out) rfl
              have f0 := below_cell HB0.out HF0.out
              go_wp2_with fail
              refine Calls.mono (KR.out wr HB0.out) ?_
              rintro e wq79 ⟨rfl, hb⟩
              clear t0 t1 t2 f0
              have HBq79 : Hid (Below W.heap.size W wq79) := HB0.out.trans (hb.mono hsz0)
              have HOq79 : Hid (wq79.ownsRow W.heap.size 35 2 (.slice adg (G.length) cpg) (G.length) (cellsF (G))) := Fr.owns_below HO0.out hb
              have hszq79 := HBq79.out.size
              clear hb HO0 HB0 hsz0
              have t0 := cl_row (i := 0) (blkT HBq79.out HT.out) rfl
              have t1 := cl_row (i := 1) (blkT HBq79.out HT.out) rfl
              have t2 := cl_row (i := 2) (blkT HBq79.out HT.out) rfl
              have HE : Hid (OwnF wq79 W.heap.size (.slice adg (G.length) cpg) (G)) := by
                have hl : (G).length = G.length := by simp
                unfold Hid OwnF
                rw [hl]
                exact HOq79.out
              have HLE : Hid ((G).length ≤ 4 * (n + 1)) := by unfold Hid; (try simp); omega
              go_wp2
              go_roundw
              case rel => exact ⟨n + 1, G, by simp, by omega, HE.out, HM0.out, HLE.out, HBq79.out⟩
              case measure => simp [Fr.intOf]; omega
            | true =>
              rw [show Ms.rfA fx = .tuple #[.string ⟨(Ms.rfL fx).toArray⟩, .int .i64 0] by unfold Ms.rfA; rw [hf]; rfl] at KR
              have HMF : Hid (Meant ⟨5, Ms.rfL fx⟩) := Or.inr (Or.inr (Or.inr ⟨rfl, fx, hf, rfl⟩))
              clear hf
              generalize Ms.rfL fx = E3 at *
              have hsz0 := HB0.out.size
              have t0 := cl_row (i := 0) (blkT HB0.out HT.out) rfl
              have t1 := cl_row (i := 1) (blkT HB0.out HT.out) rfl
              have t2 := cl_row (i := 2) (blkT HB0.out HT.out) rfl
              have f0 := below_cell HB0.out HF0.out
              go_wp2_with fail
              refine Calls.mono (KR.out wr HB0.out) ?_
              rintro e wq80 ⟨rfl, hb⟩
              clear t0 t1 t2 f0
              have HBq80 : Hid (Below W.heap.size W wq80) := HB0.out.trans (hb.mono hsz0)
              have HOq80 : Hid (wq80.ownsRow W.heap.size 35 2 (.slice adg (G.length) cpg) (G.length) (cellsF (G))) := Fr.owns_below HO0.out hb
              have hszq80 := HBq80.out.size
              clear hb HO0 HB0 hsz0
              go_wp2_with (at_builtin; refine wpList_append_own _ rfl _ _ 29 rfl W.heap.size 35 i0 (.agg #[.int .i64 0, .string ⟨#[]⟩]) 2 24 Tryz.underlying29 hi hz0 hz1 hz2 rfl (by decide) (.slice adg (G.length) cpg) (G.length) (cellsF (G)) rfl (World.ownsRow.alloc HOq80.out _) ⟨wq80.heap.size, 0, none⟩ 1 1 (cellsF ([⟨5, E3⟩] : List Fm)) rfl rfl (newsN wq80 (cellsF ([⟨5, E3⟩] : List Fm)) 35) (Fr.cellsF_one ([⟨5, E3⟩] : List Fm)) (by unfold maxLen; omega) (by omega) (Nat.le_trans hszq80 (by simp)) ?_; intro v7 wq81 hown7 hgrow7 _; obtain ⟨adq81, cpq81, rfl⟩ := Fr.slice_of_owns hown7; have hbw : Below W.heap.size wq80 wq81 := ((Below.refl _ _).alloc hszq80 _).grown hgrow7 (Nat.le_trans hszq80 (by simp)) (fun k e => (Fr.owns_lt HOq80.out k e).1); have HBq81 : Hid (Below W.heap.size W wq81) := HBq80.out.trans hbw; have t0 := cl_row (i := 0) (blkT HBq81.out HT.out) rfl; have t1 := cl_row (i := 1) (blkT HBq81.out HT.out) rfl; have t2 := cl_row (i := 2) (blkT HBq81.out HT.out) rfl)
              have HOq81 : Hid (wq81.ownsRow W.heap.size 35 2 (.slice adq81 (G.length + 1) cpq81) (G.length + 1) (cellsF (G ++ ([⟨5, E3⟩] : List Fm)))) := by
                unfold Hid
                rw [Fr.cellsF_app]
                exact hown7
              have HMq81 : Hid (∀ f ∈ G ++ ([⟨5, E3⟩] : List Fm), Meant f) := by
                intro f hf
                rcases List.mem_append.1 hf with h | h
                · exact HM0.out f h
                · obtain rfl := List.mem_singleton.1 h; exact HMF.out
              have hszq81 := HBq81.out.size
              clear hown7 hgrow7 hbw HOq80 HBq80 hszq80 HM0
              have HE : Hid (OwnF wq81 W.heap.size (.slice adq81 (G.length + 1) cpq81) (G ++ ([⟨5, E3⟩] : List Fm))) := by
                have hl : (G ++ ([⟨5, E3⟩] : List Fm)).length = G.length + 1 := by simp
                unfold Hid OwnF
                rw [hl]
                exact HOq81.out
              have HLE : Hid ((G ++ ([⟨5, E3⟩] : List Fm)).length ≤ 4 * (n + 1)) := by unfold Hid; (try simp); omega
              go_wp2
              go_roundw
              case rel => exact ⟨n + 1, G ++ ([⟨5, E3⟩] : List Fm), by simp, by omega, HE.out, HMq81.out, HLE.out, HBq81.out⟩
              case measure => simp [Fr.intOf]; omega
          · have hltf : ¬ ((n : Int) < FL.length) := by omega
            have hsz0 := HB0.out.size
            have t0 := cl_row (i := 0) (blkT HB0.out HT.out) rfl
            have t1 := cl_row (i := 1) (blkT HB0.out HT.out) rfl
            have t2 := cl_row (i := 2) (blkT HB0.out HT.out) rfl
            have HE : Hid (OwnF wr W.heap.size (.slice adg (G.length) cpg) (G)) := by
              have hl : (G).length = G.length := by simp
              unfold Hid OwnF
              rw [hl]
              exact HO0.out
            have HLE : Hid ((G).length ≤ 4 * (n + 1)) := by unfold Hid; (try simp); omega
            go_wp2
            go_roundw
            case rel => exact ⟨n + 1, G, by simp, by omega, HE.out, HM0.out, HLE.out, HB0.out⟩
            case measure => simp [Fr.intOf]; omega
    · obtain rfl : n = 20 := by omega
      go_wp2
      go_ret
      have hws := HWS.out
      refine ⟨G, adg, cpg, rfl, ?_, HM0.out, by omega, HBW0.out.trans (HB0.out.mono hws)⟩
      have k := HO0.out
      obtain ⟨h1, h2⟩ := k
      refine ⟨h1, ?_⟩
      rcases h2 with h | ⟨g, cap, cur, hv, hg, r⟩
      · exact Or.inl h
      · exact Or.inr ⟨g, cap, cur, hv, by omega, r⟩
end Go.Proofs.YtfhapjhkjdifjaaGreatDoor
