/-
  TopTalk: the walk.
-/
import Derived.Test.YtfhapjhkjdifjaaGreatDoorT5
namespace Go.Proofs.YtfhapjhkjdifjaaGreatDoor
open Go.RowKit
open Fr (Fm OwnF cellsF)
theorem add_bytes (a b : List UInt8) : (⟨a.toArray⟩ : ByteArray) ++ (⟨b.toArray⟩ : ByteArray) = ⟨(a ++ b).toArray⟩ := Fr.app_bytes a b
set_option maxRecDepth 100000 in
set_option maxHeartbeats 25600000 in
theorem talk_walk (OL : List Opn) (NL : List Nt) (FL : List Int) (C : List Nat) (ao an af ac : Option Addr) (ko kn kf kc : Nat) (w : World) (hg : FamSizes w) (hS : Fr.SzAt w)
    (hO : OpensAt w (.slice ao OL.length ko) OL) (hN : NotesAt w (.slice an NL.length kn) NL) (hF : IntsAt w (.slice af FL.length kf) FL) (hC : Fr.U8sAt w (.slice ac C.length kc) C) (hc8 : ∀ n ∈ C, n < 256) :
    Calls Tryz.prog 3 #[.agg #[.slice ao OL.length ko, .slice an NL.length kn, .slice af FL.length kf, .slice ac C.length kc]] w fun e w' => e = .returned (.bool true) ∧ Below w.heap.size w w' := by
  obtain ⟨i0, hi, hz0, hz1, hz2⟩ := info_parts Fr.info37
  have hb0 : Below w.heap.size w (w.alloc (.cells #[.slice ao OL.length ko, .slice an NL.length kn, .slice af FL.length kf, .slice ac C.length kc] 27)) := (Below.refl _ _).alloc (Nat.le_refl _) _
  have HT0 : Hid ((w.alloc (.cells #[.slice ao OL.length ko, .slice an NL.length kn, .slice af FL.length kf, .slice ac C.length kc] 27)).heap[w.heap.size]? = some (.cells #[.slice ao OL.length ko, .slice an NL.length kn, .slice af FL.length kf, .slice ac C.length kc] 27 (0, 0))) := hp_new rfl
  have K12 : Hid (_ : Prop) := known12_any (w.alloc (.cells #[.slice ao OL.length ko, .slice an NL.length kn, .slice af FL.length kf, .slice ac C.length kc] 27)) (hS.below hb0)
  have KSD : Hid (∀ X, Below w.heap.size w X → _) := fun X hX => said_any OL NL FL ao an af ko kn kf (.slice ac C.length kc) X (hg.below hX) (hO.below hX) (hN.below hX) (hF.below hX)
  have HU8 : Hid (∀ X, Below w.heap.size w X → Fr.U8sAt X (.slice ac C.length kc) C) := fun X hX => U8sAt.below hC hX
  have HC8 : Hid (∀ n ∈ C, n < 256) := hc8
  have HB0 : Hid (Below _ _ _) := hb0
  have HG : Hid (FamSizes w) := hg
  have HZ : Hid (Fr.SzAt w) := hS
  have HW0 : Hid (1 < w.heap.size) := hg.lt
  clear hb0 hg hS hO hN hF hC hc8
  go_enter Tryz.func3, Tryz.ntmps3
  go_wp2_with fail
  refine Calls.mono K12.out ?_
  rintro e w1 ⟨rfl, hb1⟩
  have HB1 : Hid (Below w.heap.size w w1) := HB0.out.trans (hb1.mono HB0.out.size)
  have HT1 : Hid (_ = _) := blkT hb1 HT0.out
  have t0 := cl_row (i := 0) HT1.out rfl
  have t1 := cl_row (i := 1) HT1.out rfl
  have t2 := cl_row (i := 2) HT1.out rfl
  have t3 := cl_row (i := 3) HT1.out rfl
  clear hb1 HB0 HT0 K12
  go_wp2_with fail
  refine Calls.mono (KSD.out w1 HB1.out) ?_
  rintro e w2 ⟨FR, adf, cpf, rfl, hof, hmt, hfl, hb2⟩
  clear t0 t1 t2 t3
  have HB2 : Hid (Below w.heap.size w w2) := HB1.out.trans (hb2.mono HB1.out.size)
  have HT2 : Hid (w2.heap[w.heap.size]? = _) := blkT hb2 HT1.out
  have HOF : Hid (OwnF w2 w1.heap.size (.slice adf FR.length cpf) FR) := hof
  have HMT : Hid (∀ f ∈ FR, Meant f) := hmt
  have HW12 : Hid (w1.heap.size ≤ w2.heap.size) := hb2.size
  have HRUN : Hid (Fr.runI Fr.st0 (Fr.msgsF FR) = (Fr.st0, FR)) := Fr.run_all FR (fun f hf => (hmt f hf).ok)
  have HML : Hid (∀ n, (Fr.msgsF (FR.take n)).length ≤ 330000) := fun n => by
    have := Fr.msgsF_len (FR.take n) (fun f hf => (hmt f (List.mem_of_mem_take hf)).ok)
    rw [List.length_take] at this
    omega
  obtain ⟨ad', bf, of_, capf, hvf, hadf, _, hrf⟩ := Fr.OwnF.at hof
  simp only [Value.slice.injEq] at hvf
  obtain ⟨rfl, _, rfl⟩ := hvf
  have HAF : Hid (adf = some ⟨bf, of_, none⟩ ∨ FR.length = 0) := hadf
  have HRF : Hid (Fr.RowF w2 bf of_ FR) := hrf
  clear hof hmt hb2 hadf hrf KSD
  go_wp2
  go_loopw [4, 5] (fun t i wr => ∃ n : Nat, t = .string ⟨(Fr.msgsF (FR.take n)).toArray⟩ ∧ i = .int .i64 (n : Int) ∧ n ≤ FR.length ∧ Below w2.heap.size w2 wr) (fun _ i _ => FR.length - (Fr.intOf i).toNat)
  case atStart => exact ⟨0, rfl, rfl, Nat.zero_le _, Below.refl _ _⟩
  case round =>
    obtain ⟨n, rfl, rfl, hn, hbr⟩ := hrel
    have HBR : Hid (Below w2.heap.size w2 wr) := hbr
    clear hbr
    by_cases hlt : n < FR.length
    · obtain rfl : adf = some ⟨bf, of_, none⟩ := by rcases HAF.out with h | h; exact h; omega
      have hlt' : (n : Int) < FR.length := by omega
      have hm := HMT.out FR[n] (List.getElem_mem hlt)
      have hok := hm.ok
      have hmk := Fr.make_ok FR[n] hok
      have hrow := HRF.out n hlt
      have HX0 : Hid (_ = _) := hrow.1
      have HX1 : Hid (_ = _) := hrow.2
      have q0 := below_cell HBR.out hrow.1
      have q1 := below_cell HBR.out hrow.2
      have hol := hok.len
      have KM : Hid (∀ X, Fr.SzAt X → _) := fun X hX => Fr.make_any (FR[n].k : Int) FR[n].b X hX (by omega)
      rw [hmk] at KM
      have KZ : Hid (∀ X, _) := fun X => Ms.msize_any (FR[n].k : Int) (FR[n].b.length : Int) X
      rw [hm.fine] at KZ
      have htk : FR.take (n + 1) = FR.take n ++ [FR[n]] := List.take_succ_eq_append_getElem hlt
      have happ := add_bytes (Fr.msgsF (FR.take n)) (Fr.msgI FR[n])
      rw [← Fr.msgsF_snoc, ← htk] at happ
      have hbl : (⟨FR[n].b.toArray⟩ : ByteArray).size = FR[n].b.length := rfl
      have hs1 : (⟨(Fr.msgsF (FR.take n)).toArray⟩ : ByteArray).size ≤ 400000 := by have := HML.out n; exact Nat.le_trans this (by omega)
      have hs2 : (⟨(Fr.msgI FR[n]).toArray⟩ : ByteArray).size ≤ 4096 := by rw [Fr.list_size, Fr.msg_len]; exact hol
      have HTK : Hid (⟨(Fr.msgsF (FR.take (n + 1))).toArray⟩ = (⟨(Fr.msgsF (FR.take (n + 1))).toArray⟩ : ByteArray)) := rfl
      generalize hSN : (⟨(Fr.msgsF (FR.take (n + 1))).toArray⟩ : ByteArray) = SN at *
      have HSN : Hid (_ = SN) := hSN
      generalize (⟨(Fr.msgsF (FR.take n)).toArray⟩ : ByteArray) = S at *
      generalize (⟨(Fr.msgI FR[n]).toArray⟩ : ByteArray) = M at *
      generalize (⟨FR[n].b.toArray⟩ : ByteArray) = BD at *
      have hbl2 : FR[n].b.length ≤ 4096 := by omega
      generalize FR[n].b.length = bl at *
      generalize (FR[n].k : Int) = kk at *
      clear hm hok hmk hrow hol htk hSN HTK
      go_wp2_with fail
      refine Calls.mono (KM.out wr (HZ.out.below (HB2.out.trans (HBR.out.mono HB2.out.size)))) ?_
      rintro e w3 ⟨rfl, hb3⟩
      have HB3 : Hid (Below w2.heap.size w2 w3) := HBR.out.trans (hb3.mono HBR.out.size)
      clear q0 q1 hb3 KM HBR
      have q0 := below_cell HB3.out HX0.out
      have q1 := below_cell HB3.out HX1.out
      go_wp2
      go_region_held (fun w' => w'.cell? ⟨bf, of_ + n * 2, none⟩ = some (.int .i64 kk) ∧ w'.cell? ⟨bf, of_ + n * 2 + 1, none⟩ = some (.string BD)) (go_keep)
        (first | (go_at_call 7; refine Calls.mono (KZ.out _) ?_; rintro e w5 ⟨rfl, hb5⟩; have q0 := below_cell hb5 q0; have q1 := below_cell hb5 q1))
      all_goals
        have HB5 : Hid (Below w2.heap.size w2 w5) := (below_drewN HB3.out 1).trans (hb5.mono HB3.out.size)
        clear q0 q1 hb5
        go_wp2
        go_roundw
        case rel => exact ⟨n + 1, by rw [HSN.out], by simp, by omega, HB5.out⟩
        case measure => simp [Fr.intOf]; omega
    · obtain rfl : n = FR.length := by omega
      have HBW2 : Hid (Below w.heap.size w wr) := HB2.out.trans (HBR.out.mono HB2.out.size)
      have htk : FR.take FR.length = FR := List.take_length
      have HML2 : Hid ((Fr.msgsF FR).length ≤ 330000) := by have := HML.out FR.length; rw [htk] at this; exact this
      rw [htk]
      clear htk HML
      go_wp2_with fail
      refine (Fr.new_any wr).mono ?_
      rintro e W ⟨p, b, rfl, hf1, hb2, hp, hb⟩
      have HF1 : Hid (Fr.FrAt W p b Fr.st0) := hf1
      have HPB : Hid (wr.heap.size ≤ p ∧ wr.heap.size ≤ b) := ⟨hp, hb⟩
      have HPL : Hid (p < W.heap.size ∧ b < W.heap.size) := ⟨hf1.ltp, hf1.buf.lt⟩
      have HBX : Hid (Below w2.heap.size w2 W) := HBR.out.trans (hb2.mono HBR.out.size)
      have HBW : Hid (Below w.heap.size w W) := HB2.out.trans (HBX.out.mono HB2.out.size)
      have HTW : Hid (_ = _) := blkT HBX.out HT2.out
      have HWR : Hid (w2.heap.size ≤ wr.heap.size) := HBR.out.size
      have t3 := cl_row (i := 3) HTW.out rfl
      have KP : Hid (_ : Prop) := Fr.pieces_any (Fr.msgsF FR) (.slice ac C.length kc) C W (HU8.out W HBW.out) HC8.out (by have := HML2.out; omega)
      clear hf1 hb2 hp hb
      generalize hMS : Fr.msgsF FR = MS at *
      have HMS : Hid (Fr.msgsF FR = MS) := hMS
      clear hMS
      go_wp2_with fail
      refine Calls.mono KP.out ?_
      rintro e w4 ⟨P, adp, cpp, rfl, hop, hflat, hpl, hb4⟩
      have HOP : Hid (Fr.OwnS w4 W.heap.size (.slice adp P.length cpp) P) := hop
      have HB4 : Hid (Below W.heap.size W w4) := hb4
      have HF4 : Hid (Fr.FrAt w4 p b Fr.st0) := HF1.out.below hb4 HPL.out.1 HPL.out.2
      have HFLAT : Hid (P.flatten = MS) := hflat
      have hpl2 : P.length ≤ 400000 := by have := HML2.out; omega
      obtain ⟨ad', bp, capp, hvp, hadp, hrp⟩ := Fr.OwnS.at hop
      simp only [Value.slice.injEq] at hvp
      obtain ⟨rfl, _, rfl⟩ := hvp
      have HAP : Hid (adp = some ⟨bp, 0, none⟩ ∨ P.length = 0) := hadp
      have HRP : Hid (∀ j (h : j < P.length), w4.cell? ⟨bp, j, none⟩ = some (.string ⟨P[j].toArray⟩)) := hrp
      have HPL4 : Hid (p < w4.heap.size ∧ b < w4.heap.size) := ⟨Nat.lt_of_lt_of_le HPL.out.1 hb4.size, Nat.lt_of_lt_of_le HPL.out.2 hb4.size⟩
      have HBP : Hid (∀ g, (Value.slice adp P.length cpp).ownBlock = some g → W.heap.size ≤ g) := fun g hgv => (Fr.owns_lt hop g hgv).1
      clear hop hflat hb4 hadp hrp t3 KP HF1
      go_wp2
      go_loopw [9, 11] (fun u i wz => ∃ (j : Nat) (G rest : List Fm) (st : Fr.St), OwnF wz w4.heap.size u G ∧ i = .int .i64 (j : Int) ∧ j ≤ P.length ∧ Fr.FrAt wz p b st ∧ Fr.Beside p b w4 wz ∧ Fr.runI st (P.drop j).flatten = (Fr.st0, rest) ∧ FR = G ++ rest) (fun _ i _ => P.length - (Fr.intOf i).toNat)
      case atStart => exact ⟨0, [], FR, Fr.st0, World.ownsRow_nil _ _ _ _, rfl, Nat.zero_le _, HF4.out, Fr.Beside.refl w4, by rw [List.drop_zero, HFLAT.out, ← HMS.out]; exact Fr.run_all FR (fun f hf => (HMT.out f hf).ok), rfl⟩
      case round =>
        obtain ⟨j, G, rest, st, ho, rfl, hj, hfr, hbs, hrun, hFG⟩ := hrel
        obtain ⟨adg, cpg, rfl⟩ := Fr.slice_of_owns ho
        generalize wr = wo at *
        have HO : Hid (OwnF wo w4.heap.size (.slice adg G.length cpg) G) := ho
        have HFR : Hid (Fr.FrAt wo p b st) := hfr
        have HBS : Hid (Fr.Beside p b w4 wo) := hbs
        have HRUN2 : Hid (Fr.runI st (P.drop j).flatten = (Fr.st0, rest)) := hrun
        have HFG : Hid (FR = G ++ rest) := hFG
        have hG : G.length ≤ 80 := by rw [hFG, List.length_append] at hfl; omega
        have HNW : Hid (w.heap.size ≤ p ∧ w.heap.size ≤ b) := by unfold Hid; have h1 := HPB.out; have h2 := HBW2.out.size; omega
        have HW4 : Hid (Below w.heap.size w w4) := HBW.out.trans (HB4.out.mono HBW.out.size)
        have HWO : Hid (Below w.heap.size w wo) := HW4.out.trans (hbs.below HNW.out.1 HNW.out.2 HW4.out.size)
        have HZ1 : Hid (Fr.SzAt wo) := HZ.out.below HWO.out
        clear ho hfr hbs hrun hFG
        by_cases hlt2 : j < P.length
        · obtain rfl : adp = some ⟨bp, 0, none⟩ := by rcases HAP.out with h | h; exact h; omega
          have hjl : (j : Int) < P.length := by omega
          have hc4 := HRP.out j hlt2
          have hbp : W.heap.size ≤ bp := HBP.out bp rfl
          have hbk := HBS.out.block bp (lt_of_cell hc4) (by have := HPL.out; omega) (by have := HPL.out; omega)
          have c0 : wo.cell? ⟨bp, j, none⟩ = some (.string ⟨P[j].toArray⟩) := by rw [← hc4]; unfold World.cell?; rw [hbk]
          have HGO : Hid (_ : Prop) := Fr.go_on HRUN2.out HFG.out (drop_flat P j hlt2)
          have hcl : P[j].length ≤ 1000000 := by have h1 := piece_le HFLAT.out j hlt2; have h2 := HML2.out; omega
          have hRl := Fr.run_frames_le2 P[j] st
          have HRP2 : Hid (Fr.runI st P[j] = ((Fr.runI st P[j]).1, (Fr.runI st P[j]).2)) := rfl
          generalize (Fr.runI st P[j]).2 = R2 at *
          generalize (Fr.runI st P[j]).1 = S2 at *
          generalize P[j] = ck at *
          obtain ⟨hsub, rest2, hrun2, hFG2⟩ := HGO.out
          have HSUB : Hid (S2.sub = 0) := hsub
          have HRUN3 : Hid (Fr.runI S2 (P.drop (j + 1)).flatten = (Fr.st0, rest2)) := hrun2
          have HFG2 : Hid (FR = (G ++ R2) ++ rest2) := hFG2
          have hGR : G.length + R2.length ≤ 80 := by rw [hFG2, List.length_append, List.length_append] at hfl; omega
          clear hsub hrun2 hFG2 HGO HRUN2 HFG hRl hc4 hbk
          go_wp2_with fail
          refine (Fr.put_fine p b st S2 ck R2 wo HFR.out HZ1.out (by have := HW0.out; have := HNW.out; omega) (by have := HW0.out; have := HNW.out; omega) hcl HRP2.out HSUB.out).mono ?_
          rintro e w5 ⟨ad3, cp3, rfl, ho3, hf3, hbs3⟩
          have hba3 : Below w5.heap.size w5 (w5.alloc (.cells #[.int .i64 0, .int .u8 0, .int .u8 0] 37)) := (Below.refl _ _).alloc (Nat.le_refl _) _
          have HF3 : Hid (Fr.FrAt (w5.alloc (.cells #[.int .i64 0, .int .u8 0, .int .u8 0] 37)) p b S2) := hf3.below hba3 hf3.ltp hf3.buf.lt
          have HB3 : Hid (Fr.Beside p b w4 (w5.alloc (.cells #[.int .i64 0, .int .u8 0, .int .u8 0] 37))) := (HBS.out.trans hbs3).then hba3
          have HO3 : Hid (OwnF (w5.alloc (.cells #[.int .i64 0, .int .u8 0, .int .u8 0] 37)) wo.heap.size (.slice ad3 R2.length cp3) R2) := Fr.owns_below ho3 hba3
          have HG3 : Hid (OwnF (w5.alloc (.cells #[.int .i64 0, .int .u8 0, .int .u8 0] 37)) w4.heap.size (.slice adg G.length cpg) G) := Fr.owns_below (Fr.owns_beside HO.out hbs3 HPL4.out.1 HPL4.out.2) hba3
          have h3 := HB3.out.size
          have v0 : (w5.alloc (.cells #[.int .i64 0, .int .u8 0, .int .u8 0] 37)).heap[w5.heap.size]? = some (.cells #[.int .i64 0, .int .u8 0, .int .u8 0] 37 (0, 0)) := hp_new rfl
          have y0 : (w5.alloc (.cells #[.int .i64 0, .int .u8 0, .int .u8 0] 37)).cell? ⟨w5.heap.size, 0, none⟩ = some (.int .i64 0) := cl_row v0 rfl
          have y1 : (w5.alloc (.cells #[.int .i64 0, .int .u8 0, .int .u8 0] 37)).cell? ⟨w5.heap.size, 1, none⟩ = some (.int .u8 0) := cl_row v0 rfl
          have y2 : (w5.alloc (.cells #[.int .i64 0, .int .u8 0, .int .u8 0] 37)).cell? ⟨w5.heap.size, 2, none⟩ = some (.int .u8 0) := cl_row v0 rfl
          clear hba3 hf3 hbs3 ho3 HFR HBS HO HZ1 v0 c0
          by_cases hR0 : R2 = []
          · subst hR0
            have hcg := Fr.own_cap HG3.out
            have happ := Fr.run_app_none adg ad3 G.length cpg cp3 (w5.alloc (.cells #[.int .i64 0, .int .u8 0, .int .u8 0] 37)) hcg
            simp only [List.length_nil, Nat.add_zero] at hGR ⊢
            go_wp2_with (at_builtin; refine Fr.wpList_append_run _ rfl _ _ 29 rfl _ _ rfl rfl happ ?_)
            generalize (w5.alloc (.cells #[.int .i64 0, .int .u8 0, .int .u8 0] 37)) = V3 at *
            have HG5 : Hid (OwnF V3 w4.heap.size (.slice adg G.length cpg) (G ++ [])) := by unfold Hid; rw [List.append_nil]; exact HG3.out
            clear y0 y1 y2 happ
            go_roundw
            case rel => exact ⟨j + 1, G ++ [], rest2, S2, HG5.out, by simp, by omega, HF3.out, HB3.out, HRUN3.out, HFG2.out⟩
            case measure => simp [Fr.intOf]; omega
          · obtain ⟨gg, rfl, _, hnews⟩ := Fr.own_news HO3.out hR0
            have HNEWS : Hid (_ : Prop) := hnews
            have hpR : 0 < R2.length := by cases R2 with | nil => exact absurd rfl hR0 | cons => simp
            clear hnews
            go_wp2_with (at_builtin; refine wpList_append_own _ rfl _ _ 29 rfl w4.heap.size 35 i0 (.agg #[.int .i64 0, .string ⟨#[]⟩]) 2 24 Tryz.underlying29 hi hz0 hz1 hz2 rfl (by decide) (.slice adg G.length cpg) G.length (cellsF G) rfl HG3.out ⟨gg, 0, none⟩ R2.length cp3 (cellsF R2) rfl (Fr.cellsF_len R2) HNEWS.out (Fr.cellsF_one R2) (by unfold maxLen; omega) (by omega) h3 ?_; intro v7 w7 hown7 hgrow7 _)
            have HG5 : Hid (OwnF w7 w4.heap.size v7 (G ++ R2)) := by
              unfold Hid OwnF
              rw [Fr.cellsF_app, List.length_append]
              exact hown7
            obtain ⟨ad7, c7, rfl⟩ := Fr.slice_of_owns hown7
            have hbw : Below w4.heap.size (w5.alloc (.cells #[.int .i64 0, .int .u8 0, .int .u8 0] 37)) w7 := (Below.refl _ _).grown hgrow7 h3 (fun k e => (Fr.owns_lt HG3.out k e).1)
            have HF5 : Hid (Fr.FrAt w7 p b S2) := HF3.out.below hbw HPL4.out.1 HPL4.out.2
            have HB5 : Hid (Fr.Beside p b w4 w7) := HB3.out.over hbw (Nat.le_refl _)
            clear hown7 hgrow7 hbw y0 y1 y2
            go_roundw
            case rel => exact ⟨j + 1, G ++ R2, rest2, S2, HG5.out, by simp, by omega, HF5.out, HB5.out, HRUN3.out, HFG2.out⟩
            case measure => simp [Fr.intOf]; omega
        · obtain rfl : j = P.length := by omega
          have hst : st = Fr.st0 ∧ rest = [] := by have k := HRUN2.out; rw [List.drop_length] at k; simp only [List.flatten_nil, Fr.runI, Prod.mk.injEq] at k; exact ⟨k.1, k.2.symm⟩
          obtain ⟨rfl, rfl⟩ := hst
          have HGF : Hid (FR = G) := by unfold Hid; rw [HFG.out]; simp
          have hlFG : FR.length = G.length := by rw [HGF.out]
          have HCC : Hid (∀ (b' i : Nat) (v : Value), w2.cell? ⟨b', i, none⟩ = some v → wo.cell? ⟨b', i, none⟩ = some v) := fun b' i v h => by
            have hlt' := lt_of_cell h
            have h1 := below_cell HBX.out h
            have h2 := below_cell HB4.out h1
            have hbk := HBS.out.block b' (lt_of_cell h2) (by have := HPB.out; have := HWR.out; omega) (by have := HPB.out; have := HWR.out; omega)
            rw [← h2]; unfold World.cell?; rw [hbk]
          have KL : Hid (Calls Tryz.prog 11 #[.pointer (some ⟨p, 0, none⟩)] wo fun e w' => e = .returned (.int .i64 0) ∧ w' = wo) := Fr.left_any p b Fr.st0 wo HFR.out
          obtain ⟨ada, ba, offa, capa, hva, hada, _, hra⟩ := Fr.OwnF.at HO.out
          simp only [Value.slice.injEq] at hva
          obtain ⟨rfl, _, rfl⟩ := hva
          have HRA : Hid (Fr.RowF wo ba offa G) := hra
          have HRB : Hid (Fr.RowF wo bf of_ G) := fun n hn => by
            have hn' : n < FR.length := by rw [hlFG]; exact hn
            have k := HRF.out n hn'
            have e : FR[n] = G[n] := by congr 1
            rw [e] at k
            exact ⟨HCC.out _ _ _ k.1, HCC.out _ _ _ k.2⟩
          have HADA : Hid (adg = some ⟨ba, offa, none⟩ ∨ G.length = 0) := hada
          have HADB : Hid (adf = some ⟨bf, of_, none⟩ ∨ G.length = 0) := by unfold Hid; rw [← hlFG]; exact HAF.out
          have HMG : Hid (∀ f ∈ G, Meant f) := by unfold Hid; rw [← HGF.out]; exact HMT.out
          clear hra hada HO HBS HFR HCC
          rw [hlFG]
          go_wp2_with fail
          refine Calls.mono KL.out ?_
          rintro e w9 ⟨rfl, hw9⟩
          obtain rfl : wo = w9 := hw9.symm
          clear hw9 KL
          go_wp2
          go_loopw [14] (fun i wz => ∃ n : Nat, n ≤ G.length ∧ i = .int .i64 n ∧ Below wo.heap.size wo wz) (fun i _ => G.length - (Fr.intOf i).toNat)
          case atStart => exact ⟨0, Nat.zero_le _, rfl, Below.refl _ _⟩
          case round =>
            obtain ⟨n, hn, rfl, hbz⟩ := hrel
            generalize wr = wz at *
            have HBZ : Hid (Below wo.heap.size wo wz) := hbz
            clear hbz
            by_cases hlt3 : n < G.length
            · obtain rfl : adg = some ⟨ba, offa, none⟩ := by rcases HADA.out with h | h; exact h; omega
              obtain rfl : adf = some ⟨bf, of_, none⟩ := by rcases HADB.out with h | h; exact h; omega
              have hlt4 : (n : Int) < G.length := by omega
              have HLN : Hid (n + 1 ≤ G.length) := hlt3
              have hm := HMG.out G[n] (List.getElem_mem hlt3)
              have xa := HRA.out n hlt3
              have xb := HRB.out n hlt3
              have HA0 : Hid (_ = _) := xa.1
              have HA1 : Hid (_ = _) := xa.2
              have HB0' : Hid (_ = _) := xb.1
              have HB1' : Hid (_ = _) := xb.2
              clear xa xb
              have HWZ : Hid (Below w.heap.size w wz) := HWO.out.trans (HBZ.out.mono HWO.out.size)
              generalize G[n] = fm at *
              obtain ⟨fk, fb⟩ := fm
              rcases hm with ⟨hk, o, hmay, hwf, hbody⟩ | ⟨hk, c, s, d, hc, hs, hcz, hd, hbody⟩ | ⟨hk, hbody⟩ | ⟨hk, x, hx, hbody⟩
              · simp only at hk hbody
                subst hk hbody
                have KD : Hid (∀ X, FamSizes X → Calls Tryz.prog 12 #[.string ⟨(encL o).toArray⟩] X fun e w' => DecOk X.heap.size (.ok o) e w' ∧ Below X.heap.size X w') := fun X hX => by
                  have := decode_any (encL o) X hX
                  rw [dec_back o (mayF_of hmay) hwf] at this
                  exact this
                have KE : Hid (∀ X uf ua uk, FamSizes X → ListsAt X o uf ua uk → Calls Tryz.prog 13 #[opV o uf ua uk] X fun e w' => e = .returned (.tuple #[.string ⟨(encL o).toArray⟩, .int .i64 0]) ∧ Below X.heap.size X w') := fun X uf ua uk hX hl => encode_yes o uf ua uk X hX hl hwf hmay
                generalize (⟨(encL o).toArray⟩ : ByteArray) = E at *
                clear hmay hwf
                have a0 := below_cell HBZ.out HA0.out
                have a1 := below_cell HBZ.out HA1.out
                have b0 := below_cell HBZ.out HB0'.out
                have b1 := below_cell HBZ.out HB1'.out
                go_wp2
                go_quiet (fail)
                have HQ : Hid (Below wo.heap.size wo (wz.drewN nq)) := below_drewN HBZ.out nq
                clear a0 a1 b0 b1
                generalize wz.drewN nq = wq at *
                have HWQ : Hid (Below w.heap.size w wq) := HWO.out.trans (HQ.out.mono HWO.out.size)
                have a0 := below_cell HQ.out HA0.out
                have a1 := below_cell HQ.out HA1.out
                have b0 := below_cell HQ.out HB0'.out
                have b1 := below_cell HQ.out HB1'.out
                go_wp2_with fail
                refine Calls.mono (KD.out wq (HG.out.below HWQ.out)) ?_
                rintro e w5 ⟨⟨uf, ua, uk, rfl, g1, g2, g3, _⟩, hb⟩
                clear a0 a1 b0 b1
                have hl5 := lists_of_owns g1 g2 g3
                obtain ⟨b1, j1, rfl⟩ := slice_of_owns g1
                obtain ⟨b2, j2, rfl⟩ := slice_of_owns g2
                obtain ⟨b3, j3, rfl⟩ := slice_of_owns g3
                have H5 : Hid (Below wo.heap.size wo w5) := HQ.out.trans (hb.mono HQ.out.size)
                have hb6 : Below w5.heap.size w5 ((w5.alloc (.cells (opC o (.slice b1 o.fams.length j1) (.slice b2 o.adds.length j2) (.slice b3 o.kept.length j3)) 50)).alloc (.cells #[.int .i64 0, .int .u8 0, .int .u8 0] 37)) := ((Below.refl _ _).alloc (Nat.le_refl _) _).alloc (by simp) _
                have H6 : Hid (Below wo.heap.size wo ((w5.alloc (.cells (opC o (.slice b1 o.fams.length j1) (.slice b2 o.adds.length j2) (.slice b3 o.kept.length j3)) 50)).alloc (.cells #[.int .i64 0, .int .u8 0, .int .u8 0] 37))) := H5.out.trans (hb6.mono H5.out.size)
                have HW6 : Hid (Below w.heap.size w ((w5.alloc (.cells (opC o (.slice b1 o.fams.length j1) (.slice b2 o.adds.length j2) (.slice b3 o.kept.length j3)) 50)).alloc (.cells #[.int .i64 0, .int .u8 0, .int .u8 0] 37))) := HWO.out.trans (H6.out.mono HWO.out.size)
                have HL6 : Hid (_ : Prop) := hl5.below hb6
                have HR6 : Hid (((w5.alloc (.cells (opC o (.slice b1 o.fams.length j1) (.slice b2 o.adds.length j2) (.slice b3 o.kept.length j3)) 50)).alloc (.cells #[.int .i64 0, .int .u8 0, .int .u8 0] 37)).heap[w5.heap.size]? = some (.cells (opC o (.slice b1 o.fams.length j1) (.slice b2 o.adds.length j2) (.slice b3 o.kept.length j3)) 50 (0, 0))) := hp_up (hp_new rfl)
                have HV6 : Hid (((w5.alloc (.cells (opC o (.slice b1 o.fams.length j1) (.slice b2 o.adds.length j2) (.slice b3 o.kept.length j3)) 50)).alloc (.cells #[.int .i64 0, .int .u8 0, .int .u8 0] 37)).heap[w5.heap.size + 1]? = some (.cells #[.int .i64 0, .int .u8 0, .int .u8 0] 37 (0, 0))) := hp_new (by simp)
                clear g1 g2 g3 hl5 hb hb6
                unfold opC at HR6 HV6 HW6 H6 HL6
                unfold vdt
                unfold opV opC
                go_wp2_with (refine wpList_load_row rfl 50 _ rfl w5.heap.size rfl 50 _ (0, 0) _ HR6.out Tryz.underlying50 rfl size50 ?_)
                refine Calls.mono (KE.out _ _ _ _ (HG.out.below HW6.out) HL6.out) ?_
                rintro e w7 ⟨rfl, hb7⟩
                have H7 : Hid (Below wo.heap.size wo w7) := H6.out.trans (hb7.mono H6.out.size)
                have hv7 := blkT hb7 HV6.out
                have v0 := cl_row (i := 0) hv7 rfl
                have v1 := cl_row (i := 1) hv7 rfl
                have v2 := cl_row (i := 2) hv7 rfl
                clear hb7 hv7 HV6 HR6 H6 HL6 HW6
                have a0 := below_cell H7.out HA0.out
                have a1 := below_cell H7.out HA1.out
                have b0 := below_cell H7.out HB0'.out
                have b1 := below_cell H7.out HB1'.out
                go_wp2
                go_roundw
                case rel => exact ⟨n + 1, HLN.out, by simp, H7.out⟩
                case measure => simp [Fr.intOf]; omega
              · simp only at hk hbody
                subst hk hbody
                have KR : Hid (∀ X, _) := fun X => Ms.read_any (Ms.ntL c s d) X
                rw [rd_ntT c s d hc hs hcz hd] at KR
                have KN : Hid (∀ X, _) := fun X => Ms.note_any c s d hc hs (by omega) X
                rw [show Ms.ntA c s d = .tuple #[.string ⟨(Ms.ntL c s d).toArray⟩, .int .i64 0] by unfold Ms.ntA; rw [if_neg hcz, if_neg (by omega)]] at KN
                unfold Ms.ntC at KR KN
                generalize (⟨(Ms.ntL c s d).toArray⟩ : ByteArray) = E at *
                clear hc hs hcz hd
                have a0 := below_cell HBZ.out HA0.out
                have a1 := below_cell HBZ.out HA1.out
                have b0 := below_cell HBZ.out HB0'.out
                have b1 := below_cell HBZ.out HB1'.out
                go_wp2
                go_quiet (fail)
                have HQ : Hid (Below wo.heap.size wo (wz.drewN nq)) := below_drewN HBZ.out nq
                clear a0 a1 b0 b1
                generalize wz.drewN nq = wq at *
                have a0 := below_cell HQ.out HA0.out
                have a1 := below_cell HQ.out HA1.out
                have b0 := below_cell HQ.out HB0'.out
                have b1 := below_cell HQ.out HB1'.out
                go_wp2_with fail
                refine Calls.mono (KR.out wq) ?_
                rintro e w5 ⟨rfl, hb⟩
                clear a0 a1 b0 b1
                have H5 : Hid (Below wo.heap.size wo w5) := HQ.out.trans (hb.mono HQ.out.size)
                have H6 : Hid (Below wo.heap.size wo (w5.alloc (.cells #[.int .u8 (c : Int), .int .u8 (s : Int), .string ⟨d.toArray⟩] 55))) := H5.out.alloc H5.out.size _
                clear hb
                go_wp2_with fail
                refine Calls.mono (KN.out _) ?_
                rintro e w7 ⟨rfl, hb7⟩
                have H7 : Hid (Below wo.heap.size wo w7) := H6.out.trans (hb7.mono H6.out.size)
                clear hb7
                have a0 := below_cell H7.out HA0.out
                have a1 := below_cell H7.out HA1.out
                have b0 := below_cell H7.out HB0'.out
                have b1 := below_cell H7.out HB1'.out
                go_wp2
                go_roundw
                case rel => exact ⟨n + 1, HLN.out, by simp, H7.out⟩
                case measure => simp [Fr.intOf]; omega
              · simp only at hk hbody
                subst hk hbody
                have a0 := below_cell HBZ.out HA0.out
                have a1 := below_cell HBZ.out HA1.out
                have b0 := below_cell HBZ.out HB0'.out
                have b1 := below_cell HBZ.out HB1'.out
                go_wp2
                go_quiet (fail)
                have HQ : Hid (Below wo.heap.size wo (wz.drewN nq)) := below_drewN HBZ.out nq
                clear a0 a1 b0 b1
                generalize wz.drewN nq = wq at *
                have a0 := below_cell HQ.out HA0.out
                have a1 := below_cell HQ.out HA1.out
                have b0 := below_cell HQ.out HB0'.out
                have b1 := below_cell HQ.out HB1'.out
                go_wp2
                go_roundw
                case rel => exact ⟨n + 1, HLN.out, by simp, HQ.out⟩
                case measure => simp [Fr.intOf]; omega
              · simp only at hk hbody
                subst hk hbody
                have KR : Hid (∀ X, FamSizes X → _) := fun X hX => Ms.rr_any (Ms.rfL x) X hX
                rw [rr_rfT x hx] at KR
                have hx1 : (1 : Int) ≤ x ∧ x ≤ 5 := by unfold isF at hx; simpa using hx
                have hx2 : decide (x < 1) = false := by simp; omega
                have hx3 : decide (5 < x) = false := by simp; omega
                generalize (⟨(Ms.rfL x).toArray⟩ : ByteArray) = E at *
                clear hx hx1
                have a0 := below_cell HBZ.out HA0.out
                have a1 := below_cell HBZ.out HA1.out
                have b0 := below_cell HBZ.out HB0'.out
                have b1 := below_cell HBZ.out HB1'.out
                go_wp2
                go_quiet (fail)
                have HQ : Hid (Below wo.heap.size wo (wz.drewN nq)) := below_drewN HBZ.out nq
                clear a0 a1 b0 b1
                generalize wz.drewN nq = wq at *
                have HWQ : Hid (Below w.heap.size w wq) := HWO.out.trans (HQ.out.mono HWO.out.size)
                have a0 := below_cell HQ.out HA0.out
                have a1 := below_cell HQ.out HA1.out
                have b0 := below_cell HQ.out HB0'.out
                have b1 := below_cell HQ.out HB1'.out
                go_wp2_with fail
                refine Calls.mono (KR.out wq (HG.out.below HWQ.out)) ?_
                rintro e w5 ⟨rfl, hb⟩
                clear a0 a1 b0 b1
                have H5 : Hid (Below wo.heap.size wo w5) := HQ.out.trans (hb.mono HQ.out.size)
                clear hb
                have a0 := below_cell H5.out HA0.out
                have a1 := below_cell H5.out HA1.out
                have b0 := below_cell H5.out HB0'.out
                have b1 := below_cell H5.out HB1'.out
                go_wp2
                go_roundw
                case rel => exact ⟨n + 1, HLN.out, by simp, H5.out⟩
                case measure => simp [Fr.intOf]; omega
            · obtain rfl : n = G.length := by omega
              go_wp2
              go_ret
              exact ⟨rfl, HWO.out.trans (HBZ.out.mono HWO.out.size)⟩
end Go.Proofs.YtfhapjhkjdifjaaGreatDoor
