/-
  The reference's Encode of an open that may be.
-/
import Derived.Test.YtlhnfejgkhilkaaDoorW4
import Derived.Deep.DeepCutAuto
import Derived.Deep.RegionHeld3
set_option linter.unusedVariables false
set_option linter.unusedSimpArgs false
namespace Go.Proofs.YtlhnfejgkhilkaaDoor
open Go.RowKit
theorem fcP_eq {f : Int} (h : isF f = true) : pcL 1 (prL f [0] []) = fcP f := by
  rcases isF_cases h with rfl | rfl | rfl | rfl | rfl <;> decide
theorem ent_eq (f : Int) (n : Nat) (y : List UInt8) (h : laid n 1 = y) : prL f [] y = entL f n := by
  unfold prL entL; rw [h, List.append_nil]
theorem fams_f {K : List Int} (h : risF 0 K = true) : ∀ f ∈ K, isF f = true := fun f hf => (((risF_iff 0 K).1 h).2 f hf).1
theorem fcL_next (L : List Int) (k : Nat) (h : k < L.length) : fcL (L.take (k + 1)) = fcL (L.take k) ++ fcP L[k] := by
  unfold fcL
  rw [List.take_succ_eq_append_getElem h, List.flatMap_append, List.flatMap_singleton]
theorem kpL_next (L : List Kp) (k : Nat) (h : k < L.length) : kpL (L.take (k + 1)) = kpL (L.take k) ++ entL L[k].f (kpN L[k]) := by
  unfold kpL
  rw [List.take_succ_eq_append_getElem h, List.flatMap_append, List.flatMap_singleton]
theorem adL_next (L : List Ad) (k : Nat) (h : k < L.length) : adL (L.take (k + 1)) = adL (L.take k) ++ entL L[k].f (adN L[k]) := by
  unfold adL
  rw [List.take_succ_eq_append_getElem h, List.flatMap_append, List.flatMap_singleton]
def Held10 (S : World → Prop) (w : World) : Prop := S w
set_option maxRecDepth 100000 in
set_option maxHeartbeats 12800000 in
theorem rencode_yes (o : Opn) (vf va vk : Value) (w : World) (h : ListsAt w o vf va vk) (hw : OpnWf o) (hm : mayB o = true) :
    Calls Tryd.prog 10 #[opV o vf va vk] w fun e w' => e = .returned (.tuple #[.string ⟨(encL o).toArray⟩, .int .i64 0]) ∧ Below w.heap.size w w' := by
  have hM := mayF_of hm
  have hkt := hM.kt
  have hhd := hM.hd
  have hfl := hM.fl
  have hal := hM.al
  have hkl := hkt.1
  obtain ⟨a, ha⟩ : ∃ a : Nat, o.asn = (a : Int) := ⟨o.asn.toNat, by have := hw.a0; omega⟩
  obtain ⟨i, hi⟩ : ∃ i : Nat, o.id = (i : Int) := ⟨o.id.toNat, by have := hw.i0; omega⟩
  obtain ⟨d, hd⟩ : ∃ d : Nat, o.hold = (d : Int) := ⟨o.hold.toNat, by omega⟩
  obtain ⟨t, ht⟩ : ∃ t : Nat, o.time = (t : Int) := ⟨o.time.toNat, by omega⟩
  have ha2 : a < 4294967296 := by have := hw.a1; omega
  have hi2 : i < 4294967296 := by have := hw.i1; omega
  have hd2 : d < 65536 := by omega
  have ht2 : t ≤ 4095 := by omega
  obtain ⟨fad, fb, foff, fcap, rfl, fhad, fhcap, fhrow⟩ := h.f
  obtain ⟨aad, ab, aoff, acap, rfl, ahad, ahcap, ahrow⟩ := h.a
  obtain ⟨kad, kb, koff, kcap, rfl, khad, khcap, khrow⟩ := h.k
  have hck : CkAt w (w.alloc (.cells (opC o (.slice fad o.fams.length fcap) (.slice aad o.adds.length acap) (.slice kad o.kept.length kcap)) 27)) (opC o (.slice fad o.fams.length fcap) (.slice aad o.adds.length acap) (.slice kad o.kept.length kcap)) := ⟨hp_new rfl, (Below.refl _ _).alloc (Nat.le_refl _) _⟩
  have KM : Hid (_ : Prop) := rcheck_any o _ _ _ _ (h.below hck.bel) hw
  rw [hm, if_pos rfl] at KM
  have HC0 : Hid (CkAt _ _ _) := hck
  have HF : Hid (_ : Prop) := fhrow
  have HA : Hid (_ : Prop) := ahrow
  have HK : Hid (_ : Prop) := khrow
  have HFE : Hid (∀ f ∈ o.fams, isF f = true) := fams_f hM.f
  have HAE : Hid (∀ f ∈ o.adds.map (·.f), isF f = true) := fams_f hM.d
  have HKE : Hid (o.gr = true → ∀ f ∈ o.kept.map (·.f), isF f = true) := fun hg => by
    have := hM.r
    unfold restB at this
    rw [if_pos hg] at this
    simp only [Bool.and_eq_true] at this
    exact fams_f this.2
  have D2 : Hid (o.refr = true → c2L o = pcL 2 []) := fun h => if_pos h
  have D2' : Hid (o.refr = false → c2L o = []) := fun h => if_neg (by rw [h]; decide)
  have D64 : Hid (o.gr = true → c64L o = pcL 64 (restL t o.again o.kept)) := fun h => (if_pos h).trans (by rw [ht]; rfl)
  have D64' : Hid (o.gr = false → c64L o = []) := fun h => if_neg (by rw [h]; decide)
  have D65 : Hid (o.four = true → c65L o = pcL 65 (laid a 4)) := fun h => (if_pos h).trans (by rw [ha]; rfl)
  have D65' : Hid (o.four = false → c65L o = []) := fun h => if_neg (by rw [h]; decide)
  have D69 : Hid (0 < o.adds.length → c69L o = pcL 69 (adL o.adds)) := fun h => if_pos h
  have D69' : Hid (o.adds.length = 0 → c69L o = []) := fun h => if_neg (by omega)
  have B1 : Hid (_ = _) := fcL_length o.fams
  have B2 : Hid (_ ≤ _) := c2L_length o
  have B64 : Hid (_ ≤ _) := c64L_length o hkt.1
  have B65 : Hid (_ ≤ _) := c65L_length o
  have B69 : Hid (_ ≤ _) := c69L_length o hal
  have HC : Hid (capsL o = fcL o.fams ++ c2L o ++ c64L o ++ c65L o ++ c69L o) := rfl
  have HCL : Hid ((capsL o).length ≤ 84) := capsL_length o hfl hal hkt.1
  have HCN : Hid (0 < (capsL o).length) := by
    have := fcL_length o.fams
    have := hM.n
    unfold Hid
    rw [HC.out]
    simp only [List.length_append]
    omega
  have HE : Hid (encL o = laid 4 1 ++ laid (shN a) 2 ++ laid d 2 ++ laid i 4 ++ laid ((capsL o).length + 2) 1 ++ pcL 2 (capsL o)) := by unfold Hid encL; rw [ha, hd, hi]; rfl
  have HSH : Hid (shN a < 65536) := by unfold Hid shN; split <;> omega
  have P2 : Hid (∀ X, Calls Tryd.prog 27 #[.int .i64 2, .string ⟨#[]⟩] X fun e w' => e = .returned (.string ⟨(pcL 2 []).toArray⟩) ∧ Below X.heap.size X w') := fun X => rcap 2 [] X (by omega) (by simp)
  have P64 : Hid (∀ X, Calls Tryd.prog 27 #[.int .i64 64, .string ⟨(restL t o.again o.kept).toArray⟩] X fun e w' => e = .returned (.string ⟨(pcL 64 (restL t o.again o.kept)).toArray⟩) ∧ Below X.heap.size X w') := fun X => rcap 64 _ X (by omega) (by rw [restL_length]; omega)
  have P65 : Hid (∀ X, Calls Tryd.prog 27 #[.int .i64 65, .string ⟨(laid a 4).toArray⟩] X fun e w' => e = .returned (.string ⟨(pcL 65 (laid a 4)).toArray⟩) ∧ Below X.heap.size X w') := fun X => rcap 65 _ X (by omega) (by rw [laid_length]; omega)
  have P69 : Hid (∀ X, Calls Tryd.prog 27 #[.int .i64 69, .string ⟨(adL o.adds).toArray⟩] X fun e w' => e = .returned (.string ⟨(pcL 69 (adL o.adds)).toArray⟩) ∧ Below X.heap.size X w') := fun X => rcap 69 _ X (by omega) (by rw [adL_length]; omega)
  have N65 : Hid (∀ X, Calls Tryd.prog 29 #[.int .i64 (a : Int), .int .i64 4] X fun e w' => e = .returned (.string ⟨(laid a 4).toArray⟩) ∧ Below X.heap.size X w') := fun X => rnum a 4 X (by omega) (by omega) (by omega) ha2
  have NTf : Hid (∀ X, Calls Tryd.prog 29 #[.int .i64 (t : Int), .int .i64 2] X fun e w' => e = .returned (.string ⟨(laid (tmN t false) 2).toArray⟩) ∧ Below X.heap.size X w') := fun X => rnum t 2 X (by omega) (by omega) (by omega) (by omega)
  have NTt : Hid (∀ X, Calls Tryd.prog 29 #[.int .i64 ((t : Int) + 32768), .int .i64 2] X fun e w' => e = .returned (.string ⟨(laid (tmN t true) 2).toArray⟩) ∧ Below X.heap.size X w') := fun X => rnum (t + 32768) 2 X (by omega) (by omega) (by omega) (by omega)
  clear hM hhd hck h hw hm fhrow ahrow khrow hkt
  obtain ⟨asn, hold, id, fams, four, refr, adds, gr, again, time, kept⟩ := o
  unfold opC at HC0
  unfold opV opC at KM
  unfold opV opC
  dsimp only at *
  subst ha hi hd ht
  generalize encL _ = RES at *
  generalize capsL _ = CL at *
  generalize c2L _ = C2 at *
  generalize c64L _ = C64 at *
  generalize c65L _ = C65 at *
  generalize c69L _ = C69 at *
  obtain ⟨Q2, hQ2⟩ : ∃ Q2, Q2 = fcL fams ++ C2 := ⟨_, rfl⟩
  have HQ2 : Hid (Q2 = fcL fams ++ C2) := hQ2
  obtain ⟨Q3, hQ3⟩ : ∃ Q3, Q3 = Q2 ++ C64 := ⟨_, rfl⟩
  have HQ3 : Hid (Q3 = Q2 ++ C64) := hQ3
  obtain ⟨Q4, hQ4⟩ : ∃ Q4, Q4 = Q3 ++ C65 := ⟨_, rfl⟩
  have HQ4 : Hid (Q4 = Q3 ++ C65) := hQ4
  have HQ5 : Hid (CL = Q4 ++ C69) := by unfold Hid; rw [HC.out, hQ4, hQ3, hQ2]
  have BQ2 : Hid (Q2.length ≤ 100) := by have := B1.out; have := B2.out; unfold Hid; rw [hQ2, List.length_append]; omega
  have BQ3 : Hid (Q3.length ≤ 200) := by have := BQ2.out; have := B64.out; unfold Hid; rw [hQ3, List.length_append]; omega
  have BQ4 : Hid (Q4.length ≤ 300) := by have := BQ3.out; have := B65.out; unfold Hid; rw [hQ4, List.length_append]; omega
  clear hQ2 hQ3 hQ4 HC
  go_enter Tryd.func10, Tryd.ntmps10
  go_wp2_with fail
  refine Calls.mono KM.out ?_
  rintro e w1 ⟨rfl, hb1⟩
  have hC1 : CkAt w w1 _ := HC0.out.later hb1
  clear HC0 hb1 KM
  have HCK : Hid (CkAt w w1 _) := hC1
  clear hC1
  go_wp2
  go_loopw [4, 5] (fun s i wr => ∃ k : Nat, k ≤ fams.length ∧ i = .int .i64 k ∧ s = .string ⟨(fcL (fams.take k)).toArray⟩ ∧ CkAt w wr _) (fun _ i _ => fams.length - (intOf i).toNat)
  case atStart => exact ⟨0, Nat.zero_le _, rfl, rfl, HCK.out⟩
  case round =>
    obtain ⟨k, hk, rfl, rfl, hck⟩ := hrel
    clear HCK
    have HCK : Hid (CkAt w wr _) := hck
    have c3 : wr.cell? ⟨w.heap.size, 3, none⟩ = some (.slice fad fams.length fcap) := cl_row hck.row rfl
    by_cases hlt : k < fams.length
    · obtain rfl : fad = some ⟨fb, foff, none⟩ := by
        rcases fhad with h | h
        · exact h
        · omega
      have e0 := (hck.bel.cell (p := ⟨fb, foff + k, none⟩) (lt_of_cell (HF.out k hlt))).trans (HF.out k hlt)
      have hf := HFE.out fams[k] (List.getElem_mem hlt)
      have HTL : Hid ((fcL (fams.take k)).length ≤ 1000) := by unfold Hid; rw [fcL_length]; simp; omega
      have KP : Hid (∀ X, Calls Tryd.prog 28 #[.int .i64 fams[k], .string ⟨#[0]⟩, .string ⟨#[]⟩] X fun e w' => e = .returned (.string ⟨(prL fams[k] [0] []).toArray⟩) ∧ Below X.heap.size X w') := fun X => rpair fams[k] [0] [] X hf (by simp) (by simp)
      have KQ : Hid (∀ X, Calls Tryd.prog 27 #[.int .i64 1, .string ⟨(prL fams[k] [0] []).toArray⟩] X fun e w' => e = .returned (.string ⟨(fcP fams[k]).toArray⟩) ∧ Below X.heap.size X w') := fun X => by
        have := rcap 1 (prL fams[k] [0] []) X (by omega) (by rw [prL_length]; simp)
        rw [fcP_eq hf] at this
        exact this
      have hadd : ∀ X : World, (Op.stringOp .add ⟨(fcL (fams.take k)).toArray⟩ ⟨(fcP fams[k]).toArray⟩).run Tryd.prog X = .ok (.string ⟨(fcL (fams.take (k + 1))).toArray⟩) X := fun X => by
        rw [fcL_next fams k hlt]
        exact add_l _ _ (by have := HTL.out; omega) (by rw [fcP_length]; omega) X
      clear HTL hf hck
      generalize fcL (fams.take k) = S0 at *
      obtain ⟨S1, hS1⟩ : ∃ S1, S1 = fcL (fams.take (k + 1)) := ⟨_, rfl⟩
      have HS1 : Hid (S1 = fcL (fams.take (k + 1))) := hS1
      rw [← hS1] at hadd
      clear hS1
      generalize prL fams[k] [0] [] = E at *
      generalize fcP fams[k] = G at *
      generalize fams[k] = f at *
      have i1 : (k : Int) < (fams.length : Int) := by omega
      go_wp2_with (first | (go_at_call 28; refine Calls.mono (KP.out _) ?_; rintro e wa ⟨rfl, hba⟩) | (go_at_call 27; refine Calls.mono (KQ.out _) ?_; rintro e wb ⟨rfl, hbb⟩))
      go_roundw
      case rel => exact ⟨k + 1, by omega, by go_num, by rw [HS1.out], (HCK.out.later hba).later hbb⟩
      case measure => simp [intOf]; omega
    · obtain rfl : k = fams.length := by omega
      rw [List.take_of_length_le (Nat.le_refl _)]
      clear hck hlt hk
      have c5 : wr.cell? ⟨w.heap.size, 5, none⟩ = some (.bool refr) := cl_row HCK.out.row rfl
      go_upto_if 34 with fail
      go_cut [4] (fun s wx => s = .string ⟨Q2.toArray⟩ ∧ CkAt w wx #[.int .u32 (a : Int), .int .i64 (d : Int), .int .u32 (i : Int), .slice fad fams.length fcap, .bool four, .bool refr, .slice aad adds.length acap, .bool gr, .bool again, .int .i64 (t : Int), .slice kad kept.length kcap])
      case first =>
        cases refr with
        | false =>
          have E2 : Hid (C2 = []) := D2'.out rfl
          go_wp2
          go_meet
          exact ⟨by rw [HQ2.out, E2.out, List.append_nil], HCK.out⟩
        | true =>
          have E2 : Hid (C2 = pcL 2 []) := D2.out rfl
          have hadd : ∀ X : World, (Op.stringOp .add ⟨(fcL fams).toArray⟩ ⟨(pcL 2 []).toArray⟩).run Tryd.prog X = .ok (.string ⟨Q2.toArray⟩) X := fun X => by
            rw [HQ2.out, E2.out]
            exact add_l _ _ (by have := B1.out; omega) (by rw [pcL_length]; simp) X
          go_wp2_with (go_at_call 27; refine Calls.mono (P2.out _) ?_; rintro e wa ⟨rfl, hba⟩)
          go_meet
          exact ⟨rfl, HCK.out.later hba⟩
      case rest =>
      obtain ⟨rfl, hck⟩ := hcut
      clear HCK c5 c3
      have HCK : Hid (CkAt w wc _) := hck
      clear hck
      have c7 : wc.cell? ⟨w.heap.size, 7, none⟩ = some (.bool gr) := cl_row HCK.out.row rfl
      have c8 : wc.cell? ⟨w.heap.size, 8, none⟩ = some (.bool again) := cl_row HCK.out.row rfl
      have c9 : wc.cell? ⟨w.heap.size, 9, none⟩ = some (.int .i64 (t : Int)) := cl_row HCK.out.row rfl
      go_upto_if 39 with fail
      go_cut [4, 6, 7, 8] (fun s s6 s7 s8 wx => s = .string ⟨Q3.toArray⟩ ∧ CkAt w wx #[.int .u32 (a : Int), .int .i64 (d : Int), .int .u32 (i : Int), .slice fad fams.length fcap, .bool four, .bool refr, .slice aad adds.length acap, .bool gr, .bool again, .int .i64 (t : Int), .slice kad kept.length kcap])
      case first =>
        cases gr with
        | false =>
          have E64 : Hid (C64 = []) := D64'.out rfl
          go_wp2
          go_meet
          exact ⟨by rw [HQ3.out, E64.out, List.append_nil], HCK.out⟩
        | true =>
          have HKE2 : Hid (∀ f ∈ kept.map (·.f), isF f = true) := HKE.out rfl
          cases again with
          | false =>
            have E64 : Hid (C64 = pcL 64 (restL t false kept)) := D64.out rfl
            have HRE : Hid (laid (tmN t false) 2 ++ kpL kept = restL t false kept) := rfl
            have HAL : Hid ((laid (tmN t false) 2).length = 2) := laid_length _ _
            have hadd : ∀ X : World, (Op.stringOp .add ⟨Q2.toArray⟩ ⟨(pcL 64 (restL t false kept)).toArray⟩).run Tryd.prog X = .ok (.string ⟨Q3.toArray⟩) X := fun X => by
              rw [HQ3.out, E64.out]
              exact add_l _ _ (by have := BQ2.out; omega) (by rw [pcL_length, restL_length]; omega) X
            have KT : Hid (_ : Prop) := NTf.out
            generalize pcL 64 (restL t false kept) = Z8 at *
            generalize restL t false kept = Z7 at *
            generalize laid (tmN t false) 2 = A0 at *
            go_wp2_with (go_at_call 29; refine Calls.mono (KT.out _) ?_; rintro e wt ⟨rfl, hbt⟩)
            have HC2 : Hid (CkAt w wt _) := HCK.out.later hbt
            clear HCK hbt
            go_loopw [7, 8] (fun s jj wr => ∃ k : Nat, k ≤ kept.length ∧ jj = .int .i64 k ∧ s = .string ⟨(A0 ++ kpL (kept.take k)).toArray⟩ ∧ CkAt w wr #[.int .u32 (a : Int), .int .i64 (d : Int), .int .u32 (i : Int), .slice fad fams.length fcap, .bool four, .bool refr, .slice aad adds.length acap, .bool true, .bool false, .int .i64 (t : Int), .slice kad kept.length kcap]) (fun _ i _ => kept.length - (intOf i).toNat)
            case atStart => exact ⟨0, Nat.zero_le _, rfl, by simp [kpL], HC2.out⟩
            case round =>
              obtain ⟨k, hk, rfl, rfl, hck⟩ := hrel
              clear HC2
              have HC2 : Hid (CkAt w wr _) := hck
              have c10 : wr.cell? ⟨w.heap.size, 10, none⟩ = some (.slice kad kept.length kcap) := cl_row hck.row rfl
              by_cases hlt : k < kept.length
              · obtain rfl : kad = some ⟨kb, koff, none⟩ := by
                  rcases khad with h | h
                  · exact h
                  · omega
                have e0 := (hck.bel.cell (p := ⟨kb, koff + k * 2, none⟩) (lt_of_cell (HK.out k hlt).1)).trans (HK.out k hlt).1
                have e1 := (hck.bel.cell (p := ⟨kb, koff + k * 2 + 1, none⟩) (lt_of_cell (HK.out k hlt).2)).trans (HK.out k hlt).2
                have hf := HKE2.out kept[k].f (List.mem_map_of_mem (List.getElem_mem hlt))
                have HTL : Hid ((A0 ++ kpL (kept.take k)).length ≤ 1000) := by unfold Hid; rw [List.length_append, HAL.out, kpL_length]; simp; omega
                have KP : Hid (∀ X, Calls Tryd.prog 28 #[.int .i64 kept[k].f, .string ⟨#[]⟩, .string ⟨#[128]⟩] X fun e w' => e = .returned (.string ⟨(entL kept[k].f 128).toArray⟩) ∧ Below X.heap.size X w') := fun X => by
                  have := rpair kept[k].f [] [128] X hf (by simp) (by simp)
                  rw [ent_eq _ 128 _ (by decide)] at this
                  exact this
                have KQ : Hid (∀ X, Calls Tryd.prog 28 #[.int .i64 kept[k].f, .string ⟨#[]⟩, .string ⟨#[0]⟩] X fun e w' => e = .returned (.string ⟨(entL kept[k].f 0).toArray⟩) ∧ Below X.heap.size X w') := fun X => by
                  have := rpair kept[k].f [] [0] X hf (by simp) (by simp)
                  rw [ent_eq _ 0 _ (by decide)] at this
                  exact this
                have HT : Hid (kpL (kept.take (k + 1)) = kpL (kept.take k) ++ entL kept[k].f (kpN kept[k])) := kpL_next kept k hlt
                have HN : Hid (kpN kept[k] = if kept[k].k = true then 128 else 0) := rfl
                have hadd : ∀ n (X : World), (Op.stringOp .add ⟨(A0 ++ kpL (kept.take k)).toArray⟩ ⟨(entL kept[k].f n).toArray⟩).run Tryd.prog X = .ok (.string ⟨(A0 ++ kpL (kept.take k) ++ entL kept[k].f n).toArray⟩) X := fun n X => add_l _ _ (by have := HTL.out; omega) (by rw [entL_length]; omega) X
                have h128 := hadd 128
                have h0 := hadd 0
                have HS : Hid (A0 ++ kpL (kept.take (k + 1)) = A0 ++ kpL (kept.take k) ++ entL kept[k].f (kpN kept[k])) := by unfold Hid; rw [HT.out, List.append_assoc]
                clear HTL hf hck hadd HT
                generalize A0 ++ kpL (kept.take k) = S0 at *
                generalize kpN kept[k] = kn at *
                generalize kept[k].k = z at *
                obtain ⟨T1, hT1⟩ : ∃ T1, T1 = S0 ++ entL kept[k].f 128 := ⟨_, rfl⟩
                obtain ⟨T0, hT0⟩ : ∃ T0, T0 = S0 ++ entL kept[k].f 0 := ⟨_, rfl⟩
                have HT1 : Hid (T1 = S0 ++ entL kept[k].f 128) := hT1
                have HT0 : Hid (T0 = S0 ++ entL kept[k].f 0) := hT0
                rw [← hT1] at h128
                rw [← hT0] at h0
                clear hT1 hT0
                have HZ1 : Hid (z = true → A0 ++ kpL (kept.take (k + 1)) = T1) := fun h => by rw [HS.out, HT1.out, HN.out, if_pos h]
                have HZ0 : Hid (z = false → A0 ++ kpL (kept.take (k + 1)) = T0) := fun h => by rw [HS.out, HT0.out, HN.out, if_neg (by rw [h]; decide)]
                clear HS HT1 HT0 HN
                generalize entL kept[k].f 128 = E1 at *
                generalize entL kept[k].f 0 = E0 at *
                generalize kept[k].f = f at *
                have i1 : (k : Int) < (kept.length : Int) := by omega
                cases z with
                | true =>
                  have HZ : Hid (_ = T1) := HZ1.out rfl
                  clear HZ1 HZ0
                  go_wp2_with (go_at_call 28; refine Calls.mono (KP.out _) ?_; rintro e wa ⟨rfl, hba⟩)
                  go_roundw
                  case rel => exact ⟨k + 1, by omega, by go_num, by rw [HZ.out], HC2.out.later hba⟩
                  case measure => simp [intOf]; omega
                | false =>
                  have HZ : Hid (_ = T0) := HZ0.out rfl
                  clear HZ1 HZ0
                  go_wp2_with (go_at_call 28; refine Calls.mono (KQ.out _) ?_; rintro e wa ⟨rfl, hba⟩)
                  go_roundw
                  case rel => exact ⟨k + 1, by omega, by go_num, by rw [HZ.out], HC2.out.later hba⟩
                  case measure => simp [intOf]; omega
              · obtain rfl : k = kept.length := by omega
                rw [List.take_of_length_le (Nat.le_refl _), HRE.out]
                clear hck hlt hk
                go_wp2_with (go_at_call 27; refine Calls.mono (P64.out _) ?_; rintro e wa ⟨rfl, hba⟩)
                go_meet
                exact ⟨rfl, HC2.out.later hba⟩
          | true =>
            have E64 : Hid (C64 = pcL 64 (restL t true kept)) := D64.out rfl
            have HRE : Hid (laid (tmN t true) 2 ++ kpL kept = restL t true kept) := rfl
            have HAL : Hid ((laid (tmN t true) 2).length = 2) := laid_length _ _
            have hadd : ∀ X : World, (Op.stringOp .add ⟨Q2.toArray⟩ ⟨(pcL 64 (restL t true kept)).toArray⟩).run Tryd.prog X = .ok (.string ⟨Q3.toArray⟩) X := fun X => by
              rw [HQ3.out, E64.out]
              exact add_l _ _ (by have := BQ2.out; omega) (by rw [pcL_length, restL_length]; omega) X
            have KT : Hid (_ : Prop) := NTt.out
            generalize pcL 64 (restL t true kept) = Z8 at *
            generalize restL t true kept = Z7 at *
            generalize laid (tmN t true) 2 = A0 at *
            go_wp2_with (go_at_call 29; refine Calls.mono (KT.out _) ?_; rintro e wt ⟨rfl, hbt⟩)
            have HC2 : Hid (CkAt w wt _) := HCK.out.later hbt
            clear HCK hbt
            go_loopw [7, 8] (fun s jj wr => ∃ k : Nat, k ≤ kept.length ∧ jj = .int .i64 k ∧ s = .string ⟨(A0 ++ kpL (kept.take k)).toArray⟩ ∧ CkAt w wr #[.int .u32 (a : Int), .int .i64 (d : Int), .int .u32 (i : Int), .slice fad fams.length fcap, .bool four, .bool refr, .slice aad adds.length acap, .bool true, .bool true, .int .i64 (t : Int), .slice kad kept.length kcap]) (fun _ i _ => kept.length - (intOf i).toNat)
            case atStart => exact ⟨0, Nat.zero_le _, rfl, by simp [kpL], HC2.out⟩
            case round =>
              obtain ⟨k, hk, rfl, rfl, hck⟩ := hrel
              clear HC2
              have HC2 : Hid (CkAt w wr _) := hck
              have c10 : wr.cell? ⟨w.heap.size, 10, none⟩ = some (.slice kad kept.length kcap) := cl_row hck.row rfl
              by_cases hlt : k < kept.length
              · obtain rfl : kad = some ⟨kb, koff, none⟩ := by
                  rcases khad with h | h
                  · exact h
                  · omega
                have e0 := (hck.bel.cell (p := ⟨kb, koff + k * 2, none⟩) (lt_of_cell (HK.out k hlt).1)).trans (HK.out k hlt).1
                have e1 := (hck.bel.cell (p := ⟨kb, koff + k * 2 + 1, none⟩) (lt_of_cell (HK.out k hlt).2)).trans (HK.out k hlt).2
                have hf := HKE2.out kept[k].f (List.mem_map_of_mem (List.getElem_mem hlt))
                have HTL : Hid ((A0 ++ kpL (kept.take k)).length ≤ 1000) := by unfold Hid; rw [List.length_append, HAL.out, kpL_length]; simp; omega
                have KP : Hid (∀ X, Calls Tryd.prog 28 #[.int .i64 kept[k].f, .string ⟨#[]⟩, .string ⟨#[128]⟩] X fun e w' => e = .returned (.string ⟨(entL kept[k].f 128).toArray⟩) ∧ Below X.heap.size X w') := fun X => by
                  have := rpair kept[k].f [] [128] X hf (by simp) (by simp)
                  rw [ent_eq _ 128 _ (by decide)] at this
                  exact this
                have KQ : Hid (∀ X, Calls Tryd.prog 28 #[.int .i64 kept[k].f, .string ⟨#[]⟩, .string ⟨#[0]⟩] X fun e w' => e = .returned (.string ⟨(entL kept[k].f 0).toArray⟩) ∧ Below X.heap.size X w') := fun X => by
                  have := rpair kept[k].f [] [0] X hf (by simp) (by simp)
                  rw [ent_eq _ 0 _ (by decide)] at this
                  exact this
                have HT : Hid (kpL (kept.take (k + 1)) = kpL (kept.take k) ++ entL kept[k].f (kpN kept[k])) := kpL_next kept k hlt
                have HN : Hid (kpN kept[k] = if kept[k].k = true then 128 else 0) := rfl
                have hadd : ∀ n (X : World), (Op.stringOp .add ⟨(A0 ++ kpL (kept.take k)).toArray⟩ ⟨(entL kept[k].f n).toArray⟩).run Tryd.prog X = .ok (.string ⟨(A0 ++ kpL (kept.take k) ++ entL kept[k].f n).toArray⟩) X := fun n X => add_l _ _ (by have := HTL.out; omega) (by rw [entL_length]; omega) X
                have h128 := hadd 128
                have h0 := hadd 0
                have HS : Hid (A0 ++ kpL (kept.take (k + 1)) = A0 ++ kpL (kept.take k) ++ entL kept[k].f (kpN kept[k])) := by unfold Hid; rw [HT.out, List.append_assoc]
                clear HTL hf hck hadd HT
                generalize A0 ++ kpL (kept.take k) = S0 at *
                generalize kpN kept[k] = kn at *
                generalize kept[k].k = z at *
                obtain ⟨T1, hT1⟩ : ∃ T1, T1 = S0 ++ entL kept[k].f 128 := ⟨_, rfl⟩
                obtain ⟨T0, hT0⟩ : ∃ T0, T0 = S0 ++ entL kept[k].f 0 := ⟨_, rfl⟩
                have HT1 : Hid (T1 = S0 ++ entL kept[k].f 128) := hT1
                have HT0 : Hid (T0 = S0 ++ entL kept[k].f 0) := hT0
                rw [← hT1] at h128
                rw [← hT0] at h0
                clear hT1 hT0
                have HZ1 : Hid (z = true → A0 ++ kpL (kept.take (k + 1)) = T1) := fun h => by rw [HS.out, HT1.out, HN.out, if_pos h]
                have HZ0 : Hid (z = false → A0 ++ kpL (kept.take (k + 1)) = T0) := fun h => by rw [HS.out, HT0.out, HN.out, if_neg (by rw [h]; decide)]
                clear HS HT1 HT0 HN
                generalize entL kept[k].f 128 = E1 at *
                generalize entL kept[k].f 0 = E0 at *
                generalize kept[k].f = f at *
                have i1 : (k : Int) < (kept.length : Int) := by omega
                cases z with
                | true =>
                  have HZ : Hid (_ = T1) := HZ1.out rfl
                  clear HZ1 HZ0
                  go_wp2_with (go_at_call 28; refine Calls.mono (KP.out _) ?_; rintro e wa ⟨rfl, hba⟩)
                  go_roundw
                  case rel => exact ⟨k + 1, by omega, by go_num, by rw [HZ.out], HC2.out.later hba⟩
                  case measure => simp [intOf]; omega
                | false =>
                  have HZ : Hid (_ = T0) := HZ0.out rfl
                  clear HZ1 HZ0
                  go_wp2_with (go_at_call 28; refine Calls.mono (KQ.out _) ?_; rintro e wa ⟨rfl, hba⟩)
                  go_roundw
                  case rel => exact ⟨k + 1, by omega, by go_num, by rw [HZ.out], HC2.out.later hba⟩
                  case measure => simp [intOf]; omega
              · obtain rfl : k = kept.length := by omega
                rw [List.take_of_length_le (Nat.le_refl _), HRE.out]
                clear hck hlt hk
                go_wp2_with (go_at_call 27; refine Calls.mono (P64.out _) ?_; rintro e wa ⟨rfl, hba⟩)
                go_meet
                exact ⟨rfl, HC2.out.later hba⟩
      case rest =>
      obtain ⟨rfl, hck⟩ := hcut
      clear HCK c7 c8 c9
      have HCK : Hid (CkAt w wc _) := hck
      clear hck
      clear D2 D2' D64 D64' P2 P64 NTf NTt HF HK HKE HFE
      have c4 : wc.cell? ⟨w.heap.size, 4, none⟩ = some (.bool four) := cl_row HCK.out.row rfl
      have c0 : wc.cell? ⟨w.heap.size, 0, none⟩ = some (.int .u32 (a : Int)) := cl_row HCK.out.row rfl
      go_upto_if 84 with fail
      go_cut [4] (fun s wx => s = .string ⟨Q4.toArray⟩ ∧ CkAt w wx #[.int .u32 (a : Int), .int .i64 (d : Int), .int .u32 (i : Int), .slice fad fams.length fcap, .bool four, .bool refr, .slice aad adds.length acap, .bool gr, .bool again, .int .i64 (t : Int), .slice kad kept.length kcap])
      case first =>
        cases four with
        | false =>
          have E65 : Hid (C65 = []) := D65'.out rfl
          go_wp2
          go_meet
          exact ⟨by rw [HQ4.out, E65.out, List.append_nil], HCK.out⟩
        | true =>
          have E65 : Hid (C65 = pcL 65 (laid a 4)) := D65.out rfl
          have hadd : ∀ X : World, (Op.stringOp .add ⟨Q3.toArray⟩ ⟨(pcL 65 (laid a 4)).toArray⟩).run Tryd.prog X = .ok (.string ⟨Q4.toArray⟩) X := fun X => by
            rw [HQ4.out, E65.out]
            exact add_l _ _ (by have := BQ3.out; omega) (by rw [pcL_length, laid_length]; omega) X
          go_wp2_with (first | (go_at_call 29; refine Calls.mono (N65.out _) ?_; rintro e wa ⟨rfl, hba⟩) | (go_at_call 27; refine Calls.mono (P65.out _) ?_; rintro e wb ⟨rfl, hbb⟩))
          go_meet
          exact ⟨rfl, (HCK.out.later hba).later hbb⟩
      case rest =>
      obtain ⟨rfl, hck⟩ := hcut
      clear HCK c4 c0
      have HCK : Hid (CkAt w wc _) := hck
      clear hck
      go_wp2
      go_loopw [9, 10, 11] (fun s jj nn wr => ∃ k : Nat, k ≤ adds.length ∧ jj = .int .i64 k ∧ s = .string ⟨(adL (adds.take k)).toArray⟩ ∧ CkAt w wr #[.int .u32 (a : Int), .int .i64 (d : Int), .int .u32 (i : Int), .slice fad fams.length fcap, .bool four, .bool refr, .slice aad adds.length acap, .bool gr, .bool again, .int .i64 (t : Int), .slice kad kept.length kcap]) (fun _ jj _ _ => adds.length - (intOf jj).toNat)
      case atStart => exact ⟨0, Nat.zero_le _, rfl, rfl, HCK.out⟩
      case round =>
        obtain ⟨k, hk, rfl, rfl, hck⟩ := hrel
        clear HCK
        have HCK : Hid (CkAt w wr _) := hck
        have c6 : wr.cell? ⟨w.heap.size, 6, none⟩ = some (.slice aad adds.length acap) := cl_row hck.row rfl
        by_cases hlt : k < adds.length
        · obtain rfl : aad = some ⟨ab, aoff, none⟩ := by
            rcases ahad with h | h
            · exact h
            · omega
          have e0 := (hck.bel.cell (p := ⟨ab, aoff + k * 3, none⟩) (lt_of_cell (HA.out k hlt).1)).trans (HA.out k hlt).1
          have e1 := (hck.bel.cell (p := ⟨ab, aoff + k * 3 + 1, none⟩) (lt_of_cell (HA.out k hlt).2.1)).trans (HA.out k hlt).2.1
          have e2 := (hck.bel.cell (p := ⟨ab, aoff + k * 3 + 2, none⟩) (lt_of_cell (HA.out k hlt).2.2)).trans (HA.out k hlt).2.2
          have hf := HAE.out adds[k].f (List.mem_map_of_mem (List.getElem_mem hlt))
          have HNB : Hid (adN adds[k] ≤ 3) := by unfold Hid adN; split <;> split <;> omega
          have HND : Hid (adN adds[k] = (if adds[k].t = true then 1 else 0) + if adds[k].s = true then 2 else 0) := rfl
          have KN : Hid (∀ X, Calls Tryd.prog 29 #[.int .i64 (adN adds[k] : Int), .int .i64 1] X fun e w' => e = .returned (.string ⟨(laid (adN adds[k]) 1).toArray⟩) ∧ Below X.heap.size X w') := fun X => rnum _ 1 X (by omega) (by omega) (by have := HNB.out; omega) (by have := HNB.out; omega)
          have KP : Hid (∀ X, Calls Tryd.prog 28 #[.int .i64 adds[k].f, .string ⟨#[]⟩, .string ⟨(laid (adN adds[k]) 1).toArray⟩] X fun e w' => e = .returned (.string ⟨(entL adds[k].f (adN adds[k])).toArray⟩) ∧ Below X.heap.size X w') := fun X => by
            have := rpair adds[k].f [] (laid (adN adds[k]) 1) X hf (by simp) (by rw [laid_length]; omega)
            rw [ent_eq _ _ _ rfl] at this
            exact this
          have HTL : Hid ((adL (adds.take k)).length ≤ 1000) := by unfold Hid; rw [adL_length]; simp; omega
          have hadd : ∀ X : World, (Op.stringOp .add ⟨(adL (adds.take k)).toArray⟩ ⟨(entL adds[k].f (adN adds[k])).toArray⟩).run Tryd.prog X = .ok (.string ⟨(adL (adds.take (k + 1))).toArray⟩) X := fun X => by
            rw [adL_next adds k hlt]
            exact add_l _ _ (by have := HTL.out; omega) (by rw [entL_length]; omega) X
          obtain ⟨S1, hS1⟩ : ∃ S1, S1 = adL (adds.take (k + 1)) := ⟨_, rfl⟩
          have HS1 : Hid (S1 = adL (adds.take (k + 1))) := hS1
          rw [← hS1] at hadd
          clear hS1 HTL HNB hf hck
          generalize adL (adds.take k) = S0 at *
          generalize entL adds[k].f (adN adds[k]) = E at *
          generalize laid (adN adds[k]) 1 = LN at *
          generalize adN adds[k] = an at *
          generalize adds[k].f = f at *
          generalize adds[k].s = s at *
          generalize adds[k].t = tt at *
          have i1 : (k : Int) < (adds.length : Int) := by omega
          cases s <;> cases tt
          · obtain rfl : an = 0 := HND.out
            go_wp2
            go_region_held (fun w' => w'.cell? ⟨w.heap.size, 6, none⟩ = some (.slice (some ⟨ab, aoff, none⟩) adds.length acap) ∧ w'.cell? ⟨ab, aoff + k * 3, none⟩ = some (.int .i64 f)) (go_keep)
              (first | (go_at_call 29; refine Calls.mono (KN.out _) ?_; rintro e wa ⟨rfl, hba⟩; have c6 := below_cell hba c6; have e0 := below_cell hba e0) | (go_at_call 28; refine Calls.mono (KP.out _) ?_; rintro e wb ⟨rfl, hbb⟩; have c6 := below_cell hbb c6; have e0 := below_cell hbb e0))
            go_wp2
            go_roundw
            case rel => exact ⟨k + 1, by omega, by go_num, by rw [HS1.out], (((HCK.out.drewN 1).later hba).later hbb)⟩
            case measure => simp [intOf]; omega
          · obtain rfl : an = 1 := HND.out
            go_wp2
            go_region_held (fun w' => w'.cell? ⟨w.heap.size, 6, none⟩ = some (.slice (some ⟨ab, aoff, none⟩) adds.length acap) ∧ w'.cell? ⟨ab, aoff + k * 3, none⟩ = some (.int .i64 f)) (go_keep)
              (first | (go_at_call 29; refine Calls.mono (KN.out _) ?_; rintro e wa ⟨rfl, hba⟩; have c6 := below_cell hba c6; have e0 := below_cell hba e0) | (go_at_call 28; refine Calls.mono (KP.out _) ?_; rintro e wb ⟨rfl, hbb⟩; have c6 := below_cell hbb c6; have e0 := below_cell hbb e0))
            go_wp2
            go_roundw
            case rel => exact ⟨k + 1, by omega, by go_num, by rw [HS1.out], (((HCK.out.drewN 1).later hba).later hbb)⟩
            case measure => simp [intOf]; omega
          · obtain rfl : an = 2 := HND.out
            go_wp2
            go_region_held (fun w' => w'.cell? ⟨w.heap.size, 6, none⟩ = some (.slice (some ⟨ab, aoff, none⟩) adds.length acap) ∧ w'.cell? ⟨ab, aoff + k * 3, none⟩ = some (.int .i64 f)) (go_keep)
              (first | (go_at_call 29; refine Calls.mono (KN.out _) ?_; rintro e wa ⟨rfl, hba⟩; have c6 := below_cell hba c6; have e0 := below_cell hba e0) | (go_at_call 28; refine Calls.mono (KP.out _) ?_; rintro e wb ⟨rfl, hbb⟩; have c6 := below_cell hbb c6; have e0 := below_cell hbb e0))
            go_wp2
            go_roundw
            case rel => exact ⟨k + 1, by omega, by go_num, by rw [HS1.out], (((HCK.out.drewN 1).later hba).later hbb)⟩
            case measure => simp [intOf]; omega
          · obtain rfl : an = 3 := HND.out
            go_wp2
            go_region_held (fun w' => w'.cell? ⟨w.heap.size, 6, none⟩ = some (.slice (some ⟨ab, aoff, none⟩) adds.length acap) ∧ w'.cell? ⟨ab, aoff + k * 3, none⟩ = some (.int .i64 f)) (go_keep)
              (first | (go_at_call 29; refine Calls.mono (KN.out _) ?_; rintro e wa ⟨rfl, hba⟩; have c6 := below_cell hba c6; have e0 := below_cell hba e0) | (go_at_call 28; refine Calls.mono (KP.out _) ?_; rintro e wb ⟨rfl, hbb⟩; have c6 := below_cell hbb c6; have e0 := below_cell hbb e0))
            go_wp2
            go_roundw
            case rel => exact ⟨k + 1, by omega, by go_num, by rw [HS1.out], (((HCK.out.drewN 1).later hba).later hbb)⟩
            case measure => simp [intOf]; omega
        · obtain rfl : k = adds.length := by omega
          rw [List.take_of_length_le (Nat.le_refl _)]
          clear hck hlt hk
          clear D65 D65' N65 P65 HA HAE B1 B2 B64 B65 B69 HQ2 HQ3 HQ4 BQ2 BQ3
          have HAL0 : Hid ((adL adds).length = 4 * adds.length) := adL_length adds
          have E69 : Hid ((adL adds = [] ∧ CL = Q4) ∨ (∃ c r, adL adds = c :: r ∧ ∀ X : World, (Op.stringOp .add ⟨Q4.toArray⟩ ⟨(pcL 69 (adL adds)).toArray⟩).run Tryd.prog X = .ok (.string ⟨CL.toArray⟩) X)) := by
            by_cases hz : adds.length = 0
            · exact Or.inl ⟨List.length_eq_zero_iff.mp (by rw [HAL0.out]; omega), by rw [HQ5.out, D69'.out hz, List.append_nil]⟩
            · refine Or.inr ?_
              have hadd : ∀ X : World, (Op.stringOp .add ⟨Q4.toArray⟩ ⟨(pcL 69 (adL adds)).toArray⟩).run Tryd.prog X = .ok (.string ⟨CL.toArray⟩) X := fun X => by
                rw [HQ5.out, D69.out (by omega)]
                exact add_l _ _ (by have := BQ4.out; omega) (by rw [pcL_length, HAL0.out]; omega) X
              cases hc : adL adds with
              | nil => exact absurd (congrArg List.length hc) (by rw [HAL0.out]; simp; omega)
              | cons c r => exact ⟨c, r, rfl, by rw [← hc]; exact hadd⟩
          clear D69 D69' HAL0 HQ5 BQ4
          generalize adL adds = AL at *
          go_upto_if 125 with fail
          go_cut [4] (fun s wx => s = .string ⟨CL.toArray⟩ ∧ CkAt w wx #[.int .u32 (a : Int), .int .i64 (d : Int), .int .u32 (i : Int), .slice fad fams.length fcap, .bool four, .bool refr, .slice aad adds.length acap, .bool gr, .bool again, .int .i64 (t : Int), .slice kad kept.length kcap])
          case first =>
            rcases E69.out with ⟨rfl, rfl⟩ | ⟨c, r, rfl, hadd⟩
            · go_wp2
              go_meet
              exact ⟨rfl, HCK.out⟩
            · have KP : Hid (_ : Prop) := P69.out
              go_wp2_with (go_at_call 27; refine Calls.mono (KP.out _) ?_; rintro e wa ⟨rfl, hba⟩)
              go_meet
              exact ⟨rfl, HCK.out.later hba⟩
          case rest =>
          obtain ⟨rfl, hck⟩ := hcut
          clear HCK E69 P69 c6
          have HCK : Hid (CkAt w wc _) := hck
          have c0 : wc.cell? ⟨w.heap.size, 0, none⟩ = some (.int .u32 (a : Int)) := cl_row hck.row rfl
          have q1 : wc.cell? ⟨w.heap.size, 1, none⟩ = some (.int .i64 (d : Int)) := cl_row hck.row rfl
          have q2 : wc.cell? ⟨w.heap.size, 2, none⟩ = some (.int .u32 (i : Int)) := cl_row hck.row rfl
          clear hck
          have HS1 : Hid (65535 < a → shN a = 23456) := fun h => if_neg (by omega)
          have HS0 : Hid (¬ 65535 < a → shN a = a) := fun h => if_pos (by omega)
          go_upto_if 134 with fail
          go_cut [12] (fun s wx => s = .int .i64 (shN a : Int) ∧ wx = wc)
          case first =>
            by_cases hz : 65535 < a
            · have E : Hid (shN a = 23456) := HS1.out hz
              go_wp2
              go_meet
              exact ⟨by rw [E.out]; rfl, rfl⟩
            · have E : Hid (shN a = a) := HS0.out hz
              go_wp2
              go_meet
              exact ⟨by rw [E.out], rfl⟩
          case rest =>
          obtain ⟨rfl, rfl⟩ := hcut
          have NL : Hid (∀ X, Calls Tryd.prog 29 #[.int .i64 (CL.length : Int), .int .i64 1] X fun e w' => e = .returned (.string ⟨(laid CL.length 1).toArray⟩) ∧ Below X.heap.size X w') := fun X => rnum _ 1 X (by omega) (by omega) (by have := HCL.out; omega) (by have := HCL.out; omega)
          have NP : Hid (∀ X, Calls Tryd.prog 29 #[.int .i64 ((CL.length + 2 : Nat) : Int), .int .i64 1] X fun e w' => e = .returned (.string ⟨(laid (CL.length + 2) 1).toArray⟩) ∧ Below X.heap.size X w') := fun X => rnum _ 1 X (by omega) (by omega) (by have := HCL.out; omega) (by have := HCL.out; omega)
          have NS : Hid (∀ X, Calls Tryd.prog 29 #[.int .i64 (shN a : Int), .int .i64 2] X fun e w' => e = .returned (.string ⟨(laid (shN a) 2).toArray⟩) ∧ Below X.heap.size X w') := fun X => rnum _ 2 X (by omega) (by omega) (by have := HSH.out; omega) (by have := HSH.out; omega)
          have ND : Hid (∀ X, Calls Tryd.prog 29 #[.int .i64 (d : Int), .int .i64 2] X fun e w' => e = .returned (.string ⟨(laid d 2).toArray⟩) ∧ Below X.heap.size X w') := fun X => rnum _ 2 X (by omega) (by omega) (by omega) (by omega)
          have NI : Hid (∀ X, Calls Tryd.prog 29 #[.int .i64 (i : Int), .int .i64 4] X fun e w' => e = .returned (.string ⟨(laid i 4).toArray⟩) ∧ Below X.heap.size X w') := fun X => rnum _ 4 X (by omega) (by omega) (by omega) (by omega)
          have s1 : ∀ X : World, (Op.stringOp .add ⟨#[2]⟩ ⟨(laid CL.length 1).toArray⟩).run Tryd.prog X = .ok (.string ⟨(laid 2 1 ++ laid CL.length 1).toArray⟩) X := fun X => add_l (laid 2 1) _ (by simp [laid_length]) (by simp [laid_length]) X
          have s2 : ∀ X : World, (Op.stringOp .add ⟨(laid 2 1 ++ laid CL.length 1).toArray⟩ ⟨CL.toArray⟩).run Tryd.prog X = .ok (.string ⟨(pcL 2 CL).toArray⟩) X := fun X => add_l _ _ (by simp [laid_length]) (by have := HCL.out; omega) X
          have t1 : ∀ X : World, (Op.stringOp .add ⟨#[4]⟩ ⟨(laid (shN a) 2).toArray⟩).run Tryd.prog X = .ok (.string ⟨(laid 4 1 ++ laid (shN a) 2).toArray⟩) X := fun X => add_l (laid 4 1) _ (by simp [laid_length]) (by simp [laid_length]) X
          have t2 : ∀ X : World, (Op.stringOp .add ⟨(laid 4 1 ++ laid (shN a) 2).toArray⟩ ⟨(laid d 2).toArray⟩).run Tryd.prog X = .ok (.string ⟨(laid 4 1 ++ laid (shN a) 2 ++ laid d 2).toArray⟩) X := fun X => add_l _ _ (by simp [laid_length]) (by simp [laid_length]) X
          have t3 : ∀ X : World, (Op.stringOp .add ⟨(laid 4 1 ++ laid (shN a) 2 ++ laid d 2).toArray⟩ ⟨(laid i 4).toArray⟩).run Tryd.prog X = .ok (.string ⟨(laid 4 1 ++ laid (shN a) 2 ++ laid d 2 ++ laid i 4).toArray⟩) X := fun X => add_l _ _ (by simp [laid_length]) (by simp [laid_length]) X
          have t4 : ∀ X : World, (Op.stringOp .add ⟨(laid 4 1 ++ laid (shN a) 2 ++ laid d 2 ++ laid i 4).toArray⟩ ⟨(laid (CL.length + 2) 1).toArray⟩).run Tryd.prog X = .ok (.string ⟨(laid 4 1 ++ laid (shN a) 2 ++ laid d 2 ++ laid i 4 ++ laid (CL.length + 2) 1).toArray⟩) X := fun X => add_l _ _ (by simp [laid_length]) (by simp [laid_length]) X
          have t5 : ∀ X : World, (Op.stringOp .add ⟨(laid 4 1 ++ laid (shN a) 2 ++ laid d 2 ++ laid i 4 ++ laid (CL.length + 2) 1).toArray⟩ ⟨(pcL 2 CL).toArray⟩).run Tryd.prog X = .ok (.string ⟨RES.toArray⟩) X := fun X => by
            rw [HE.out]
            exact add_l _ _ (by simp [laid_length]) (by rw [pcL_length]; have := HCL.out; omega) X
          have hp : (⟨(pcL 2 CL).toArray⟩ : ByteArray).size = CL.length + 2 := pcL_length _ _
          generalize hpm : CL.length + 2 = pm at *
          have hs : (⟨CL.toArray⟩ : ByteArray).size = CL.length := rfl
          have hn : CL.length ≤ 84 := HCL.out
          have hne : ¬ CL = [] := fun e => by have := HCN.out; rw [e] at this; exact absurd this (by decide)
          have hne2 : (CL == []) = false := by
            cases hc : CL with
            | nil => exact absurd hc hne
            | cons x y => rfl
          have hpb : pm ≤ 90 := by omega
          clear HE HCL HCN HSH HS1 HS0 c0 hpm
          generalize laid 4 1 ++ laid (shN a) 2 ++ laid d 2 ++ laid i 4 ++ laid pm 1 = A5 at *
          generalize laid 4 1 ++ laid (shN a) 2 ++ laid d 2 ++ laid i 4 = A4 at *
          generalize laid 4 1 ++ laid (shN a) 2 ++ laid d 2 = A3 at *
          generalize laid 4 1 ++ laid (shN a) 2 = A2 at *
          generalize laid 2 1 ++ laid CL.length 1 = A1 at *
          generalize pcL 2 CL = PC at *
          generalize laid pm 1 = L5 at *
          generalize laid CL.length 1 = L1 at *
          generalize laid (shN a) 2 = L2 at *
          generalize laid d 2 = L3 at *
          generalize laid i 4 = L4 at *
          generalize shN a = sa at *
          generalize CL.length = n at *
          go_wp2_with (go_at_call 29; refine Calls.mono (NL.out _) ?_; rintro e wl ⟨rfl, hbl⟩)
          have q1 := below_cell hbl q1
          have q2 := below_cell hbl q2
          have hB : Below w.heap.size w wl := (HCK.out.later hbl).bel
          clear HCK hbl
          obtain ⟨S, hS⟩ : ∃ S : World → Prop, S = fun w' => w'.cell? ⟨w.heap.size, 1, none⟩ = some (.int .i64 (d : Int)) ∧ w'.cell? ⟨w.heap.size, 2, none⟩ = some (.int .u32 (i : Int)) ∧ Below w.heap.size w w' := ⟨_, rfl⟩
          have hl : Held10 S wl.drew := by unfold Held10; rw [hS]; exact ⟨q1, q2, hB.drew⟩
          have k1 : ∀ w', Held10 S w' → w'.cell? ⟨w.heap.size, 1, none⟩ = some (.int .i64 (d : Int)) := fun w' h => by unfold Held10 at h; rw [hS] at h; exact h.1
          have k2 : ∀ w', Held10 S w' → w'.cell? ⟨w.heap.size, 2, none⟩ = some (.int .u32 (i : Int)) := fun w' h => by unfold Held10 at h; rw [hS] at h; exact h.2.1
          have HZZ : Hid (∀ w', Held10 S w' → Below w.heap.size w w') := fun w' h => by unfold Held10 at h; rw [hS] at h; exact h.2.2
          have kn : ∀ X w', Held10 S X → Below X.heap.size X w' → Held10 S w' := fun X w' h hb => by
            unfold Held10 at *
            rw [hS] at *
            exact ⟨below_cell hb h.1, below_cell hb h.2.1, h.2.2.trans (hb.mono h.2.2.size)⟩
          have MS : Hid (∀ X, Held10 S X → Calls Tryd.prog 29 #[.int .i64 (sa : Int), .int .i64 2] X fun e w' => e = .returned (.string ⟨L2.toArray⟩) ∧ Held10 S w') := fun X h => (NS.out X).mono fun e w' ⟨x, y⟩ => ⟨x, kn X w' h y⟩
          have MD : Hid (∀ X, Held10 S X → Calls Tryd.prog 29 #[.int .i64 (d : Int), .int .i64 2] X fun e w' => e = .returned (.string ⟨L3.toArray⟩) ∧ Held10 S w') := fun X h => (ND.out X).mono fun e w' ⟨x, y⟩ => ⟨x, kn X w' h y⟩
          have MI : Hid (∀ X, Held10 S X → Calls Tryd.prog 29 #[.int .i64 (i : Int), .int .i64 4] X fun e w' => e = .returned (.string ⟨L4.toArray⟩) ∧ Held10 S w') := fun X h => (NI.out X).mono fun e w' ⟨x, y⟩ => ⟨x, kn X w' h y⟩
          have MP : Hid (∀ X, Held10 S X → Calls Tryd.prog 29 #[.int .i64 (pm : Int), .int .i64 1] X fun e w' => e = .returned (.string ⟨L5.toArray⟩) ∧ Held10 S w') := fun X h => (NP.out X).mono fun e w' ⟨x, y⟩ => ⟨x, kn X w' h y⟩
          have hwi : IntKind.i64.wrap (i : Int) = (i : Int) := by simp [IntKind.wrap, IntKind.signed, IntKind.bits]; omega
          clear hS q1 q2 hB NS ND NI NP NL kn
          go_region_held3 (fun w' => Held10 S w') (with_reducible assumption)
            (first | (go_at_call_of 29 (Value.int .i64 (sa : Int)); refine (MS.out _ (by with_reducible assumption)).mono ?_; rintro e wa ⟨rfl, sA⟩) | (go_at_call_of 29 (Value.int .i64 (d : Int)); refine (MD.out _ (by with_reducible assumption)).mono ?_; rintro e wb ⟨rfl, sB⟩) | (go_at_call_of 29 (Value.int .i64 (i : Int)); refine (MI.out _ (by with_reducible assumption)).mono ?_; rintro e wd ⟨rfl, sD⟩) | (go_at_call_of 29 (Value.int .i64 (pm : Int)); refine (MP.out _ (by with_reducible assumption)).mono ?_; rintro e we ⟨rfl, sE⟩))
          go_wp2
          go_ret2
          exact ⟨rfl, HZZ.out _ (by with_reducible assumption)⟩
end Go.Proofs.YtlhnfejgkhilkaaDoor
