/-
  SetsStars' walk.
-/
import Derived.Test.YtjchobcmbkiilaaGreatDoorV6
import Derived.Laws.StructEq
set_option linter.unusedVariables false
set_option linter.unusedSimpArgs false
set_option maxRecDepth 100000
namespace Go.Proofs.YtjchobcmbkiilaaGreatDoor
open Go.RowKit
theorem ps_of (w : World) (vs : List Value) (ps : List (List Atm)) (hl : vs.length = ps.length) (h : ∀ j (h1 : j < vs.length) (h2 : j < ps.length), AtAt w vs[j] ps[j]) {W : World} (hW : W = w.alloc (.cells vs.toArray 51)) : PsAt W (.slice (some ⟨w.heap.size, 0, none⟩) ps.length ps.length) ps := by
  have hbx : Below w.heap.size w W := by rw [hW]; exact below_box _ _
  refine ⟨_, w.heap.size, 0, ps.length, rfl, Or.inl rfl, Nat.le_refl _, fun j hj => ?_⟩
  refine ⟨vs[j]'(by omega), ?_, (h j (by omega) hj).below hbx⟩
  rw [hW, World.cell?_alloc_new, Nat.zero_add]
  simp [show j < vs.length by omega]
/-- What stands in memory. -/
structure StAt (w : World) (va vm vo vl : Value) (a : List Atm) (l : List Nat) : Prop where
  e : Env w
  a : AtAt w va a
  m : AtAt w vm [mA]
  o : AtAt w vo [oA]
  l : ASAt w vl l
theorem StAt.below {w w' : World} {va vm vo vl : Value} {a : List Atm} {l : List Nat} (h : StAt w va vm vo vl a l) (hb : Below w.heap.size w w') : StAt w' va vm vo vl a l := ⟨h.e.below hb, h.a.below hb, h.m.below hb, h.o.below hb, h.l.below hb⟩
set_option maxHeartbeats 8000000 in
theorem stars_walk (w : World) (vx vz : Value) (X Z : List Nat) (hx : U8At w vx X) (hz : U8At w vz Z) (lx : X.length ≤ 9223372036854775807) (lz : Z.length ≤ 9223372036854775807) (he : Env w) :
    Calls Tryz.prog 6 #[vx, vz] w fun e w' => e = .returned (.bool true) ∧ Below w.heap.size w w' := by
  have HE : Hid (Env w) := he
  have HX : Hid (U8At w vx X) := hx
  have HZ : Hid (U8At w vz Z) := hz
  clear he hx hz
  go_enter Tryz.func6, Tryz.ntmps6
  go_wp2_with fail
  refine Calls.mono (atoms_any vx X w HX.out lx) ?_
  rintro e w1 ⟨⟨va, rfl, ha⟩, hb1⟩
  have HB1 : Hid (Below w.heap.size w w1) := hb1
  have HA1 : Hid (AtAt w1 va (atL X)) := ha.at
  clear ha hb1 HX
  go_wp2_with fail
  refine Calls.mono (few_any vz Z w1 (HZ.out.below HB1.out) lz) ?_
  rintro e w2 ⟨⟨vl, rfl, hl⟩, hb2⟩
  have HB2 : Hid (Below w.heap.size w w2) := HB1.out.trans (hb2.mono HB1.out.size)
  have HA : Hid (AtAt w2 va (atL X)) := HA1.out.below hb2
  have HL : Hid (ASAt w2 vl (fewL Z)) := hl.at
  clear hl hb2 HZ HA1 HB1
  have l1 := atL_len X
  have l3 := fewL_len Z
  have HOK : Hid (∀ a ∈ atL X, okA a = true ∧ a.2 < 4294967296) := atL_ok X
  have HPOS : Hid (∀ n ∈ fewL Z, 0 < n) := fewL_pos Z
  generalize atL X = a at *
  generalize fewL Z = l at *
  have HOA : Hid (okP a = true) := okP_of (fun x h => (HOK.out x h).1) (by omega)
  have HO1 : Hid ((okP [[mA], a, [mA]].flatten && mt [[mA], a, [mA]].flatten l) = fO a l (l.length + 1)) := by
    unfold Hid
    rw [okP_of (fun x h => by simp at h; rcases h with rfl | h | rfl <;> first | rfl | exact (HOK.out x h).1) (by simp; omega), fO_all]; simp
  have HO2 : Hid ((okP [[mA], [mA], a].flatten && mt [[mA], [mA], a].flatten l) = mt (mA :: a) l) := by
    unfold Hid
    rw [okP_of (fun x h => by simp at h; rcases h with rfl | h <;> first | rfl | exact (HOK.out x h).1) (by simp; omega), ← mt_two]; simp
  have HO3 : Hid ((okP [[mA], a].flatten && mt [[mA], a].flatten l) = mt (mA :: a) l) := by
    unfold Hid
    rw [okP_of (fun x h => by simp at h; rcases h with rfl | h <;> first | rfl | exact (HOK.out x h).1) (by simp; omega)]; simp
  have HO4 : Hid ((okP [a, [oA], [mA]].flatten && mt [a, [oA], [mA]].flatten l) = mt (a ++ [oA, mA]) l) := by
    unfold Hid
    rw [okP_of (fun x h => by simp at h; rcases h with h | rfl | rfl <;> first | rfl | exact (HOK.out x h).1) (by simp; omega)]; simp
  have HO5 : Hid ((okP [a, [mA], [oA]].flatten && mt [a, [mA], [oA]].flatten l) = mt (a ++ [oA, mA]) l) := by
    unfold Hid
    rw [okP_of (fun x h => by simp at h; rcases h with h | rfl | rfl <;> first | rfl | exact (HOK.out x h).1) (by simp; omega), mt_turn]; simp
  obtain ⟨aad, acap, rfl⟩ := HA.out.len
  obtain ⟨lad, lcap, rfl⟩ := HL.out.len
  have hlc := HL.out.parts.2.1
  go_wp2
  refine Pr.with_world (fun wx => ∃ mb ob, mb = w2.heap.size ∧ ob = w2.heap.size + 1 ∧ Below w.heap.size w wx ∧ StAt wx (.slice aad a.length acap) (.slice (some ⟨mb, 0, none⟩) 1 1) (.slice (some ⟨ob, 0, none⟩) 1 1) (.slice lad l.length lcap) a l) ?_ ?_
  · refine ⟨_, _, rfl, rfl, ?_⟩
    have h1 := below_box w2 (.cells #[.int .i64 3, .int .u32 0] 53)
    have h2 := below_box (w2.alloc (.cells #[.int .i64 3, .int .u32 0] 53)) (.cells #[.int .i64 2, .int .u32 0] 53)
    have h12 : Below w2.heap.size w2 _ := h1.trans (h2.mono (by simp))
    have g2 := one_at (w2.alloc (.cells #[.int .i64 3, .int .u32 0] 53)) oA
    rw [size_alloc'] at g2
    exact ⟨HB2.out.trans (h12.mono HB2.out.size), (HE.out.below HB2.out).below h12, HA.out.below h12, (one_at w2 mA).below h2, g2, HL.out.below h12⟩
  rintro w3 ⟨mb, ob, e1, e2, hb3, hs3⟩
  rw [← e2]
  try rw [← e1]
  have HB3 : Hid (Below w.heap.size w w3) := hb3
  have HS3 : Hid (StAt w3 _ _ _ _ a l) := hs3
  clear e1 e2 hb3 hs3 HA HL HB2
  have HMA : Hid (∀ W y L, Below w3.heap.size w3 W → ASAt W y L → L.length ≤ 1000 → Calls Tryz.prog 24 #[.slice aad a.length acap, y] W fun e w' => e = .returned (.bool (mt a L)) ∧ Below W.heap.size W w') := fun W y L hW hy hL => by
    have := match_any _ y a L W (HS3.out.a.below hW) hy (by omega) (by omega)
    rw [HOA.out, Bool.true_and] at this
    exact this
  go_loopw [9, 10] (fun x9 x10 wr => ∃ i : Nat, x10 = .int .i64 i ∧ i ≤ l.length + 1 ∧ x9 = .bool (fO a l i) ∧ Below w3.heap.size w3 wr) (fun _ x10 _ => l.length + 1 - (intOf x10).toNat)
  case atStart => exact ⟨0, rfl, by omega, rfl, Below.refl _ _⟩
  case round =>
    obtain ⟨i, rfl, hi, rfl, hb⟩ := hrel
    have HB : Hid (Below w3.heap.size w3 wr) := hb
    clear hb
    by_cases hlt : i ≤ l.length
    · have HFO : Hid (fO a l (i + 1) = (fO a l i || fI a l i (l.length + 1))) := fO_succ a l i
      have HF0 : Hid (fI a l i i = false) := fI_self a l i
      generalize fO a l i = f0 at *
      go_wp2
      generalize wr = wo at *
      go_loopw [9, 11] (fun x9 x11 wr => ∃ k : Nat, x11 = .int .i64 k ∧ i ≤ k ∧ k ≤ l.length + 1 ∧ x9 = .bool (f0 || fI a l i k) ∧ Below w3.heap.size w3 wr) (fun _ x11 _ => l.length + 1 - (intOf x11).toNat)
      case atStart => exact ⟨i, rfl, Nat.le_refl _, by omega, by rw [HF0.out, Bool.or_false], HB.out⟩
      case round =>
        obtain ⟨k, rfl, hik, hk, rfl, hb⟩ := hrel
        have HBk : Hid (Below w3.heap.size w3 wr) := hb
        clear hb
        by_cases hkl : k ≤ l.length
        · have HFI : Hid (fI a l i (k + 1) = (fI a l i k || mt a (pc l i k))) := fI_succ a l i k hik
          obtain ⟨pa, pcp, hp1, hp2⟩ := slice_mU l lad lcap i k hik hkl hlc
          have HK1 : Hid (∀ W, Below w3.heap.size w3 W → _) := fun W hW => HMA.out W _ _ hW (hp2 W (HS3.out.l.below hW)) (by rw [pc_len l i k hkl]; omega)
          clear hp2
          generalize fI a l i k = f1 at *
          generalize mt a (pc l i k) = f2 at *
          cases hf : (f0 || f1) with
          | true =>
            have HN : Hid (true = (f0 || fI a l i (k + 1))) := by unfold Hid; rw [HFI.out, ← Bool.or_assoc, hf]; rfl
            clear HFI
            go_wp2
            go_roundw
            case rel => exact ⟨k + 1, by go_num, by omega, by omega, by rw [← HN.out], HBk.out⟩
            case measure => simp [intOf]; omega
          | false =>
            have HN : Hid (f2 = (f0 || fI a l i (k + 1))) := by unfold Hid; rw [HFI.out, ← Bool.or_assoc, hf]; rfl
            clear HFI
            go_wp2_with (go_at_call 24; refine Calls.mono (HK1.out _ HBk.out) ?_; rintro e w5 ⟨rfl, hb5⟩)
            go_roundw
            case rel => exact ⟨k + 1, by go_num, by omega, by omega, by rw [← HN.out], HBk.out.trans (hb5.mono HBk.out.size)⟩
            case measure => simp [intOf]; omega
        · obtain rfl : k = l.length + 1 := by omega
          have hnl : ¬ (((l.length + 1 : Nat) : Int) ≤ (l.length : Int)) := by omega
          rw [← HFO.out]
          have HX9 : Hid (∃ f9, f9 = fO a l (i + 1)) := ⟨_, rfl⟩
          obtain ⟨f9, hf9⟩ := HX9.out
          rw [← hf9]
          have H9 : Hid (f9 = fO a l (i + 1)) := hf9
          clear hf9 HX9 HFO
          go_wp2
          exact ⟨⟨i + 1, by go_num, by omega, by rw [H9.out], HBk.out⟩, by simp [intOf]; omega⟩
    · obtain rfl : i = l.length + 1 := by omega
      have hnl : ¬ (((l.length + 1 : Nat) : Int) ≤ (l.length : Int)) := by omega
      have HS10 : Hid (StAt wr _ _ _ _ a l) := HS3.out.below HB.out
      have HB10 : Hid (Below w.heap.size w wr) := HB3.out.trans (HB.out.mono HB3.out.size)
      generalize fO a l (l.length + 1) = f at *
      generalize mt (mA :: a) l = g at *
      generalize mt (a ++ [oA, mA]) l = hh at *
      clear HB HB3 HS3 HMA
      generalize wr = w10 at *
      go_wp2_with fail
      have HP10 : Hid (PsAt (w10.alloc (.cells #[.slice (some ⟨mb, 0, none⟩) 1 1, .slice aad a.length acap, .slice (some ⟨mb, 0, none⟩) 1 1] 51)) (.slice (some ⟨w10.heap.size, 0, none⟩) 3 3) [[mA], a, [mA]]) := ps_of w10 [.slice (some ⟨mb, 0, none⟩) 1 1, .slice aad a.length acap, .slice (some ⟨mb, 0, none⟩) 1 1] [[mA], a, [mA]] rfl (fun j h1 h2 => by
        have hj : j = 0 ∨ j = 1 ∨ j = 2 := by simp at h2; omega
        rcases hj with rfl | rfl | rfl
        · exact HS10.out.m
        · exact HS10.out.a
        · exact HS10.out.m) rfl
      have hbx10 := below_box w10 (.cells #[.slice (some ⟨mb, 0, none⟩) 1 1, .slice aad a.length acap, .slice (some ⟨mb, 0, none⟩) 1 1] 51)
      refine Calls.mono (join_any _ [[mA], a, [mA]] _ HP10.out (by simp) (by simp; omega)) ?_
      rintro e w11 ⟨⟨vj, rfl, hj⟩, hbj⟩
      have hbj2 : Below w10.heap.size w10 w11 := hbx10.trans (hbj.mono (by simp))
      have HS11 : Hid (StAt w11 _ _ _ _ a l) := HS10.out.below hbj2
      have HB11 : Hid (Below w.heap.size w w11) := HB10.out.trans (hbj2.mono HB10.out.size)
      have HJ : Hid (AtAt w11 vj _) := hj.at
      obtain ⟨pj, hpj⟩ : ∃ p, p = [[mA], a, [mA]].flatten := ⟨_, rfl⟩
      rw [← hpj] at HJ
      obtain ⟨jad, jcap, rfl⟩ := HJ.out.len
      have HM11 : Hid (Calls Tryz.prog 24 #[.slice jad pj.length jcap, .slice lad l.length lcap] w11 fun e w' => e = .returned (.bool f) ∧ Below w11.heap.size w11 w') := by
        have h := match_any _ _ pj l w11 HJ.out HS11.out.l (by rw [hpj]; simp; omega) (by omega)
        rw [show (okP pj && mt pj l) = f from by rw [hpj]; exact HO1.out] at h
        exact h
      clear hj hbj hbj2 hbx10 HJ HP10 hpj HS10 HB10
      go_wp2_with fail
      refine Calls.mono HM11.out ?_
      rintro e w12 ⟨rfl, hbm⟩
      have HS12 : Hid (StAt w12 _ _ _ _ a l) := HS11.out.below hbm
      have HB12 : Hid (Below w.heap.size w w12) := HB11.out.trans (hbm.mono HB11.out.size)
      clear hbm HS11 HB11 HM11
      go_wp2_with fail
      have HP12 : Hid (PsAt (w12.alloc (.cells #[.slice (some ⟨mb, 0, none⟩) 1 1, .slice (some ⟨mb, 0, none⟩) 1 1, .slice aad a.length acap] 51)) (.slice (some ⟨w12.heap.size, 0, none⟩) 3 3) [[mA], [mA], a]) := ps_of w12 [.slice (some ⟨mb, 0, none⟩) 1 1, .slice (some ⟨mb, 0, none⟩) 1 1, .slice aad a.length acap] [[mA], [mA], a] rfl (fun j h1 h2 => by
        have hj : j = 0 ∨ j = 1 ∨ j = 2 := by simp at h2; omega
        rcases hj with rfl | rfl | rfl
        · exact HS12.out.m
        · exact HS12.out.m
        · exact HS12.out.a) rfl
      have hbx12 := below_box w12 (.cells #[.slice (some ⟨mb, 0, none⟩) 1 1, .slice (some ⟨mb, 0, none⟩) 1 1, .slice aad a.length acap] 51)
      refine Calls.mono (join_any _ [[mA], [mA], a] _ HP12.out (by simp) (by simp; omega)) ?_
      rintro e w13 ⟨⟨vj, rfl, hj⟩, hbj⟩
      have hbj2 : Below w12.heap.size w12 w13 := hbx12.trans (hbj.mono (by simp))
      have HS13 : Hid (StAt w13 _ _ _ _ a l) := HS12.out.below hbj2
      have HB13 : Hid (Below w.heap.size w w13) := HB12.out.trans (hbj2.mono HB12.out.size)
      have HJ : Hid (AtAt w13 vj _) := hj.at
      obtain ⟨pj, hpj⟩ : ∃ p, p = [[mA], [mA], a].flatten := ⟨_, rfl⟩
      rw [← hpj] at HJ
      obtain ⟨jad, jcap, rfl⟩ := HJ.out.len
      have HM13 : Hid (Calls Tryz.prog 24 #[.slice jad pj.length jcap, .slice lad l.length lcap] w13 fun e w' => e = .returned (.bool g) ∧ Below w13.heap.size w13 w') := by
        have h := match_any _ _ pj l w13 HJ.out HS13.out.l (by rw [hpj]; simp; omega) (by omega)
        rw [show (okP pj && mt pj l) = g from by rw [hpj]; exact HO2.out] at h
        exact h
      clear hj hbj hbj2 hbx12 HJ HP12 hpj HS12 HB12
      go_wp2_with fail
      refine Calls.mono HM13.out ?_
      rintro e w14 ⟨rfl, hbm⟩
      have HS14 : Hid (StAt w14 _ _ _ _ a l) := HS13.out.below hbm
      have HB14 : Hid (Below w.heap.size w w14) := HB13.out.trans (hbm.mono HB13.out.size)
      clear hbm HS13 HB13 HM13
      go_wp2_with fail
      have HP14 : Hid (PsAt (w14.alloc (.cells #[.slice (some ⟨mb, 0, none⟩) 1 1, .slice aad a.length acap] 51)) (.slice (some ⟨w14.heap.size, 0, none⟩) 2 2) [[mA], a]) := ps_of w14 [.slice (some ⟨mb, 0, none⟩) 1 1, .slice aad a.length acap] [[mA], a] rfl (fun j h1 h2 => by
        have hj : j = 0 ∨ j = 1 := by simp at h2; omega
        rcases hj with rfl | rfl
        · exact HS14.out.m
        · exact HS14.out.a) rfl
      have hbx14 := below_box w14 (.cells #[.slice (some ⟨mb, 0, none⟩) 1 1, .slice aad a.length acap] 51)
      refine Calls.mono (join_any _ [[mA], a] _ HP14.out (by simp) (by simp; omega)) ?_
      rintro e w15 ⟨⟨vj, rfl, hj⟩, hbj⟩
      have hbj2 : Below w14.heap.size w14 w15 := hbx14.trans (hbj.mono (by simp))
      have HS15 : Hid (StAt w15 _ _ _ _ a l) := HS14.out.below hbj2
      have HB15 : Hid (Below w.heap.size w w15) := HB14.out.trans (hbj2.mono HB14.out.size)
      have HJ : Hid (AtAt w15 vj _) := hj.at
      obtain ⟨pj, hpj⟩ : ∃ p, p = [[mA], a].flatten := ⟨_, rfl⟩
      rw [← hpj] at HJ
      obtain ⟨jad, jcap, rfl⟩ := HJ.out.len
      have HM15 : Hid (Calls Tryz.prog 24 #[.slice jad pj.length jcap, .slice lad l.length lcap] w15 fun e w' => e = .returned (.bool g) ∧ Below w15.heap.size w15 w') := by
        have h := match_any _ _ pj l w15 HJ.out HS15.out.l (by rw [hpj]; simp; omega) (by omega)
        rw [show (okP pj && mt pj l) = g from by rw [hpj]; exact HO3.out] at h
        exact h
      clear hj hbj hbj2 hbx14 HJ HP14 hpj HS14 HB14
      go_wp2_with fail
      refine Calls.mono HM15.out ?_
      rintro e w16 ⟨rfl, hbm⟩
      have HS16 : Hid (StAt w16 _ _ _ _ a l) := HS15.out.below hbm
      have HB16 : Hid (Below w.heap.size w w16) := HB15.out.trans (hbm.mono HB15.out.size)
      clear hbm HS15 HB15 HM15
      go_wp2_with fail
      have HP16 : Hid (PsAt (w16.alloc (.cells #[.slice aad a.length acap, .slice (some ⟨ob, 0, none⟩) 1 1, .slice (some ⟨mb, 0, none⟩) 1 1] 51)) (.slice (some ⟨w16.heap.size, 0, none⟩) 3 3) [a, [oA], [mA]]) := ps_of w16 [.slice aad a.length acap, .slice (some ⟨ob, 0, none⟩) 1 1, .slice (some ⟨mb, 0, none⟩) 1 1] [a, [oA], [mA]] rfl (fun j h1 h2 => by
        have hj : j = 0 ∨ j = 1 ∨ j = 2 := by simp at h2; omega
        rcases hj with rfl | rfl | rfl
        · exact HS16.out.a
        · exact HS16.out.o
        · exact HS16.out.m) rfl
      have hbx16 := below_box w16 (.cells #[.slice aad a.length acap, .slice (some ⟨ob, 0, none⟩) 1 1, .slice (some ⟨mb, 0, none⟩) 1 1] 51)
      refine Calls.mono (join_any _ [a, [oA], [mA]] _ HP16.out (by simp) (by simp; omega)) ?_
      rintro e w17 ⟨⟨vj, rfl, hj⟩, hbj⟩
      have hbj2 : Below w16.heap.size w16 w17 := hbx16.trans (hbj.mono (by simp))
      have HS17 : Hid (StAt w17 _ _ _ _ a l) := HS16.out.below hbj2
      have HB17 : Hid (Below w.heap.size w w17) := HB16.out.trans (hbj2.mono HB16.out.size)
      have HJ : Hid (AtAt w17 vj _) := hj.at
      obtain ⟨pj, hpj⟩ : ∃ p, p = [a, [oA], [mA]].flatten := ⟨_, rfl⟩
      rw [← hpj] at HJ
      obtain ⟨jad, jcap, rfl⟩ := HJ.out.len
      have HM17 : Hid (Calls Tryz.prog 24 #[.slice jad pj.length jcap, .slice lad l.length lcap] w17 fun e w' => e = .returned (.bool hh) ∧ Below w17.heap.size w17 w') := by
        have h := match_any _ _ pj l w17 HJ.out HS17.out.l (by rw [hpj]; simp; omega) (by omega)
        rw [show (okP pj && mt pj l) = hh from by rw [hpj]; exact HO4.out] at h
        exact h
      clear hj hbj hbj2 hbx16 HJ HP16 hpj HS16 HB16
      go_wp2_with fail
      refine Calls.mono HM17.out ?_
      rintro e w18 ⟨rfl, hbm⟩
      have HS18 : Hid (StAt w18 _ _ _ _ a l) := HS17.out.below hbm
      have HB18 : Hid (Below w.heap.size w w18) := HB17.out.trans (hbm.mono HB17.out.size)
      clear hbm HS17 HB17 HM17
      go_wp2_with fail
      have HP18 : Hid (PsAt (w18.alloc (.cells #[.slice aad a.length acap, .slice (some ⟨mb, 0, none⟩) 1 1, .slice (some ⟨ob, 0, none⟩) 1 1] 51)) (.slice (some ⟨w18.heap.size, 0, none⟩) 3 3) [a, [mA], [oA]]) := ps_of w18 [.slice aad a.length acap, .slice (some ⟨mb, 0, none⟩) 1 1, .slice (some ⟨ob, 0, none⟩) 1 1] [a, [mA], [oA]] rfl (fun j h1 h2 => by
        have hj : j = 0 ∨ j = 1 ∨ j = 2 := by simp at h2; omega
        rcases hj with rfl | rfl | rfl
        · exact HS18.out.a
        · exact HS18.out.m
        · exact HS18.out.o) rfl
      have hbx18 := below_box w18 (.cells #[.slice aad a.length acap, .slice (some ⟨mb, 0, none⟩) 1 1, .slice (some ⟨ob, 0, none⟩) 1 1] 51)
      refine Calls.mono (join_any _ [a, [mA], [oA]] _ HP18.out (by simp) (by simp; omega)) ?_
      rintro e w19 ⟨⟨vj, rfl, hj⟩, hbj⟩
      have hbj2 : Below w18.heap.size w18 w19 := hbx18.trans (hbj.mono (by simp))
      have HS19 : Hid (StAt w19 _ _ _ _ a l) := HS18.out.below hbj2
      have HB19 : Hid (Below w.heap.size w w19) := HB18.out.trans (hbj2.mono HB18.out.size)
      have HJ : Hid (AtAt w19 vj _) := hj.at
      obtain ⟨pj, hpj⟩ : ∃ p, p = [a, [mA], [oA]].flatten := ⟨_, rfl⟩
      rw [← hpj] at HJ
      obtain ⟨jad, jcap, rfl⟩ := HJ.out.len
      have HM19 : Hid (Calls Tryz.prog 24 #[.slice jad pj.length jcap, .slice lad l.length lcap] w19 fun e w' => e = .returned (.bool hh) ∧ Below w19.heap.size w19 w') := by
        have h := match_any _ _ pj l w19 HJ.out HS19.out.l (by rw [hpj]; simp; omega) (by omega)
        rw [show (okP pj && mt pj l) = hh from by rw [hpj]; exact HO5.out] at h
        exact h
      clear hj hbj hbj2 hbx18 HJ HP18 hpj HS18 HB18
      go_wp2_with fail
      refine Calls.mono HM19.out ?_
      rintro e w20 ⟨rfl, hbm⟩
      have HS20 : Hid (StAt w20 _ _ _ _ a l) := HS19.out.below hbm
      have HB20 : Hid (Below w.heap.size w w20) := HB19.out.trans (hbm.mono HB19.out.size)
      clear hbm HS19 HB19 HM19
      go_wp2
      go_loopw [12, 13] (fun x12 x13 wr => ∃ j : Nat, x13 = .int .i64 j ∧ j ≤ l.length ∧ OwnA wr w20.heap.size x12 ((l.take j).map asA) ∧ Below w20.heap.size w20 wr) (fun _ x13 _ => l.length - (intOf x13).toNat)
      case atStart => exact ⟨0, rfl, Nat.zero_le _, OwnA.nil _ _, Below.refl _ _⟩
      case round =>
        obtain ⟨j, rfl, hj, ho, hb⟩ := hrel
        have HLn : Hid (((l.take j).map asA).length = j) := by unfold Hid; simp; omega
        obtain ⟨acc, hacc⟩ : ∃ acc, acc = (l.take j).map asA := ⟨_, rfl⟩
        rw [← hacc] at ho HLn
        have HA : Hid (acc = _) := hacc
        clear hacc
        obtain ⟨av, cv, ev, hcv⟩ := own_len ho
        subst ev
        have HO : Hid (OwnA wr w20.heap.size (.slice av acc.length cv) acc) := ho
        have HB : Hid (Below w20.heap.size w20 wr) := hb
        have HS : Hid (StAt wr (.slice aad a.length acap) (.slice (some ⟨mb, 0, none⟩) 1 1) (.slice (some ⟨ob, 0, none⟩) 1 1) (.slice lad l.length lcap) a l) := HS20.out.below hb
        clear ho hb
        by_cases hlt : j < l.length
        · obtain ⟨_, _, lb, lo, had, hrow⟩ := HS.out.l.parts
          have had2 : lad = some ⟨lb, lo, none⟩ := by
            rcases had with h | h
            · exact h
            · omega
          have c0 := hrow j hlt
          have HSN : Hid ((l.take (j + 1)).map asA = acc ++ [asA l[j]]) := by unfold Hid; rw [HA.out]; exact take_snocM asA l j hlt
          have HAS : Hid (asA l[j] = (1, l[j])) := rfl
          generalize asA l[j] = aj at *
          generalize l[j] = lj at *
          have hba := below_box wr (.cells #[.int .i64 1, .int .u32 (lj : Int)] 53)
          have HN : Hid (AtAt (wr.alloc (.cells #[.int .i64 1, .int .u32 (lj : Int)] 53)) (.slice (some ⟨wr.heap.size, 0, none⟩) 1 1) [aj]) := by
            rw [HAS.out]
            exact one_at wr (1, lj)
          have HB1 : Hid (Below w20.heap.size w20 _) := HB.out.trans (hba.mono HB.out.size)
          have HO1 : Hid (OwnA _ w20.heap.size (.slice av acc.length cv) acc) := HO.out.below hba
          clear HO hba HA HS hrow had
          subst had2
          go_wp2_with (at_builtin; refine wpList_append_A _ rfl _ _ rfl w20.heap.size _ _ acc [aj] rfl rfl HO1.out HN.out (by rw [HLn.out]; simp; omega) (by have := HB1.out.size; exact this) ?_; intro v6 w6 hown6 hb6)
          rw [← HSN.out] at hown6
          go_roundw
          case rel => exact ⟨j + 1, by go_num, by omega, hown6, HB1.out.trans hb6⟩
          case measure => simp [intOf]; omega
        · have HAL : Hid (acc = l.map asA) := by unfold Hid; rw [HA.out, List.take_of_length_le (by omega)]
          have HAT : Hid (AtAt wr (.slice av acc.length cv) acc) := HO.out.at
          have HBW : Hid (Below w.heap.size w wr) := HB20.out.trans (HB.out.mono HB20.out.size)
          have HM1 : Hid (Calls Tryz.prog 24 #[.slice av acc.length cv, .slice lad l.length lcap] wr fun e w' => e = .returned (.bool true) ∧ Below wr.heap.size wr w') := by
            have h := match_any _ _ acc l wr HAT.out HS.out.l (by rw [HLn.out]; omega) (by omega)
            rw [show (okP acc && mt acc l) = true from by rw [HAL.out, okP_same l HPOS.out (by omega), mt_same]; simp] at h
            exact h
          go_wp2_with fail
          refine Calls.mono HM1.out ?_
          rintro e w30 ⟨rfl, hb30⟩
          have HS30 : Hid (StAt w30 (.slice aad a.length acap) (.slice (some ⟨mb, 0, none⟩) 1 1) (.slice (some ⟨ob, 0, none⟩) 1 1) (.slice lad l.length lcap) a l) := HS.out.below hb30
          have HB30 : Hid (Below w.heap.size w w30) := HBW.out.trans (hb30.mono HBW.out.size)
          have HT30 : Hid (AtAt w30 (.slice av acc.length cv) acc) := HAT.out.below hb30
          clear hb30 HM1 HAT HBW HS HB HO HA
          by_cases hl0 : 0 < l.length
          · obtain ⟨qa, qc, hq1, hq2⟩ := slice_lU l lad lcap 1 hl0 hlc
            have hq1' : ∀ W, (Instr.sliceAt 23 (.slice lad l.length lcap) (some (.int .i64 1)) none none).run Tryz.prog W = .ok (.slice qa (l.length - 1) qc) W := hq1
            have HM2 : Hid (Calls Tryz.prog 24 #[.slice av acc.length cv, .slice qa (l.length - 1) qc] w30 fun e w' => e = .returned (.bool false) ∧ Below w30.heap.size w30 w') := by
              have h := match_any _ _ acc (l.drop 1) w30 HT30.out (hq2 _ HS30.out.l) (by rw [HLn.out]; omega) (by rw [List.length_drop]; omega)
              rw [show (okP acc && mt acc (l.drop 1)) = false from by
                rw [HAL.out, mt_same, Bool.and_eq_false_iff]
                refine Or.inr ?_
                rw [beq_eq_false_iff_ne]
                intro e
                have := congrArg List.length e
                rw [List.length_drop] at this
                omega] at h
              exact h
            clear hq1 hq2
            have hl0' : (0 : Int) < (l.length : Int) := by omega
            go_wp2_with fail
            refine Calls.mono HM2.out ?_
            rintro e w31 ⟨rfl, hb31⟩
            have HS31 : Hid (StAt w31 (.slice aad a.length acap) (.slice (some ⟨mb, 0, none⟩) 1 1) (.slice (some ⟨ob, 0, none⟩) 1 1) (.slice lad l.length lcap) a l) := HS30.out.below hb31
            have HB31 : Hid (Below w.heap.size w w31) := HB30.out.trans (hb31.mono HB30.out.size)
            clear hb31 HM2 HS30 HB30 HT30 hl0' hq1'
            have HTX : Hid (_ : Prop) := text_any _ a w31 HS31.out.a (by omega) (fun x h => (HOK.out x h).2) HS31.out.e.p
            have HTB : Hid ((txP a).length < 4294967281) := by
              unfold Hid txP
              split
              · decide
              · have := txj_le a (fun x h => (HOK.out x h).2) (by omega)
                omega
            have HPR : Hid (prs (txP a) = some a) := prs_back a HOK.out (by omega)
            go_wp2_with fail
            refine Calls.mono HTX.out ?_
            rintro e w32 ⟨he32, hb32⟩
            rw [HOA.out, if_pos rfl] at he32
            subst he32
            have HS32 : Hid (StAt w32 (.slice aad a.length acap) (.slice (some ⟨mb, 0, none⟩) 1 1) (.slice (some ⟨ob, 0, none⟩) 1 1) (.slice lad l.length lcap) a l) := HS31.out.below hb32
            have HB32 : Hid (Below w.heap.size w w32) := HB31.out.trans (hb32.mono HB31.out.size)
            clear hb32 HTX HS31 HB31
            have HPP : Hid (Calls Tryz.prog 26 #[.string ⟨(txP a).toArray⟩] w32 (PrOk (txP a) w32)) := parseP_any (txP a) w32 HTB.out HS32.out.e
            generalize txP a = tp at *
            go_wp2_with fail
            refine Calls.mono HPP.out ?_
            rintro e w33 ⟨h33, hb33⟩
            rw [HPR.out] at h33
            obtain ⟨vb, rfl, hob, _⟩ := h33
            have HS33 : Hid (StAt w33 (.slice aad a.length acap) (.slice (some ⟨mb, 0, none⟩) 1 1) (.slice (some ⟨ob, 0, none⟩) 1 1) (.slice lad l.length lcap) a l) := HS32.out.below hb33
            have HB33 : Hid (Below w.heap.size w w33) := HB32.out.trans (hb33.mono HB32.out.size)
            have HBA : Hid (AtAt w33 vb a) := hob.at
            clear hb33 HPP HS32 HB32 hob
            obtain ⟨bad2, bb2, bo2, bc2, rfl, hbad, _, hbrow⟩ := HBA.out
            have HBR : Hid (_ : Prop) := hbrow
            obtain ⟨aad2, ab2, ao2, ac2, ea2, haad, _, harow⟩ := HS33.out.a
            injection ea2 with ea2 _ _
            have HAR : Hid (_ : Prop) := harow
            clear hbrow harow
            go_wp2
            go_loopw [18] (fun x18 wr => ∃ k : Nat, x18 = .int .i64 k ∧ k ≤ a.length ∧ Below w33.heap.size w33 wr) (fun x18 _ => a.length - (intOf x18).toNat)
            case atStart => exact ⟨0, rfl, Nat.zero_le _, Below.refl _ _⟩
            case round =>
              obtain ⟨k, rfl, hk, hb⟩ := hrel
              have HB : Hid (Below w33.heap.size w33 wr) := hb
              clear hb
              by_cases hlt : k < a.length
              · have e1 : bad2 = some ⟨bb2, bo2, none⟩ := by
                  rcases hbad with h | h
                  · exact h
                  · omega
                have e2 : aad2 = some ⟨ab2, ao2, none⟩ := by
                  rcases haad with h | h
                  · exact h
                  · omega
                have c0 := below_cell HB.out (HBR.out k hlt).1
                have c1 := below_cell HB.out (HBR.out k hlt).2
                have d0 := below_cell HB.out (HAR.out k hlt).1
                have d1 := below_cell HB.out (HAR.out k hlt).2
                generalize a[k].1 = ak at *
                generalize a[k].2 = an at *
                subst e1
                subst e2
                try subst ea2
                go_wp2
                go_quiet (fail)
                go_wp2
                go_roundw
                case rel => exact ⟨k + 1, by go_num, by omega, below_drewN HB.out _⟩
                case measure => simp [intOf]; omega
              · obtain rfl : k = a.length := by omega
                have HBE : Hid (Below w.heap.size w wr) := HB33.out.trans (HB.out.mono HB33.out.size)
                go_wp2_with fail
                refine Calls.mono (works_any wr (HS33.out.below HB.out).e) ?_
                rintro e w40 ⟨rfl, hb40⟩
                have HB40 : Hid (Below w.heap.size w w40) := HBE.out.trans (hb40.mono HBE.out.size)
                clear hb40
                go_wp2
                go_ret
                exact ⟨rfl, HB40.out⟩
          · have hl0' : ¬ (0 : Int) < (l.length : Int) := by omega
            have HS31 : Hid (StAt w30 (.slice aad a.length acap) (.slice (some ⟨mb, 0, none⟩) 1 1) (.slice (some ⟨ob, 0, none⟩) 1 1) (.slice lad l.length lcap) a l) := HS30.out
            have HB31 : Hid (Below w.heap.size w w30) := HB30.out
            clear HS30 HB30 HT30
            generalize w30 = w31 at *
            have HTX : Hid (_ : Prop) := text_any _ a w31 HS31.out.a (by omega) (fun x h => (HOK.out x h).2) HS31.out.e.p
            have HTB : Hid ((txP a).length < 4294967281) := by
              unfold Hid txP
              split
              · decide
              · have := txj_le a (fun x h => (HOK.out x h).2) (by omega)
                omega
            have HPR : Hid (prs (txP a) = some a) := prs_back a HOK.out (by omega)
            go_wp2_with fail
            refine Calls.mono HTX.out ?_
            rintro e w32 ⟨he32, hb32⟩
            rw [HOA.out, if_pos rfl] at he32
            subst he32
            have HS32 : Hid (StAt w32 (.slice aad a.length acap) (.slice (some ⟨mb, 0, none⟩) 1 1) (.slice (some ⟨ob, 0, none⟩) 1 1) (.slice lad l.length lcap) a l) := HS31.out.below hb32
            have HB32 : Hid (Below w.heap.size w w32) := HB31.out.trans (hb32.mono HB31.out.size)
            clear hb32 HTX HS31 HB31
            have HPP : Hid (Calls Tryz.prog 26 #[.string ⟨(txP a).toArray⟩] w32 (PrOk (txP a) w32)) := parseP_any (txP a) w32 HTB.out HS32.out.e
            generalize txP a = tp at *
            go_wp2_with fail
            refine Calls.mono HPP.out ?_
            rintro e w33 ⟨h33, hb33⟩
            rw [HPR.out] at h33
            obtain ⟨vb, rfl, hob, _⟩ := h33
            have HS33 : Hid (StAt w33 (.slice aad a.length acap) (.slice (some ⟨mb, 0, none⟩) 1 1) (.slice (some ⟨ob, 0, none⟩) 1 1) (.slice lad l.length lcap) a l) := HS32.out.below hb33
            have HB33 : Hid (Below w.heap.size w w33) := HB32.out.trans (hb33.mono HB32.out.size)
            have HBA : Hid (AtAt w33 vb a) := hob.at
            clear hb33 HPP HS32 HB32 hob
            obtain ⟨bad2, bb2, bo2, bc2, rfl, hbad, _, hbrow⟩ := HBA.out
            have HBR : Hid (_ : Prop) := hbrow
            obtain ⟨aad2, ab2, ao2, ac2, ea2, haad, _, harow⟩ := HS33.out.a
            injection ea2 with ea2 _ _
            have HAR : Hid (_ : Prop) := harow
            clear hbrow harow
            go_wp2
            go_loopw [18] (fun x18 wr => ∃ k : Nat, x18 = .int .i64 k ∧ k ≤ a.length ∧ Below w33.heap.size w33 wr) (fun x18 _ => a.length - (intOf x18).toNat)
            case atStart => exact ⟨0, rfl, Nat.zero_le _, Below.refl _ _⟩
            case round =>
              obtain ⟨k, rfl, hk, hb⟩ := hrel
              have HB : Hid (Below w33.heap.size w33 wr) := hb
              clear hb
              by_cases hlt : k < a.length
              · have e1 : bad2 = some ⟨bb2, bo2, none⟩ := by
                  rcases hbad with h | h
                  · exact h
                  · omega
                have e2 : aad2 = some ⟨ab2, ao2, none⟩ := by
                  rcases haad with h | h
                  · exact h
                  · omega
                have c0 := below_cell HB.out (HBR.out k hlt).1
                have c1 := below_cell HB.out (HBR.out k hlt).2
                have d0 := below_cell HB.out (HAR.out k hlt).1
                have d1 := below_cell HB.out (HAR.out k hlt).2
                generalize a[k].1 = ak at *
                generalize a[k].2 = an at *
                subst e1
                subst e2
                try subst ea2
                go_wp2
                go_quiet (fail)
                go_wp2
                go_roundw
                case rel => exact ⟨k + 1, by go_num, by omega, below_drewN HB.out _⟩
                case measure => simp [intOf]; omega
              · obtain rfl : k = a.length := by omega
                have HBE : Hid (Below w.heap.size w wr) := HB33.out.trans (HB.out.mono HB33.out.size)
                go_wp2_with fail
                refine Calls.mono (works_any wr (HS33.out.below HB.out).e) ?_
                rintro e w40 ⟨rfl, hb40⟩
                have HB40 : Hid (Below w.heap.size w w40) := HBE.out.trans (hb40.mono HBE.out.size)
                clear hb40
                go_wp2
                go_ret
                exact ⟨rfl, HB40.out⟩
end Go.Proofs.YtjchobcmbkiilaaGreatDoor
