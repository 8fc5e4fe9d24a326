/-
  FrameCuts: the walk.
-/
import Derived.Test.YtlinoklgchfedaaDoorD1
import Derived.Test.YtlinoklgchfedaaDoorC2
import Derived.Test.YtlinoklgchfedaaDoorC3
namespace Go.Proofs.YtlinoklgchfedaaDoor
open Go.RowKit
/-- Texts in memory. -/
def StrsAt (w : World) (v : Value) (L : List ByteArray) : Prop :=
  ∃ (ad : Option Addr) (b off cap : Nat), v = .slice ad L.length cap ∧ (ad = some ⟨b, off, none⟩ ∨ L.length = 0) ∧ L.length ≤ cap ∧ ∀ j (h : j < L.length), w.cell? ⟨b, off + j, none⟩ = some (.string L[j])
theorem put_let (p b : Nat) (s s' : St) (c : List UInt8) (R : List Fm) (w : World) (h : FrAt w p b s) (hs : SzAt w) (hp0 : 0 < p) (hb0 : 0 < b) (hl : c.length ≤ 1000000) (hr : runI s c = (s', R)) :
    Calls Tryd.prog 9 #[.pointer (some ⟨p, 0, none⟩), .string ⟨c.toArray⟩] w fun e w' => ∃ ad cp, e = .returned (.tuple #[.slice ad R.length cp, .agg #[.int .i64 (vaI s'.sub), .int .u8 (vcI s'.sub), .int .u8 (s'.sub : Int)]]) ∧ OwnF w' w.heap.size (.slice ad R.length cp) R ∧ FrAt w' p b s' ∧ Beside p b w w' := by
  have k := put_any p b s c w h hs hp0 hb0 hl
  rw [hr] at k
  refine k.mono ?_
  rintro e w' ⟨v, rfl, ho, hf, hb⟩
  obtain ⟨ad, cp, rfl⟩ := slice_of_owns ho
  exact ⟨ad, cp, rfl, ho, hf, hb⟩
theorem all_let (l : List UInt8) (s' : St) (R : List Fm) (w : World) (hl : l.length ≤ 1000000) (hr : runI st0 l = (s', R)) :
    Calls Tryd.prog 10 #[.string ⟨l.toArray⟩] w fun e w' => ∃ ad cp, e = .returned (.tuple #[.slice ad R.length cp, .agg #[.int .i64 (vaI s'.sub), .int .u8 (vcI s'.sub), .int .u8 (s'.sub : Int)], .int .i64 (s'.wait.length : Int)]) ∧ OwnF w' w.heap.size (.slice ad R.length cp) R ∧ Below w.heap.size w w' := by
  have k := all_any l w hl
  rw [hr] at k
  refine k.mono ?_
  rintro e w' ⟨v, rfl, ho, hb⟩
  obtain ⟨ad, cp, rfl⟩ := slice_of_owns ho
  exact ⟨ad, cp, rfl, ho, hb⟩
theorem run_frames_le (c : List UInt8) : ∀ s, (runI s c).2.length ≤ c.length := by
  induction c with
  | nil => intro s; simp [runI]
  | cons b c ih =>
    intro s
    have h1 : (stepI s b).2.length ≤ 1 := by
      unfold stepI
      split
      · unfold endI
        split
        · simp
        · split <;> simp
      · simp
    have := ih (stepI s b).1
    simp only [runI, List.length_append, List.length_cons]
    omega
set_option maxRecDepth 100000 in
set_option maxHeartbeats 3200000 in
theorem cuts_walk (v : Value) (L : List ByteArray) (w : World) (hT : SzAt w) (hL : StrsAt w v L) (hz : ∀ s ∈ L, s.size ≤ maxLen) : Calls Tryd.prog 3 #[v] w fun e w' => e = .returned (.bool true) ∧ Below w.heap.size w w' := by
  obtain ⟨ad, b0, off, cap, rfl, had, hcap, hrow⟩ := hL
  have HROW : Hid (∀ j (h : j < L.length), w.cell? ⟨b0, off + j, none⟩ = some (.string L[j])) := hrow
  have HZS : Hid (∀ s ∈ L, s.size ≤ maxLen) := hz
  have HAD : Hid (ad = some ⟨b0, off, none⟩ ∨ L.length = 0) := had
  have HZ : Hid (SzAt w) := hT
  have HW0 : Hid (0 < w.heap.size) := hT.lt
  clear hT hrow hz had hcap
  go_enter Tryd.func3, Tryd.ntmps3
  go_wp2_with fail
  refine (new_any w).mono ?_
  rintro e w1 ⟨p, b, rfl, hf1, hb1, hp, hb⟩
  have HF1 : Hid (FrAt w1 p b st0) := hf1
  have HB1 : Hid (Below w.heap.size w w1) := hb1
  have HPB : Hid (w.heap.size ≤ p ∧ w.heap.size ≤ b) := ⟨hp, hb⟩
  clear hf1 hb1 hp hb
  go_wp2
  go_loopw [4, 5, 6] (fun t u i wr => ∃ (n : Nat) (WH : List UInt8), t = .string ⟨WH.toArray⟩ ∧ u = .int .i64 ((runI st0 WH).2.length : Int) ∧ i = .int .i64 (n : Int) ∧ n ≤ L.length ∧ n ≤ 60 ∧ WH.length ≤ n * 5000 ∧ FrAt wr p b (runI st0 WH).1 ∧ Beside p b w1 wr) (fun _ _ i _ => 60 - (intOf i).toNat)
  case atStart => exact ⟨0, [], rfl, rfl, rfl, by omega, by omega, by simp, HF1.out, Beside.refl w1⟩
  case round =>
    obtain ⟨n, WH, rfl, rfl, rfl, hnL, hn60, hwh, hfr, hbs⟩ := hrel
    have HFR : Hid (FrAt wr p b (runI st0 WH).1) := hfr
    have HBS : Hid (Beside p b w1 wr) := hbs
    have HBW : Hid (Below w.heap.size w wr) := HB1.out.trans (hbs.below HPB.out.1 HPB.out.2 HB1.out.size)
    clear hfr hbs
    by_cases hgo : n < L.length ∧ n < 60
    · obtain ⟨hg1, hg2⟩ := hgo
      have g1 : (n : Int) < L.length := by omega
      have g2 : (n : Int) < 60 := by omega
      obtain rfl : ad = some ⟨b0, off, none⟩ := by rcases HAD.out with h | h; exact h; omega
      have hc := HROW.out n hg1
      have hlt0 : b0 < w.heap.size := lt_of_cell hc
      have c0 : wr.cell? ⟨b0, off + n, none⟩ = some (.string L[n]) := (HBW.out.cell (p := ⟨b0, off + n, none⟩) hlt0).trans hc
      have hsz := HZS.out _ (List.getElem_mem hg1)
      generalize L[n] = s at *
      unfold maxLen at hsz
      have hmin : min (s.size : Int) 5000 = ((min s.size 5000 : Nat) : Int) := by omega
      have hm1 : min s.size 5000 ≤ s.size := by omega
      have hex : s.extract 0 (min s.size 5000) = ⟨(s.data.toList.take (min s.size 5000)).toArray⟩ := ext_take s.data.toList _
      have hck : (s.data.toList.take (min s.size 5000)).length ≤ 5000 := by rw [List.length_take]; omega
      have hm1' : ((min s.size 5000 : Nat) : Int) ≤ s.size := by omega
      generalize min s.size 5000 = mm at *
      generalize s.data.toList.take mm = ck at *
      clear hc
      have hwl : (⟨WH.toArray⟩ : ByteArray).size = WH.length := list_size WH
      have hcl : (⟨ck.toArray⟩ : ByteArray).size = ck.length := list_size ck
      have happ := app_bytes WH ck
      have hW3 : WH.length ≤ 300000 := by omega
      have HNW : Hid ((WH ++ ck).length ≤ (n + 1) * 5000) := by unfold Hid; rw [List.length_append]; omega
      have HNW2 : Hid ((WH ++ ck).length ≤ 1000000) := by unfold Hid; rw [List.length_append]; omega
      have HRA : Hid (runI st0 (WH ++ ck) = ((runI (runI st0 WH).1 ck).1, (runI st0 WH).2 ++ (runI (runI st0 WH).1 ck).2)) := run_append WH ck st0
      have HRP : Hid (runI (runI st0 WH).1 ck = ((runI (runI st0 WH).1 ck).1, (runI (runI st0 WH).1 ck).2)) := rfl
      have hR1 := run_frames_le WH st0
      have hR2 := run_frames_le ck (runI st0 WH).1
      have hR1' : (runI st0 WH).2.length ≤ 300000 := by omega
      have hR2' : (runI (runI st0 WH).1 ck).2.length ≤ 5000 := by omega
      generalize (runI (runI st0 WH).1 ck).2 = R2 at *
      generalize (runI (runI st0 WH).1 ck).1 = S2 at *
      generalize (runI st0 WH).2 = R1 at *
      generalize (runI st0 WH).1 = S1 at *
      generalize hwh2 : WH ++ ck = WC at *
      clear hR1 hR2 hwh2
      go_wp2
      go_quiet (fail)
      have HFR2 : Hid (FrAt (wr.drewN nq) p b S1) := ⟨HFR.out.row, ⟨HFR.out.buf.row⟩, HFR.out.ne, HFR.out.ok⟩
      have HBS2 : Hid (Beside p b w1 (wr.drewN nq)) := HBS.out.then (below_drewN (Below.refl _ _) nq)
      generalize wr.drewN nq = V at *
      clear HFR HBS HBW c0
      go_wp2_with fail
      have HZV : Hid (SzAt V) := (HZ.out.below HB1.out).beside HBS2.out (by have := HW0.out; have := HPB.out; omega) (by have := HW0.out; have := HPB.out; omega)
      refine (put_let p b S1 S2 ck R2 V HFR2.out HZV.out (by have := HW0.out; have := HPB.out; omega) (by have := HW0.out; have := HPB.out; omega) (by omega) HRP.out).mono ?_
      rintro e w3 ⟨ad3, cp3, rfl, ho3, hf3, hbs3⟩
      have HSS : Hid (_ = _) := (rfl : vaI S2.sub = vaI S2.sub)
      have KAl : Hid (∀ U, Calls Tryd.prog 10 #[.string ⟨WC.toArray⟩] U fun e w' => ∃ ad cp, e = .returned (.tuple #[.slice ad (R1 ++ R2).length cp, .agg #[.int .i64 (vaI S2.sub), .int .u8 (vcI S2.sub), .int .u8 (S2.sub : Int)], .int .i64 (S2.wait.length : Int)]) ∧ OwnF w' U.heap.size (.slice ad (R1 ++ R2).length cp) (R1 ++ R2) ∧ Below U.heap.size U w') := fun U => all_let WC S2 (R1 ++ R2) U HNW2.out HRA.out
      generalize vaI S2.sub = x2 at *
      generalize vcI S2.sub = x3 at *
      generalize (S2.sub : Int) = x4 at *
      have hba3 : Below w3.heap.size w3 (w3.alloc (.cells #[.int .i64 x2, .int .u8 x3, .int .u8 x4] 27)) := (Below.refl _ _).alloc (Nat.le_refl _) _
      have HF3 : Hid (FrAt (w3.alloc (.cells #[.int .i64 x2, .int .u8 x3, .int .u8 x4] 27)) p b S2) := hf3.below hba3 hf3.ltp hf3.buf.lt
      have HB3 : Hid (Beside p b w1 (w3.alloc (.cells #[.int .i64 x2, .int .u8 x3, .int .u8 x4] 27))) := (HBS2.out.trans hbs3).then hba3
      have HV3 : Hid ((w3.alloc (.cells #[.int .i64 x2, .int .u8 x3, .int .u8 x4] 27)).heap[w3.heap.size]? = some (.cells #[.int .i64 x2, .int .u8 x3, .int .u8 x4] 27 (0, 0))) := hp_new rfl
      have HO3 : Hid (OwnF (w3.alloc (.cells #[.int .i64 x2, .int .u8 x3, .int .u8 x4] 27)) V.heap.size (.slice ad3 R2.length cp3) R2) := owns_below ho3 hba3
      clear hba3 hf3 hbs3 ho3 HFR2 HBS2 HZV HSS
      go_wp2_with fail
      generalize w3.alloc (.cells #[.int .i64 x2, .int .u8 x3, .int .u8 x4] 27) = V3 at *
      refine Calls.mono (KAl.out V3) ?_
      rintro e w4 ⟨ad4, cp4, rfl, ho4, hb4⟩
      have hba4 : Below w4.heap.size w4 (w4.alloc (.cells #[.int .i64 x2, .int .u8 x3, .int .u8 x4] 27)) := (Below.refl _ _).alloc (Nat.le_refl _) _
      have HF4 : Hid (FrAt (w4.alloc (.cells #[.int .i64 x2, .int .u8 x3, .int .u8 x4] 27)) p b S2) := (HF3.out.below hb4 HF3.out.ltp HF3.out.buf.lt).below hba4 (Nat.lt_of_lt_of_le HF3.out.ltp hb4.size) (Nat.lt_of_lt_of_le HF3.out.buf.lt hb4.size)
      have HB4 : Hid (Beside p b w1 (w4.alloc (.cells #[.int .i64 x2, .int .u8 x3, .int .u8 x4] 27))) := (HB3.out.then hb4).then hba4
      have HV4 : Hid ((w4.alloc (.cells #[.int .i64 x2, .int .u8 x3, .int .u8 x4] 27)).heap[w3.heap.size]? = some (.cells #[.int .i64 x2, .int .u8 x3, .int .u8 x4] 27 (0, 0))) := hp_up ((hb4.block _ (Array.getElem?_eq_some_iff.mp HV3.out).1).trans HV3.out)
      have HV5 : Hid ((w4.alloc (.cells #[.int .i64 x2, .int .u8 x3, .int .u8 x4] 27)).heap[w4.heap.size]? = some (.cells #[.int .i64 x2, .int .u8 x3, .int .u8 x4] 27 (0, 0))) := hp_new rfl
      have HO4 : Hid (OwnF (w4.alloc (.cells #[.int .i64 x2, .int .u8 x3, .int .u8 x4] 27)) V.heap.size (.slice ad3 R2.length cp3) R2) := owns_below (owns_below HO3.out hb4) hba4
      have HNIL : Hid ((ad4 = none ∧ cp4 = 0 ∧ (R1 ++ R2).length = 0) ∨ ∃ g, ad4 = some ⟨g, 0, none⟩) := by
        rcases ho4.2 with ⟨h1, h2⟩ | ⟨g, c, cu, h1, _⟩
        · simp only [Value.slice.injEq] at h1; exact Or.inl ⟨h1.1, h1.2.2, h2⟩
        · simp only [Value.slice.injEq] at h1; exact Or.inr ⟨g, h1.1⟩
      have HO5 : Hid (FmsAt (w4.alloc (.cells #[.int .i64 x2, .int .u8 x3, .int .u8 x4] 27)) (.slice ad4 (R1 ++ R2).length cp4) (R1 ++ R2)) := OwnF.at (owns_below ho4 hba4)
      clear hba4 hb4 ho4 HF3 HB3 HV3 HO3 KAl
      have hll : (R1 ++ R2).length = R1.length + R2.length := List.length_append
      rw [hll]
      have hl1 : (R1.length : Int) ≤ R1.length + R2.length := by omega
      obtain ⟨ad5, b5, off5, cap5, hv5, had5, hc5, hrow5⟩ := HO5.out
      obtain ⟨rfl, rfl⟩ : ad4 = ad5 ∧ cp4 = cap5 := by
        simp only [Value.slice.injEq] at hv5
        exact ⟨hv5.1, hv5.2.2⟩
      have HROW5 : Hid (RowF (w4.alloc (.cells #[.int .i64 x2, .int .u8 x3, .int .u8 x4] 27)) b5 off5 (R1 ++ R2)) := hrow5
      rw [hll] at had5 hc5
      clear hv5 hrow5 HO5
      by_cases hR2 : R2 = []
      · subst hR2
        simp only [List.append_nil, List.length_nil, Nat.add_zero] at *
        have KS : Hid (∀ a c, Calls Tryd.prog 11 #[.slice ad3 0 cp3, .slice a 0 c] (w4.alloc (.cells #[.int .i64 x2, .int .u8 x3, .int .u8 x4] 27)) fun e w' => e = .returned (.bool true) ∧ ∃ q, w' = (w4.alloc (.cells #[.int .i64 x2, .int .u8 x3, .int .u8 x4] 27)).drewN q) := fun a c => same_yes _ _ [] _ (OwnF.at HO4.out) ⟨a, 0, 0, c, rfl, Or.inr rfl, by simp, fun j hj => by simp at hj⟩ (by simp)
        rcases HNIL.out with ⟨rfl, rfl, hz1⟩ | ⟨g, rfl⟩
        · obtain rfl : R1 = [] := List.length_eq_zero_iff.mp hz1
          simp only [List.length_nil] at *
          clear HNIL hz1 had5
          go_wp2_with fail
          refine Calls.mono (KS.out _ _) ?_
          rintro e w5 ⟨rfl, q5, rfl⟩
          have HF5 : Hid (FrAt ((w4.alloc (.cells #[.int .i64 x2, .int .u8 x3, .int .u8 x4] 27)).drewN q5) p b S2) := ⟨HF4.out.row, ⟨HF4.out.buf.row⟩, HF4.out.ne, HF4.out.ok⟩
          have HB5 : Hid (Beside p b w1 ((w4.alloc (.cells #[.int .i64 x2, .int .u8 x3, .int .u8 x4] 27)).drewN q5)) := HB4.out.then (below_drewN (Below.refl _ _) q5)
          have HX4 : Hid (((w4.alloc (.cells #[.int .i64 x2, .int .u8 x3, .int .u8 x4] 27)).drewN q5).heap[w3.heap.size]? = some (.cells #[.int .i64 x2, .int .u8 x3, .int .u8 x4] 27 (0, 0))) := HV4.out
          have HX5 : Hid (((w4.alloc (.cells #[.int .i64 x2, .int .u8 x3, .int .u8 x4] 27)).drewN q5).heap[w4.heap.size]? = some (.cells #[.int .i64 x2, .int .u8 x3, .int .u8 x4] 27 (0, 0))) := HV5.out
          generalize (w4.alloc (.cells #[.int .i64 x2, .int .u8 x3, .int .u8 x4] 27)).drewN q5 = V5 at *
          have a0 : V5.cell? ⟨w3.heap.size, 0, none⟩ = some (.int .i64 x2) := cl_row HX4.out rfl
          have a1 : V5.cell? ⟨w3.heap.size, 1, none⟩ = some (.int .u8 x3) := cl_row HX4.out rfl
          have a2 : V5.cell? ⟨w3.heap.size, 2, none⟩ = some (.int .u8 x4) := cl_row HX4.out rfl
          have d0 : V5.cell? ⟨w4.heap.size, 0, none⟩ = some (.int .i64 x2) := cl_row HX5.out rfl
          have d1 : V5.cell? ⟨w4.heap.size, 1, none⟩ = some (.int .u8 x3) := cl_row HX5.out rfl
          have d2 : V5.cell? ⟨w4.heap.size, 2, none⟩ = some (.int .u8 x4) := cl_row HX5.out rfl
          have KL : Hid (_ : Prop) := left_any p b S2 V5 HF5.out
          clear KS HF4 HB4 HV4 HV5 HO4 HX4 HX5 HROW5
          go_wp2_with fail
          refine Calls.mono KL.out ?_
          rintro e w6 ⟨rfl, hw6⟩
          obtain rfl : V5 = w6 := hw6.symm
          clear hw6 KL
          go_wp2
          go_roundw
          case rel => exact ⟨n + 1, WC, rfl, by simp [HRA.out], by simp, by omega, by omega, HNW.out, by rw [HRA.out]; exact HF5.out, HB5.out⟩
          case measure => simp [intOf]; omega
        · clear HNIL had5
          by_cases hcq : cp4 = R1.length
          · subst hcq
            go_wp2_with fail
            refine Calls.mono (KS.out _ _) ?_
            rintro e w5 ⟨rfl, q5, rfl⟩
            have HF5 : Hid (FrAt ((w4.alloc (.cells #[.int .i64 x2, .int .u8 x3, .int .u8 x4] 27)).drewN q5) p b S2) := ⟨HF4.out.row, ⟨HF4.out.buf.row⟩, HF4.out.ne, HF4.out.ok⟩
            have HB5 : Hid (Beside p b w1 ((w4.alloc (.cells #[.int .i64 x2, .int .u8 x3, .int .u8 x4] 27)).drewN q5)) := HB4.out.then (below_drewN (Below.refl _ _) q5)
            have HX4 : Hid (((w4.alloc (.cells #[.int .i64 x2, .int .u8 x3, .int .u8 x4] 27)).drewN q5).heap[w3.heap.size]? = some (.cells #[.int .i64 x2, .int .u8 x3, .int .u8 x4] 27 (0, 0))) := HV4.out
            have HX5 : Hid (((w4.alloc (.cells #[.int .i64 x2, .int .u8 x3, .int .u8 x4] 27)).drewN q5).heap[w4.heap.size]? = some (.cells #[.int .i64 x2, .int .u8 x3, .int .u8 x4] 27 (0, 0))) := HV5.out
            generalize (w4.alloc (.cells #[.int .i64 x2, .int .u8 x3, .int .u8 x4] 27)).drewN q5 = V5 at *
            have a0 : V5.cell? ⟨w3.heap.size, 0, none⟩ = some (.int .i64 x2) := cl_row HX4.out rfl
            have a1 : V5.cell? ⟨w3.heap.size, 1, none⟩ = some (.int .u8 x3) := cl_row HX4.out rfl
            have a2 : V5.cell? ⟨w3.heap.size, 2, none⟩ = some (.int .u8 x4) := cl_row HX4.out rfl
            have d0 : V5.cell? ⟨w4.heap.size, 0, none⟩ = some (.int .i64 x2) := cl_row HX5.out rfl
            have d1 : V5.cell? ⟨w4.heap.size, 1, none⟩ = some (.int .u8 x3) := cl_row HX5.out rfl
            have d2 : V5.cell? ⟨w4.heap.size, 2, none⟩ = some (.int .u8 x4) := cl_row HX5.out rfl
            have KL : Hid (_ : Prop) := left_any p b S2 V5 HF5.out
            clear KS HF4 HB4 HV4 HV5 HO4 HX4 HX5 HROW5
            go_wp2_with fail
            refine Calls.mono KL.out ?_
            rintro e w6 ⟨rfl, hw6⟩
            obtain rfl : V5 = w6 := hw6.symm
            clear hw6 KL
            go_wp2
            go_roundw
            case rel => exact ⟨n + 1, WC, rfl, by simp [HRA.out], by simp, by omega, by omega, HNW.out, by rw [HRA.out]; exact HF5.out, HB5.out⟩
            case measure => simp [intOf]; omega
          · have hcq2 : (R1.length : Int) < cp4 := by omega
            have hcq3 : R1.length < cp4 := by omega
            go_wp2_with fail
            refine Calls.mono (KS.out _ _) ?_
            rintro e w5 ⟨rfl, q5, rfl⟩
            have HF5 : Hid (FrAt ((w4.alloc (.cells #[.int .i64 x2, .int .u8 x3, .int .u8 x4] 27)).drewN q5) p b S2) := ⟨HF4.out.row, ⟨HF4.out.buf.row⟩, HF4.out.ne, HF4.out.ok⟩
            have HB5 : Hid (Beside p b w1 ((w4.alloc (.cells #[.int .i64 x2, .int .u8 x3, .int .u8 x4] 27)).drewN q5)) := HB4.out.then (below_drewN (Below.refl _ _) q5)
            have HX4 : Hid (((w4.alloc (.cells #[.int .i64 x2, .int .u8 x3, .int .u8 x4] 27)).drewN q5).heap[w3.heap.size]? = some (.cells #[.int .i64 x2, .int .u8 x3, .int .u8 x4] 27 (0, 0))) := HV4.out
            have HX5 : Hid (((w4.alloc (.cells #[.int .i64 x2, .int .u8 x3, .int .u8 x4] 27)).drewN q5).heap[w4.heap.size]? = some (.cells #[.int .i64 x2, .int .u8 x3, .int .u8 x4] 27 (0, 0))) := HV5.out
            generalize (w4.alloc (.cells #[.int .i64 x2, .int .u8 x3, .int .u8 x4] 27)).drewN q5 = V5 at *
            have a0 : V5.cell? ⟨w3.heap.size, 0, none⟩ = some (.int .i64 x2) := cl_row HX4.out rfl
            have a1 : V5.cell? ⟨w3.heap.size, 1, none⟩ = some (.int .u8 x3) := cl_row HX4.out rfl
            have a2 : V5.cell? ⟨w3.heap.size, 2, none⟩ = some (.int .u8 x4) := cl_row HX4.out rfl
            have d0 : V5.cell? ⟨w4.heap.size, 0, none⟩ = some (.int .i64 x2) := cl_row HX5.out rfl
            have d1 : V5.cell? ⟨w4.heap.size, 1, none⟩ = some (.int .u8 x3) := cl_row HX5.out rfl
            have d2 : V5.cell? ⟨w4.heap.size, 2, none⟩ = some (.int .u8 x4) := cl_row HX5.out rfl
            have KL : Hid (_ : Prop) := left_any p b S2 V5 HF5.out
            clear KS HF4 HB4 HV4 HV5 HO4 HX4 HX5 HROW5
            go_wp2_with fail
            refine Calls.mono KL.out ?_
            rintro e w6 ⟨rfl, hw6⟩
            obtain rfl : V5 = w6 := hw6.symm
            clear hw6 KL
            go_wp2
            go_roundw
            case rel => exact ⟨n + 1, WC, rfl, by simp [HRA.out], by simp, by omega, by omega, HNW.out, by rw [HRA.out]; exact HF5.out, HB5.out⟩
            case measure => simp [intOf]; omega
      · have hpos : 0 < R2.length := by cases R2 with | nil => exact absurd rfl hR2 | cons => simp
        obtain rfl : ad4 = some ⟨b5, off5, none⟩ := by rcases had5 with h | h; exact h; omega
        have hp1 : (R1.length : Int) < R1.length + R2.length := by omega
        have hp2 : R1.length < cp4 := by omega
        have hp3 : (R1.length : Int) < cp4 := by omega
        have KS : Hid (Calls Tryd.prog 11 #[.slice ad3 R2.length cp3, .slice (some ⟨b5, off5 + R1.length * 2, none⟩) R2.length (cp4 - R1.length)] (w4.alloc (.cells #[.int .i64 x2, .int .u8 x3, .int .u8 x4] 27)) fun e w' => e = .returned (.bool true) ∧ ∃ q, w' = (w4.alloc (.cells #[.int .i64 x2, .int .u8 x3, .int .u8 x4] 27)).drewN q) := same_yes _ _ R2 _ (OwnF.at HO4.out) (by have k := FmsAt.drop HROW5.out (n := R1.length) (cap := cp4) (by rw [hll]; omega) (by rw [hll]; omega) hp2; rw [hll, Nat.add_sub_cancel_left, List.drop_left] at k; exact k) (by omega)
        clear HNIL had5
        go_wp2_with fail
        refine Calls.mono KS.out ?_
        rintro e w5 ⟨rfl, q5, rfl⟩
        have HF5 : Hid (FrAt ((w4.alloc (.cells #[.int .i64 x2, .int .u8 x3, .int .u8 x4] 27)).drewN q5) p b S2) := ⟨HF4.out.row, ⟨HF4.out.buf.row⟩, HF4.out.ne, HF4.out.ok⟩
        have HB5 : Hid (Beside p b w1 ((w4.alloc (.cells #[.int .i64 x2, .int .u8 x3, .int .u8 x4] 27)).drewN q5)) := HB4.out.then (below_drewN (Below.refl _ _) q5)
        have HX4 : Hid (((w4.alloc (.cells #[.int .i64 x2, .int .u8 x3, .int .u8 x4] 27)).drewN q5).heap[w3.heap.size]? = some (.cells #[.int .i64 x2, .int .u8 x3, .int .u8 x4] 27 (0, 0))) := HV4.out
        have HX5 : Hid (((w4.alloc (.cells #[.int .i64 x2, .int .u8 x3, .int .u8 x4] 27)).drewN q5).heap[w4.heap.size]? = some (.cells #[.int .i64 x2, .int .u8 x3, .int .u8 x4] 27 (0, 0))) := HV5.out
        generalize (w4.alloc (.cells #[.int .i64 x2, .int .u8 x3, .int .u8 x4] 27)).drewN q5 = V5 at *
        have a0 : V5.cell? ⟨w3.heap.size, 0, none⟩ = some (.int .i64 x2) := cl_row HX4.out rfl
        have a1 : V5.cell? ⟨w3.heap.size, 1, none⟩ = some (.int .u8 x3) := cl_row HX4.out rfl
        have a2 : V5.cell? ⟨w3.heap.size, 2, none⟩ = some (.int .u8 x4) := cl_row HX4.out rfl
        have d0 : V5.cell? ⟨w4.heap.size, 0, none⟩ = some (.int .i64 x2) := cl_row HX5.out rfl
        have d1 : V5.cell? ⟨w4.heap.size, 1, none⟩ = some (.int .u8 x3) := cl_row HX5.out rfl
        have d2 : V5.cell? ⟨w4.heap.size, 2, none⟩ = some (.int .u8 x4) := cl_row HX5.out rfl
        have KL : Hid (_ : Prop) := left_any p b S2 V5 HF5.out
        clear KS HF4 HB4 HV4 HV5 HO4 HX4 HX5 HROW5
        go_wp2_with fail
        refine Calls.mono KL.out ?_
        rintro e w6 ⟨rfl, hw6⟩
        obtain rfl : V5 = w6 := hw6.symm
        clear hw6 KL
        go_wp2
        go_roundw
        case rel => exact ⟨n + 1, WC, rfl, by simp [HRA.out], by simp, by omega, by omega, HNW.out, by rw [HRA.out]; exact HF5.out, HB5.out⟩
        case measure => simp [intOf]; omega
    · have hno : ¬ ((n : Int) < L.length) ∨ ((n : Int) < L.length ∧ ¬ ((n : Int) < 60)) := by omega
      have HZW : Hid (SzAt wr) := HZ.out.below HBW.out
      rcases hno with hno | ⟨hyes, hno⟩
      · go_wp2_with fail
        refine (works_any wr HZW.out).mono ?_
        rintro e w9 ⟨rfl, hb9⟩
        go_wp2
        go_ret
        exact ⟨rfl, HBW.out.trans (hb9.mono HBW.out.size)⟩
      · go_wp2_with fail
        refine (works_any wr HZW.out).mono ?_
        rintro e w9 ⟨rfl, hb9⟩
        go_wp2
        go_ret
        exact ⟨rfl, HBW.out.trans (hb9.mono HBW.out.size)⟩
end Go.Proofs.YtlinoklgchfedaaDoor
