/-
  ReachBack's walk, one of its four ways.
-/
import Derived.Test.YtjliopclpjeieaaDoorFI
namespace Go.Proofs.YtjliopclpjeieaaDoor
open Go.RowKit
set_option maxRecDepth 100000 in
set_option maxHeartbeats 6400000 in
theorem back_yesN (F : Int) (nx : List UInt8) (rl cap : Nat) (vl : Value) (R' : List Nl) (vo : Value) (L : List Int) (W : World) (hT : Tb W) (hvl : vl = .slice none R'.length cap) (h0 : rl = 0) (h0r : R'.length = 0) (hR : NlsAt W vl R') (hlen : R'.length ≤ 30000) (hw : ∀ n ∈ R', NlWf n) (hL : IntsAt W vo L) :
    Calls Tryd.prog 6 #[.agg #[.int .i64 F, .string ⟨nx.toArray⟩, .slice none rl cap], .bool true, vo] W fun e w' => e = .returned (.bool true) ∧ Below W.heap.size W w' := by
  obtain ⟨i0, hi, hz0, hz1, hz2⟩ := info_parts info3
  obtain ⟨ado, bo, offo, capo, rfl, hado, hcapo, hrowo⟩ := hL
  have HRO0 : Hid (∀ j (h : j < L.length), W.cell? ⟨bo, offo + j, none⟩ = some (.int .i64 L[j])) := hrowo
  have HNL0 : Hid (NlsAt W vl R') := hR
  have HWF : Hid (∀ n ∈ R', NlWf n) := hw
  have HLEN : Hid (R'.length ≤ 30000) := hlen
  have HT : Hid (Tb W) := hT
  have HVL : Hid (vl = .slice none R'.length cap) := hvl
  clear hw hT hvl hR hlen hrowo
  subst h0
  rw [h0r] at HVL
  have hm0 : (min 0 2000 : Int) = 0 := by decide
  clear h0r
  have hb0 : Below W.heap.size W (W.alloc (.cells #[.int .i64 F, .string ⟨nx.toArray⟩, .slice none 0 cap] 30)) := (Below.refl _ _).alloc (Nat.le_refl _) _
  have K0 : Hid (_ : Prop) := works_any _ (HT.out.below hb0)
  have q0 : (W.alloc (.cells #[.int .i64 F, .string ⟨nx.toArray⟩, .slice none 0 cap] 30)).cell? ⟨W.heap.size, 0, none⟩ = some (.int .i64 F) := by simp
  have q1 : (W.alloc (.cells #[.int .i64 F, .string ⟨nx.toArray⟩, .slice none 0 cap] 30)).cell? ⟨W.heap.size, 1, none⟩ = some (.string ⟨nx.toArray⟩) := by simp
  have q2 : (W.alloc (.cells #[.int .i64 F, .string ⟨nx.toArray⟩, .slice none 0 cap] 30)).cell? ⟨W.heap.size, 2, none⟩ = some (.slice none 0 cap) := by simp
  have HQ : Hid (_ ∧ _ ∧ _) := ⟨q0, q1, q2⟩
  have HB0 : Hid (Below _ _ _) := hb0
  clear hb0 q0 q1 q2
  go_enter Tryd.func6, Tryd.ntmps6
  go_wp2_with fail
  refine Calls.mono K0.out ?_
  rintro e w1 ⟨rfl, hb1⟩
  have HB1 : Hid (Below W.heap.size W w1) := HB0.out.trans (hb1.mono HB0.out.size)
  have c0 := below_cell hb1 HQ.out.1
  have c1 := below_cell hb1 HQ.out.2.1
  have c2 := below_cell hb1 HQ.out.2.2
  have HRO : Hid (∀ j (h : j < L.length), w1.cell? ⟨bo, offo + j, none⟩ = some (.int .i64 L[j])) := fun j h => (HB1.out.cell (p := ⟨bo, offo + j, none⟩) (lt_of_cell (HRO0.out j h))).trans (HRO0.out j h)
  clear hb1 HQ HB0 K0 HRO0
  go_wp2_with (at_builtin; refine wpList_append_own _ rfl _ _ 38 rfl w1.heap.size 3 i0 (.int .i64 0) 1 8 Tryd.underlying38 hi hz0 hz1 hz2 rfl (by decide) _ _ _ rfl (World.ownsRow_nil _ _ _ _) ⟨w1.heap.size, 0, none⟩ 1 1 [.int .i64 F] rfl rfl (news1 w1 _ 3) (one_int F) (by unfold maxLen; omega) (by omega) (by simp) ?_; intro v3 w3 hown3 hgrow3 _)
  have hb3 : Below w1.heap.size w1 w3 := ((Below.refl _ _).alloc (Nat.le_refl _) _).grown hgrow3 (by simp) (fun k e => by cases e)
  have HO3 : Hid (OwnI w3 w1.heap.size v3 (addsL F true L 0)) := hown3
  have HB3 : Hid (Below w1.heap.size w1 w3) := hb3
  clear hown3 hgrow3 hb3
  rw [← HVL.out]
  clear c2
  go_loopw [8, 9] (fun x i wr => ∃ (n : Nat) (t : Value), n ≤ L.length ∧ n ≤ 50 ∧ t = x ∧ i = .int .i64 n ∧ OwnI wr w1.heap.size t (addsL F true L n) ∧ Below w1.heap.size w1 wr) (fun _ i _ => 50 - (intOf i).toNat)
  case atStart => exact ⟨0, _, Nat.zero_le _, by omega, rfl, rfl, HO3.out, HB3.out⟩
  case round =>
    obtain ⟨n, t, hnl, hn50, rfl, rfl, ho, hb⟩ := hrel
    by_cases h1 : n < L.length
    · by_cases h2 : n < 50
      · obtain rfl : ado = some ⟨bo, offo, none⟩ := by rcases hado with h | h; exact h; omega
        have e0 := below_cell (hb.mono (Nat.le_refl _)) (HRO.out n h1)
        have d0 := below_cell hb c0
        have HO : Hid (OwnI wr w1.heap.size t (addsL F true L n)) := ho
        have HB : Hid (Below w1.heap.size w1 wr) := hb
        have hsw : w1.heap.size ≤ wr.heap.size := hb.size
        clear ho
        by_cases he : L[n] = F
        · have HN : Hid (addsL F true L (n + 1) = addsL F true L n) := adds_out F true L n h1 he
          rw [he] at e0
          clear he hb
          go_wp2
          go_quiet (fail)
          go_wp2
          go_roundw
          case rel => exact ⟨n + 1, _, by omega, by omega, rfl, by go_num, by rw [HN.out]; exact owns_heap' HO.out (fun g _ => rfl), below_drewN HB.out _⟩
          case measure => simp [intOf]; omega
        · have HN : Hid (addsL F true L (n + 1) = addsL F true L n ++ [L[n]]) := adds_in F true L n h1 he
          have he1 : (L[n] == F) = false := by simpa using he
          have he2 : (L[n] != F) = true := by simpa using he
          have hal := adds_len F true L n
          obtain ⟨A, hA⟩ : ∃ A, A = addsL F true L n := ⟨_, rfl⟩
          rw [← hA] at HN HO hal
          clear he hb hA
          go_wp2
          go_quiet (fail)
          have hoX : OwnI (wr.drewN nq) w1.heap.size t A := owns_heap' HO.out (fun g _ => rfl)
          have hbX : Below w1.heap.size w1 (wr.drewN nq) := below_drewN HB.out nq
          have eX : (wr.drewN nq).cell? ⟨bo, offo + n, none⟩ = some (.int .i64 L[n]) := e0
          generalize wr.drewN nq = X at *
          have HOX : Hid (OwnI X w1.heap.size t A) := hoX
          have HBX : Hid (Below w1.heap.size w1 X) := hbX
          have hszX : w1.heap.size ≤ X.heap.size := hbX.size
          clear HO HB hoX hbX e0 d0
          generalize L[n] = ln at *
          go_wp2_with (at_builtin; refine wpList_append_own _ rfl _ _ 38 rfl w1.heap.size 3 i0 (.int .i64 0) 1 8 Tryd.underlying38 hi hz0 hz1 hz2 rfl (by decide) _ _ _ rfl (World.ownsRow.alloc HOX.out _) ⟨X.heap.size, 0, none⟩ 1 1 [.int .i64 ln] rfl rfl (news1 X _ 3) (one_int ln) (by unfold maxLen; omega) (by omega) (Nat.le_trans hszX (by simp)) ?_; intro v6 w6 hown6 hgrow6 _)
          have hos : OwnI w6 w1.heap.size v6 (A ++ [ln]) := by unfold OwnI; rw [List.length_append, List.map_append]; exact hown6
          have hbw : Below w1.heap.size X w6 := ((Below.refl _ _).alloc hszX _).grown hgrow6 (Nat.le_trans hszX (by simp)) (fun k e => (owns_lt HOX.out k e).1)
          have HB6 : Hid (Below w1.heap.size w1 w6) := HBX.out.trans hbw
          clear hown6 hgrow6 hbw
          go_roundw
          case rel => exact ⟨n + 1, _, by omega, by omega, rfl, by go_num, by rw [HN.out]; exact hos, HB6.out⟩
          case measure => simp [intOf]; omega
      · have HA50 : Hid (addsL F true L n = addsL F true L 50) := by
          unfold Hid addsL
          rw [show L.take n = L.take 50 from by
            by_cases e : n = 50
            · rw [e]
            · rw [List.take_of_length_le (by omega), List.take_of_length_le (by omega)]]
        obtain ⟨A, hA⟩ : ∃ A, A = addsL F true L n := ⟨_, rfl⟩
        have HHAS : Hid (decide (F ∈ A) = true) := by unfold Hid; rw [hA]; exact adds_has F true L n
        have HAL : Hid (A.length ≤ 1000000000) := by unfold Hid; rw [hA]; have := adds_len F true L n; omega
        have HIN : Hid (IntsAt wr t A) := by unfold Hid; rw [hA]; exact ho.at
        have HBW : Hid (Below W.heap.size W wr) := HB1.out.trans (hb.mono HB1.out.size)
        have HTW : Hid (Tb wr) := HT.out.below HBW.out
        have HNL : Hid (NlsAt wr vl R') := HNL0.out.below HBW.out
        have d0 := below_cell hb c0
        have d1 := below_cell hb c1
        clear c0 c1 hA ho hb HA50
        have c0 := d0
        have c1 := d1
        clear d0 d1
        generalize t = va at *

        have K0 := HNL
        by_cases hp : pE F nx true R' = 0
        · obtain ⟨ht, hg0, hsl⟩ := p_zero HHAS.out HWF.out hp
          obtain ⟨hgt, hgl⟩ := g_zero HHAS.out HWF.out hg0
          have K1 : Hid (_ : Prop) := putAll F nx vl true R' wr HTW.out.sizes HTW.out.rds HNL.out HWF.out HLEN.out
          have K2 : Hid (∀ W, Below wr.heap.size wr W → Calls Tryd.prog 17 #[.int .i64 F, vl, .bool true] W fun e w' => e = .returned (.tuple #[.string ⟨(gS F true R').toArray⟩, .int .i64 (gE F true R')]) ∧ Below W.heap.size W w') := fun W hW => goneAll F vl true R' W (HTW.out.below hW).sizes (HTW.out.below hW).rds (HNL.out.below hW) HWF.out HLEN.out
          have K3 : Hid (∀ W, Below wr.heap.size wr W → Calls Tryd.prog 20 #[.string ⟨(pS F nx true R').toArray⟩, va] W fun e w' => TakeOk8 (.ok (F, nx, R')) W e w') := fun W hW => by
            have := take_any8 (pS F nx true R') va A W (HTW.out.below hW).sizes (HIN.out.below hW) HAL.out (by omega)
            rw [ht] at this
            exact this
          have K4 : Hid (∀ W, Below wr.heap.size wr W → Calls Tryd.prog 23 #[.string ⟨(gS F true R').toArray⟩, va] W fun e w' => GoneOk (.ok (F, R')) W e w') := fun W hW => by
            have := takeGone_any (gS F true R') va A W (HTW.out.below hW).sizes (HIN.out.below hW) HAL.out (by omega)
            rw [hgt] at this
            exact this
          rw [hp] at K1
          rw [hg0] at K2
          clear hp ht hg0 hsl hgt hgl
          generalize pS F nx true R' = S at *
          generalize gS F true R' = T at *
          go_wp2_with fail
          refine Calls.mono K1.out ?_
          rintro e w4 ⟨rfl, hb4⟩
          have HB4 : Hid (Below wr.heap.size wr w4) := hb4
          have b0 := below_cell hb4 c0
          have b1 := below_cell hb4 c1
          clear hb4 c0 c1
          go_wp2_with fail
          refine Calls.mono (K2.out _ HB4.out) ?_
          rintro e w5 ⟨rfl, hb5⟩
          have HB5 : Hid (Below wr.heap.size wr w5) := HB4.out.trans (hb5.mono HB4.out.size)
          have c0 := below_cell hb5 b0
          have c1 := below_cell hb5 b1
          clear hb5 b0 b1 HB4
          go_wp2_with fail
          refine Calls.mono (K3.out _ HB5.out) ?_
          rintro e w6 ⟨hb6, v6, rfl, ho6⟩
          have HB6 : Hid (Below wr.heap.size wr w6) := HB5.out.trans (hb6.mono HB5.out.size)
          have b0 := below_cell hb6 c0
          have b1 := below_cell hb6 c1
          have HO6 : Hid (NlsAt w6 v6 R') := ho6.at
          clear hb6 c0 c1 HB5 ho6
          have K5 : Hid (_ : Prop) := same25_any v6 vl R' R' w6 HO6.out (HNL.out.below HB6.out) (by have := HLEN.out; omega)
          rw [sameL_self] at K5
          go_wp2_with fail
          refine Calls.mono K5.out ?_
          rintro e w7 ⟨rfl, hb7⟩
          have HB7 : Hid (Below wr.heap.size wr w7) := HB6.out.trans (hb7.mono HB6.out.size)
          have c0 := below_cell hb7 b0
          clear hb7 b0 b1 HB6 K5
          go_wp2_with fail
          refine Calls.mono (K4.out _ HB7.out) ?_
          rintro e w8 ⟨hb8, v8, rfl, ho8⟩
          have HB8 : Hid (Below wr.heap.size wr w8) := HB7.out.trans (hb8.mono HB7.out.size)
          have b0 := below_cell hb8 c0
          have HO8 : Hid (NlsAt w8 v8 R') := ho8.at
          clear hb8 c0 HB7 ho8
          have K6 : Hid (_ : Prop) := same25_any v8 vl R' R' w8 HO8.out (HNL.out.below HB8.out) (by have := HLEN.out; omega)
          rw [sameL_self] at K6
          go_wp2_with fail
          refine Calls.mono K6.out ?_
          rintro e w9 ⟨rfl, hb9⟩
          have HB9 : Hid (Below wr.heap.size wr w9) := HB8.out.trans (hb9.mono HB8.out.size)
          clear hb9 b0
          go_wp2
          go_ret
          exact ⟨rfl, HBW.out.trans (HB9.out.mono HBW.out.size)⟩
        · have hps := p_not hp
          have K1 : Hid (_ : Prop) := putAll F nx vl true R' wr HTW.out.sizes HTW.out.rds HNL.out HWF.out HLEN.out
          have K2 : Hid (∀ W, Below wr.heap.size wr W → Calls Tryd.prog 17 #[.int .i64 F, vl, .bool true] W fun e w' => e = .returned (.tuple #[.string ⟨(gS F true R').toArray⟩, .int .i64 (gE F true R')]) ∧ Below W.heap.size W w') := fun W hW => goneAll F vl true R' W (HTW.out.below hW).sizes (HTW.out.below hW).rds (HNL.out.below hW) HWF.out HLEN.out
          rw [hps] at K1
          have hp1 : (pE F nx true R' == 0) = false := by simpa using hp
          have hp2 : (pE F nx true R' != 0) = true := by simpa using hp
          clear hp hps
          generalize pE F nx true R' = E at *
          by_cases hg : gE F true R' = 0
          · obtain ⟨hgt, hgl⟩ := g_zero HHAS.out HWF.out hg
            have K4 : Hid (∀ W, Below wr.heap.size wr W → Calls Tryd.prog 23 #[.string ⟨(gS F true R').toArray⟩, va] W fun e w' => GoneOk (.ok (F, R')) W e w') := fun W hW => by
              have := takeGone_any (gS F true R') va A W (HTW.out.below hW).sizes (HIN.out.below hW) HAL.out (by omega)
              rw [hgt] at this
              exact this
            rw [hg] at K2
            clear hg hgt hgl
            generalize gS F true R' = T at *
            go_wp2_with fail
            refine Calls.mono K1.out ?_
            rintro e w4 ⟨rfl, hb4⟩
            have HB4 : Hid (Below wr.heap.size wr w4) := hb4
            have b0 := below_cell hb4 c0
            clear hb4 c0 c1
            go_wp2_with fail
            refine Calls.mono (K2.out _ HB4.out) ?_
            rintro e w5 ⟨rfl, hb5⟩
            have HB5 : Hid (Below wr.heap.size wr w5) := HB4.out.trans (hb5.mono HB4.out.size)
            have c0 := below_cell hb5 b0
            clear hb5 b0 HB4
            go_wp2_with fail
            refine Calls.mono (K4.out _ HB5.out) ?_
            rintro e w8 ⟨hb8, v8, rfl, ho8⟩
            have HB8 : Hid (Below wr.heap.size wr w8) := HB5.out.trans (hb8.mono HB5.out.size)
            have b0 := below_cell hb8 c0
            have HO8 : Hid (NlsAt w8 v8 R') := ho8.at
            clear hb8 c0 HB5 ho8
            have K6 : Hid (_ : Prop) := same25_any v8 vl R' R' w8 HO8.out (HNL.out.below HB8.out) (by have := HLEN.out; omega)
            rw [sameL_self] at K6
            go_wp2_with fail
            refine Calls.mono K6.out ?_
            rintro e w9 ⟨rfl, hb9⟩
            have HB9 : Hid (Below wr.heap.size wr w9) := HB8.out.trans (hb9.mono HB8.out.size)
            clear hb9 b0
            go_wp2
            go_ret
            exact ⟨rfl, HBW.out.trans (HB9.out.mono HBW.out.size)⟩
          · have hgs := g_not hg
            rw [hgs] at K2
            have hg1 : (gE F true R' == 0) = false := by simpa using hg
            have hg2 : (gE F true R' != 0) = true := by simpa using hg
            clear hg hgs
            generalize gE F true R' = E2 at *
            go_wp2_with fail
            refine Calls.mono K1.out ?_
            rintro e w4 ⟨rfl, hb4⟩
            have HB4 : Hid (Below wr.heap.size wr w4) := hb4
            have b0 := below_cell hb4 c0
            clear hb4 c0 c1
            go_wp2_with fail
            refine Calls.mono (K2.out _ HB4.out) ?_
            rintro e w5 ⟨rfl, hb5⟩
            have HB5 : Hid (Below wr.heap.size wr w5) := HB4.out.trans (hb5.mono HB4.out.size)
            clear hb5 b0 HB4
            go_wp2
            go_ret
            exact ⟨rfl, HBW.out.trans (HB5.out.mono HBW.out.size)⟩
    · have HA50 : Hid (addsL F true L n = addsL F true L 50) := by
        unfold Hid addsL
        rw [show L.take n = L.take 50 from by
          by_cases e : n = 50
          · rw [e]
          · rw [List.take_of_length_le (by omega), List.take_of_length_le (by omega)]]
      obtain ⟨A, hA⟩ : ∃ A, A = addsL F true L n := ⟨_, rfl⟩
      have HHAS : Hid (decide (F ∈ A) = true) := by unfold Hid; rw [hA]; exact adds_has F true L n
      have HAL : Hid (A.length ≤ 1000000000) := by unfold Hid; rw [hA]; have := adds_len F true L n; omega
      have HIN : Hid (IntsAt wr t A) := by unfold Hid; rw [hA]; exact ho.at
      have HBW : Hid (Below W.heap.size W wr) := HB1.out.trans (hb.mono HB1.out.size)
      have HTW : Hid (Tb wr) := HT.out.below HBW.out
      have HNL : Hid (NlsAt wr vl R') := HNL0.out.below HBW.out
      have d0 := below_cell hb c0
      have d1 := below_cell hb c1
      clear c0 c1 hA ho hb HA50
      have c0 := d0
      have c1 := d1
      clear d0 d1
      generalize t = va at *

      have K0 := HNL
      by_cases hp : pE F nx true R' = 0
      · obtain ⟨ht, hg0, hsl⟩ := p_zero HHAS.out HWF.out hp
        obtain ⟨hgt, hgl⟩ := g_zero HHAS.out HWF.out hg0
        have K1 : Hid (_ : Prop) := putAll F nx vl true R' wr HTW.out.sizes HTW.out.rds HNL.out HWF.out HLEN.out
        have K2 : Hid (∀ W, Below wr.heap.size wr W → Calls Tryd.prog 17 #[.int .i64 F, vl, .bool true] W fun e w' => e = .returned (.tuple #[.string ⟨(gS F true R').toArray⟩, .int .i64 (gE F true R')]) ∧ Below W.heap.size W w') := fun W hW => goneAll F vl true R' W (HTW.out.below hW).sizes (HTW.out.below hW).rds (HNL.out.below hW) HWF.out HLEN.out
        have K3 : Hid (∀ W, Below wr.heap.size wr W → Calls Tryd.prog 20 #[.string ⟨(pS F nx true R').toArray⟩, va] W fun e w' => TakeOk8 (.ok (F, nx, R')) W e w') := fun W hW => by
          have := take_any8 (pS F nx true R') va A W (HTW.out.below hW).sizes (HIN.out.below hW) HAL.out (by omega)
          rw [ht] at this
          exact this
        have K4 : Hid (∀ W, Below wr.heap.size wr W → Calls Tryd.prog 23 #[.string ⟨(gS F true R').toArray⟩, va] W fun e w' => GoneOk (.ok (F, R')) W e w') := fun W hW => by
          have := takeGone_any (gS F true R') va A W (HTW.out.below hW).sizes (HIN.out.below hW) HAL.out (by omega)
          rw [hgt] at this
          exact this
        rw [hp] at K1
        rw [hg0] at K2
        clear hp ht hg0 hsl hgt hgl
        generalize pS F nx true R' = S at *
        generalize gS F true R' = T at *
        go_wp2_with fail
        refine Calls.mono K1.out ?_
        rintro e w4 ⟨rfl, hb4⟩
        have HB4 : Hid (Below wr.heap.size wr w4) := hb4
        have b0 := below_cell hb4 c0
        have b1 := below_cell hb4 c1
        clear hb4 c0 c1
        go_wp2_with fail
        refine Calls.mono (K2.out _ HB4.out) ?_
        rintro e w5 ⟨rfl, hb5⟩
        have HB5 : Hid (Below wr.heap.size wr w5) := HB4.out.trans (hb5.mono HB4.out.size)
        have c0 := below_cell hb5 b0
        have c1 := below_cell hb5 b1
        clear hb5 b0 b1 HB4
        go_wp2_with fail
        refine Calls.mono (K3.out _ HB5.out) ?_
        rintro e w6 ⟨hb6, v6, rfl, ho6⟩
        have HB6 : Hid (Below wr.heap.size wr w6) := HB5.out.trans (hb6.mono HB5.out.size)
        have b0 := below_cell hb6 c0
        have b1 := below_cell hb6 c1
        have HO6 : Hid (NlsAt w6 v6 R') := ho6.at
        clear hb6 c0 c1 HB5 ho6
        have K5 : Hid (_ : Prop) := same25_any v6 vl R' R' w6 HO6.out (HNL.out.below HB6.out) (by have := HLEN.out; omega)
        rw [sameL_self] at K5
        go_wp2_with fail
        refine Calls.mono K5.out ?_
        rintro e w7 ⟨rfl, hb7⟩
        have HB7 : Hid (Below wr.heap.size wr w7) := HB6.out.trans (hb7.mono HB6.out.size)
        have c0 := below_cell hb7 b0
        clear hb7 b0 b1 HB6 K5
        go_wp2_with fail
        refine Calls.mono (K4.out _ HB7.out) ?_
        rintro e w8 ⟨hb8, v8, rfl, ho8⟩
        have HB8 : Hid (Below wr.heap.size wr w8) := HB7.out.trans (hb8.mono HB7.out.size)
        have b0 := below_cell hb8 c0
        have HO8 : Hid (NlsAt w8 v8 R') := ho8.at
        clear hb8 c0 HB7 ho8
        have K6 : Hid (_ : Prop) := same25_any v8 vl R' R' w8 HO8.out (HNL.out.below HB8.out) (by have := HLEN.out; omega)
        rw [sameL_self] at K6
        go_wp2_with fail
        refine Calls.mono K6.out ?_
        rintro e w9 ⟨rfl, hb9⟩
        have HB9 : Hid (Below wr.heap.size wr w9) := HB8.out.trans (hb9.mono HB8.out.size)
        clear hb9 b0
        go_wp2
        go_ret
        exact ⟨rfl, HBW.out.trans (HB9.out.mono HBW.out.size)⟩
      · have hps := p_not hp
        have K1 : Hid (_ : Prop) := putAll F nx vl true R' wr HTW.out.sizes HTW.out.rds HNL.out HWF.out HLEN.out
        have K2 : Hid (∀ W, Below wr.heap.size wr W → Calls Tryd.prog 17 #[.int .i64 F, vl, .bool true] W fun e w' => e = .returned (.tuple #[.string ⟨(gS F true R').toArray⟩, .int .i64 (gE F true R')]) ∧ Below W.heap.size W w') := fun W hW => goneAll F vl true R' W (HTW.out.below hW).sizes (HTW.out.below hW).rds (HNL.out.below hW) HWF.out HLEN.out
        rw [hps] at K1
        have hp1 : (pE F nx true R' == 0) = false := by simpa using hp
        have hp2 : (pE F nx true R' != 0) = true := by simpa using hp
        clear hp hps
        generalize pE F nx true R' = E at *
        by_cases hg : gE F true R' = 0
        · obtain ⟨hgt, hgl⟩ := g_zero HHAS.out HWF.out hg
          have K4 : Hid (∀ W, Below wr.heap.size wr W → Calls Tryd.prog 23 #[.string ⟨(gS F true R').toArray⟩, va] W fun e w' => GoneOk (.ok (F, R')) W e w') := fun W hW => by
            have := takeGone_any (gS F true R') va A W (HTW.out.below hW).sizes (HIN.out.below hW) HAL.out (by omega)
            rw [hgt] at this
            exact this
          rw [hg] at K2
          clear hg hgt hgl
          generalize gS F true R' = T at *
          go_wp2_with fail
          refine Calls.mono K1.out ?_
          rintro e w4 ⟨rfl, hb4⟩
          have HB4 : Hid (Below wr.heap.size wr w4) := hb4
          have b0 := below_cell hb4 c0
          clear hb4 c0 c1
          go_wp2_with fail
          refine Calls.mono (K2.out _ HB4.out) ?_
          rintro e w5 ⟨rfl, hb5⟩
          have HB5 : Hid (Below wr.heap.size wr w5) := HB4.out.trans (hb5.mono HB4.out.size)
          have c0 := below_cell hb5 b0
          clear hb5 b0 HB4
          go_wp2_with fail
          refine Calls.mono (K4.out _ HB5.out) ?_
          rintro e w8 ⟨hb8, v8, rfl, ho8⟩
          have HB8 : Hid (Below wr.heap.size wr w8) := HB5.out.trans (hb8.mono HB5.out.size)
          have b0 := below_cell hb8 c0
          have HO8 : Hid (NlsAt w8 v8 R') := ho8.at
          clear hb8 c0 HB5 ho8
          have K6 : Hid (_ : Prop) := same25_any v8 vl R' R' w8 HO8.out (HNL.out.below HB8.out) (by have := HLEN.out; omega)
          rw [sameL_self] at K6
          go_wp2_with fail
          refine Calls.mono K6.out ?_
          rintro e w9 ⟨rfl, hb9⟩
          have HB9 : Hid (Below wr.heap.size wr w9) := HB8.out.trans (hb9.mono HB8.out.size)
          clear hb9 b0
          go_wp2
          go_ret
          exact ⟨rfl, HBW.out.trans (HB9.out.mono HBW.out.size)⟩
        · have hgs := g_not hg
          rw [hgs] at K2
          have hg1 : (gE F true R' == 0) = false := by simpa using hg
          have hg2 : (gE F true R' != 0) = true := by simpa using hg
          clear hg hgs
          generalize gE F true R' = E2 at *
          go_wp2_with fail
          refine Calls.mono K1.out ?_
          rintro e w4 ⟨rfl, hb4⟩
          have HB4 : Hid (Below wr.heap.size wr w4) := hb4
          have b0 := below_cell hb4 c0
          clear hb4 c0 c1
          go_wp2_with fail
          refine Calls.mono (K2.out _ HB4.out) ?_
          rintro e w5 ⟨rfl, hb5⟩
          have HB5 : Hid (Below wr.heap.size wr w5) := HB4.out.trans (hb5.mono HB4.out.size)
          clear hb5 b0 HB4
          go_wp2
          go_ret
          exact ⟨rfl, HBW.out.trans (HB5.out.mono HBW.out.size)⟩
end Go.Proofs.YtjliopclpjeieaaDoor
