/-
  The contract of the reference's Covers, for every two prefixes.
-/
import Derived.Test.YtkgedoedojkdkaaDoorR3
namespace Go.Proofs.YtkgedoedojkdkaaDoor
open Go.RowKit
set_option maxRecDepth 100000 in
set_option maxHeartbeats 1600000 in
theorem rcov_any (fa ra : Int) (sa : ByteArray) (la : Int) (fb rb : Int) (sb : ByteArray) (lb : Int) (w : World) (hsa : sa.size ≤ maxLen) (hsb : sb.size ≤ maxLen) :
    Calls Tryd.prog 14 #[.agg #[.int .i64 fa, .int .u64 ra, .string sa, .int .i64 la], .agg #[.int .i64 fb, .int .u64 rb, .string sb, .int .i64 lb]] w fun e w' => e = .returned (.bool (covB fa ra sa la fb rb sb lb)) ∧ Below w.heap.size w w' := by
  have CA := fun w => may_any fa ra sa la w hsa
  have CB := fun w => may_any fb rb sb lb w hsb
  have hal : Below (w.heap.size + 1) (w.alloc (.cells #[.int .i64 fa, .int .u64 ra, .string sa, .int .i64 la] 24)) ((w.alloc (.cells #[.int .i64 fa, .int .u64 ra, .string sa, .int .i64 la] 24)).alloc (.cells #[.int .i64 fb, .int .u64 rb, .string sb, .int .i64 lb] 24)) := (Below.refl _ _).alloc (by simp) _
  have pa0 := (PfxAt.of_alloc w _ fa ra sa la rfl).kept hal (by omega)
  have pb0 := PfxAt.of_alloc (w.alloc (.cells #[.int .i64 fa, .int .u64 ra, .string sa, .int .i64 la] 24)) (w.heap.size + 1) fb rb sb lb (by simp)
  have hB0 : Below w.heap.size w ((w.alloc (.cells #[.int .i64 fa, .int .u64 ra, .string sa, .int .i64 la] 24)).alloc (.cells #[.int .i64 fb, .int .u64 rb, .string sb, .int .i64 lb] 24)) := ((Below.refl _ _).alloc (Nat.le_refl _) _).alloc (by simp) _
  have lpa : w.heap.size < ((w.alloc (.cells #[.int .i64 fa, .int .u64 ra, .string sa, .int .i64 la] 24)).alloc (.cells #[.int .i64 fb, .int .u64 rb, .string sb, .int .i64 lb] 24)).heap.size := by simp; omega
  have lpb : w.heap.size + 1 < ((w.alloc (.cells #[.int .i64 fa, .int .u64 ra, .string sa, .int .i64 la] 24)).alloc (.cells #[.int .i64 fb, .int .u64 rb, .string sb, .int .i64 lb] 24)).heap.size := by simp
  clear hal
  by_cases va : chk fa ra sa la = 0
  · have VA : Hid (chk fa ra sa la = 0) := va
    have bnd := chk_zero va
    have zb := szOf_bd fa
    have la0 : 0 ≤ la := bnd.2.2.1
    have la1 : la ≤ 128 := by omega
    clear bnd zb
    simp only [va, decide_true] at CA
    clear va
    have HA : Hid (_ : Prop) := CA
    clear CA
    by_cases vb : chk fb rb sb lb = 0
    · have VB : Hid (chk fb rb sb lb = 0) := vb
      simp only [vb, decide_true] at CB
      clear vb
      have HB : Hid (_ : Prop) := CB
      clear CB
      by_cases e1 : fa = fb
      · subst e1
        by_cases e2 : ra = rb
        · subst e2
          by_cases e3 : lb < la
          · have HF : Hid (covB fa ra sa la fa ra sb lb = false) := by
              unfold Hid
              rw [Bool.eq_false_iff]
              intro h
              have := (cov_iff fa ra sa la fa ra sb lb).1 h
              omega
            go_enter Tryd.func14, Tryd.ntmps14
            go_wp2_with fail
            refine (HA.out _).mono ?_
            rintro e w1 ⟨rfl, hb1⟩
            have pa1 := pa0.kept hb1 lpa
            have pb1 := pb0.kept hb1 lpb
            have hB1 := hB0.trans (hb1.mono hB0.size)
            have ca0 := pa1.c0
            have ca1 := pa1.c1
            have ca2 := pa1.c2
            have ca3 := pa1.c3
            have cb0 := pb1.c0
            have cb1 := pb1.c1
            have cb2 := pb1.c2
            have cb3 := pb1.c3
            go_wp2_with fail
            refine (HB.out _).mono ?_
            rintro e w2 ⟨rfl, hb2⟩
            have pa2 := pa1.kept hb2 (Nat.lt_of_lt_of_le lpa hb1.size)
            have pb2 := pb1.kept hb2 (Nat.lt_of_lt_of_le lpb hb1.size)
            have hB2 := hB1.trans (hb2.mono hB1.size)
            clear ca0 ca1 ca2 ca3 cb0 cb1 cb2 cb3
            have ca0 := pa2.c0
            have ca1 := pa2.c1
            have ca2 := pa2.c2
            have ca3 := pa2.c3
            have cb0 := pb2.c0
            have cb1 := pb2.c1
            have cb2 := pb2.c2
            have cb3 := pb2.c3
            go_wp2
            go_ret
            exact ⟨ret_bool HF.out.symm, hB2⟩
          · go_enter Tryd.func14, Tryd.ntmps14
            go_wp2_with fail
            refine (HA.out _).mono ?_
            rintro e w1 ⟨rfl, hb1⟩
            have pa1 := pa0.kept hb1 lpa
            have pb1 := pb0.kept hb1 lpb
            have hB1 := hB0.trans (hb1.mono hB0.size)
            have ca0 := pa1.c0
            have ca1 := pa1.c1
            have ca2 := pa1.c2
            have ca3 := pa1.c3
            have cb0 := pb1.c0
            have cb1 := pb1.c1
            have cb2 := pb1.c2
            have cb3 := pb1.c3
            go_wp2_with fail
            refine (HB.out _).mono ?_
            rintro e w2 ⟨rfl, hb2⟩
            have pa2 := pa1.kept hb2 (Nat.lt_of_lt_of_le lpa hb1.size)
            have pb2 := pb1.kept hb2 (Nat.lt_of_lt_of_le lpb hb1.size)
            have hB2 := hB1.trans (hb2.mono hB1.size)
            clear ca0 ca1 ca2 ca3 cb0 cb1 cb2 cb3
            have ca0 := pa2.c0
            have ca1 := pa2.c1
            have ca2 := pa2.c2
            have ca3 := pa2.c3
            have cb0 := pb2.c0
            have cb1 := pb2.c1
            have cb2 := pb2.c2
            have cb3 := pb2.c3
            go_wp2_with fail
            clear ca0 ca1 ca2 ca3 cb0 cb1 cb2 cb3
            go_loopw [5] (fun i wr => ∃ k : Nat, (k : Int) ≤ la ∧ i = .int .i64 k ∧ (∀ j : Nat, j < k → bitI sa j = bitI sb j) ∧ PfxAt wr w.heap.size fa ra sa la ∧ PfxAt wr (w.heap.size + 1) fa ra sb lb ∧ Below w.heap.size w wr) (fun i _ => (la - intOf i).toNat)
            case atStart => exact ⟨0, by omega, rfl, fun j h => by omega, pa2, pb2, hB2⟩
            case round =>
              obtain ⟨k, hk, rfl, hall, qa, qb, qB⟩ := hrel
              have HAL : Hid (∀ j : Nat, j < k → bitI sa j = bitI sb j) := hall
              clear hall pa2 pb2 hB2 pa1 pb1 hB1
              have x2 := qa.c2
              have x3 := qa.c3
              have y2 := qb.c2
              by_cases hlt : (k : Int) < la
              · have C1 := fun w => refbit_any sa k w hsa (by omega) (by omega)
                have C2 := fun w => refbit_any sb k w hsb (by omega) (by omega)
                by_cases hb : bitI sa k = bitI sb k
                · have HE : Hid (bitI sa k = bitI sb k) := hb
                  rw [hb] at C1
                  clear hb
                  generalize bitI sb k = q at C1 C2
                  have K1 : Hid (_ : Prop) := C1
                  have K2 : Hid (_ : Prop) := C2
                  clear C1 C2
                  go_wp2_with fail
                  go_quiet ((first | (go_at_call_of 18 (sa); refine Calls.quiet_of_same (K1.out _)) | (go_at_call_of 18 (sb); refine Calls.quiet_of_same (K2.out _))))
                  go_wp2
                  go_roundw
                  case rel => exact ⟨k + 1, by omega, by go_num, fun j h => by
                    by_cases e : j = k
                    · subst e; exact HE.out
                    · exact HAL.out j (by omega), qa.drewN nq, qb.drewN nq, below_drewN qB nq⟩
                  case measure => simp [intOf]; omega
                · have HF : Hid (covB fa ra sa la fa ra sb lb = false) := by
                    unfold Hid
                    rw [Bool.eq_false_iff]
                    intro h
                    exact hb (((cov_iff fa ra sa la fa ra sb lb).1 h).2.2.2.2.2 k hlt)
                  have hne : (bitI sa k == bitI sb k) = false := by simpa using hb
                  clear hb
                  generalize bitI sa k = q1 at *
                  generalize bitI sb k = q2 at *
                  have K1 : Hid (_ : Prop) := C1
                  have K2 : Hid (_ : Prop) := C2
                  clear C1 C2
                  go_wp2_with fail
                  go_quiet ((first | (go_at_call_of 18 (sa); refine Calls.quiet_of_same (K1.out _)) | (go_at_call_of 18 (sb); refine Calls.quiet_of_same (K2.out _))))
                  go_wp2
                  go_ret
                  exact ⟨ret_bool HF.out.symm, below_drewN qB _⟩
              · have HT : Hid (covB fa ra sa la fa ra sb lb = true) := (cov_iff fa ra sa la fa ra sb lb).2 ⟨VA.out, VB.out, rfl, rfl, by omega, fun i hi => HAL.out i (by omega)⟩
                go_wp2
                go_ret
                exact ⟨ret_bool HT.out.symm, qB⟩
        · have n2 : (ra == rb) = false := by simpa using e2
          have HF : Hid (covB fa ra sa la fa rb sb lb = false) := by
            unfold Hid
            rw [Bool.eq_false_iff]
            intro h
            have := (cov_iff fa ra sa la fa rb sb lb).1 h
            exact e2 this.2.2.2.1
          go_enter Tryd.func14, Tryd.ntmps14
          go_wp2_with fail
          refine (HA.out _).mono ?_
          rintro e w1 ⟨rfl, hb1⟩
          have pa1 := pa0.kept hb1 lpa
          have pb1 := pb0.kept hb1 lpb
          have hB1 := hB0.trans (hb1.mono hB0.size)
          have ca0 := pa1.c0
          have ca1 := pa1.c1
          have ca2 := pa1.c2
          have ca3 := pa1.c3
          have cb0 := pb1.c0
          have cb1 := pb1.c1
          have cb2 := pb1.c2
          have cb3 := pb1.c3
          go_wp2_with fail
          refine (HB.out _).mono ?_
          rintro e w2 ⟨rfl, hb2⟩
          have pa2 := pa1.kept hb2 (Nat.lt_of_lt_of_le lpa hb1.size)
          have pb2 := pb1.kept hb2 (Nat.lt_of_lt_of_le lpb hb1.size)
          have hB2 := hB1.trans (hb2.mono hB1.size)
          clear ca0 ca1 ca2 ca3 cb0 cb1 cb2 cb3
          have ca0 := pa2.c0
          have ca1 := pa2.c1
          have ca2 := pa2.c2
          have ca3 := pa2.c3
          have cb0 := pb2.c0
          have cb1 := pb2.c1
          have cb2 := pb2.c2
          have cb3 := pb2.c3
          go_wp2
          go_ret
          exact ⟨ret_bool HF.out.symm, hB2⟩
      · have n1 : (fa == fb) = false := by simpa using e1
        have HF : Hid (covB fa ra sa la fb rb sb lb = false) := by
          unfold Hid
          rw [Bool.eq_false_iff]
          intro h
          have := (cov_iff fa ra sa la fb rb sb lb).1 h
          exact e1 this.2.2.1
        go_enter Tryd.func14, Tryd.ntmps14
        go_wp2_with fail
        refine (HA.out _).mono ?_
        rintro e w1 ⟨rfl, hb1⟩
        have pa1 := pa0.kept hb1 lpa
        have pb1 := pb0.kept hb1 lpb
        have hB1 := hB0.trans (hb1.mono hB0.size)
        have ca0 := pa1.c0
        have ca1 := pa1.c1
        have ca2 := pa1.c2
        have ca3 := pa1.c3
        have cb0 := pb1.c0
        have cb1 := pb1.c1
        have cb2 := pb1.c2
        have cb3 := pb1.c3
        go_wp2_with fail
        refine (HB.out _).mono ?_
        rintro e w2 ⟨rfl, hb2⟩
        have pa2 := pa1.kept hb2 (Nat.lt_of_lt_of_le lpa hb1.size)
        have pb2 := pb1.kept hb2 (Nat.lt_of_lt_of_le lpb hb1.size)
        have hB2 := hB1.trans (hb2.mono hB1.size)
        clear ca0 ca1 ca2 ca3 cb0 cb1 cb2 cb3
        have ca0 := pa2.c0
        have ca1 := pa2.c1
        have ca2 := pa2.c2
        have ca3 := pa2.c3
        have cb0 := pb2.c0
        have cb1 := pb2.c1
        have cb2 := pb2.c2
        have cb3 := pb2.c3
        go_wp2
        go_ret
        exact ⟨ret_bool HF.out.symm, hB2⟩
    · have HF : Hid (covB fa ra sa la fb rb sb lb = false) := by
        unfold Hid
        rw [Bool.eq_false_iff]
        intro h
        have := (cov_iff fa ra sa la fb rb sb lb).1 h
        exact vb this.2.1
      simp only [vb, decide_false] at CB
      clear vb
      have HB : Hid (_ : Prop) := CB
      clear CB
      go_enter Tryd.func14, Tryd.ntmps14
      go_wp2_with fail
      refine (HA.out _).mono ?_
      rintro e w1 ⟨rfl, hb1⟩
      have pa1 := pa0.kept hb1 lpa
      have pb1 := pb0.kept hb1 lpb
      have hB1 := hB0.trans (hb1.mono hB0.size)
      have ca0 := pa1.c0
      have ca1 := pa1.c1
      have ca2 := pa1.c2
      have ca3 := pa1.c3
      have cb0 := pb1.c0
      have cb1 := pb1.c1
      have cb2 := pb1.c2
      have cb3 := pb1.c3
      go_wp2_with fail
      refine (HB.out _).mono ?_
      rintro e w2 ⟨rfl, hb2⟩
      have pa2 := pa1.kept hb2 (Nat.lt_of_lt_of_le lpa hb1.size)
      have pb2 := pb1.kept hb2 (Nat.lt_of_lt_of_le lpb hb1.size)
      have hB2 := hB1.trans (hb2.mono hB1.size)
      clear ca0 ca1 ca2 ca3 cb0 cb1 cb2 cb3
      have ca0 := pa2.c0
      have ca1 := pa2.c1
      have ca2 := pa2.c2
      have ca3 := pa2.c3
      have cb0 := pb2.c0
      have cb1 := pb2.c1
      have cb2 := pb2.c2
      have cb3 := pb2.c3
      go_wp2
      go_ret
      exact ⟨ret_bool HF.out.symm, hB2⟩
  · have HF : Hid (covB fa ra sa la fb rb sb lb = false) := by
      unfold Hid
      rw [Bool.eq_false_iff]
      intro h
      have := (cov_iff fa ra sa la fb rb sb lb).1 h
      exact va this.1
    simp only [va, decide_false] at CA
    clear va
    have HA : Hid (_ : Prop) := CA
    clear CA CB
    go_enter Tryd.func14, Tryd.ntmps14
    go_wp2_with fail
    refine (HA.out _).mono ?_
    rintro e w1 ⟨rfl, hb1⟩
    have pa1 := pa0.kept hb1 lpa
    have pb1 := pb0.kept hb1 lpb
    have hB1 := hB0.trans (hb1.mono hB0.size)
    go_wp2
    go_ret
    exact ⟨ret_bool HF.out.symm, hB1⟩
end Go.Proofs.YtkgedoedojkdkaaDoor
