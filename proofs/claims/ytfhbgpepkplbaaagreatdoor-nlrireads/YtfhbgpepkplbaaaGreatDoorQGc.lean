/-
  The reference's first, the last way, and its Decode.
-/
import Derived.Test.YtfhbgpepkplbaaaGreatDoorQGa
import Derived.Test.YtfhbgpepkplbaaaGreatDoorQGb
namespace Go.Proofs.YtfhbgpepkplbaaaGreatDoor
open Go.RowKit
set_option maxRecDepth 100000 in
set_option maxHeartbeats 12800000 in
theorem first_td (f : Int) (l : List UInt8) (w : World) (hl : lab f = true) (hd : dst f = true) (hle : l.length ≤ 1000000) :
    Calls Tryz.prog 45 #[.string ⟨l.toArray⟩, .int .i64 f, .bool true] w fun e w' => FirstOk f true l w e w' := by
  have hlN : lbN f = 3 := by simp [lbN, hl]
  have hdN' : rdN f = 8 := by simp [rdN, hd]
  have hex : exN f = 88 := by simp [exN, hlN, hdN']
  have HID : Hid (idN true = 4) := rfl
  have HHD : Hid (hdN f true = 16) := by unfold Hid hdN; rw [hlN, hdN', HID.out]
  have HL : Hid (lbN f = 3 ∧ rdN f = 8 ∧ exN f = 88) := ⟨hlN, hdN', hex⟩
  have KA : Hid (∀ w, Calls Tryz.prog 51 #[.int .i64 f] w fun e w' => e = .returned (.int .i64 88) ∧ w' = w) := fun w => by have := ahead_any f w; rw [hex] at this; exact this
  have KL : Hid (∀ w, Calls Tryz.prog 49 #[.int .i64 f] w fun e w' => e = .returned (.bool true) ∧ w' = w) := fun w => by have := rlab_any f w; rw [hl] at this; exact this
  have KD : Hid (∀ w, Calls Tryz.prog 52 #[.int .i64 f] w fun e w' => e = .returned (.bool true) ∧ w' = w) := fun w => by have := rdst_any f w; rw [hd] at this; exact this
  obtain ⟨N, hN⟩ := Int.eq_ofNat_of_zero_le (szOf_bd f).1
  have hN16 : N ≤ 16 := by have := (szOf_bd f).2; omega
  have HN : Hid (szOf f = (N : Int)) := hN
  have KS : Hid (∀ w, Calls Tryz.prog 37 #[.int .i64 f] w fun e w' => e = .returned (.int .i64 (N : Int)) ∧ w' = w) := fun w => by have := refsize_any f w; rw [hN] at this; exact this
  have H0 : Hid (FsAt w ((w.alloc (.cells #[.int .i64 0, .int .u64 0, .string ⟨#[]⟩, .int .i64 0, .int .u32 0, .int .u32 0] 27)).alloc (.cells #[.int .i64 0, .int .u64 0, .string ⟨#[]⟩, .int .i64 0, .int .u32 0, .int .u32 0] 27)) ⟨0, 0, ⟨#[]⟩, 0, 0, 0⟩) := FsAt.start w
  clear hl hd hlN hdN' hex hN
  by_cases h4 : l.length < 4
  · have h4' : (l.length : Int) < 4 := by omega
    have HNO : Hid (¬ okI f true l) := fun h => by have := h.1; rw [HID.out] at this; omega
    clear H0
    go_enter Tryz.func45, Tryz.ntmps45
    go_wp2
    refine bodyPost_ret (v := .tuple #[.agg #[.int .i64 0, .int .u64 0, .string ⟨#[]⟩, .int .i64 0, .int .u32 0, .int .u32 0], .int .i64 0]) (by simp [results, Tryz.results45, go_sem]) rfl ?_
    exact ⟨((Below.refl _ _).alloc (by simp) _).alloc (by simp) _, Or.inr ⟨HNO.out, _, rfl⟩⟩
  have h4' : ¬ ((l.length : Int) < 4) := by omega
  have KN : Hid (∀ w, Calls Tryz.prog 77 #[.string ⟨l.toArray⟩] w fun e w' => e = .returned (.int .u32 (worth (l.take 4) : Nat)) ∧ Below w.heap.size w w') := fun w => num4_any ⟨l.toArray⟩ w (by rw [list_size]; omega) (by rw [list_size]; omega)
  go_enter Tryz.func45, Tryz.ntmps45
  go_wp2_with fail
  refine Calls.mono (KN.out _) ?_
  rintro e w1 ⟨rfl, hb1⟩
  have H1 : Hid (FsAt w w1 ⟨0, 0, ⟨#[]⟩, 0, 0, 0⟩) := H0.out.below' hb1
  have n4 := H1.out.n4
  have y4 := H1.out.nf 4 (by omega)
  obtain ⟨w2, hset⟩ : ∃ w2, w1.setCell ⟨w.heap.size + 1, 4, none⟩ (.int .u32 (worth (l.take 4) : Nat)) = w2 := ⟨_, rfl⟩
  have H2 : Hid (FsAt w w2 ⟨0, 0, ⟨#[]⟩, 0, (worth (l.take 4) : Nat), 0⟩) := hset ▸ H1.out.set 4 _ _ rfl (by omega)
  simp only at n4
  clear hb1 H0 KN H1
  by_cases h5 : l.length ≤ 4
  · have h5' : (l.length : Int) ≤ 4 := by omega
    have HNO : Hid (¬ okI f true l) := fun h => by have := h.1; rw [HID.out] at this; omega
    have n0 := H2.out.n0
    have n1 := H2.out.n1
    have n2 := H2.out.n2
    have n3 := H2.out.n3
    have n4 := H2.out.n4
    have n5 := H2.out.n5
    have z0 := H2.out.z0
    have z1 := H2.out.z1
    have z2 := H2.out.z2
    have z3 := H2.out.z3
    have z4 := H2.out.z4
    have z5 := H2.out.z5
    have y0 := H2.out.zf 0 (by omega)
    have y1 := H2.out.zf 1 (by omega)
    have y2 := H2.out.zf 2 (by omega)
    have y3 := H2.out.zf 3 (by omega)
    have y4 := H2.out.zf 4 (by omega)
    have y5 := H2.out.zf 5 (by omega)
    simp only at n0 n1 n2 n3 n4 n5
    go_wp2
    refine bodyPost_ret (v := .tuple #[.agg #[.int .i64 0, .int .u64 0, .string ⟨#[]⟩, .int .i64 0, .int .u32 (((worth (l.take 4) : Nat) : Int)), .int .u32 0], .int .i64 0]) (by simp [results, Tryz.results45, go_sem, z0, z1, z2, z3, z4, z5]) rfl ?_
    exact ⟨H2.out.fin _ _ _ _ _ _, Or.inr ⟨HNO.out, _, rfl⟩⟩
  have h5' : ¬ ((l.length : Int) ≤ 4) := by omega
  have h5n : 4 < l.length := by omega
  have h5b : 4 < (⟨l.toArray⟩ : ByteArray).size := by rw [list_size]; omega
  have h5c : (4 : Int) < (⟨l.toArray⟩ : ByteArray).size := by rw [list_size]; omega
  go_wp2
  go_quiet ((go_at_call 51; refine Calls.quiet_of_same (KA.out _)))
  have HCB : Hid (worth ((l.drop 4).take 1) = ((⟨l.toArray⟩ : ByteArray)[4]'h5b).toNat) := byte_at l 4 h5n
  have hcb : ((⟨l.toArray⟩ : ByteArray)[4]'h5b).toNat < 256 := UInt8.toNat_lt _
  generalize ((⟨l.toArray⟩ : ByteArray)[4]'h5b).toNat = cb at *
  obtain ⟨bt, hbt⟩ : ∃ bt : Int, bt = (cb : Int) - 88 := ⟨_, rfl⟩
  have e1 : wrap64 (cb : Int) = cb := wrap64_id _ (by omega) (by omega)
  have e2 : wrap64 ((cb : Int) - 88) = bt := by rw [← hbt]; exact wrap64_id _ (by omega) (by omega)
  rw [e1, e2]
  have HBT : Hid (bitI' f true l = bt) := by unfold Hid bitI'; rw [HID.out, HCB.out, HL.out.2.2, hbt]; rfl
  have hb1 : -1000 ≤ bt := by omega
  have hb2 : bt ≤ 1000 := by omega
  have H3 : Hid (FsAt w (w2.drewN nq) ⟨0, 0, ⟨#[]⟩, 0, ((worth (l.take 4) : Nat) : Int), 0⟩) := H2.out.below' (below_drewN (Below.refl _ _) _)
  generalize w2.drewN nq = w3 at *
  clear H2 hset e1 e2 hbt hcb HCB
  by_cases h6 : bt < 0
  · have HNO : Hid (¬ okI f true l) := fun h => by have := h.2.1; rw [HBT.out] at this; omega
    have n0 := H3.out.n0
    have n1 := H3.out.n1
    have n2 := H3.out.n2
    have n3 := H3.out.n3
    have n4 := H3.out.n4
    have n5 := H3.out.n5
    have z0 := H3.out.z0
    have z1 := H3.out.z1
    have z2 := H3.out.z2
    have z3 := H3.out.z3
    have z4 := H3.out.z4
    have z5 := H3.out.z5
    have y0 := H3.out.zf 0 (by omega)
    have y1 := H3.out.zf 1 (by omega)
    have y2 := H3.out.zf 2 (by omega)
    have y3 := H3.out.zf 3 (by omega)
    have y4 := H3.out.zf 4 (by omega)
    have y5 := H3.out.zf 5 (by omega)
    simp only at n0 n1 n2 n3 n4 n5
    go_wp2_with (first | (go_at_call 37; refine Calls.mono (KS.out _) ?_; rintro e w5 ⟨rfl, hw5⟩; subst hw5) | (go_at_call 51; refine Calls.mono (KA.out _) ?_; rintro e w5 ⟨rfl, hw5⟩; subst hw5))
    refine bodyPost_ret (v := .tuple #[.agg #[.int .i64 0, .int .u64 0, .string ⟨#[]⟩, .int .i64 0, .int .u32 (((worth (l.take 4) : Nat) : Int)), .int .u32 0], .int .i64 0]) (by simp [results, Tryz.results45, go_sem, z0, z1, z2, z3, z4, z5]) rfl ?_
    exact ⟨H3.out.fin _ _ _ _ _ _, Or.inr ⟨HNO.out, _, rfl⟩⟩
  have h6' : ¬ (bt < 0) := h6
  have e8 : wrap64 (8 * (N : Int)) = 8 * (N : Int) := wrap64_id _ (by omega) (by omega)
  by_cases h7 : 8 * (N : Int) < bt
  · have HNO : Hid (¬ okI f true l) := fun h => by have := h.2.2.1; rw [HBT.out, HN.out] at this; omega
    have n0 := H3.out.n0
    have n1 := H3.out.n1
    have n2 := H3.out.n2
    have n3 := H3.out.n3
    have n4 := H3.out.n4
    have n5 := H3.out.n5
    have z0 := H3.out.z0
    have z1 := H3.out.z1
    have z2 := H3.out.z2
    have z3 := H3.out.z3
    have z4 := H3.out.z4
    have z5 := H3.out.z5
    have y0 := H3.out.zf 0 (by omega)
    have y1 := H3.out.zf 1 (by omega)
    have y2 := H3.out.zf 2 (by omega)
    have y3 := H3.out.zf 3 (by omega)
    have y4 := H3.out.zf 4 (by omega)
    have y5 := H3.out.zf 5 (by omega)
    simp only at n0 n1 n2 n3 n4 n5
    go_wp2_with (first | (go_at_call 37; refine Calls.mono (KS.out _) ?_; rintro e w5 ⟨rfl, hw5⟩; subst hw5) | (go_at_call 51; refine Calls.mono (KA.out _) ?_; rintro e w5 ⟨rfl, hw5⟩; subst hw5))
    refine bodyPost_ret (v := .tuple #[.agg #[.int .i64 0, .int .u64 0, .string ⟨#[]⟩, .int .i64 0, .int .u32 (((worth (l.take 4) : Nat) : Int)), .int .u32 0], .int .i64 0]) (by simp [results, Tryz.results45, go_sem, z0, z1, z2, z3, z4, z5]) rfl ?_
    exact ⟨H3.out.fin _ _ _ _ _ _, Or.inr ⟨HNO.out, _, rfl⟩⟩
  have h7' : ¬ (8 * (N : Int) < bt) := h7
  obtain ⟨bn, rfl⟩ := Int.eq_ofNat_of_zero_le (by omega : 0 ≤ bt)
  obtain ⟨nb, hnb⟩ : ∃ nb, nb = (bn + 7) / 8 := ⟨_, rfl⟩
  have HNB : Hid (byN (bn : Int) = (nb : Int)) := by unfold Hid; rw [byN_nat, hnb]
  have e9 : wrap64 ((bn : Int) + 7) = (bn : Int) + 7 := wrap64_id _ (by omega) (by omega)
  have e10 : wrap64 (((bn : Int) + 7).tdiv 8) = (nb : Int) := by
    have := HNB.out
    unfold byN at this
    rw [this]; exact wrap64_id _ (by omega) (by omega)
  obtain ⟨tt, htt⟩ : ∃ tt : Int, tt = 16 + (nb : Int) := ⟨_, rfl⟩
  have HTT : Hid (tt = 16 + (nb : Int)) := htt
  have hnb16 : nb ≤ 16 := by omega
  have e11 : wrap64 (16 + (nb : Int)) = tt := by rw [htt]; exact wrap64_id _ (by omega) (by omega)
  have e12 : 16 + (nb : Int) = tt := htt.symm
  clear htt
  by_cases h8 : (l.length : Int) < tt
  · have HNO : Hid (¬ okI f true l) := fun h => by have := h.2.2.2.1; rw [HBT.out, HHD.out, HNB.out] at this; have := HTT.out; omega
    have n0 := H3.out.n0
    have n1 := H3.out.n1
    have n2 := H3.out.n2
    have n3 := H3.out.n3
    have n4 := H3.out.n4
    have n5 := H3.out.n5
    have z0 := H3.out.z0
    have z1 := H3.out.z1
    have z2 := H3.out.z2
    have z3 := H3.out.z3
    have z4 := H3.out.z4
    have z5 := H3.out.z5
    have y0 := H3.out.zf 0 (by omega)
    have y1 := H3.out.zf 1 (by omega)
    have y2 := H3.out.zf 2 (by omega)
    have y3 := H3.out.zf 3 (by omega)
    have y4 := H3.out.zf 4 (by omega)
    have y5 := H3.out.zf 5 (by omega)
    simp only at n0 n1 n2 n3 n4 n5
    go_wp2_with (first | (go_at_call 37; refine Calls.mono (KS.out _) ?_; rintro e w5 ⟨rfl, hw5⟩; subst hw5) | (go_at_call 51; refine Calls.mono (KA.out _) ?_; rintro e w5 ⟨rfl, hw5⟩; subst hw5))
    refine bodyPost_ret (v := .tuple #[.agg #[.int .i64 0, .int .u64 0, .string ⟨#[]⟩, .int .i64 0, .int .u32 (((worth (l.take 4) : Nat) : Int)), .int .u32 0], .int .i64 0]) (by simp [results, Tryz.results45, go_sem, z0, z1, z2, z3, z4, z5]) rfl ?_
    exact ⟨H3.out.fin _ _ _ _ _ _, Or.inr ⟨HNO.out, _, rfl⟩⟩
  have h8' : ¬ ((l.length : Int) < tt) := h8
  have h8n : 16 + nb ≤ l.length := by have := HTT.out; omega
  have i5 : (5 : Int) < (⟨l.toArray⟩ : ByteArray).size := by rw [list_size]; omega
  have j5 : 5 < (⟨l.toArray⟩ : ByteArray).size := by rw [list_size]; omega
  have k5 : (5 : Int) < (l.length : Int) := by omega
  have q5 : wrap64 (5 + 0) = 5 := by unfold wrap64; omega
  have i6 : (6 : Int) < (⟨l.toArray⟩ : ByteArray).size := by rw [list_size]; omega
  have j6 : 6 < (⟨l.toArray⟩ : ByteArray).size := by rw [list_size]; omega
  have k6 : (6 : Int) < (l.length : Int) := by omega
  have q6 : wrap64 (5 + 1) = 6 := by unfold wrap64; omega
  have i7 : (7 : Int) < (⟨l.toArray⟩ : ByteArray).size := by rw [list_size]; omega
  have j7 : 7 < (⟨l.toArray⟩ : ByteArray).size := by rw [list_size]; omega
  have k7 : (7 : Int) < (l.length : Int) := by omega
  have q7 : wrap64 (5 + 2) = 7 := by unfold wrap64; omega
  go_wp2_with (first | (go_at_call 49; refine Calls.mono (KL.out _) ?_; rintro e w5 ⟨rfl, hw5⟩; subst hw5) | (go_at_call 37; refine Calls.mono (KS.out _) ?_; rintro e w5 ⟨rfl, hw5⟩; subst hw5) | (go_at_call 51; refine Calls.mono (KA.out _) ?_; rintro e w5 ⟨rfl, hw5⟩; subst hw5))
  go_quiet (fail)
  have HV3 : Hid (labV f true l = ((⟨l.toArray⟩ : ByteArray)[5]'j5).toNat * 65536 + ((⟨l.toArray⟩ : ByteArray)[6]'j6).toNat * 256 + ((⟨l.toArray⟩ : ByteArray)[7]'j7).toNat) := by
    unfold Hid labV
    rw [HID.out, HL.out.1, three_at l 5 (by omega), worth3b]
    rfl
  have x1 : ((⟨l.toArray⟩ : ByteArray)[5]'j5).toNat < 256 := UInt8.toNat_lt _
  have x2 : ((⟨l.toArray⟩ : ByteArray)[6]'j6).toNat < 256 := UInt8.toNat_lt _
  have x3 : ((⟨l.toArray⟩ : ByteArray)[7]'j7).toNat < 256 := UInt8.toNat_lt _
  generalize ((⟨l.toArray⟩ : ByteArray)[5]'j5).toNat = b1 at *
  generalize ((⟨l.toArray⟩ : ByteArray)[6]'j6).toNat = b2 at *
  generalize ((⟨l.toArray⟩ : ByteArray)[7]'j7).toNat = b3 at *
  rw [lab_form b1 b2 b3 x1 x2 x3]
  have hVlt : b1 * 65536 + b2 * 256 + b3 < 16777216 := by omega
  generalize b1 * 65536 + b2 * 256 + b3 = V at *
  have H4 : Hid (FsAt w (w5.drewN nq) ⟨0, 0, ⟨#[]⟩, 0, ((worth (l.take 4) : Nat) : Int), 0⟩) := H3.out.below' (below_drewN (Below.refl _ _) _)
  generalize w5.drewN nq = w6 at *
  have hv1 := and1_u32 V (by omega)
  clear H3 x1 x2 x3 KA
  have hmk := made_bytes N (by omega)
  by_cases hr : V % 2 = 0 ∧ V ≠ 8388608
  · have hv0 : bits .and .u32 (V : Int) 1 = 0 := by rw [hv1, hr.1]; rfl
    have hn1 : ((V : Int) == 8388608) = false := by simp; omega
    have hn2 : ((V : Int) != 8388608) = true := by simp; omega
    have HLV : Hid (labI V = (0, false)) := by unfold Hid labI; rw [if_neg hr.2, if_pos hr.1]
    clear hv1 hr
    have HNO : Hid (¬ okI f true l) := fun h => by have := h.2.2.2.2; rw [HL.out.1, HV3.out, HLV.out] at this; simp at this
    have n0 := H4.out.n0
    have n1 := H4.out.n1
    have n2 := H4.out.n2
    have n3 := H4.out.n3
    have n4 := H4.out.n4
    have n5 := H4.out.n5
    have z0 := H4.out.z0
    have z1 := H4.out.z1
    have z2 := H4.out.z2
    have z3 := H4.out.z3
    have z4 := H4.out.z4
    have z5 := H4.out.z5
    have y0 := H4.out.zf 0 (by omega)
    have y1 := H4.out.zf 1 (by omega)
    have y2 := H4.out.zf 2 (by omega)
    have y3 := H4.out.zf 3 (by omega)
    have y4 := H4.out.zf 4 (by omega)
    have y5 := H4.out.zf 5 (by omega)
    simp only at n0 n1 n2 n3 n4 n5
    go_wp2
    refine bodyPost_ret (v := .tuple #[.agg #[.int .i64 0, .int .u64 0, .string ⟨#[]⟩, .int .i64 0, .int .u32 (((worth (l.take 4) : Nat) : Int)), .int .u32 0], .int .i64 0]) (by simp [results, Tryz.results45, go_sem, z0, z1, z2, z3, z4, z5]) rfl ?_
    exact ⟨H4.out.fin _ _ _ _ _ _, Or.inr ⟨HNO.out, _, rfl⟩⟩
  by_cases h80 : V = 8388608
  · subst h80
    have hv0 : bits .and .u32 (8388608 : Int) 1 = 0 := hv1
    have HLV : Hid (((labI 8388608).1 : Nat) = 0 ∧ (labI 8388608).2 = true) := ⟨rfl, rfl⟩
    obtain ⟨LB, hLB⟩ : ∃ LB : Int, LB = 0 := ⟨_, rfl⟩
    have H4b : Hid (FsAt w w6 ⟨0, 0, ⟨#[]⟩, 0, ((worth (l.take 4) : Nat) : Int), LB⟩) := by unfold Hid; rw [hLB]; exact H4.out
    have HLB : Hid (LB = (((labI (labV f true l)).1 : Nat) : Int) ∧ (labI (labV f true l)).2 = true) := by unfold Hid; rw [HV3.out, hLB]; exact ⟨rfl, rfl⟩
    have n0 := H4b.out.n0
    have y0 := H4b.out.nf 0 (by omega)
    obtain ⟨w8, hset0⟩ : ∃ w8, w6.setCell ⟨w.heap.size + 1, 0, none⟩ (.int .i64 f) = w8 := ⟨_, rfl⟩
    have H8 : Hid (FsAt w w8 ⟨f, 0, ⟨#[]⟩, 0, ((worth (l.take 4) : Nat) : Int), LB⟩) := hset0 ▸ H4b.out.set 0 _ _ rfl (by omega)
    simp only at n0
    clear hv1 hr HLV hLB HV3 H4 H4b
    go_wp2_with (first | (go_at_call 52; refine Calls.mono (KD.out _) ?_; rintro e wk ⟨rfl, hwk⟩; obtain rfl : w8 = wk := hwk.symm; clear hwk) | (go_at_call 49; refine Calls.mono (KL.out _) ?_; rintro e wk ⟨rfl, hwk⟩; obtain rfl : w3 = wk := hwk.symm; clear hwk))
    clear hset0 n0 y0
    have n1 := H8.out.n1
    have y1 := H8.out.nf 1 (by omega)
    simp only at n1
    have s1 : (8 : Int) ≤ (l.length : Int) := by omega
    have s2 : (12 : Int) ≤ (l.length : Int) := by omega
    have s3 : IntKind.i64.wrap ((8 : Int) + 4) = 12 := by rw [IntKind.wrap_i64]; rfl
    have s4 : wrap64 ((8 : Int) + 4) = 12 := by unfold wrap64; rfl
    have s9 : (12 : Int) ≤ ((⟨l.toArray⟩ : ByteArray).size : Int) := by rw [list_size]; omega
    have s10 : 12 ≤ (⟨l.toArray⟩ : ByteArray).size := by rw [list_size]; omega
    have s11 : (8 : Int) + 4 ≤ ((⟨l.toArray⟩ : ByteArray).size : Int) := by rw [list_size]; omega
    have s12 : 8 + 4 ≤ (⟨l.toArray⟩ : ByteArray).size := by rw [list_size]; omega
    have s15 : IntKind.i64.wrap (12 : Int) = 12 := by rw [IntKind.wrap_i64]; rfl
    have s16 : wrap64 (12 : Int) = 12 := by unfold wrap64; rfl
    have s13 : ¬ ((l.length : Int) < 12) := by omega
    have s14 : ¬ (l.length < 12) := by omega
    have s5 : (8 : Int) + 4 ≤ (l.length : Int) := by omega
    have s6 : 12 ≤ l.length := by omega
    have s7 : 8 + 4 ≤ l.length := by omega
    have s8 : ((8 : Int) + 4) = 12 := rfl
    have KN1 : Hid (∀ W, Calls Tryz.prog 77 #[.string ((⟨l.toArray⟩ : ByteArray).extract 8 l.length)] W fun e w' => e = .returned (.int .u32 (worth ((l.drop 8).take 4) : Nat)) ∧ Below W.heap.size W w') := fun W => num4_l l 8 W (by omega) (by omega)
    have KN2 : Hid (∀ W, Calls Tryz.prog 77 #[.string ((⟨l.toArray⟩ : ByteArray).extract 12 l.length)] W fun e w' => e = .returned (.int .u32 (worth ((l.drop 12).take 4) : Nat)) ∧ Below W.heap.size W w') := fun W => num4_l l 12 W (by omega) (by omega)
    have HW8 : Hid (worth ((l.drop 8).take 8) = worth ((l.drop 8).take 4) * 4294967296 + worth ((l.drop 12).take 4)) := worth8 l 8 (by omega)
    have hx1 := worth4_lt (l.drop 8)
    have hx2 := worth4_lt (l.drop 12)
    generalize worth ((l.drop 8).take 4) = X1 at *
    generalize worth ((l.drop 12).take 4) = X2 at *
    have hlt8 : w.heap.size + 1 < w8.heap.size := by have := H8.out.siz; omega
    have k1 : IntKind.u64.wrap (X1 : Int) = X1 := by rw [IntKind.wrap_u64]; omega
    have k2 : IntKind.u64.wrap (X2 : Int) = X2 := by rw [IntKind.wrap_u64]; omega
    have k3 : IntKind.u64.wrap ((X1 : Int) * 4294967296) = (X1 : Int) * 4294967296 := by rw [IntKind.wrap_u64]; omega
    go_region_held (fun _ => True) (trivial)
      (first | (go_at_call_of 77 (Value.string ((⟨l.toArray⟩ : ByteArray).extract 8 l.length)); refine Calls.mono (KN1.out _) ?_; rintro e wa ⟨rfl, hba⟩; have u1 := below_cell (w := w8.drew) hba n1; have u2 := (hba.frozen (p := ⟨w.heap.size + 1, 1, none⟩) hlt8).trans y1) | (go_at_call_of 77 (Value.string ((⟨l.toArray⟩ : ByteArray).extract 12 l.length)); refine Calls.mono (KN2.out _) ?_; rintro e wb ⟨rfl, hbb⟩; have v1 := below_cell hbb u1; have v2 := (hbb.frozen (p := ⟨w.heap.size + 1, 1, none⟩) (lt_of_cell u1)).trans u2))
    rw [or_hi X1 X2 hx1 hx2]
    obtain ⟨RD, hRD⟩ : ∃ RD : Int, ((X1 * 4294967296 + X2 : Nat) : Int) = RD := ⟨_, rfl⟩
    rw [hRD]
    have HRD : Hid (((worth ((l.drop 8).take 8) : Nat) : Int) = RD) := by unfold Hid; rw [HW8.out]; exact hRD
    have H8b : Hid (FsAt w wb ⟨f, 0, ⟨#[]⟩, 0, ((worth (l.take 4) : Nat) : Int), LB⟩) := ((H8.out.below' (Below.refl _ _).drew).below' hba).below' hbb
    obtain ⟨w10, hset1⟩ : ∃ w10, wb.setCell ⟨w.heap.size + 1, 1, none⟩ (.int .u64 RD) = w10 := ⟨_, rfl⟩
    have H10 : Hid (FsAt w w10 ⟨f, RD, ⟨#[]⟩, 0, ((worth (l.take 4) : Nat) : Int), LB⟩) := hset1 ▸ H8b.out.set 1 _ _ rfl (by omega)
    rw [hset1]
    clear hset1 H8 H8b hba hbb u1 u2 v1 v2 n1 y1 hRD HW8 KN1 KN2 hx1 hx2 k1 k2 k3 s1 s2 s3 s4 s5 s6 s7 s8 s9 s10 s11 s12 s13 s14 s15 s16 hlt8
    go_wp2
    clear hmk
    have H9 : Hid (FsAt w (w10.alloc (.cells (madeCells #[.int .u8 0] N) 5)) ⟨f, RD, ⟨#[]⟩, 0, ((worth (l.take 4) : Nat) : Int), LB⟩) := H10.out.below' ((Below.refl _ _).alloc (Nat.le_refl _) _)
    have hrb : w.heap.size + 2 ≤ w10.heap.size := H10.out.siz
    obtain ⟨R, hR⟩ : ∃ R : List UInt8, R = (l.drop 16).take nb := ⟨_, rfl⟩
    have HM : Hid (Row (w10.alloc (.cells (madeCells #[.int .u8 0] N) 5)) w10.heap.size (adr R 0 N)) := by unfold Hid; rw [adr_zero]; exact Row.made w10 N _ rfl
    clear H10
    generalize w10.alloc (.cells (madeCells #[.int .u8 0] N) 5) = w9 at *
    generalize w10.heap.size = rb at *
    have HRB : Hid (w.heap.size + 2 ≤ rb) := hrb
    have HR : Hid (R = (l.drop 16).take nb) := hR
    have HNBE : Hid (nb = (bn + 7) / 8) := hnb
    have HBN : Hid (bn ≤ 8 * N) := by unfold Hid; omega
    clear hrb hR hnb
    go_loopw [14] (fun i wr => ∃ k : Nat, k ≤ bn ∧ i = .int .i64 k ∧ Row wr rb (adr R k N) ∧ FsAt w wr ⟨f, RD, ⟨#[]⟩, 0, ((worth (l.take 4) : Nat) : Int), LB⟩) (fun i _ => bn - (intOf i).toNat)
    case atStart => exact ⟨0, Nat.zero_le _, rfl, HM.out, H9.out⟩
    case round =>
      obtain ⟨k, hk, rfl, hrow, hfs⟩ := hrel
      by_cases hlt : k < bn
      · have hkN : k / 8 < N := by have := HBN.out; omega
        have hkn : k / 8 < nb := by have := HNBE.out; omega
        have hq : k / 8 < (adr R k N).length := by rw [adr_length]; exact hkN
        have hc := (hrow (k / 8) hq).1
        have hf := (hrow (k / 8) hq).2
        have hix : 16 + k / 8 < l.length := by omega
        have HBY : Hid (bitAt R k = (((⟨l.toArray⟩ : ByteArray)[16 + k / 8]'(by rw [list_size]; exact hix)).toNat / 2 ^ (7 - k % 8) % 2)) := by
          unfold Hid bitAt
          rw [HR.out, List.getD_eq_getElem?_getD, List.getElem?_take, if_pos hkn, List.getElem?_drop, List.getElem?_eq_getElem hix, Option.getD_some]
          rfl
        have hb256 : ((⟨l.toArray⟩ : ByteArray)[16 + k / 8]'(by rw [list_size]; exact hix)).toNat < 256 := UInt8.toNat_lt _
        have HRW : Hid (Row wr rb (adr R k N)) := hrow
        have HFS : Hid (FsAt w wr ⟨f, RD, ⟨#[]⟩, 0, ((worth (l.take 4) : Nat) : Int), LB⟩) := hfs
        clear hrow hfs
        have hsz : 16 + k / 8 < (⟨l.toArray⟩ : ByteArray).size := by rw [list_size]; exact hix
        have hsz2 : (16 : Int) + (k : Int) / 8 < (⟨l.toArray⟩ : ByteArray).size := by rw [list_size]; omega
        have hsz3 : ((16 + k / 8 : Nat) : Int) < (⟨l.toArray⟩ : ByteArray).size := by rw [list_size]; omega
        have hsz4 : (16 : Int) + (k : Int) / 8 < (l.length : Int) := by omega
        have ht1 : ((16 : Int) + (k : Int) / 8).toNat = 16 + k / 8 := by omega
        have h01 : (0 : Int) ≤ (16 : Int) + (k : Int) / 8 := by omega
        have hq' : (k : Int) / 8 < N := by omega
        have hq0 : (0 : Int) ≤ (k : Int) / 8 := by omega
        have hqt : ((k : Int) / 8).toNat = k / 8 := by omega
        have hq3 : ((k / 8 : Nat) : Int) < N := by omega
        have hq4 : (0 : Int) ≤ ((k / 8 : Nat) : Int) := by omega
        have w1 : IntKind.i64.wrap ((k : Int) / 8) = (k : Int) / 8 := by rw [IntKind.wrap_i64]; omega
        have w2 : Int.tmod (k : Int) 8 = ((k % 8 : Nat) : Int) := by rw [Int.tmod_eq_emod_of_nonneg (by omega)]; rfl
        have w3' : IntKind.i64.wrap ((16 : Int) + (k : Int) / 8) = (16 : Int) + (k : Int) / 8 := by rw [IntKind.wrap_i64]; omega
        have HS : Hid (adr R (k + 1) N = (adr R k N).set (k / 8) ((adr R k N).getD (k / 8) 0 ||| UInt8.ofNat (bitAt R k * 2 ^ (7 - k % 8)))) := adr_succ R k N hkN
        have HVAL : Hid (bits .or .u8 (((adr R k N)[k / 8]'hq).toNat : Int) (bits .and .u8 (((⟨l.toArray⟩ : ByteArray)[16 + k / 8]'hsz).toNat : Int) ((128 : Int) / 2 ^ (k % 8))) = (((adr R k N)[k / 8]'hq ||| UInt8.ofNat (bitAt R k * 2 ^ (7 - k % 8))).toNat : Int)) := or_u8 _ _ _ (by
          rw [and_bit' _ _ hb256 (Nat.mod_lt _ (by decide)), HBY.out, Nat.mod_eq_of_lt (bitp_lt _ _)])
        go_wp2
        go_region
        go_wp2
        go_roundw
        case rel =>
          refine ⟨k + 1, by omega, by go_num, ?_, HFS.out.below (((Below.refl _ _).setCell (p := ⟨rb, k / 8, none⟩) HRB.out _).drew)⟩
          rw [HS.out, List.getD_eq_getElem?_getD, List.getElem?_eq_getElem hq, Option.getD_some, HVAL.out]
          exact (HRW.out.set (k / 8) _).drew
        case measure => simp [intOf]; omega
      · have hkb : bn = k := by omega
        subst hkb
        have hback := run_convert_bytes_back (P := Tryz.prog) wr 60 9 5 ⟨rb, 0, none⟩ N (adr R bn N) Tryz.underlying60 Tryz.underlying5 Tryz.underlying9 (fun j hj => by rw [addr_zero]; exact (hrow j hj).1)
        rw [adr_length] at hback
        have HFS : Hid (FsAt w wr ⟨f, RD, ⟨#[]⟩, 0, ((worth (l.take 4) : Nat) : Int), LB⟩) := hfs
        clear hrow hfs
        have n2 := HFS.out.n2
        have y2 := HFS.out.nf 2 (by omega)
        obtain ⟨AD, hAD⟩ : ∃ AD : ByteArray, AD = ⟨(adr R bn N).toArray⟩ := ⟨_, rfl⟩
        rw [← hAD] at hback
        have HAD : Hid (AD = ⟨(adr R bn N).toArray⟩) := hAD
        clear hAD
        obtain ⟨w11, hset2⟩ : ∃ w11, wr.setCell ⟨w.heap.size + 1, 2, none⟩ (.string AD) = w11 := ⟨_, rfl⟩
        have H11 : Hid (FsAt w w11 ⟨f, RD, AD, 0, ((worth (l.take 4) : Nat) : Int), LB⟩) := hset2 ▸ HFS.out.set 2 _ _ rfl (by omega)
        have n3 := H11.out.n3
        have y3 := H11.out.nf 3 (by omega)
        obtain ⟨w12, hset3⟩ : ∃ w12, w11.setCell ⟨w.heap.size + 1, 3, none⟩ (.int .i64 (bn : Int)) = w12 := ⟨_, rfl⟩
        have H12 : Hid (FsAt w w12 ⟨f, RD, AD, (bn : Int), ((worth (l.take 4) : Nat) : Int), LB⟩) := hset3 ▸ H11.out.set 3 _ _ rfl (by omega)
        simp only at n2 n3
        have HOK : Hid (okI f true l) := ⟨by rw [HID.out]; omega, by rw [HBT.out]; omega, by rw [HBT.out, HN.out]; omega, by rw [HBT.out, HHD.out, HNB.out]; omega, Or.inr HLB.out.2⟩
        have HNL : Hid (nlI f true l = ⟨f, RD, AD, (bn : Int), ((worth (l.take 4) : Nat) : Int), LB⟩) := by
          unfold Hid nlI
          rw [HBT.out, HHD.out, HNB.out, HN.out, HAD.out, HR.out, HLB.out.1]
          simp only [HL.out.1, HL.out.2.1, HID.out, Int.toNat_natCast, HRD.out]
          try rfl
        have HUS : Hid (((hdN f true + (byN (bitI' f true l)).toNat : Nat) : Int) = (16 : Int) + ((bn : Int) + 7) / 8) := by unfold Hid; rw [HBT.out, HHD.out, HNB.out, Int.toNat_natCast]; have := HNBE.out; omega
        have n0 := H12.out.n0
        have n1 := H12.out.n1
        have n2 := H12.out.n2
        have n3 := H12.out.n3
        have n4 := H12.out.n4
        have n5 := H12.out.n5
        have z0 := H12.out.z0
        have z1 := H12.out.z1
        have z2 := H12.out.z2
        have z3 := H12.out.z3
        have z4 := H12.out.z4
        have z5 := H12.out.z5
        have y0 := H12.out.zf 0 (by omega)
        have y1 := H12.out.zf 1 (by omega)
        have y2 := H12.out.zf 2 (by omega)
        have y3 := H12.out.zf 3 (by omega)
        have y4 := H12.out.zf 4 (by omega)
        have y5 := H12.out.zf 5 (by omega)
        simp only at n0 n1 n2 n3 n4 n5
        go_wp2
        refine bodyPost_ret (v := .tuple #[.agg #[.int .i64 f, .int .u64 RD, .string AD, .int .i64 (bn : Int), .int .u32 (((worth (l.take 4) : Nat) : Int)), .int .u32 LB], .int .i64 ((16 : Int) + ((bn : Int) + 7) / 8)]) (by simp [results, Tryz.results45, go_sem, z0, z1, z2, z3, z4, z5]) rfl ?_
        refine ⟨H12.out.fin _ _ _ _ _ _, Or.inl ⟨HOK.out, ?_⟩⟩
        rw [HNL.out, HUS.out]
  · have h2 : V % 2 = 1 := by omega
    have hv0 : bits .and .u32 (V : Int) 1 = 1 := by rw [hv1, h2]; rfl
    have hn1 : ((V : Int) == 8388608) = false := by simp; omega
    have hn2 : ((V : Int) != 8388608) = true := by simp; omega
    obtain ⟨LB, hLB⟩ : ∃ LB : Int, (V : Int) / 16 = LB := ⟨_, rfl⟩
    have HLB : Hid (LB = (((labI (labV f true l)).1 : Nat) : Int) ∧ (labI (labV f true l)).2 = true) := by unfold Hid; rw [HV3.out, ← hLB]; unfold labI; rw [if_neg h80, if_neg (by omega)]; exact ⟨by simp, rfl⟩
    have n5 := H4.out.n5
    have y5 := H4.out.nf 5 (by omega)
    obtain ⟨w7, hset5⟩ : ∃ w7, w6.setCell ⟨w.heap.size + 1, 5, none⟩ (.int .u32 LB) = w7 := ⟨_, rfl⟩
    have H7 : Hid (FsAt w w7 ⟨0, 0, ⟨#[]⟩, 0, ((worth (l.take 4) : Nat) : Int), LB⟩) := hset5 ▸ H4.out.set 5 _ _ rfl (by omega)
    simp only at n5
    have n0 := H7.out.n0
    have y0 := H7.out.nf 0 (by omega)
    obtain ⟨w8, hset0⟩ : ∃ w8, w7.setCell ⟨w.heap.size + 1, 0, none⟩ (.int .i64 f) = w8 := ⟨_, rfl⟩
    have H8 : Hid (FsAt w w8 ⟨f, 0, ⟨#[]⟩, 0, ((worth (l.take 4) : Nat) : Int), LB⟩) := hset0 ▸ H7.out.set 0 _ _ rfl (by omega)
    simp only at n0
    clear hv1 hr h2 h80 HV3 H4 H7
    go_wp2_with (first | (go_at_call 52; refine Calls.mono (KD.out _) ?_; rintro e wk ⟨rfl, hwk⟩; obtain rfl : w8 = wk := hwk.symm; clear hwk) | (go_at_call 49; refine Calls.mono (KL.out _) ?_; rintro e wk ⟨rfl, hwk⟩; obtain rfl : w3 = wk := hwk.symm; clear hwk))
    clear hset0 hset5 n0 y0 n5 y5 hv0 hn1 hn2
    have n1 := H8.out.n1
    have y1 := H8.out.nf 1 (by omega)
    simp only at n1
    have s1 : (8 : Int) ≤ (l.length : Int) := by omega
    have s2 : (12 : Int) ≤ (l.length : Int) := by omega
    have s3 : IntKind.i64.wrap ((8 : Int) + 4) = 12 := by rw [IntKind.wrap_i64]; rfl
    have s4 : wrap64 ((8 : Int) + 4) = 12 := by unfold wrap64; rfl
    have s9 : (12 : Int) ≤ ((⟨l.toArray⟩ : ByteArray).size : Int) := by rw [list_size]; omega
    have s10 : 12 ≤ (⟨l.toArray⟩ : ByteArray).size := by rw [list_size]; omega
    have s11 : (8 : Int) + 4 ≤ ((⟨l.toArray⟩ : ByteArray).size : Int) := by rw [list_size]; omega
    have s12 : 8 + 4 ≤ (⟨l.toArray⟩ : ByteArray).size := by rw [list_size]; omega
    have s15 : IntKind.i64.wrap (12 : Int) = 12 := by rw [IntKind.wrap_i64]; rfl
    have s16 : wrap64 (12 : Int) = 12 := by unfold wrap64; rfl
    have s13 : ¬ ((l.length : Int) < 12) := by omega
    have s14 : ¬ (l.length < 12) := by omega
    have s5 : (8 : Int) + 4 ≤ (l.length : Int) := by omega
    have s6 : 12 ≤ l.length := by omega
    have s7 : 8 + 4 ≤ l.length := by omega
    have s8 : ((8 : Int) + 4) = 12 := rfl
    have KN1 : Hid (∀ W, Calls Tryz.prog 77 #[.string ((⟨l.toArray⟩ : ByteArray).extract 8 l.length)] W fun e w' => e = .returned (.int .u32 (worth ((l.drop 8).take 4) : Nat)) ∧ Below W.heap.size W w') := fun W => num4_l l 8 W (by omega) (by omega)
    have KN2 : Hid (∀ W, Calls Tryz.prog 77 #[.string ((⟨l.toArray⟩ : ByteArray).extract 12 l.length)] W fun e w' => e = .returned (.int .u32 (worth ((l.drop 12).take 4) : Nat)) ∧ Below W.heap.size W w') := fun W => num4_l l 12 W (by omega) (by omega)
    have HW8 : Hid (worth ((l.drop 8).take 8) = worth ((l.drop 8).take 4) * 4294967296 + worth ((l.drop 12).take 4)) := worth8 l 8 (by omega)
    have hx1 := worth4_lt (l.drop 8)
    have hx2 := worth4_lt (l.drop 12)
    generalize worth ((l.drop 8).take 4) = X1 at *
    generalize worth ((l.drop 12).take 4) = X2 at *
    have hlt8 : w.heap.size + 1 < w8.heap.size := by have := H8.out.siz; omega
    have k1 : IntKind.u64.wrap (X1 : Int) = X1 := by rw [IntKind.wrap_u64]; omega
    have k2 : IntKind.u64.wrap (X2 : Int) = X2 := by rw [IntKind.wrap_u64]; omega
    have k3 : IntKind.u64.wrap ((X1 : Int) * 4294967296) = (X1 : Int) * 4294967296 := by rw [IntKind.wrap_u64]; omega
    go_region_held (fun _ => True) (trivial)
      (first | (go_at_call_of 77 (Value.string ((⟨l.toArray⟩ : ByteArray).extract 8 l.length)); refine Calls.mono (KN1.out _) ?_; rintro e wa ⟨rfl, hba⟩; have u1 := below_cell (w := w8.drew) hba n1; have u2 := (hba.frozen (p := ⟨w.heap.size + 1, 1, none⟩) hlt8).trans y1) | (go_at_call_of 77 (Value.string ((⟨l.toArray⟩ : ByteArray).extract 12 l.length)); refine Calls.mono (KN2.out _) ?_; rintro e wb ⟨rfl, hbb⟩; have v1 := below_cell hbb u1; have v2 := (hbb.frozen (p := ⟨w.heap.size + 1, 1, none⟩) (lt_of_cell u1)).trans u2))
    rw [or_hi X1 X2 hx1 hx2]
    obtain ⟨RD, hRD⟩ : ∃ RD : Int, ((X1 * 4294967296 + X2 : Nat) : Int) = RD := ⟨_, rfl⟩
    rw [hRD]
    have HRD : Hid (((worth ((l.drop 8).take 8) : Nat) : Int) = RD) := by unfold Hid; rw [HW8.out]; exact hRD
    have H8b : Hid (FsAt w wb ⟨f, 0, ⟨#[]⟩, 0, ((worth (l.take 4) : Nat) : Int), LB⟩) := ((H8.out.below' (Below.refl _ _).drew).below' hba).below' hbb
    obtain ⟨w10, hset1⟩ : ∃ w10, wb.setCell ⟨w.heap.size + 1, 1, none⟩ (.int .u64 RD) = w10 := ⟨_, rfl⟩
    have H10 : Hid (FsAt w w10 ⟨f, RD, ⟨#[]⟩, 0, ((worth (l.take 4) : Nat) : Int), LB⟩) := hset1 ▸ H8b.out.set 1 _ _ rfl (by omega)
    rw [hset1]
    clear hset1 H8 H8b hba hbb u1 u2 v1 v2 n1 y1 hRD HW8 KN1 KN2 hx1 hx2 k1 k2 k3 s1 s2 s3 s4 s5 s6 s7 s8 s9 s10 s11 s12 s13 s14 s15 s16 hlt8
    go_wp2
    clear hmk
    have H9 : Hid (FsAt w (w10.alloc (.cells (madeCells #[.int .u8 0] N) 5)) ⟨f, RD, ⟨#[]⟩, 0, ((worth (l.take 4) : Nat) : Int), LB⟩) := H10.out.below' ((Below.refl _ _).alloc (Nat.le_refl _) _)
    have hrb : w.heap.size + 2 ≤ w10.heap.size := H10.out.siz
    obtain ⟨R, hR⟩ : ∃ R : List UInt8, R = (l.drop 16).take nb := ⟨_, rfl⟩
    have HM : Hid (Row (w10.alloc (.cells (madeCells #[.int .u8 0] N) 5)) w10.heap.size (adr R 0 N)) := by unfold Hid; rw [adr_zero]; exact Row.made w10 N _ rfl
    clear H10
    generalize w10.alloc (.cells (madeCells #[.int .u8 0] N) 5) = w9 at *
    generalize w10.heap.size = rb at *
    have HRB : Hid (w.heap.size + 2 ≤ rb) := hrb
    have HR : Hid (R = (l.drop 16).take nb) := hR
    have HNBE : Hid (nb = (bn + 7) / 8) := hnb
    have HBN : Hid (bn ≤ 8 * N) := by unfold Hid; omega
    clear hrb hR hnb
    go_loopw [14] (fun i wr => ∃ k : Nat, k ≤ bn ∧ i = .int .i64 k ∧ Row wr rb (adr R k N) ∧ FsAt w wr ⟨f, RD, ⟨#[]⟩, 0, ((worth (l.take 4) : Nat) : Int), LB⟩) (fun i _ => bn - (intOf i).toNat)
    case atStart => exact ⟨0, Nat.zero_le _, rfl, HM.out, H9.out⟩
    case round =>
      obtain ⟨k, hk, rfl, hrow, hfs⟩ := hrel
      by_cases hlt : k < bn
      · have hkN : k / 8 < N := by have := HBN.out; omega
        have hkn : k / 8 < nb := by have := HNBE.out; omega
        have hq : k / 8 < (adr R k N).length := by rw [adr_length]; exact hkN
        have hc := (hrow (k / 8) hq).1
        have hf := (hrow (k / 8) hq).2
        have hix : 16 + k / 8 < l.length := by omega
        have HBY : Hid (bitAt R k = (((⟨l.toArray⟩ : ByteArray)[16 + k / 8]'(by rw [list_size]; exact hix)).toNat / 2 ^ (7 - k % 8) % 2)) := by
          unfold Hid bitAt
          rw [HR.out, List.getD_eq_getElem?_getD, List.getElem?_take, if_pos hkn, List.getElem?_drop, List.getElem?_eq_getElem hix, Option.getD_some]
          rfl
        have hb256 : ((⟨l.toArray⟩ : ByteArray)[16 + k / 8]'(by rw [list_size]; exact hix)).toNat < 256 := UInt8.toNat_lt _
        have HRW : Hid (Row wr rb (adr R k N)) := hrow
        have HFS : Hid (FsAt w wr ⟨f, RD, ⟨#[]⟩, 0, ((worth (l.take 4) : Nat) : Int), LB⟩) := hfs
        clear hrow hfs
        have hsz : 16 + k / 8 < (⟨l.toArray⟩ : ByteArray).size := by rw [list_size]; exact hix
        have hsz2 : (16 : Int) + (k : Int) / 8 < (⟨l.toArray⟩ : ByteArray).size := by rw [list_size]; omega
        have hsz3 : ((16 + k / 8 : Nat) : Int) < (⟨l.toArray⟩ : ByteArray).size := by rw [list_size]; omega
        have hsz4 : (16 : Int) + (k : Int) / 8 < (l.length : Int) := by omega
        have ht1 : ((16 : Int) + (k : Int) / 8).toNat = 16 + k / 8 := by omega
        have h01 : (0 : Int) ≤ (16 : Int) + (k : Int) / 8 := by omega
        have hq' : (k : Int) / 8 < N := by omega
        have hq0 : (0 : Int) ≤ (k : Int) / 8 := by omega
        have hqt : ((k : Int) / 8).toNat = k / 8 := by omega
        have hq3 : ((k / 8 : Nat) : Int) < N := by omega
        have hq4 : (0 : Int) ≤ ((k / 8 : Nat) : Int) := by omega
        have w1 : IntKind.i64.wrap ((k : Int) / 8) = (k : Int) / 8 := by rw [IntKind.wrap_i64]; omega
        have w2 : Int.tmod (k : Int) 8 = ((k % 8 : Nat) : Int) := by rw [Int.tmod_eq_emod_of_nonneg (by omega)]; rfl
        have w3' : IntKind.i64.wrap ((16 : Int) + (k : Int) / 8) = (16 : Int) + (k : Int) / 8 := by rw [IntKind.wrap_i64]; omega
        have HS : Hid (adr R (k + 1) N = (adr R k N).set (k / 8) ((adr R k N).getD (k / 8) 0 ||| UInt8.ofNat (bitAt R k * 2 ^ (7 - k % 8)))) := adr_succ R k N hkN
        have HVAL : Hid (bits .or .u8 (((adr R k N)[k / 8]'hq).toNat : Int) (bits .and .u8 (((⟨l.toArray⟩ : ByteArray)[16 + k / 8]'hsz).toNat : Int) ((128 : Int) / 2 ^ (k % 8))) = (((adr R k N)[k / 8]'hq ||| UInt8.ofNat (bitAt R k * 2 ^ (7 - k % 8))).toNat : Int)) := or_u8 _ _ _ (by
          rw [and_bit' _ _ hb256 (Nat.mod_lt _ (by decide)), HBY.out, Nat.mod_eq_of_lt (bitp_lt _ _)])
        go_wp2
        go_region
        go_wp2
        go_roundw
        case rel =>
          refine ⟨k + 1, by omega, by go_num, ?_, HFS.out.below (((Below.refl _ _).setCell (p := ⟨rb, k / 8, none⟩) HRB.out _).drew)⟩
          rw [HS.out, List.getD_eq_getElem?_getD, List.getElem?_eq_getElem hq, Option.getD_some, HVAL.out]
          exact (HRW.out.set (k / 8) _).drew
        case measure => simp [intOf]; omega
      · have hkb : bn = k := by omega
        subst hkb
        have hback := run_convert_bytes_back (P := Tryz.prog) wr 60 9 5 ⟨rb, 0, none⟩ N (adr R bn N) Tryz.underlying60 Tryz.underlying5 Tryz.underlying9 (fun j hj => by rw [addr_zero]; exact (hrow j hj).1)
        rw [adr_length] at hback
        have HFS : Hid (FsAt w wr ⟨f, RD, ⟨#[]⟩, 0, ((worth (l.take 4) : Nat) : Int), LB⟩) := hfs
        clear hrow hfs
        have n2 := HFS.out.n2
        have y2 := HFS.out.nf 2 (by omega)
        obtain ⟨AD, hAD⟩ : ∃ AD : ByteArray, AD = ⟨(adr R bn N).toArray⟩ := ⟨_, rfl⟩
        rw [← hAD] at hback
        have HAD : Hid (AD = ⟨(adr R bn N).toArray⟩) := hAD
        clear hAD
        obtain ⟨w11, hset2⟩ : ∃ w11, wr.setCell ⟨w.heap.size + 1, 2, none⟩ (.string AD) = w11 := ⟨_, rfl⟩
        have H11 : Hid (FsAt w w11 ⟨f, RD, AD, 0, ((worth (l.take 4) : Nat) : Int), LB⟩) := hset2 ▸ HFS.out.set 2 _ _ rfl (by omega)
        have n3 := H11.out.n3
        have y3 := H11.out.nf 3 (by omega)
        obtain ⟨w12, hset3⟩ : ∃ w12, w11.setCell ⟨w.heap.size + 1, 3, none⟩ (.int .i64 (bn : Int)) = w12 := ⟨_, rfl⟩
        have H12 : Hid (FsAt w w12 ⟨f, RD, AD, (bn : Int), ((worth (l.take 4) : Nat) : Int), LB⟩) := hset3 ▸ H11.out.set 3 _ _ rfl (by omega)
        simp only at n2 n3
        have HOK : Hid (okI f true l) := ⟨by rw [HID.out]; omega, by rw [HBT.out]; omega, by rw [HBT.out, HN.out]; omega, by rw [HBT.out, HHD.out, HNB.out]; omega, Or.inr HLB.out.2⟩
        have HNL : Hid (nlI f true l = ⟨f, RD, AD, (bn : Int), ((worth (l.take 4) : Nat) : Int), LB⟩) := by
          unfold Hid nlI
          rw [HBT.out, HHD.out, HNB.out, HN.out, HAD.out, HR.out, HLB.out.1]
          simp only [HL.out.1, HL.out.2.1, HID.out, Int.toNat_natCast, HRD.out]
          try rfl
        have HUS : Hid (((hdN f true + (byN (bitI' f true l)).toNat : Nat) : Int) = (16 : Int) + ((bn : Int) + 7) / 8) := by unfold Hid; rw [HBT.out, HHD.out, HNB.out, Int.toNat_natCast]; have := HNBE.out; omega
        have n0 := H12.out.n0
        have n1 := H12.out.n1
        have n2 := H12.out.n2
        have n3 := H12.out.n3
        have n4 := H12.out.n4
        have n5 := H12.out.n5
        have z0 := H12.out.z0
        have z1 := H12.out.z1
        have z2 := H12.out.z2
        have z3 := H12.out.z3
        have z4 := H12.out.z4
        have z5 := H12.out.z5
        have y0 := H12.out.zf 0 (by omega)
        have y1 := H12.out.zf 1 (by omega)
        have y2 := H12.out.zf 2 (by omega)
        have y3 := H12.out.zf 3 (by omega)
        have y4 := H12.out.zf 4 (by omega)
        have y5 := H12.out.zf 5 (by omega)
        simp only at n0 n1 n2 n3 n4 n5
        go_wp2
        refine bodyPost_ret (v := .tuple #[.agg #[.int .i64 f, .int .u64 RD, .string AD, .int .i64 (bn : Int), .int .u32 (((worth (l.take 4) : Nat) : Int)), .int .u32 LB], .int .i64 ((16 : Int) + ((bn : Int) + 7) / 8)]) (by simp [results, Tryz.results45, go_sem, z0, z1, z2, z3, z4, z5]) rfl ?_
        refine ⟨H12.out.fin _ _ _ _ _ _, Or.inl ⟨HOK.out, ?_⟩⟩
        rw [HNL.out, HUS.out]
end Go.Proofs.YtfhbgpepkplbaaaGreatDoor
namespace Go.Proofs.YtfhbgpepkplbaaaGreatDoor
open Go.RowKit
theorem first_any (f : Int) (add : Bool) (l : List UInt8) (w : World) (hle : l.length ≤ 1000000) (hne : ¬ l = []) :
    Calls Tryz.prog 45 #[.string ⟨l.toArray⟩, .int .i64 f, .bool add] w fun e w' => FirstOk f add l w e w' := by
  cases hd : dst f with
  | true =>
    have hl : lab f = true := by simp [lab, hd]
    cases add with
    | true => exact first_td f l w hl hd hle
    | false => exact first_fd f l w hl hd hle hne
  | false =>
    cases hl : lab f with
    | true =>
      cases add with
      | true => exact first_tl f l w hl hd hle
      | false => exact first_fl f l w hl hd hle hne
    | false =>
      cases add with
      | true => exact first_tn f l w hl hd hle
      | false => exact first_fn f l w hl hd hle hne
def strLen (v : Value) : Nat := match v with | .string b => b.size | _ => 0
theorem ext_l2 (l : List UInt8) (k : Nat) : (⟨l.toArray⟩ : ByteArray).extract k l.length = ⟨(l.drop k).toArray⟩ := by
  apply ByteArray.ext
  simp
  exact List.take_of_length_le (by simp)
set_option maxRecDepth 100000 in
set_option maxHeartbeats 3200000 in
theorem rdecode_any (f : Int) (add : Bool) (l : List UInt8) (w : World) (hz : szOf f ≠ 0) (hl : l.length ≤ 1000000) :
    Calls Tryz.prog 21 #[.string ⟨l.toArray⟩, .int .i64 f, .bool add] w fun e w' => DecOk (decI f add l.length l) w e w' := by
  obtain ⟨i0, hi, hz0, hz1, hz2⟩ := info_parts info27
  obtain ⟨X, hX⟩ : ∃ X, X = decI f add l.length l := ⟨_, rfl⟩
  have HX : Hid (_ = _) := hX
  rw [← hX]
  clear hX
  have hz' : (szOf f == 0) = false := by simpa using hz
  clear hz
  go_enter Tryz.func21, Tryz.ntmps21
  go_wp2_with fail
  refine (refsize_any f _).mono ?_
  rintro e w0 ⟨rfl, hw0⟩
  obtain rfl : w = w0 := hw0.symm
  clear hw0
  go_wp2
  clear hz'
  go_loopw [0, 8] (fun s t wr => ∃ (rest : List UInt8) (R : List Nl) (v : Value), .string ⟨rest.toArray⟩ = s ∧ v = t ∧ OwnN wr w.heap.size v R ∧ Below w.heap.size w wr ∧ R.length + rest.length ≤ l.length ∧ X = (decI f add (l.length - R.length) rest).map (R ++ ·)) (fun s _ _ => strLen s)
  case atStart => exact ⟨l, [], _, rfl, rfl, World.ownsRow_nil _ _ _ _, Below.refl _ _, by simp, by rw [HX.out]; simp⟩
  case round =>
    obtain ⟨rest, R, v, rfl, rfl, ho, hb, hlen, hx⟩ := hrel
    have HO : Hid (OwnN wr w.heap.size v R) := ho
    have HB : Hid (Below w.heap.size w wr) := hb
    have HXX : Hid (X = _) := hx
    have HLEN : Hid (_ ≤ _) := hlen
    have hlr : rest.length ≤ 1000000 := by omega
    have hlen2 : R.length ≤ 1000000 := by omega
    clear ho hb hx hlen
    by_cases hnil : rest = []
    · have HXN : Hid (X = some R) := by unfold Hid; rw [HXX.out, hnil, decI_nil]; simp
      subst hnil
      clear HXX
      go_wp2
      go_ret2
      rw [HXN.out]
      exact ⟨HB.out, v, rfl, HO.out⟩
    · have HNE : Hid (rest ≠ []) := hnil
      have hpos : (0 : Int) < rest.length := by cases rest with | nil => exact absurd rfl hnil | cons => simp
      have KF : Hid (_ : Prop) := first_any f add rest wr hlr hnil
      go_wp2_with fail
      refine Calls.mono KF.out ?_
      rintro e w4 ⟨hb4, he⟩
      rcases he with ⟨hok, rfl⟩ | ⟨hok, id, rfl⟩
      · have HN : Hid (X = (decI f add (l.length - (R.length + 1)) (restI f add rest)).map ((R ++ [nlI f add rest]) ++ ·)) := by
          unfold Hid
          have h1 := HLEN.out
          have h2 : 1 ≤ rest.length := by omega
          rw [HXX.out, show l.length - R.length = (l.length - (R.length + 1)) + 1 by omega, decI_step _ _ _ _ HNE.out hok]
          cases decI f add (l.length - (R.length + 1)) (restI f add rest) <;> simp
        have HLE : Hid ((restI f add rest).length + 1 ≤ rest.length) := rest_lt f add rest HNE.out
        have hu1 : hdN f add + (byN (bitI' f add rest)).toNat ≤ rest.length := by
          have h1 := hok.2.2.2.1
          have h0 := hok.2.1
          have : 0 ≤ byN (bitI' f add rest) := by rw [byN_eq _ h0]; omega
          omega
        have hu0 : 1 ≤ hdN f add + (byN (bitI' f add rest)).toNat := by unfold hdN; omega
        have HRE : Hid (restI f add rest = rest.drop (hdN f add + (byN (bitI' f add rest)).toNat)) := rfl
        generalize restI f add rest = rest' at *
        generalize hdN f add + (byN (bitI' f add rest)).toNat = u at *
        generalize nlI f add rest = n at *
        obtain ⟨nf, nr, ns, nl, nid, nlb⟩ := n
        simp only
        have hux : ((u : Int) == 0) = false := by simp; omega
        have hul : (u : Int) ≤ rest.length := by omega
        have HB4 : Hid (Below w.heap.size w w4) := HB.out.trans (hb4.mono HB.out.size)
        have HO4 : Hid (OwnN w4 w.heap.size v R) := owns_below HO.out hb4
        have h4 := HB4.out.size
        have hba : Below w4.heap.size w4 (w4.alloc (.cells #[.int .i64 nf, .int .u64 nr, .string ns, .int .i64 nl, .int .u32 nid, .int .u32 nlb] 27)) := (Below.refl _ _).alloc (Nat.le_refl _) _
        have HO5 : Hid (OwnN (w4.alloc (.cells #[.int .i64 nf, .int .u64 nr, .string ns, .int .i64 nl, .int .u32 nid, .int .u32 nlb] 27)) w.heap.size v R) := owns_below HO4.out hba
        have HB5 : Hid (Below w.heap.size w (w4.alloc (.cells #[.int .i64 nf, .int .u64 nr, .string ns, .int .i64 nl, .int .u32 nid, .int .u32 nlb] 27))) := HB4.out.trans (hba.mono h4)
        have HNW : Hid (∀ (j : Nat) (u : Value), ([.int .i64 nf, .int .u64 nr, .string ns, .int .i64 nl, .int .u32 nid, .int .u32 nlb] : List Value)[j]? = some u → ((w4.alloc (.cells #[.int .i64 nf, .int .u64 nr, .string ns, .int .i64 nl, .int .u32 nid, .int .u32 nlb] 27)).alloc (.cells #[.int .i64 nf, .int .u64 nr, .string ns, .int .i64 nl, .int .u32 nid, .int .u32 nlb] 27)).cell? (Addr.add ⟨w4.heap.size + 1, 0, none⟩ j) = some u) := by
          have h := news6 (w4.alloc (.cells #[.int .i64 nf, .int .u64 nr, .string ns, .int .i64 nl, .int .u32 nid, .int .u32 nlb] 27)) (.int .i64 nf) (.int .u64 nr) (.string ns) (.int .i64 nl) (.int .u32 nid) (.int .u32 nlb) 27
          rw [show (w4.alloc (.cells #[.int .i64 nf, .int .u64 nr, .string ns, .int .i64 nl, .int .u32 nid, .int .u32 nlb] 27)).heap.size = w4.heap.size + 1 by simp] at h
          exact h
        clear hba HO4 HB4 hb4 HO HB HXX hok hnil KF
        go_wp2_with (at_builtin; refine wpList_append_own _ rfl _ _ 35 rfl w.heap.size 27 i0 (.agg #[.int .i64 0, .int .u64 0, .string ⟨#[]⟩, .int .i64 0, .int .u32 0, .int .u32 0]) 6 48 Tryz.underlying35 hi hz0 hz1 hz2 rfl (by decide) _ _ _ rfl (World.ownsRow.alloc HO5.out _) ⟨w4.heap.size + 1, 0, none⟩ 1 1 [.int .i64 nf, .int .u64 nr, .string ns, .int .i64 nl, .int .u32 nid, .int .u32 nlb] rfl rfl HNW.out (six_nl _ _ _ _ _ _) (by unfold maxLen; omega) (by omega) (Nat.le_trans HB5.out.size (by simp)) ?_; intro v6 w6 hown6 hgrow6 _)
        have hos : OwnN w6 w.heap.size v6 (R ++ [⟨nf, nr, ns, nl, nid, nlb⟩]) := by
          unfold OwnN; rw [cellsN_snoc, List.length_append]; exact hown6
        have hbw : Below w.heap.size (w4.alloc (.cells #[.int .i64 nf, .int .u64 nr, .string ns, .int .i64 nl, .int .u32 nid, .int .u32 nlb] 27)) w6 := ((Below.refl _ _).alloc HB5.out.size _).grown hgrow6 (Nat.le_trans HB5.out.size (by simp)) (fun k e => (owns_lt HO5.out k e).1)
        have HB6 : Hid (Below w.heap.size w w6) := HB5.out.trans hbw
        clear hown6 hgrow6 hbw
        go_roundw
        case rel => exact ⟨rest', _, v6, by rw [HRE.out, ← ext_l2], rfl, hos, HB6.out, by have h1 := HLEN.out; have h2 := HLE.out; simp; omega, by rw [List.length_append]; exact HN.out⟩
        case measure => simp only [strLen, ext_l2, list_size, ← HRE.out]; have h2 := HLE.out; omega
      · have HXN : Hid (X = none) := by unfold Hid; rw [HXX.out, decI_bad _ _ _ _ HNE.out hok]; rfl
        have HB4 : Hid (Below w.heap.size w w4) := HB.out.trans (hb4.mono HB.out.size)
        clear hb4 HXX hok hnil KF
        go_wp2
        go_ret2
        rw [HXN.out]
        exact ⟨HB4.out.alloc HB4.out.size _, rfl⟩
end Go.Proofs.YtfhbgpepkplbaaaGreatDoor
