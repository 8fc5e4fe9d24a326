/-
  The contract of the reference's Cmp, for every two prefixes.
-/
import Derived.Test.YtfhbgpepkplbaaaGreatDoorR3
namespace Go.Proofs.YtfhbgpepkplbaaaGreatDoor
open Go.RowKit
theorem pcmp_f {fa ra : Int} {sa : ByteArray} {la fb rb : Int} {sb : ByteArray} {lb : Int} (h : fa ≠ fb) : pcmp fa ra sa la fb rb sb lb = ord fa fb := by
  unfold pcmp; rw [if_pos (fun e => h (ord_zero.1 e))]
theorem pcmp_r {fa ra : Int} {sa : ByteArray} {la rb : Int} {sb : ByteArray} {lb : Int} (h : ra ≠ rb) : pcmp fa ra sa la fa rb sb lb = ord ra rb := by
  unfold pcmp; rw [if_neg (by rw [ord_zero.2 rfl]; omega), if_pos (fun e => h (ord_zero.1 e))]
theorem pcmp_s {fa ra : Int} {sa : ByteArray} {la : Int} {sb : ByteArray} {lb : Int} (h : ordS sa.toList sb.toList ≠ 0) : pcmp fa ra sa la fa ra sb lb = ordS sa.toList sb.toList := by
  unfold pcmp; rw [if_neg (by rw [ord_zero.2 rfl]; omega), if_neg (by rw [ord_zero.2 rfl]; omega), if_pos h]
theorem pcmp_l {fa ra : Int} {sa : ByteArray} {la : Int} {sb : ByteArray} {lb : Int} (h : ordS sa.toList sb.toList = 0) : pcmp fa ra sa la fa ra sb lb = ord la lb := by
  unfold pcmp; rw [if_neg (by rw [ord_zero.2 rfl]; omega), if_neg (by rw [ord_zero.2 rfl]; omega), if_neg (by omega)]
theorem getD_at (s : ByteArray) (k : Nat) (h : k < s.size) : s[k] = s.data.toList.getD k 0 := by
  have h' : k < s.data.toList.length := by simpa using h
  rw [List.getD_eq_getElem?_getD, List.getElem?_eq_getElem h']; rfl
theorem ordS_byte (sa sb : ByteArray) (k : Nat) (h1 : k < sa.size) (h2 : k < sb.size) (h : ∀ j, j < k → sa.data.toList.getD j 0 = sb.data.toList.getD j 0) (hn : sa[k] ≠ sb[k]) : ordS sa.toList sb.toList = ord (sa[k].toNat : Int) (sb[k].toNat : Int) := by
  have l1 : k < sa.data.toList.length := by simpa using h1
  have l2 : k < sb.data.toList.length := by simpa using h2
  rw [ByteArray.toList_eq, ByteArray.toList_eq]
  refine ordS_diff sa.data.toList sb.data.toList k l1 l2 (fun j p q hj => ?_) hn
  have := h j hj
  rw [List.getD_eq_getElem?_getD, List.getD_eq_getElem?_getD, List.getElem?_eq_getElem p, List.getElem?_eq_getElem q] at this
  exact this
theorem ordS_len (sa sb : ByteArray) (h : ∀ j, j < sa.size → j < sb.size → sa.data.toList.getD j 0 = sb.data.toList.getD j 0) : ordS sa.toList sb.toList = ord (sa.size : Int) (sb.size : Int) := by
  have l1 : sa.data.toList.length = sa.size := by simp
  have l2 : sb.data.toList.length = sb.size := by simp
  rw [ByteArray.toList_eq, ByteArray.toList_eq, ← l1, ← l2]
  refine ordS_same _ _ fun j p q => ?_
  have := h j (by omega) (by omega)
  rw [List.getD_eq_getElem?_getD, List.getD_eq_getElem?_getD, List.getElem?_eq_getElem p, List.getElem?_eq_getElem q] at this
  exact this
set_option maxRecDepth 100000 in
set_option maxHeartbeats 1600000 in
theorem rcmp_any (fa ra : Int) (sa : ByteArray) (la : Int) (fb rb : Int) (sb : ByteArray) (lb : Int) (w : World) (hsa : sa.size ≤ maxLen) (hsb : sb.size ≤ maxLen) :
    Calls Tryz.prog 32 #[.agg #[.int .i64 fa, .int .u64 ra, .string sa, .int .i64 la], .agg #[.int .i64 fb, .int .u64 rb, .string sb, .int .i64 lb]] w fun e w' => e = .returned (.int .i64 (pcmp fa ra sa la fb rb sb lb)) ∧ Below w.heap.size w w' := by
  unfold maxLen at hsa hsb
  have hal : Below (w.heap.size + 1) (w.alloc (.cells #[.int .i64 fa, .int .u64 ra, .string sa, .int .i64 la] 24)) ((w.alloc (.cells #[.int .i64 fa, .int .u64 ra, .string sa, .int .i64 la] 24)).alloc (.cells #[.int .i64 fb, .int .u64 rb, .string sb, .int .i64 lb] 24)) := (Below.refl _ _).alloc (by simp) _
  have pa0 := (PfxAt.of_alloc w _ fa ra sa la rfl).kept hal (by omega)
  have pb0 := PfxAt.of_alloc (w.alloc (.cells #[.int .i64 fa, .int .u64 ra, .string sa, .int .i64 la] 24)) (w.heap.size + 1) fb rb sb lb (by simp)
  have hB0 : Below w.heap.size w ((w.alloc (.cells #[.int .i64 fa, .int .u64 ra, .string sa, .int .i64 la] 24)).alloc (.cells #[.int .i64 fb, .int .u64 rb, .string sb, .int .i64 lb] 24)) := ((Below.refl _ _).alloc (Nat.le_refl _) _).alloc (by simp) _
  have HP : Hid (PfxAt _ _ _ _ _ _) := pa0
  have HQ : Hid (PfxAt _ _ _ _ _ _) := pb0
  have HB0 : Hid (Below _ _ _) := hB0
  clear hal pa0 pb0 hB0
  by_cases e1 : fa = fb
  · subst e1
    by_cases e2 : ra = rb
    · subst e2
      go_enter Tryz.func32, Tryz.ntmps32
      go_wp2_with fail
      go_loopw [5] (fun i wr => ∃ k : Nat, (k ≤ sa.size ∧ k ≤ sb.size) ∧ i = .int .i64 k ∧ (∀ j, j < k → sa.data.toList.getD j 0 = sb.data.toList.getD j 0) ∧ PfxAt wr w.heap.size fa ra sa la ∧ PfxAt wr (w.heap.size + 1) fa ra sb lb ∧ Below w.heap.size w wr) (fun i _ => sa.size - (intOf i).toNat)
      case atStart => exact ⟨0, by omega, rfl, fun j h => by omega, HP.out, HQ.out, HB0.out⟩
      case round =>
        obtain ⟨k, hk, rfl, hall, qa, qb, qB⟩ := hrel
        have HA : Hid (∀ j, j < k → sa.data.toList.getD j 0 = sb.data.toList.getD j 0) := hall
        clear hall HP HQ HB0
        have x2 := qa.c2
        have x3 := qa.c3
        have y2 := qb.c2
        have y3 := qb.c3
        by_cases hlt : k < sa.size ∧ k < sb.size
        · obtain ⟨h1, h2⟩ := hlt
          have i1 : (k : Int) < sa.size := by omega
          have i2 : (k : Int) < sb.size := by omega
          have g1 : sa[k] = sa.data.toList.getD k 0 := getD_at sa k h1
          have g2 : sb[k] = sb.data.toList.getD k 0 := getD_at sb k h2
          by_cases hb : sa[k] = sb[k]
          · have HE : Hid (sa.data.toList.getD k 0 = sb.data.toList.getD k 0) := by unfold Hid; rw [← g1, ← g2]; exact hb
            have e3 : ((sa[k].toNat : Int) == (sb[k].toNat : Int)) = true := by rw [hb]; simp
            have e4 : ((sa[k].toNat : Int) != (sb[k].toNat : Int)) = false := by rw [hb]; simp
            clear g1 g2 hb
            go_wp2_with fail
            go_quiet (fail)
            go_wp2
            go_roundw
            case rel => exact ⟨k + 1, by omega, by go_num, fun j h => by
              by_cases e : j = k
              · subst e; exact HE.out
              · exact HA.out j (by omega), qa.drewN nq, qb.drewN nq, below_drewN qB nq⟩
            case measure => simp [intOf]; omega
          · have hne : sa[k].toNat ≠ sb[k].toNat := fun e => hb (UInt8.toNat_inj.1 e)
            have e3 : ((sa[k].toNat : Int) == (sb[k].toNat : Int)) = false := by simp only [beq_eq_false_iff_ne]; omega
            have e4 : ((sa[k].toNat : Int) != (sb[k].toNat : Int)) = true := by simp only [bne_iff_ne]; omega
            have HF : Hid (pcmp fa ra sa la fa ra sb lb = ord (sa[k].toNat : Int) (sb[k].toNat : Int)) := by
              unfold Hid
              have e := ordS_byte sa sb k h1 h2 HA.out hb
              rw [pcmp_s (by rw [e]; intro z; have := ord_zero.1 z; omega), e]
            clear g1 g2 hb hne
            have u1 := sa[k].toNat_lt
            have u2 := sb[k].toNat_lt
            go_wp2_with fail
            go_quiet (fail)
            have qa' := qa.drewN nq
            have qb' := qb.drewN nq
            have qB' := below_drewN qB nq
            clear x2 x3 y2 y3 qa qb qB
            generalize wr.drewN nq = wy at *
            have x2 := qa'.c2
            have y2 := qb'.c2
            go_wp2_with fail
            go_quiet ((go_at_call 63; refine Calls.quiet_of_same (order_any _ _ _)))
            go_wp2
            go_ret
            exact ⟨ret_int HF.out.symm, below_drewN qB' _⟩
        · by_cases h1 : k < sa.size
          · have i1 : (k : Int) < sa.size := by omega
            have i2 : ¬ ((k : Int) < sb.size) := by omega
            have hS := ordS_len sa sb fun j h1 h2 => HA.out j (by omega)
            have el : sa.size ≠ sb.size := by omega
            have HF : Hid (pcmp fa ra sa la fa ra sb lb = ord sa.size sb.size) := by
              unfold Hid
              rw [pcmp_s (by rw [hS]; intro z; have := ord_zero.1 z; omega), hS]
            have m1 : ((sa.size : Int) == (sb.size : Int)) = false := by simp only [beq_eq_false_iff_ne]; omega
            have m2 : ((sa.size : Int) != (sb.size : Int)) = true := by simp only [bne_iff_ne]; omega
            clear hS
            go_wp2_with (go_at_call 63; refine (order_any _ _ _).mono ?_; rintro e w' ⟨rfl, rfl⟩)
            go_ret
            exact ⟨ret_int HF.out.symm, qB⟩
          · have i1 : ¬ ((k : Int) < sa.size) := by omega
            have hS := ordS_len sa sb fun j h1 h2 => HA.out j (by omega)
            by_cases el : sa.size = sb.size
            · have HF : Hid (pcmp fa ra sa la fa ra sb lb = ord la lb) := pcmp_l (by rw [hS, ord_zero]; omega)
              have m1 : ((sa.size : Int) == (sb.size : Int)) = true := by simp [el]
              have m2 : ((sa.size : Int) != (sb.size : Int)) = false := by simp [el]
              clear hS
              go_wp2_with (go_at_call 63; refine (order_any _ _ _).mono ?_; rintro e w' ⟨rfl, rfl⟩)
              go_ret
              exact ⟨ret_int HF.out.symm, qB⟩
            · have HF : Hid (pcmp fa ra sa la fa ra sb lb = ord sa.size sb.size) := by
                unfold Hid
                rw [pcmp_s (by rw [hS]; intro z; have := ord_zero.1 z; omega), hS]
              have m1 : ((sa.size : Int) == (sb.size : Int)) = false := by simp only [beq_eq_false_iff_ne]; omega
              have m2 : ((sa.size : Int) != (sb.size : Int)) = true := by simp only [bne_iff_ne]; omega
              clear hS
              go_wp2_with (go_at_call 63; refine (order_any _ _ _).mono ?_; rintro e w' ⟨rfl, rfl⟩)
              go_ret
              exact ⟨ret_int HF.out.symm, qB⟩
    · have HF : Hid (pcmp fa ra sa la fa rb sb lb = ord ra rb) := pcmp_r e2
      have n2 : (ra != rb) = true := by simpa using e2
      have n3 : (ra == rb) = false := by simpa using e2
      by_cases c : ra < rb
      · have HO : Hid (ord ra rb = -1) := ord_lt c
        go_enter Tryz.func32, Tryz.ntmps32
        go_wp2
        go_ret
        exact ⟨ret_int (by rw [HF.out, HO.out]), HB0.out⟩
      · have HO : Hid (ord ra rb = 1) := ord_gt (by omega)
        go_enter Tryz.func32, Tryz.ntmps32
        go_wp2
        go_ret
        exact ⟨ret_int (by rw [HF.out, HO.out]), HB0.out⟩
  · have HF : Hid (pcmp fa ra sa la fb rb sb lb = ord fa fb) := pcmp_f e1
    have n2 : (fa != fb) = true := by simpa using e1
    have n3 : (fa == fb) = false := by simpa using e1
    go_enter Tryz.func32, Tryz.ntmps32
    go_wp2_with (go_at_call 63; refine (order_any _ _ _).mono ?_; rintro e w' ⟨rfl, rfl⟩)
    go_ret
    exact ⟨ret_int HF.out.symm, HB0.out⟩
end Go.Proofs.YtfhbgpepkplbaaaGreatDoor
