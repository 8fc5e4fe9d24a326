/-
  The reference's Cut, for every prefix and number.
-/
import Derived.Test.YtkgedoedojkdkaaDoorR3
import Derived.Test.YtkgedoedojkdkaaDoorB6
import Derived.Deep.RegionWith
import Derived.RegionTactic
import Derived.Laws.BitsAllLaws
import Derived.Laws.OwnMore
import Derived.Laws.MakeOwn
set_option linter.unusedVariables false
set_option linter.unusedSimpArgs false
set_option maxRecDepth 100000
namespace Go.Proofs.YtkgedoedojkdkaaDoor
open Go.RowKit
theorem info5b : (Tryd.prog.info? 5).map (fun i => (i.zero, i.size, i.bytes)) = some (some (.int .u8 0), 1, 1) := by kernel_rfl
theorem made_bytes (n : Nat) (h : n ≤ 1000) (w : World) : (Instr.makeSlice 59 (.int .i64 (n : Int)) (.int .i64 (n : Int))).run Tryd.prog w = .ok (.slice (some ⟨w.heap.size, 0, none⟩) n n) (w.alloc (.cells (madeCells #[.int .u8 0] n) 5)) := by
  obtain ⟨i0, hi, hz0, hz1, hz2⟩ := info_parts info5b
  have h := run_make w 59 5 i0 (.int .u8 0) Tryd.underlying59 hi hz0 .i64 .i64 n n (by omega) (by omega) (by rw [hz2]; omega) (by omega)
  rw [hz1, Int.toNat_natCast, Nat.mul_one] at h
  exact h
theorem Row.made (w : World) (n b : Nat) (hb : b = w.heap.size) : Row (w.alloc (.cells (madeCells #[.int .u8 0] n) 5)) b (List.replicate n 0) := by
  subst hb
  intro j hj
  have hj' : j < n := by simpa using hj
  refine ⟨?_, by simp⟩
  rw [World.cell?_alloc_at _ _ _ _ rfl]
  simp [madeCells, hj', Nat.mod_one]
theorem byte_step : ∀ b : Fin 256, ∀ j : Fin 8, ((b.val &&& (mk (j.val : Int)).toNat) ||| ((b.val / 2 ^ (7 - j.val) % 2) * 2 ^ (7 - j.val)) % 256) = (b.val &&& (mk ((j.val : Int) + 1)).toNat) := by decide +kernel
theorem msk_zero (l : List UInt8) : msk l 0 = List.replicate l.length 0 := by
  apply List.ext_getElem
  · simp [msk]
  · intro i h1 h2
    have hm : mk ((0 : Int) - 8 * (i : Int)) = 0 := by unfold mk; rw [if_pos (by omega)]
    simp only [msk, List.getElem_mapIdx, hm, List.getElem_replicate]
    apply UInt8.toNat_inj.1
    simp
/-- One bit more of the first ones. -/
theorem msk_bit (l : List UInt8) (k : Nat) (hk : k / 8 < l.length) (x : UInt8) (hx : x.toNat = ((msk l k)[k / 8]'(by rw [msk_length]; exact hk)).toNat ||| ((bitAt l k) * 2 ^ (7 - k % 8)) % 256) :
    (msk l k).set (k / 8) x = msk l ((k : Int) + 1) := by
  apply List.ext_getElem
  · rw [List.length_set, msk_length, msk_length]
  · intro i h1 h2
    rw [List.length_set, msk_length] at h1
    by_cases e : k / 8 = i
    · subst e
      rw [List.getElem_set_self]
      apply UInt8.toNat_inj.1
      rw [hx]
      have hb := byte_step ⟨l[k / 8].toNat, l[k / 8].toNat_lt⟩ ⟨k % 8, Nat.mod_lt _ (by decide)⟩
      simp only at hb
      have e1 : mk ((k : Int) - 8 * ((k / 8 : Nat) : Int)) = mk ((k % 8 : Nat) : Int) := by congr 1; omega
      have e2 : mk ((k : Int) + 1 - 8 * ((k / 8 : Nat) : Int)) = mk (((k % 8 : Nat) : Int) + 1) := by congr 1; omega
      have e3 : bitAt l k = l[k / 8].toNat / 2 ^ (7 - k % 8) % 2 := by
        unfold bitAt
        rw [List.getD_eq_getElem?_getD, List.getElem?_eq_getElem hk]; rfl
      simp only [msk, List.getElem_mapIdx, UInt8.toNat_and, e1, e2, e3]
      exact hb
    · rw [List.getElem_set_ne e]
      simp only [msk, List.getElem_mapIdx]
      congr 1
      unfold mk
      by_cases c : 8 * i < k
      · have : ¬ ((k : Int) - 8 * (i : Int) ≤ 0) := by omega
        have : ¬ ((k : Int) + 1 - 8 * (i : Int) ≤ 0) := by omega
        rw [if_neg (by omega), if_pos (by omega), if_neg (by omega), if_pos (by omega)]
      · rw [if_pos (by omega), if_pos (by omega)]
theorem or_m (x : UInt8) (m : Nat) (h : m < 256) : bits BinOp.or IntKind.u8 (x.toNat : Int) (m : Int) = (((x ||| UInt8.ofNat m).toNat : Nat) : Int) := by
  rw [u8_or_nat x.toNat m x.toNat_lt h, UInt8.toNat_or, UInt8.toNat_ofNat', Nat.mod_eq_of_lt h]
set_option maxHeartbeats 2000000 in
theorem rcut_yes (f r : Int) (s : ByteArray) (l : Int) (n : Nat) (w : World) (h : chk f r s l = 0) (h1 : (n : Int) ≤ l) :
    Calls Tryd.prog 21 #[.agg #[.int .i64 f, .int .u64 r, .string s, .int .i64 l], .int .i64 (n : Int)] w fun e w' =>
      e = .returned (.tuple #[.agg #[.int .i64 f, .int .u64 r, .string ⟨(msk s.data.toList n).toArray⟩, .int .i64 (n : Int)], .int .i64 0]) ∧ Below w.heap.size w w' := by
  have hz := chk_zero h
  have hzb := szOf_bd f
  have hsz : s.size ≤ 16 := by omega
  have hn8 : n ≤ 8 * s.size := by omega
  have hm := fun W => may_any f r s l W (by unfold maxLen; omega)
  rw [decide_eq_true h] at hm
  have HM : Hid (∀ W, _) := hm
  have HMk : Hid (∀ W, _) := fun W => made_bytes s.size (by omega) W
  have HRow : Hid (∀ W, _) := fun W => Row.made W s.size W.heap.size rfl
  have HZ : Hid (_ = _) := msk_zero s.data.toList
  have HB : Hid (∀ k : Nat, k < 256 → ∀ W, _) := fun k hk W => refbit_any s (k : Int) W (by unfold maxLen; omega) (by omega) (by omega)
  clear hz hzb hm h
  have p0 : PfxAt ((w.alloc (.cells #[.int .i64 f, .int .u64 r, .string s, .int .i64 l] 24)).alloc (.cells #[.int .i64 0, .int .u64 0, .string ⟨#[]⟩, .int .i64 0] 24)) w.heap.size f r s l :=
    (PfxAt.of_alloc w _ f r s l rfl).kept (B := w.heap.size + 1) ((Below.refl _ _).alloc (by simp) _) (by simp)
  have p1 : PfxAt ((w.alloc (.cells #[.int .i64 f, .int .u64 r, .string s, .int .i64 l] 24)).alloc (.cells #[.int .i64 0, .int .u64 0, .string ⟨#[]⟩, .int .i64 0] 24)) (w.heap.size + 1) 0 0 ⟨#[]⟩ 0 :=
    PfxAt.of_alloc (w.alloc _) _ 0 0 ⟨#[]⟩ 0 (by simp)
  have HB0 : Hid (Below w.heap.size w ((w.alloc (.cells #[.int .i64 f, .int .u64 r, .string s, .int .i64 l] 24)).alloc (.cells #[.int .i64 0, .int .u64 0, .string ⟨#[]⟩, .int .i64 0] 24))) := ((Below.refl _ _).alloc (Nat.le_refl _) _).alloc (by simp) _
  go_enter Tryd.func21, Tryd.ntmps21
  go_wp2_with fail
  refine (HM.out _).mono ?_
  rintro e w1 ⟨rfl, hb1⟩
  have hs1 : w.heap.size + 1 + 1 ≤ w1.heap.size := by have := hb1.size; simpa using this
  have q0 := p0.kept hb1 (by simp; omega)
  have q1 := p1.kept hb1 (by simp)
  have HB1 : Hid (Below w.heap.size w w1) := HB0.out.trans (hb1.mono HB0.out.size)
  clear p0 p1 hb1 HM HB0
  obtain ⟨c0, c1, c2, c3, f0, f1, f2, f3⟩ := q0
  have hmk := HMk.out w1
  have HQ0 : Hid (PfxAt w1 w.heap.size f r s l) := ⟨c0, c1, c2, c3, f0, f1, f2, f3⟩
  have HQ1 : Hid (PfxAt w1 (w.heap.size + 1) 0 0 ⟨#[]⟩ 0) := q1
  clear q1
  go_wp2_with fail
  clear hmk HMk c0 c1 c2 c3 f0 f1 f2 f3
  have hR := HRow.out w1
  clear HRow
  go_loopw [7] (fun i wr => ∃ k : Nat, k ≤ n ∧ i = .int .i64 (k : Int) ∧ Row wr w1.heap.size (msk s.data.toList k) ∧ PfxAt wr w.heap.size f r s l ∧ PfxAt wr (w.heap.size + 1) 0 0 ⟨#[]⟩ 0 ∧ Below w.heap.size w wr)
    (fun i _ => n - (intOf i).toNat)
  case atStart =>
    refine ⟨0, Nat.zero_le _, rfl, ?_, HQ0.out.kept ((Below.refl _ _).alloc (Nat.le_refl _) _) (by omega), HQ1.out.kept ((Below.refl _ _).alloc (Nat.le_refl _) _) (by omega), HB1.out.alloc (by omega) _⟩
    rw [show ((0 : Nat) : Int) = 0 from rfl, HZ.out]
    rw [show s.data.toList.length = s.size by simp]
    exact hR
  case round =>
    obtain ⟨k, hk, rfl, hrow, hp0, hp1, hbel⟩ := hrel
    clear hR HZ HQ0 HQ1
    by_cases hlt : k < n
    · have hkl : k / 8 < s.size := by omega
      have hk' : k / 8 < (msk s.data.toList k).length := by rw [msk_length]; simpa using hkl
      have hc := (hrow (k / 8) hk').1
      have hf := (hrow (k / 8) hk').2
      have HRw : Hid (_ : Prop) := hrow
      have hbit := HB.out k (by omega)
      have c2 := hp0.c2
      have HP0 : Hid (_ : Prop) := hp0
      have HP1 : Hid (_ : Prop) := hp1
      have HBl : Hid (_ : Prop) := hbel
      clear hrow hp0 hp1 hbel
      have hq : (IntKind.i64.wrap ((k : Int) / 8)) = ((k / 8 : Nat) : Int) := by rw [IntKind.wrap_i64]; omega
      have hr : Int.tmod (k : Int) 8 = ((k % 8 : Nat) : Int) := by rw [Int.tmod_eq_emod_of_nonneg (by omega)]; omega
      have hr8 : k % 8 < 8 := Nat.mod_lt _ (by decide)
      have HB' : Hid (∀ W, Calls Tryd.prog 18 #[.string s, .int .i64 (k : Int)] W fun e w' => e = .returned (.int .i64 (bitI s k)) ∧ w' = W) := hbit
      have hb01 : ∃ b : Nat, bitI s k = (b : Int) ∧ b ≤ 1 ∧ b = bitAt s.data.toList k := ⟨bitAt s.data.toList k, bitI_nat s k, by unfold bitAt; omega, rfl⟩
      obtain ⟨b, hb, hb1, hbe⟩ := hb01
      rw [hb] at HB'
      have HBE : Hid (b = bitAt s.data.toList k) := hbe
      clear hbit hb hbe hkl
      rw [msk_length] at hk'
      have HK : Hid (k / 8 < s.data.toList.length ∧ k < n ∧ k ≤ n) := ⟨hk', hlt, hk⟩
      obtain ⟨x, hx⟩ : ∃ x : UInt8, x = (msk s.data.toList ↑k)[k / 8]'(by rw [msk_length]; exact hk') := ⟨_, rfl⟩
      rw [← hx] at hc
      have HX : Hid (x = _) := hx
      have hks : k / 8 < s.size := by simpa using hk'
      have hki : ((k / 8 : Nat) : Int) < (s.size : Int) := by omega
      have hw7 : IntKind.i64.wrap (7 - ((k % 8 : Nat) : Int)) = ((7 - k % 8 : Nat) : Int) := by rw [IntKind.wrap_i64]; omega
      have hwb : IntKind.u8.wrap (b : Int) = (b : Int) := by rw [IntKind.wrap_u8]; omega
      have hw8 : IntKind.u64.wrap ((7 - k % 8 : Nat) : Int) = ((7 - k % 8 : Nat) : Int) := by rw [IntKind.wrap_u64]; omega
      have HQT : Hid (k = 8 * (k / 8) + k % 8) := by unfold Hid; omega
      obtain ⟨d, hd⟩ : ∃ d, d = 7 - k % 8 := ⟨_, rfl⟩
      have HD : Hid (d = 7 - k % 8) := hd
      have hd7 : d ≤ 7 := by omega
      rw [← hd] at hw7 hw8
      have hwm : IntKind.u8.wrap ((b : Int) * 2 ^ d) = ((b * 2 ^ d % 256 : Nat) : Int) := by
        rw [IntKind.wrap_u8]; push_cast; rfl
      obtain ⟨m, hm⟩ : ∃ m, m = b * 2 ^ d % 256 := ⟨_, rfl⟩
      have HM : Hid (m = b * 2 ^ d % 256) := hm
      have hm2 : m < 256 := by omega
      rw [← hm] at hwm
      have hor : bits BinOp.or IntKind.u8 (x.toNat : Int) (m : Int) = (((x ||| UInt8.ofNat m).toNat : Nat) : Int) := or_m x m hm2
      obtain ⟨y, hy⟩ : ∃ y, y = x ||| UInt8.ofNat m := ⟨_, rfl⟩
      have HY : Hid (y = x ||| UInt8.ofNat m) := hy
      rw [← hy] at hor
      obtain ⟨q, hqe⟩ : ∃ q, q = k / 8 := ⟨_, rfl⟩
      obtain ⟨t, hte⟩ : ∃ t, t = k % 8 := ⟨_, rfl⟩
      have HQ : Hid (q = k / 8 ∧ t = k % 8) := ⟨hqe, hte⟩
      rw [← hqe] at hq hks hki hc hf
      rw [← hte] at hr hw7
      clear hx hr8 hd hm hy hqe hte hm2
      go_wp2
      go_region_with (go_at_call 18; refine (HB'.out _).mono ?_; rintro e w' ⟨rfl, rfl⟩)
      all_goals
        go_wp2
        go_roundw
        case rel =>
          obtain ⟨rfl, rfl⟩ := HQ.out
          have hkl : k / 8 < s.data.toList.length := HK.out.1
          have hrow' : Row _ _ _ := (show Row wr w1.heap.size (msk s.data.toList k) from HRw.out).set (k / 8) y
          rw [msk_bit s.data.toList k hkl y (by rw [HY.out, HM.out, HD.out, ← HBE.out, UInt8.toNat_or, ← HX.out, UInt8.toNat_ofNat', Nat.mod_mod])] at hrow'
          refine ⟨k + 1, by omega, by go_num, hrow'.drew, (HP0.out.set_other _ _ (by simp; omega)).drew, (HP1.out.set_other _ _ (by simp; omega)).drew, (HBl.out.setCell (by simp; omega) _).drew⟩
        case measure => simp [intOf]; omega
    · obtain rfl : k = n := by omega
      have hback := run_convert_bytes_back (P := Tryd.prog) wr 59 9 5 ⟨w1.heap.size, 0, none⟩ s.size (msk s.data.toList k) Tryd.underlying59 Tryd.underlying5 Tryd.underlying9 (fun j hj => by rw [show Addr.add ⟨w1.heap.size, 0, none⟩ j = ⟨w1.heap.size, j, none⟩ from by unfold Addr.add; by_cases e : j = 0 <;> simp [e]]; exact (hrow j hj).1)
      rw [msk_length, show s.data.toList.length = s.size from by simp] at hback
      obtain ⟨c0, c1, c2, c3, f0, f1, f2, f3⟩ := hp0
      obtain ⟨d0, d1, d2, d3, g0, g1, g2, g3⟩ := hp1
      clear hrow
      go_wp2
      refine bodyPost_ret (v := .tuple #[.agg #[.int .i64 f, .int .u64 r, .string ⟨(msk s.data.toList k).toArray⟩, .int .i64 (k : Int)], .int .i64 0]) (by simp [results, Tryd.results21, go_sem, d0, d1, d2, d3]) rfl ⟨rfl, ?_⟩
      exact (((hbel.setCell (by simp) _).setCell (by simp) _).setCell (by simp) _).setCell (by simp) _
set_option maxHeartbeats 2000000 in
theorem rcut_no (f r : Int) (s : ByteArray) (l n : Int) (w : World) (hs : s.size ≤ maxLen) (h : ¬ (chk f r s l = 0 ∧ 0 ≤ n ∧ n ≤ l)) :
    Calls Tryd.prog 21 #[.agg #[.int .i64 f, .int .u64 r, .string s, .int .i64 l], .int .i64 n] w fun e w' =>
      e = .returned (.tuple #[.agg #[.int .i64 0, .int .u64 0, .string ⟨#[]⟩, .int .i64 0], .int .i64 2]) ∧ Below w.heap.size w w' := by
  have p0 : PfxAt ((w.alloc (.cells #[.int .i64 f, .int .u64 r, .string s, .int .i64 l] 24)).alloc (.cells #[.int .i64 0, .int .u64 0, .string ⟨#[]⟩, .int .i64 0] 24)) w.heap.size f r s l :=
    (PfxAt.of_alloc w _ f r s l rfl).kept (B := w.heap.size + 1) ((Below.refl _ _).alloc (by simp) _) (by simp)
  have p1 : PfxAt ((w.alloc (.cells #[.int .i64 f, .int .u64 r, .string s, .int .i64 l] 24)).alloc (.cells #[.int .i64 0, .int .u64 0, .string ⟨#[]⟩, .int .i64 0] 24)) (w.heap.size + 1) 0 0 ⟨#[]⟩ 0 :=
    PfxAt.of_alloc (w.alloc _) _ 0 0 ⟨#[]⟩ 0 (by simp)
  have H : Hid (¬ (chk f r s l = 0 ∧ 0 ≤ n ∧ n ≤ l)) := h
  have hm := fun W => may_any f r s l W hs
  obtain ⟨y, hy⟩ : ∃ y, decide (chk f r s l = 0) = y := ⟨_, rfl⟩
  rw [hy] at hm
  have HM : Hid (∀ W, _) := hm
  clear hm hs h
  go_enter Tryd.func21, Tryd.ntmps21
  go_wp2_with fail
  refine (HM.out _).mono ?_
  rintro e w1 ⟨rfl, hb1⟩
  have q0 := p0.kept hb1 (by simp; omega)
  have q1 := p1.kept hb1 (by simp)
  have hs1 : w.heap.size + 1 + 1 ≤ w1.heap.size := by have := hb1.size; simpa using this
  obtain ⟨c0, c1, c2, c3, f0, f1, f2, f3⟩ := q0
  obtain ⟨d0, d1, d2, d3, g0, g1, g2, g3⟩ := q1
  clear p0 p1
  have hb : Below w.heap.size w w1 := (((Below.refl _ _).alloc (Nat.le_refl _) _).alloc (by simp) _).trans (hb1.mono (by simp; omega))
  cases y
  · clear H hy
    go_wp2
    refine bodyPost_ret (v := .tuple #[.agg #[.int .i64 0, .int .u64 0, .string ⟨#[]⟩, .int .i64 0], .int .i64 2]) (by simp [results, Tryd.results21, go_sem, d0, d1, d2, d3]) rfl ⟨rfl, ?_⟩
    exact (((hb.setCell (by simp) _).setCell (by simp) _).setCell (by simp) _).setCell (by simp) _
  · have hy' := of_decide_eq_true hy
    clear hy
    by_cases hn : n < 0
    · clear H hy'
      go_wp2
      refine bodyPost_ret (v := .tuple #[.agg #[.int .i64 0, .int .u64 0, .string ⟨#[]⟩, .int .i64 0], .int .i64 2]) (by simp [results, Tryd.results21, go_sem, d0, d1, d2, d3]) rfl ⟨rfl, ?_⟩
      exact (((hb.setCell (by simp) _).setCell (by simp) _).setCell (by simp) _).setCell (by simp) _
    · have hn2 : l < n := by have := H.out; omega
      clear H hy'
      go_wp2
      refine bodyPost_ret (v := .tuple #[.agg #[.int .i64 0, .int .u64 0, .string ⟨#[]⟩, .int .i64 0], .int .i64 2]) (by simp [results, Tryd.results21, go_sem, d0, d1, d2, d3]) rfl ⟨rfl, ?_⟩
      exact (((hb.setCell (by simp) _).setCell (by simp) _).setCell (by simp) _).setCell (by simp) _
end Go.Proofs.YtkgedoedojkdkaaDoor
