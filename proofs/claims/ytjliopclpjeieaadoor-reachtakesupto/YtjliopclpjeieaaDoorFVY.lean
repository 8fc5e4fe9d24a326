/-
  The reference's TakeGone and Take.
-/
import Derived.Test.YtjliopclpjeieaaDoorFU
import Derived.Test.YtjliopclpjeieaaDoorGGc
import Derived.Deep.RegionHeld3
namespace Go.Proofs.YtjliopclpjeieaaDoor
open Go.RowKit
set_option maxRecDepth 100000 in
set_option maxHeartbeats 3200000 in
theorem rtakeGone_any (l : List UInt8) (v : Value) (adds : List Int) (w : World) (hv : IntsAt w v adds) (hal : adds.length ≤ 1000000000) (hl : l.length ≤ 2000000) :
    Calls Tryd.prog 24 #[.string ⟨l.toArray⟩, v] w fun e w' => GoneOk (tgI adds l) w e w' := by
  by_cases h3 : l.length < 3
  · have HX : Hid (tgI adds l = .error 4) := by unfold Hid tgI; rw [if_pos h3]
    have K1 : Hid (_ : Prop) := rpair_short l w h3
    clear h3 hv hal hl
    go_enter Tryd.func24, Tryd.ntmps24
    go_wp2_with fail
    refine Calls.mono K1.out ?_
    rintro e w1 ⟨rfl, hb1⟩
    go_wp2
    go_ret3
    rw [HX.out]
    exact ⟨hb1, rfl⟩
  · have K1 : Hid (_ : Prop) := rpair_any l w (by omega) hl
    by_cases hf : tpF l = 0
    · have HX : Hid (tgI adds l = .error 5) := by unfold Hid tgI; rw [if_neg h3, if_pos hf]
      rw [if_pos hf] at K1
      clear h3 hv hal hl hf
      go_enter Tryd.func24, Tryd.ntmps24
      go_wp2_with fail
      refine Calls.mono K1.out ?_
      rintro e w1 ⟨rfl, hb1⟩
      go_wp2
      go_ret3
      rw [HX.out]
      exact ⟨hb1, rfl⟩
    · have HX : Hid (tgI adds l = match lstI (tpF l) adds (l.drop 3) with | none => .error 4 | some R => .ok (tpF l, R)) := by unfold Hid tgI; rw [if_neg h3, if_neg hf]; rfl
      rw [if_neg hf] at K1
      have HF : Hid (isF (tpF l) = true) := fm_isF hf
      have hsl : (⟨l.toArray⟩ : ByteArray).extract 3 l.length = ⟨(l.drop 3).toArray⟩ := ext_l2 l 3
      have s1 : (3 : Int) ≤ (l.length : Int) := by omega
      have s2 : (3 : Int) ≤ ((⟨l.toArray⟩ : ByteArray).size : Int) := by rw [list_size]; omega
      have s3 : 3 ≤ (⟨l.toArray⟩ : ByteArray).size := by rw [list_size]; omega
      have KH : Hid (∀ W, Below w.heap.size w W → Calls Tryd.prog 43 #[v, .int .i64 (tpF l)] W fun e w' => e = .returned (.bool (decide (tpF l ∈ adds))) ∧ w' = W) := fun W hW => rhas_any (tpF l) v adds W (hv.below hW) hal
      have KD : Hid (∀ W, Calls Tryd.prog 42 #[.string ⟨(l.drop 3).toArray⟩, .int .i64 (tpF l), .bool (decide (tpF l ∈ adds))] W fun e w' => DecOk (lstI (tpF l) adds (l.drop 3)) W e w') := fun W => rdecode_any (tpF l) _ (l.drop 3) W (sz_fam HF.out).1 (by simp; omega)
      clear h3 hv hal hf
      generalize decide (tpF l ∈ adds) = ad at *
      go_enter Tryd.func24, Tryd.ntmps24
      go_wp2_with fail
      refine Calls.mono K1.out ?_
      rintro e w1 ⟨rfl, hb1⟩
      have HB1 : Hid (Below w.heap.size w w1) := hb1
      have HB1d : Hid (Below w.heap.size w w1.drew) := HB1.out.drew
      clear hb1 K1
      go_wp2
      cases hd : lstI (tpF l) adds (l.drop 3) with
      | none =>
        rw [hd] at KD HX
        simp only at HX
        clear hd
        go_region_held (fun _ => True) (trivial)
          (first | (go_at_call 43; refine Calls.mono (KH.out _ HB1d.out) ?_; rintro e wa ⟨rfl, hwa⟩; obtain rfl := hwa) | (go_at_call 42; refine Calls.mono (KD.out _) ?_; rintro e wb ⟨hbb, rfl⟩))
        have HB2 : Hid (Below w.heap.size w wb) := HB1d.out.trans (hbb.mono HB1d.out.size)
        clear hbb
        go_wp2
        go_ret3
        rw [HX.out]
        exact ⟨HB2.out, rfl⟩
      | some R =>
        rw [hd] at KD HX
        simp only at HX
        clear hd
        go_region_held (fun _ => True) (trivial)
          (first | (go_at_call 43; refine Calls.mono (KH.out _ HB1d.out) ?_; rintro e wa ⟨rfl, hwa⟩; obtain rfl := hwa) | (go_at_call 42; refine Calls.mono (KD.out _) ?_; rintro e wb ⟨hbb, vb, rfl, hob⟩))
        have HB2 : Hid (Below w.heap.size w wb) := HB1d.out.trans (hbb.mono HB1d.out.size)
        have HO2 : Hid (OwnN wb w.heap.size vb R) := owns_mono hob HB1d.out.size
        clear hbb hob
        go_wp2
        go_ret3
        rw [HX.out]
        exact ⟨HB2.out, vb, rfl, HO2.out⟩
/-- The next hop as the reference cuts it. -/
def hopR (f : Int) (l : List UInt8) : List UInt8 := if f = 2 ∧ cntI l = 32 then (hopI l).take 16 else hopI l
theorem hopR_yes {l : List UInt8} (h : cntI l = 32) : hopR 2 l = (hopI l).take 16 := by unfold hopR; rw [if_pos ⟨rfl, h⟩]
theorem hopR_no {f : Int} {l : List UInt8} (h : ¬ (f = 2 ∧ cntI l = 32)) : hopR f l = hopI l := by unfold hopR; rw [if_neg h]
theorem hopI_len (l : List UInt8) (h : wholeI l = true) : (hopI l).length = cntI l := by
  unfold wholeI at h
  simp at h
  unfold hopI
  simp
  omega
theorem nx_2_yes {l : List UInt8} (hl : (hopI l).length = cntI l) (h : cntI l = 32) : nxI 16 [] true l = (hopI l).take 16 := by
  unfold nxI
  simp [hl, h]
theorem nx_2_no {l : List UInt8} (hl : (hopI l).length = cntI l) (h : ¬ cntI l = 32) : nxI 16 [] true l = hopI l := by
  unfold nxI
  simp [hl, h]
theorem nx_f (h : Nat) (B l : List UInt8) : nxI h B false l = (hopI l).drop B.length := by
  unfold nxI
  simp
theorem led_nil (H : List UInt8) : led H [] = true := by simp [led]
theorem ref_hop (f : Int) (l : List UInt8) (hw : wholeI l = true) : hopF f l = (hopR f l).drop (ahL f).length := by
  have hl := hopI_len l hw
  by_cases h2 : f = 2
  · subst h2
    show nxI 16 [] true l = (hopR 2 l).drop 0
    rw [List.drop_zero]
    by_cases h32 : cntI l = 32
    · rw [nx_2_yes hl h32, hopR_yes h32]
    · rw [nx_2_no hl h32, hopR_no (fun h => h32 h.2)]
  · have e3 : twB f = false := by unfold twB; simpa using h2
    unfold hopF
    rw [e3, nx_f, hopR_no (fun h => h2 h.1)]
theorem ref_ok (f : Int) (l : List UInt8) (hw : wholeI l = true) : okF f l = true ↔ (hopR f l).length = (ahL f).length + (szOf f).toNat ∧ (hopR f l).take (ahL f).length = ahL f := by
  have hl := hopI_len l hw
  have hh := ref_hop f l hw
  unfold okF okN
  rw [hw, Bool.true_and]
  show (led (hopI l) (ahL f) && decide ((hopF f l).length = (szOf f).toNat)) = true ↔ _
  rw [hh]
  by_cases h2 : f = 2
  · subst h2
    show (led (hopI l) [] && decide (((hopR 2 l).drop 0).length = 16)) = true ↔ (hopR 2 l).length = 0 + 16 ∧ (hopR 2 l).take 0 = []
    rw [led_nil]
    simp
  · rw [hopR_no (fun h => h2 h.1)]
    unfold led
    simp only [Bool.and_eq_true, decide_eq_true_eq, beq_iff_eq, List.length_drop]
    constructor
    · rintro ⟨⟨h1, h3⟩, h4⟩
      exact ⟨by omega, h3⟩
    · rintro ⟨h1, h3⟩
      exact ⟨⟨by omega, h3⟩, by omega⟩
end Go.Proofs.YtjliopclpjeieaaDoor
namespace Go.Proofs.YtjliopclpjeieaaDoor
open Go.RowKit
theorem ext_mid (l : List UInt8) (n : Nat) : (⟨l.toArray⟩ : ByteArray).extract 4 (4 + n) = ⟨((l.drop 4).take n).toArray⟩ := by
  apply ByteArray.ext
  simp
set_option maxRecDepth 100000 in
set_option maxHeartbeats 6400000 in
theorem rtake_bad (l : List UInt8) (v : Value) (adds : List Int) (w : World) (hl : l.length ≤ 2000000) (h : l.length < 3 ∨ tpF l = 0 ∨ l.length < 4) :
    Calls Tryd.prog 21 #[.string ⟨l.toArray⟩, v] w fun e w' => TakeOk8 (tkI adds l) w e w' := by
  by_cases h3 : l.length < 3
  · have HX : Hid (tkI adds l = .error 4) := by unfold Hid tkI; rw [if_pos h3]
    have K1 : Hid (_ : Prop) := rpair_short l w h3
    clear h3 h hl
    go_enter Tryd.func21, Tryd.ntmps21
    go_wp2_with fail
    refine Calls.mono K1.out ?_
    rintro e w1 ⟨rfl, hb1⟩
    go_wp2
    refine bodyPost_ret (v := .tuple #[.int .i64 0, .string ⟨#[]⟩, .slice none 0 0, .int .i64 4]) (by simp [results, Tryd.results21, go_sem]) rfl ?_
    rw [HX.out]
    exact ⟨hb1, rfl⟩
  · have K1 : Hid (_ : Prop) := rpair_any l w (by omega) hl
    by_cases hf : tpF l = 0
    · have HX : Hid (tkI adds l = .error 5) := by unfold Hid tkI; rw [if_neg h3, if_pos hf]
      rw [if_pos hf] at K1
      clear h3 hl hf h
      go_enter Tryd.func21, Tryd.ntmps21
      go_wp2_with fail
      refine Calls.mono K1.out ?_
      rintro e w1 ⟨rfl, hb1⟩
      go_wp2
      refine bodyPost_ret (v := .tuple #[.int .i64 0, .string ⟨#[]⟩, .slice none 0 0, .int .i64 5]) (by simp [results, Tryd.results21, go_sem]) rfl ?_
      rw [HX.out]
      exact ⟨hb1, rfl⟩
    · have h4 : l.length < 4 := by rcases h with h | h | h; exact absurd h h3; exact absurd h hf; exact h
      have hw : okF (tpF l) (l.drop 3) = false := by unfold okF okN wholeI; rw [decide_eq_false (by simp; omega)]; rfl
      have HX : Hid (tkI adds l = .error 4) := by unfold Hid tkI; rw [if_neg h3, if_neg hf, hw]; rfl
      rw [if_neg hf] at K1
      have h4' : (l.length : Int) < 4 := by omega
      clear h3 hf h hw
      go_enter Tryd.func21, Tryd.ntmps21
      go_wp2_with fail
      refine Calls.mono K1.out ?_
      rintro e w1 ⟨rfl, hb1⟩
      go_wp2
      refine bodyPost_ret (v := .tuple #[.int .i64 0, .string ⟨#[]⟩, .slice none 0 0, .int .i64 4]) (by simp [results, Tryd.results21, go_sem]) rfl ?_
      rw [HX.out]
      exact ⟨hb1, rfl⟩
theorem cnt_at (l : List UInt8) (h : 3 < l.length) : cntI (l.drop 3) = ((⟨l.toArray⟩ : ByteArray)[3]'(by rw [list_size]; exact h)).toNat := by
  unfold cntI
  rw [byte_at l 3 h]
  rfl
theorem hop_at (l : List UInt8) : hopI (l.drop 3) = (l.drop 4).take (cntI (l.drop 3)) := by
  unfold hopI
  rw [List.drop_drop]
theorem behind_at (l : List UInt8) : (l.drop 3).drop (cntI (l.drop 3) + 2) = l.drop (4 + cntI (l.drop 3) + 1) := by
  rw [List.drop_drop]
  congr 1
  omega
end Go.Proofs.YtjliopclpjeieaaDoor
namespace Go.Proofs.YtjliopclpjeieaaDoor
open Go.RowKit
set_option maxRecDepth 100000 in
set_option maxHeartbeats 12800000 in
theorem rtake_cut (l : List UInt8) (v : Value) (adds : List Int) (w : World) (hl : l.length ≤ 2000000) (h4 : 4 ≤ l.length) (hf : ¬ tpF l = 0) (hB : l.length < 4 + cntI (l.drop 3) + 1) :
    Calls Tryd.prog 21 #[.string ⟨l.toArray⟩, v] w fun e w' => TakeOk8 (tkI adds l) w e w' := by
  have h3 : ¬ l.length < 3 := by omega
  have HX : Hid (tkI adds l = if okF (tpF l) (l.drop 3) then (match lstI (tpF l) adds ((l.drop 3).drop (cntI (l.drop 3) + 2)) with | none => .error 4 | some R => .ok (tpF l, hopF (tpF l) (l.drop 3), R)) else .error 4) := by unfold Hid tkI; rw [if_neg h3, if_neg hf]; rfl
  have K1 : Hid (_ : Prop) := rpair_any l w (by omega) hl
  rw [if_neg hf] at K1
  have HF : Hid (isF (tpF l) = true) := fm_isF hf
  have KA : Hid (∀ W, Calls Tryd.prog 34 #[.int .i64 (tpF l)] W fun e w' => e = .returned (.tuple #[.string ⟨(ahL (tpF l)).toArray⟩, .int .i64 (rz (tpF l))]) ∧ w' = W) := fun W => rahead_any _ W
  have HC : Hid (_ = _) := cnt_at l (by omega)
  have hb3 : 3 < (⟨l.toArray⟩ : ByteArray).size := by rw [list_size]; omega
  have hb3' : (3 : Int) < ((⟨l.toArray⟩ : ByteArray).size : Int) := by rw [list_size]; omega
  have hb3l : (3 : Int) < (l.length : Int) := by omega
  have h4' : ¬ ((l.length : Int) < 4) := by omega
  have hn256 : ((⟨l.toArray⟩ : ByteArray)[3]'hb3).toNat < 256 := UInt8.toNat_lt _
  have hok : okF (tpF l) (l.drop 3) = false := by unfold okF okN wholeI; rw [decide_eq_false (by simp; omega)]; rfl
  rw [hok] at HX
  simp only [Bool.false_eq_true, if_false] at HX
  generalize cntI (l.drop 3) = n at *
  have hn : ((⟨l.toArray⟩ : ByteArray)[3]'hb3).toNat = n := HC.out.symm
  clear hok HF h3 hf KA
  rw [hn] at hn256
  clear HC
  have hwa : wrap64 (n : Int) = n := wrap64_id _ (by omega) (by omega)
  have hwb : wrap64 (4 + (n : Int)) = 4 + n := wrap64_id _ (by omega) (by omega)
  have hwc : wrap64 (4 + (n : Int) + 1) = 4 + n + 1 := wrap64_id _ (by omega) (by omega)
  have hB' : (l.length : Int) < 4 + (n : Int) + 1 := by omega
  go_enter Tryd.func21, Tryd.ntmps21
  go_wp2_with fail
  refine Calls.mono K1.out ?_
  rintro e w1 ⟨rfl, hb1⟩
  go_wp2
  refine bodyPost_ret (v := .tuple #[.int .i64 0, .string ⟨#[]⟩, .slice none 0 0, .int .i64 4]) (by simp [results, Tryd.results21, go_sem]) rfl ?_
  rw [HX.out]
  exact ⟨hb1, rfl⟩
end Go.Proofs.YtjliopclpjeieaaDoor
namespace Go.Proofs.YtjliopclpjeieaaDoor
open Go.RowKit
theorem wrapI4 (n : Nat) (h : n < 256) : IntKind.i64.wrap (4 + (n : Int)) = 4 + (n : Int) ∧ IntKind.i64.wrap (4 + (n : Int) + 1) = 4 + (n : Int) + 1 := by
  constructor <;> (rw [IntKind.wrap_i64]; omega)
set_option maxRecDepth 100000 in
set_option maxHeartbeats 12800000 in
theorem rtake_other (l : List UInt8) (v : Value) (adds : List Int) (w : World) (hv : IntsAt w v adds) (hal : adds.length ≤ 1000000000) (hl : l.length ≤ 2000000) (h4 : 4 ≤ l.length) (hf : ¬ tpF l = 0) (hB : 4 + cntI (l.drop 3) + 1 ≤ l.length) (hc : ¬ tpF l = 2) :
    Calls Tryd.prog 21 #[.string ⟨l.toArray⟩, v] w fun e w' => TakeOk8 (tkI adds l) w e w' := by
  have h3 : ¬ l.length < 3 := by omega
  have HX : Hid (tkI adds l = if okF (tpF l) (l.drop 3) then (match lstI (tpF l) adds ((l.drop 3).drop (cntI (l.drop 3) + 2)) with | none => .error 4 | some R => .ok (tpF l, hopF (tpF l) (l.drop 3), R)) else .error 4) := by unfold Hid tkI; rw [if_neg h3, if_neg hf]; rfl
  have K1 : Hid (_ : Prop) := rpair_any l w (by omega) hl
  rw [if_neg hf] at K1
  have HF : Hid (isF (tpF l) = true) := fm_isF hf
  have KA : Hid (∀ W, Calls Tryd.prog 34 #[.int .i64 (tpF l)] W fun e w' => e = .returned (.tuple #[.string ⟨(ahL (tpF l)).toArray⟩, .int .i64 (rz (tpF l))]) ∧ w' = W) := fun W => rahead_any _ W
  have HC : Hid (_ = _) := cnt_at l (by omega)
  have hb3 : 3 < (⟨l.toArray⟩ : ByteArray).size := by rw [list_size]; omega
  have hb3' : (3 : Int) < ((⟨l.toArray⟩ : ByteArray).size : Int) := by rw [list_size]; omega
  have hb3l : (3 : Int) < (l.length : Int) := by omega
  have h4' : ¬ ((l.length : Int) < 4) := by omega
  have hn256 : ((⟨l.toArray⟩ : ByteArray)[3]'hb3).toNat < 256 := UInt8.toNat_lt _
  have hw : wholeI (l.drop 3) = true := by unfold wholeI; rw [decide_eq_true_iff]; simp; omega
  have HRO : Hid (_ ↔ _) := ref_ok (tpF l) (l.drop 3) hw
  have HRH : Hid (_ = _) := ref_hop (tpF l) (l.drop 3) hw
  have hHL := hopI_len (l.drop 3) hw
  have hEX := ext_mid l (cntI (l.drop 3))
  rw [← hop_at] at hEX
  have hBH := behind_at l
  rw [hBH] at HX
  have hRZ := rz_fam HF.out
  rw [hRZ] at KA
  obtain ⟨hN, hhN⟩ : ∃ hN : Nat, szOf (tpF l) = (hN : Int) := ⟨(szOf (tpF l)).toNat, (sz_nat (tpF l)).1⟩
  have hN16 : hN ≤ 16 := by have := (sz_nat (tpF l)).2; rw [hhN] at this; simpa using this
  rw [hhN] at KA HRO
  simp only [Int.toNat_natCast] at HRO
  have hEX2 := ext_l2 l (4 + cntI (l.drop 3) + 1)
  have KH : Hid (∀ W, Below w.heap.size w W → Calls Tryd.prog 43 #[v, .int .i64 (tpF l)] W fun e w' => e = .returned (.bool (decide (tpF l ∈ adds))) ∧ w' = W) := fun W hW => rhas_any (tpF l) v adds W (hv.below hW) hal
  have KD : Hid (∀ W, Calls Tryd.prog 42 #[.string ⟨(l.drop (4 + cntI (l.drop 3) + 1)).toArray⟩, .int .i64 (tpF l), .bool (decide (tpF l ∈ adds))] W fun e w' => DecOk (lstI (tpF l) adds (l.drop (4 + cntI (l.drop 3) + 1))) W e w') := fun W => rdecode_any (tpF l) _ _ W (sz_fam HF.out).1 (by simp; omega)
  have ha8 := ah_le (tpF l)
  have hHP : hopR (tpF l) (l.drop 3) = hopI (l.drop 3) := hopR_no (fun h => hc h.1)
  rw [hHP] at HRO HRH
  have hg2 : (tpF l == 2) = false := by simpa using hc
  clear hw hv hal h3 hf hhN hRZ hBH hHP hc
  generalize hopI (l.drop 3) = HH at *
  generalize l.drop (4 + cntI (l.drop 3) + 1) = RS at *
  generalize cntI (l.drop 3) = n at *
  have hn : ((⟨l.toArray⟩ : ByteArray)[3]'hb3).toNat = n := HC.out.symm
  rw [hn] at hn256
  clear HC
  have hwa : wrap64 (n : Int) = n := wrap64_id _ (by omega) (by omega)
  have hwb : wrap64 (4 + (n : Int)) = 4 + n := wrap64_id _ (by omega) (by omega)
  have hwc : wrap64 (4 + (n : Int) + 1) = 4 + n + 1 := wrap64_id _ (by omega) (by omega)
  generalize decide (tpF l ∈ adds) = ad at *
  generalize ahL (tpF l) = B at *
  have hB' : ¬ ((l.length : Int) < 4 + (n : Int) + 1) := by omega
  have hB2 : 4 + (n : Int) ≤ (l.length : Int) := by omega
  have hB3 : 4 + (n : Int) + 1 ≤ (l.length : Int) := by omega
  have hT : (4 + (n : Int)).toNat = 4 + n := by omega
  have hT2 : (4 + (n : Int) + 1).toNat = 4 + n + 1 := by omega
  have hTL : (⟨HH.toArray⟩ : ByteArray).extract 0 B.length = ⟨(HH.take B.length).toArray⟩ := ext_l HH B.length
  have hTD : (⟨HH.toArray⟩ : ByteArray).extract B.length HH.length = ⟨(HH.drop B.length).toArray⟩ := ext_l2 HH B.length
  rw [hHL] at hTD
  have hwd : wrap64 ((B.length : Int) + (hN : Int)) = (B.length : Int) + (hN : Int) := wrap64_id _ (by omega) (by omega)
  rw [hHL] at HRO
  by_cases hlen : n = B.length + hN
  · obtain ⟨m, hm⟩ : ∃ m : Int, (B.length : Int) + (hN : Int) = m := ⟨_, rfl⟩
    have hwe : wrap64 ((B.length : Int) + (hN : Int)) = m := hwd.trans hm
    have hmn : m = (n : Int) := by rw [← hm, hlen]; exact (Int.natCast_add _ _).symm
    clear hwd hN16 hm
    have hle2 : B.length ≤ n := by rw [hlen]; exact Nat.le_add_right _ _
    have hle : (B.length : Int) ≤ (n : Int) := Int.ofNat_le.mpr hle2
    by_cases hpre : HH.take B.length = B
    · have HOKF : Hid (okF (tpF l) (l.drop 3) = true) := HRO.out.2 ⟨hlen, hpre⟩
      rw [HOKF.out, HRH.out] at HX
      simp only [if_true] at HX
      rw [hpre] at hTL
      have hTB : (B == B) = true := beq_self_eq_true B
      clear hlen HOKF HRO HRH hpre
      have hWb : IntKind.i64.wrap (4 + (n : Int)) = 4 + (n : Int) := (wrapI4 n hn256).1
      have hWc : IntKind.i64.wrap (4 + (n : Int) + 1) = 4 + (n : Int) + 1 := (wrapI4 n hn256).2
      have hB5 : 4 + n + 1 ≤ (⟨l.toArray⟩ : ByteArray).size := by rw [list_size]; exact hB
      have hB6 : 4 + (n : Int) + 1 ≤ ((⟨l.toArray⟩ : ByteArray).size : Int) := by rw [list_size]; exact hB3
      have hB7 : (0 : Int) ≤ 4 + (n : Int) + 1 := Int.natCast_nonneg (4 + n + 1)
      generalize HH.drop B.length = HD at *
      go_enter Tryd.func21, Tryd.ntmps21
      go_wp2_with fail
      refine Calls.mono K1.out ?_
      rintro e w1 ⟨rfl, hb1⟩
      have HB1 : Hid (Below w.heap.size w w1) := hb1
      clear hb1 K1
      go_wp2_with (go_at_call 34; refine Calls.mono (KA.out _) ?_; rintro e wk ⟨rfl, hwk⟩; obtain rfl : w1 = wk := hwk.symm; clear hwk)
      have HB1d : Hid (Below w.heap.size w w1.drew) := HB1.out.drew
      cases hd : lstI (tpF l) adds RS with
      | none =>
        rw [hd] at KD HX
        simp only at HX
        clear hd
        go_region_held (fun _ => True) (trivial)
          (first | (go_at_call 43; refine Calls.mono (KH.out _ HB1d.out) ?_; rintro e wa ⟨rfl, hwa⟩; obtain rfl := hwa) | (go_at_call 42; refine Calls.mono (KD.out _) ?_; rintro e wb ⟨hbb, rfl⟩))
        have HB2 : Hid (Below w.heap.size w wb) := HB1d.out.trans (hbb.mono HB1d.out.size)
        clear hbb
        go_wp2
        refine bodyPost_ret (v := .tuple #[.int .i64 0, .string ⟨#[]⟩, .slice none 0 0, .int .i64 4]) (by simp [results, Tryd.results21, go_sem]) rfl ?_
        rw [HX.out]
        exact ⟨HB2.out, rfl⟩
      | some R =>
        rw [hd] at KD HX
        simp only at HX
        clear hd
        go_region_held (fun _ => True) (trivial)
          (first | (go_at_call 43; refine Calls.mono (KH.out _ HB1d.out) ?_; rintro e wa ⟨rfl, hwa⟩; obtain rfl := hwa) | (go_at_call 42; refine Calls.mono (KD.out _) ?_; rintro e wb ⟨hbb, vb, rfl, hob⟩))
        have HB2 : Hid (Below w.heap.size w wb) := HB1d.out.trans (hbb.mono HB1d.out.size)
        have HO2 : Hid (OwnN wb w.heap.size vb R) := owns_mono hob HB1d.out.size
        clear hbb hob
        go_wp2
        go_region
        all_goals (go_wp2; refine bodyPost_ret (v := .tuple #[.int .i64 (tpF l), .string ⟨HD.toArray⟩, vb, .int .i64 0]) (by simp [results, Tryd.results21, go_sem]) rfl ?_; rw [HX.out]; exact ⟨HB2.out.drew, vb, rfl, HO2.out⟩)
    · have HOKF : Hid (okF (tpF l) (l.drop 3) = false) := by unfold Hid; rw [Bool.eq_false_iff]; exact fun h => hpre (HRO.out.1 h).2
      rw [HOKF.out] at HX
      simp only [Bool.false_eq_true, if_false] at HX
      have hpb : (HH.take B.length == B) = false := by simpa using hpre
      clear hlen HOKF HRO hpre
      generalize HH.take B.length = HT at *
      go_enter Tryd.func21, Tryd.ntmps21
      go_wp2_with fail
      refine Calls.mono K1.out ?_
      rintro e w1 ⟨rfl, hb1⟩
      have HB1 : Hid (Below w.heap.size w w1) := hb1
      clear hb1 K1
      go_wp2_with (go_at_call 34; refine Calls.mono (KA.out _) ?_; rintro e wk ⟨rfl, hwk⟩; obtain rfl : w1 = wk := hwk.symm; clear hwk)
      refine bodyPost_ret (v := .tuple #[.int .i64 0, .string ⟨#[]⟩, .slice none 0 0, .int .i64 4]) (by simp [results, Tryd.results21, go_sem]) rfl ?_
      rw [HX.out]
      exact ⟨HB1.out, rfl⟩
  · have HOKF : Hid (okF (tpF l) (l.drop 3) = false) := by unfold Hid; rw [Bool.eq_false_iff]; exact fun h => hlen (HRO.out.1 h).1
    rw [HOKF.out] at HX
    simp only [Bool.false_eq_true, if_false] at HX
    obtain ⟨m, hm⟩ : ∃ m : Int, (B.length : Int) + (hN : Int) = m := ⟨_, rfl⟩
    have hl3 : ¬ (n : Int) = m := by rw [← hm, ← Int.natCast_add]; exact fun h => hlen (Int.ofNat_inj.mp h)
    have hl1 : ((n : Int) == m) = false := by simpa using hl3
    have hwe : wrap64 ((B.length : Int) + (hN : Int)) = m := hwd.trans hm
    clear hlen HOKF hwd hm HRO hN16
    go_enter Tryd.func21, Tryd.ntmps21
    go_wp2_with fail
    refine Calls.mono K1.out ?_
    rintro e w1 ⟨rfl, hb1⟩
    have HB1 : Hid (Below w.heap.size w w1) := hb1
    clear hb1 K1
    go_wp2_with (go_at_call 34; refine Calls.mono (KA.out _) ?_; rintro e wk ⟨rfl, hwk⟩; obtain rfl : w1 = wk := hwk.symm; clear hwk)
    refine bodyPost_ret (v := .tuple #[.int .i64 0, .string ⟨#[]⟩, .slice none 0 0, .int .i64 4]) (by simp [results, Tryd.results21, go_sem]) rfl ?_
    rw [HX.out]
    exact ⟨HB1.out, rfl⟩
end Go.Proofs.YtjliopclpjeieaaDoor
namespace Go.Proofs.YtjliopclpjeieaaDoor
open Go.RowKit
set_option maxRecDepth 100000 in
set_option maxHeartbeats 12800000 in
theorem rtake_two (l : List UInt8) (v : Value) (adds : List Int) (w : World) (hv : IntsAt w v adds) (hal : adds.length ≤ 1000000000) (hl : l.length ≤ 2000000) (h4 : 4 ≤ l.length) (hf : ¬ tpF l = 0) (hB : 4 + cntI (l.drop 3) + 1 ≤ l.length) (h2 : tpF l = 2) (hc : ¬ cntI (l.drop 3) = 32) :
    Calls Tryd.prog 21 #[.string ⟨l.toArray⟩, v] w fun e w' => TakeOk8 (tkI adds l) w e w' := by
  have h3 : ¬ l.length < 3 := by omega
  have HX : Hid (tkI adds l = if okF (tpF l) (l.drop 3) then (match lstI (tpF l) adds ((l.drop 3).drop (cntI (l.drop 3) + 2)) with | none => .error 4 | some R => .ok (tpF l, hopF (tpF l) (l.drop 3), R)) else .error 4) := by unfold Hid tkI; rw [if_neg h3, if_neg hf]; rfl
  have K1 : Hid (_ : Prop) := rpair_any l w (by omega) hl
  rw [if_neg hf] at K1
  have HF : Hid (isF (tpF l) = true) := fm_isF hf
  have KA : Hid (∀ W, Calls Tryd.prog 34 #[.int .i64 (tpF l)] W fun e w' => e = .returned (.tuple #[.string ⟨(ahL (tpF l)).toArray⟩, .int .i64 (rz (tpF l))]) ∧ w' = W) := fun W => rahead_any _ W
  have HC : Hid (_ = _) := cnt_at l (by omega)
  have hb3 : 3 < (⟨l.toArray⟩ : ByteArray).size := by rw [list_size]; omega
  have hb3' : (3 : Int) < ((⟨l.toArray⟩ : ByteArray).size : Int) := by rw [list_size]; omega
  have hb3l : (3 : Int) < (l.length : Int) := by omega
  have h4' : ¬ ((l.length : Int) < 4) := by omega
  have hn256 : ((⟨l.toArray⟩ : ByteArray)[3]'hb3).toNat < 256 := UInt8.toNat_lt _
  have hw : wholeI (l.drop 3) = true := by unfold wholeI; rw [decide_eq_true_iff]; simp; omega
  have HRO : Hid (_ ↔ _) := ref_ok (tpF l) (l.drop 3) hw
  have HRH : Hid (_ = _) := ref_hop (tpF l) (l.drop 3) hw
  have hHL := hopI_len (l.drop 3) hw
  have hEX := ext_mid l (cntI (l.drop 3))
  rw [← hop_at] at hEX
  have hBH := behind_at l
  rw [hBH] at HX
  have hRZ := rz_fam HF.out
  rw [hRZ] at KA
  obtain ⟨hN, hhN⟩ : ∃ hN : Nat, szOf (tpF l) = (hN : Int) := ⟨(szOf (tpF l)).toNat, (sz_nat (tpF l)).1⟩
  have hN16 : hN ≤ 16 := by have := (sz_nat (tpF l)).2; rw [hhN] at this; simpa using this
  rw [hhN] at KA HRO
  simp only [Int.toNat_natCast] at HRO
  have hEX2 := ext_l2 l (4 + cntI (l.drop 3) + 1)
  have KH : Hid (∀ W, Below w.heap.size w W → Calls Tryd.prog 43 #[v, .int .i64 (tpF l)] W fun e w' => e = .returned (.bool (decide (tpF l ∈ adds))) ∧ w' = W) := fun W hW => rhas_any (tpF l) v adds W (hv.below hW) hal
  have KD : Hid (∀ W, Calls Tryd.prog 42 #[.string ⟨(l.drop (4 + cntI (l.drop 3) + 1)).toArray⟩, .int .i64 (tpF l), .bool (decide (tpF l ∈ adds))] W fun e w' => DecOk (lstI (tpF l) adds (l.drop (4 + cntI (l.drop 3) + 1))) W e w') := fun W => rdecode_any (tpF l) _ _ W (sz_fam HF.out).1 (by simp; omega)
  have ha8 := ah_le (tpF l)
  have hHP : hopR (tpF l) (l.drop 3) = hopI (l.drop 3) := hopR_no (fun h => hc h.2)
  rw [hHP] at HRO HRH
  have hg2 : (tpF l == 2) = true := by simpa using h2
  have hg3 : (((cntI (l.drop 3) : Nat) : Int) == 32) = false := by simp; omega
  clear hw hv hal h3 hf hhN hRZ hBH hHP hc h2
  generalize hopI (l.drop 3) = HH at *
  generalize l.drop (4 + cntI (l.drop 3) + 1) = RS at *
  generalize cntI (l.drop 3) = n at *
  have hn : ((⟨l.toArray⟩ : ByteArray)[3]'hb3).toNat = n := HC.out.symm
  rw [hn] at hn256
  clear HC
  have hwa : wrap64 (n : Int) = n := wrap64_id _ (by omega) (by omega)
  have hwb : wrap64 (4 + (n : Int)) = 4 + n := wrap64_id _ (by omega) (by omega)
  have hwc : wrap64 (4 + (n : Int) + 1) = 4 + n + 1 := wrap64_id _ (by omega) (by omega)
  generalize decide (tpF l ∈ adds) = ad at *
  generalize ahL (tpF l) = B at *
  have hB' : ¬ ((l.length : Int) < 4 + (n : Int) + 1) := by omega
  have hB2 : 4 + (n : Int) ≤ (l.length : Int) := by omega
  have hB3 : 4 + (n : Int) + 1 ≤ (l.length : Int) := by omega
  have hT : (4 + (n : Int)).toNat = 4 + n := by omega
  have hT2 : (4 + (n : Int) + 1).toNat = 4 + n + 1 := by omega
  have hTL : (⟨HH.toArray⟩ : ByteArray).extract 0 B.length = ⟨(HH.take B.length).toArray⟩ := ext_l HH B.length
  have hTD : (⟨HH.toArray⟩ : ByteArray).extract B.length HH.length = ⟨(HH.drop B.length).toArray⟩ := ext_l2 HH B.length
  rw [hHL] at hTD
  have hwd : wrap64 ((B.length : Int) + (hN : Int)) = (B.length : Int) + (hN : Int) := wrap64_id _ (by omega) (by omega)
  rw [hHL] at HRO
  by_cases hlen : n = B.length + hN
  · obtain ⟨m, hm⟩ : ∃ m : Int, (B.length : Int) + (hN : Int) = m := ⟨_, rfl⟩
    have hwe : wrap64 ((B.length : Int) + (hN : Int)) = m := hwd.trans hm
    have hmn : m = (n : Int) := by rw [← hm, hlen]; exact (Int.natCast_add _ _).symm
    clear hwd hN16 hm
    have hle2 : B.length ≤ n := by rw [hlen]; exact Nat.le_add_right _ _
    have hle : (B.length : Int) ≤ (n : Int) := Int.ofNat_le.mpr hle2
    by_cases hpre : HH.take B.length = B
    · have HOKF : Hid (okF (tpF l) (l.drop 3) = true) := HRO.out.2 ⟨hlen, hpre⟩
      rw [HOKF.out, HRH.out] at HX
      simp only [if_true] at HX
      rw [hpre] at hTL
      have hTB : (B == B) = true := beq_self_eq_true B
      clear hlen HOKF HRO HRH hpre
      have hWb : IntKind.i64.wrap (4 + (n : Int)) = 4 + (n : Int) := (wrapI4 n hn256).1
      have hWc : IntKind.i64.wrap (4 + (n : Int) + 1) = 4 + (n : Int) + 1 := (wrapI4 n hn256).2
      have hB5 : 4 + n + 1 ≤ (⟨l.toArray⟩ : ByteArray).size := by rw [list_size]; exact hB
      have hB6 : 4 + (n : Int) + 1 ≤ ((⟨l.toArray⟩ : ByteArray).size : Int) := by rw [list_size]; exact hB3
      have hB7 : (0 : Int) ≤ 4 + (n : Int) + 1 := Int.natCast_nonneg (4 + n + 1)
      generalize HH.drop B.length = HD at *
      go_enter Tryd.func21, Tryd.ntmps21
      go_wp2_with fail
      refine Calls.mono K1.out ?_
      rintro e w1 ⟨rfl, hb1⟩
      have HB1 : Hid (Below w.heap.size w w1) := hb1
      clear hb1 K1
      go_wp2_with (go_at_call 34; refine Calls.mono (KA.out _) ?_; rintro e wk ⟨rfl, hwk⟩; obtain rfl : w1 = wk := hwk.symm; clear hwk)
      have HB1d : Hid (Below w.heap.size w w1.drew) := HB1.out.drew
      cases hd : lstI (tpF l) adds RS with
      | none =>
        rw [hd] at KD HX
        simp only at HX
        clear hd
        go_region_held (fun _ => True) (trivial)
          (first | (go_at_call 43; refine Calls.mono (KH.out _ HB1d.out) ?_; rintro e wa ⟨rfl, hwa⟩; obtain rfl := hwa) | (go_at_call 42; refine Calls.mono (KD.out _) ?_; rintro e wb ⟨hbb, rfl⟩))
        have HB2 : Hid (Below w.heap.size w wb) := HB1d.out.trans (hbb.mono HB1d.out.size)
        clear hbb
        go_wp2
        refine bodyPost_ret (v := .tuple #[.int .i64 0, .string ⟨#[]⟩, .slice none 0 0, .int .i64 4]) (by simp [results, Tryd.results21, go_sem]) rfl ?_
        rw [HX.out]
        exact ⟨HB2.out, rfl⟩
      | some R =>
        rw [hd] at KD HX
        simp only at HX
        clear hd
        go_region_held (fun _ => True) (trivial)
          (first | (go_at_call 43; refine Calls.mono (KH.out _ HB1d.out) ?_; rintro e wa ⟨rfl, hwa⟩; obtain rfl := hwa) | (go_at_call 42; refine Calls.mono (KD.out _) ?_; rintro e wb ⟨hbb, vb, rfl, hob⟩))
        have HB2 : Hid (Below w.heap.size w wb) := HB1d.out.trans (hbb.mono HB1d.out.size)
        have HO2 : Hid (OwnN wb w.heap.size vb R) := owns_mono hob HB1d.out.size
        clear hbb hob
        go_wp2
        go_region
        all_goals (go_wp2; refine bodyPost_ret (v := .tuple #[.int .i64 (tpF l), .string ⟨HD.toArray⟩, vb, .int .i64 0]) (by simp [results, Tryd.results21, go_sem]) rfl ?_; rw [HX.out]; exact ⟨HB2.out.drew, vb, rfl, HO2.out⟩)
    · have HOKF : Hid (okF (tpF l) (l.drop 3) = false) := by unfold Hid; rw [Bool.eq_false_iff]; exact fun h => hpre (HRO.out.1 h).2
      rw [HOKF.out] at HX
      simp only [Bool.false_eq_true, if_false] at HX
      have hpb : (HH.take B.length == B) = false := by simpa using hpre
      clear hlen HOKF HRO hpre
      generalize HH.take B.length = HT at *
      go_enter Tryd.func21, Tryd.ntmps21
      go_wp2_with fail
      refine Calls.mono K1.out ?_
      rintro e w1 ⟨rfl, hb1⟩
      have HB1 : Hid (Below w.heap.size w w1) := hb1
      clear hb1 K1
      go_wp2_with (go_at_call 34; refine Calls.mono (KA.out _) ?_; rintro e wk ⟨rfl, hwk⟩; obtain rfl : w1 = wk := hwk.symm; clear hwk)
      refine bodyPost_ret (v := .tuple #[.int .i64 0, .string ⟨#[]⟩, .slice none 0 0, .int .i64 4]) (by simp [results, Tryd.results21, go_sem]) rfl ?_
      rw [HX.out]
      exact ⟨HB1.out, rfl⟩
  · have HOKF : Hid (okF (tpF l) (l.drop 3) = false) := by unfold Hid; rw [Bool.eq_false_iff]; exact fun h => hlen (HRO.out.1 h).1
    rw [HOKF.out] at HX
    simp only [Bool.false_eq_true, if_false] at HX
    obtain ⟨m, hm⟩ : ∃ m : Int, (B.length : Int) + (hN : Int) = m := ⟨_, rfl⟩
    have hl3 : ¬ (n : Int) = m := by rw [← hm, ← Int.natCast_add]; exact fun h => hlen (Int.ofNat_inj.mp h)
    have hl1 : ((n : Int) == m) = false := by simpa using hl3
    have hwe : wrap64 ((B.length : Int) + (hN : Int)) = m := hwd.trans hm
    clear hlen HOKF hwd hm HRO hN16
    go_enter Tryd.func21, Tryd.ntmps21
    go_wp2_with fail
    refine Calls.mono K1.out ?_
    rintro e w1 ⟨rfl, hb1⟩
    have HB1 : Hid (Below w.heap.size w w1) := hb1
    clear hb1 K1
    go_wp2_with (go_at_call 34; refine Calls.mono (KA.out _) ?_; rintro e wk ⟨rfl, hwk⟩; obtain rfl : w1 = wk := hwk.symm; clear hwk)
    refine bodyPost_ret (v := .tuple #[.int .i64 0, .string ⟨#[]⟩, .slice none 0 0, .int .i64 4]) (by simp [results, Tryd.results21, go_sem]) rfl ?_
    rw [HX.out]
    exact ⟨HB1.out, rfl⟩
end Go.Proofs.YtjliopclpjeieaaDoor
namespace Go.Proofs.YtjliopclpjeieaaDoor
open Go.RowKit
set_option maxRecDepth 100000 in
set_option maxHeartbeats 12800000 in
theorem rtake_both (l : List UInt8) (v : Value) (adds : List Int) (w : World) (hv : IntsAt w v adds) (hal : adds.length ≤ 1000000000) (hl : l.length ≤ 2000000) (h4 : 4 ≤ l.length) (hf : ¬ tpF l = 0) (hB : 4 + cntI (l.drop 3) + 1 ≤ l.length) (h2 : tpF l = 2) (hc : cntI (l.drop 3) = 32) :
    Calls Tryd.prog 21 #[.string ⟨l.toArray⟩, v] w fun e w' => TakeOk8 (tkI adds l) w e w' := by
  have h3 : ¬ l.length < 3 := by omega
  have HX : Hid (tkI adds l = if okF (tpF l) (l.drop 3) then (match lstI (tpF l) adds ((l.drop 3).drop (cntI (l.drop 3) + 2)) with | none => .error 4 | some R => .ok (tpF l, hopF (tpF l) (l.drop 3), R)) else .error 4) := by unfold Hid tkI; rw [if_neg h3, if_neg hf]; rfl
  have K1 : Hid (_ : Prop) := rpair_any l w (by omega) hl
  rw [if_neg hf] at K1
  have HF : Hid (isF (tpF l) = true) := fm_isF hf
  have KA : Hid (∀ W, Calls Tryd.prog 34 #[.int .i64 (tpF l)] W fun e w' => e = .returned (.tuple #[.string ⟨(ahL (tpF l)).toArray⟩, .int .i64 (rz (tpF l))]) ∧ w' = W) := fun W => rahead_any _ W
  have HC : Hid (_ = _) := cnt_at l (by omega)
  have hb3 : 3 < (⟨l.toArray⟩ : ByteArray).size := by rw [list_size]; omega
  have hb3' : (3 : Int) < ((⟨l.toArray⟩ : ByteArray).size : Int) := by rw [list_size]; omega
  have hb3l : (3 : Int) < (l.length : Int) := by omega
  have h4' : ¬ ((l.length : Int) < 4) := by omega
  have hn256 : ((⟨l.toArray⟩ : ByteArray)[3]'hb3).toNat < 256 := UInt8.toNat_lt _
  have hw : wholeI (l.drop 3) = true := by unfold wholeI; rw [decide_eq_true_iff]; simp; omega
  have HRO : Hid (_ ↔ _) := ref_ok (tpF l) (l.drop 3) hw
  have HRH : Hid (_ = _) := ref_hop (tpF l) (l.drop 3) hw
  have hHL := hopI_len (l.drop 3) hw
  have hEX := ext_mid l (cntI (l.drop 3))
  rw [← hop_at] at hEX
  have hBH := behind_at l
  rw [hBH] at HX
  have hRZ := rz_fam HF.out
  rw [hRZ] at KA
  obtain ⟨hN, hhN⟩ : ∃ hN : Nat, szOf (tpF l) = (hN : Int) := ⟨(szOf (tpF l)).toNat, (sz_nat (tpF l)).1⟩
  have hN16 : hN ≤ 16 := by have := (sz_nat (tpF l)).2; rw [hhN] at this; simpa using this
  rw [hhN] at KA HRO
  simp only [Int.toNat_natCast] at HRO
  have hEX2 := ext_l2 l (4 + cntI (l.drop 3) + 1)
  have KH : Hid (∀ W, Below w.heap.size w W → Calls Tryd.prog 43 #[v, .int .i64 (tpF l)] W fun e w' => e = .returned (.bool (decide (tpF l ∈ adds))) ∧ w' = W) := fun W hW => rhas_any (tpF l) v adds W (hv.below hW) hal
  have KD : Hid (∀ W, Calls Tryd.prog 42 #[.string ⟨(l.drop (4 + cntI (l.drop 3) + 1)).toArray⟩, .int .i64 (tpF l), .bool (decide (tpF l ∈ adds))] W fun e w' => DecOk (lstI (tpF l) adds (l.drop (4 + cntI (l.drop 3) + 1))) W e w') := fun W => rdecode_any (tpF l) _ _ W (sz_fam HF.out).1 (by simp; omega)
  have ha8 := ah_le (tpF l)
  have hHP : hopR (tpF l) (l.drop 3) = (hopI (l.drop 3)).take 16 := by rw [h2]; exact hopR_yes hc
  rw [hHP] at HRO HRH
  have hg2 : (tpF l == 2) = true := by simpa using h2
  have hg3 : (((cntI (l.drop 3) : Nat) : Int) == 32) = true := by rw [hc]; decide
  clear hw hv hal h3 hf hhN hRZ hBH hHP h2
  have HCC : Hid (cntI (l.drop 3) = 32) := hc
  clear hc
  generalize hopI (l.drop 3) = HH at *
  generalize l.drop (4 + cntI (l.drop 3) + 1) = RS at *
  generalize cntI (l.drop 3) = n at *
  have hn : ((⟨l.toArray⟩ : ByteArray)[3]'hb3).toNat = n := HC.out.symm
  rw [hn] at hn256
  clear HC
  have hwa : wrap64 (n : Int) = n := wrap64_id _ (by omega) (by omega)
  have hwb : wrap64 (4 + (n : Int)) = 4 + n := wrap64_id _ (by omega) (by omega)
  have hwc : wrap64 (4 + (n : Int) + 1) = 4 + n + 1 := wrap64_id _ (by omega) (by omega)
  generalize decide (tpF l ∈ adds) = ad at *
  generalize ahL (tpF l) = B at *
  have hB' : ¬ ((l.length : Int) < 4 + (n : Int) + 1) := by omega
  have hB2 : 4 + (n : Int) ≤ (l.length : Int) := by omega
  have hB3 : 4 + (n : Int) + 1 ≤ (l.length : Int) := by omega
  have hT : (4 + (n : Int)).toNat = 4 + n := by omega
  have hT2 : (4 + (n : Int) + 1).toNat = 4 + n + 1 := by omega
  have hwd : wrap64 ((B.length : Int) + (hN : Int)) = (B.length : Int) + (hN : Int) := wrap64_id _ (by omega) (by omega)
  have hGE : (⟨HH.toArray⟩ : ByteArray).extract 0 16 = ⟨(HH.take 16).toArray⟩ := ext_l _ 16
  have hGB : (16 : Int) ≤ (n : Int) := by rw [HCC.out]; decide
  obtain ⟨q, hq⟩ : ∃ q : Nat, q = 16 := ⟨_, rfl⟩
  have hGL : (HH.take 16).length = q := by rw [hq, List.length_take, hHL, HCC.out]; decide
  clear hq HCC
  generalize HH.take 16 = G at *
  have hTL : (⟨G.toArray⟩ : ByteArray).extract 0 B.length = ⟨(G.take B.length).toArray⟩ := ext_l G B.length
  have hTD : (⟨G.toArray⟩ : ByteArray).extract B.length G.length = ⟨(G.drop B.length).toArray⟩ := ext_l2 G B.length
  rw [hGL] at hTD
  rw [hGL] at HRO
  by_cases hlen : q = B.length + hN
  · obtain ⟨m, hm⟩ : ∃ m : Int, (B.length : Int) + (hN : Int) = m := ⟨_, rfl⟩
    have hwe : wrap64 ((B.length : Int) + (hN : Int)) = m := hwd.trans hm
    have hmn : m = (q : Int) := by rw [← hm, hlen]; exact (Int.natCast_add _ _).symm
    clear hwd hN16 hm
    have hle2 : B.length ≤ q := by rw [hlen]; exact Nat.le_add_right _ _
    have hle : (B.length : Int) ≤ (q : Int) := Int.ofNat_le.mpr hle2
    by_cases hpre : G.take B.length = B
    · have HOKF : Hid (okF (tpF l) (l.drop 3) = true) := HRO.out.2 ⟨hlen, hpre⟩
      rw [HOKF.out, HRH.out] at HX
      simp only [if_true] at HX
      rw [hpre] at hTL
      have hTB : (B == B) = true := beq_self_eq_true B
      clear hlen HOKF HRO HRH hpre
      have hWb : IntKind.i64.wrap (4 + (n : Int)) = 4 + (n : Int) := (wrapI4 n hn256).1
      have hWc : IntKind.i64.wrap (4 + (n : Int) + 1) = 4 + (n : Int) + 1 := (wrapI4 n hn256).2
      have hB5 : 4 + n + 1 ≤ (⟨l.toArray⟩ : ByteArray).size := by rw [list_size]; exact hB
      have hB6 : 4 + (n : Int) + 1 ≤ ((⟨l.toArray⟩ : ByteArray).size : Int) := by rw [list_size]; exact hB3
      have hB7 : (0 : Int) ≤ 4 + (n : Int) + 1 := Int.natCast_nonneg (4 + n + 1)
      generalize G.drop B.length = HD at *
      go_enter Tryd.func21, Tryd.ntmps21
      go_wp2_with fail
      refine Calls.mono K1.out ?_
      rintro e w1 ⟨rfl, hb1⟩
      have HB1 : Hid (Below w.heap.size w w1) := hb1
      clear hb1 K1
      go_wp2_with (go_at_call 34; refine Calls.mono (KA.out _) ?_; rintro e wk ⟨rfl, hwk⟩; obtain rfl : w1 = wk := hwk.symm; clear hwk)
      have HB1d : Hid (Below w.heap.size w w1.drew) := HB1.out.drew
      cases hd : lstI (tpF l) adds RS with
      | none =>
        rw [hd] at KD HX
        simp only at HX
        clear hd
        go_region_held (fun _ => True) (trivial)
          (first | (go_at_call 43; refine Calls.mono (KH.out _ HB1d.out) ?_; rintro e wa ⟨rfl, hwa⟩; obtain rfl := hwa) | (go_at_call 42; refine Calls.mono (KD.out _) ?_; rintro e wb ⟨hbb, rfl⟩))
        have HB2 : Hid (Below w.heap.size w wb) := HB1d.out.trans (hbb.mono HB1d.out.size)
        clear hbb
        go_wp2
        refine bodyPost_ret (v := .tuple #[.int .i64 0, .string ⟨#[]⟩, .slice none 0 0, .int .i64 4]) (by simp [results, Tryd.results21, go_sem]) rfl ?_
        rw [HX.out]
        exact ⟨HB2.out, rfl⟩
      | some R =>
        rw [hd] at KD HX
        simp only at HX
        clear hd
        go_region_held (fun _ => True) (trivial)
          (first | (go_at_call 43; refine Calls.mono (KH.out _ HB1d.out) ?_; rintro e wa ⟨rfl, hwa⟩; obtain rfl := hwa) | (go_at_call 42; refine Calls.mono (KD.out _) ?_; rintro e wb ⟨hbb, vb, rfl, hob⟩))
        have HB2 : Hid (Below w.heap.size w wb) := HB1d.out.trans (hbb.mono HB1d.out.size)
        have HO2 : Hid (OwnN wb w.heap.size vb R) := owns_mono hob HB1d.out.size
        clear hbb hob
        go_wp2
        go_region
        all_goals (go_wp2; refine bodyPost_ret (v := .tuple #[.int .i64 (tpF l), .string ⟨HD.toArray⟩, vb, .int .i64 0]) (by simp [results, Tryd.results21, go_sem]) rfl ?_; rw [HX.out]; exact ⟨HB2.out.drew, vb, rfl, HO2.out⟩)
    · have HOKF : Hid (okF (tpF l) (l.drop 3) = false) := by unfold Hid; rw [Bool.eq_false_iff]; exact fun h => hpre (HRO.out.1 h).2
      rw [HOKF.out] at HX
      simp only [Bool.false_eq_true, if_false] at HX
      have hpb : (G.take B.length == B) = false := by simpa using hpre
      clear hlen HOKF HRO hpre
      generalize G.take B.length = HT at *
      go_enter Tryd.func21, Tryd.ntmps21
      go_wp2_with fail
      refine Calls.mono K1.out ?_
      rintro e w1 ⟨rfl, hb1⟩
      have HB1 : Hid (Below w.heap.size w w1) := hb1
      clear hb1 K1
      go_wp2_with (go_at_call 34; refine Calls.mono (KA.out _) ?_; rintro e wk ⟨rfl, hwk⟩; obtain rfl : w1 = wk := hwk.symm; clear hwk)
      refine bodyPost_ret (v := .tuple #[.int .i64 0, .string ⟨#[]⟩, .slice none 0 0, .int .i64 4]) (by simp [results, Tryd.results21, go_sem]) rfl ?_
      rw [HX.out]
      exact ⟨HB1.out, rfl⟩
  · have HOKF : Hid (okF (tpF l) (l.drop 3) = false) := by unfold Hid; rw [Bool.eq_false_iff]; exact fun h => hlen (HRO.out.1 h).1
    rw [HOKF.out] at HX
    simp only [Bool.false_eq_true, if_false] at HX
    obtain ⟨m, hm⟩ : ∃ m : Int, (B.length : Int) + (hN : Int) = m := ⟨_, rfl⟩
    have hl3 : ¬ (q : Int) = m := by rw [← hm, ← Int.natCast_add]; exact fun h => hlen (Int.ofNat_inj.mp h)
    have hl1 : ((q : Int) == m) = false := by simpa using hl3
    have hwe : wrap64 ((B.length : Int) + (hN : Int)) = m := hwd.trans hm
    clear hlen HOKF hwd hm HRO hN16
    go_enter Tryd.func21, Tryd.ntmps21
    go_wp2_with fail
    refine Calls.mono K1.out ?_
    rintro e w1 ⟨rfl, hb1⟩
    have HB1 : Hid (Below w.heap.size w w1) := hb1
    clear hb1 K1
    go_wp2_with (go_at_call 34; refine Calls.mono (KA.out _) ?_; rintro e wk ⟨rfl, hwk⟩; obtain rfl : w1 = wk := hwk.symm; clear hwk)
    refine bodyPost_ret (v := .tuple #[.int .i64 0, .string ⟨#[]⟩, .slice none 0 0, .int .i64 4]) (by simp [results, Tryd.results21, go_sem]) rfl ?_
    rw [HX.out]
    exact ⟨HB1.out, rfl⟩
end Go.Proofs.YtjliopclpjeieaaDoor
namespace Go.Proofs.YtjliopclpjeieaaDoor
open Go.RowKit
theorem rtake_any (l : List UInt8) (v : Value) (adds : List Int) (w : World) (hv : IntsAt w v adds) (hal : adds.length ≤ 1000000000) (hl : l.length ≤ 2000000) :
    Calls Tryd.prog 21 #[.string ⟨l.toArray⟩, v] w fun e w' => TakeOk8 (tkI adds l) w e w' := by
  by_cases h3 : l.length < 3
  · exact rtake_bad l v adds w hl (.inl h3)
  by_cases hf : tpF l = 0
  · exact rtake_bad l v adds w hl (.inr (.inl hf))
  by_cases h4 : l.length < 4
  · exact rtake_bad l v adds w hl (.inr (.inr h4))
  by_cases hB : l.length < 4 + cntI (l.drop 3) + 1
  · exact rtake_cut l v adds w hl (by omega) hf hB
  by_cases h2 : tpF l = 2
  · by_cases hc : cntI (l.drop 3) = 32
    · exact rtake_both l v adds w hv hal hl (by omega) hf (by omega) h2 hc
    · exact rtake_two l v adds w hv hal hl (by omega) hf (by omega) h2 hc
  · exact rtake_other l v adds w hv hal hl (by omega) hf (by omega) h2
end Go.Proofs.YtjliopclpjeieaaDoor
