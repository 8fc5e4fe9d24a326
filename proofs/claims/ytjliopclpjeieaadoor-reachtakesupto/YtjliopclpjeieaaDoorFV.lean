/-
  The reference's Take and TakeGone.
-/
import Derived.Test.YtjliopclpjeieaaDoorFU
import Derived.Test.YtjliopclpjeieaaDoorG4
namespace Go.Proofs.YtjliopclpjeieaaDoor
open Go.RowKit
set_option maxRecDepth 100000 in
set_option maxHeartbeats 3200000 in
theorem rtakeGone_any (l : List UInt8) (v : Value) (adds : List Int) (w : World) (hv : IntsAt w v adds) (hal : adds.length ≤ 1000000000) (hl : l.length ≤ 2000000) :
    Calls Tryd.prog 24 #[.string ⟨l.toArray⟩, v] w fun e w' => GoneOk (tgI adds l) w e w' := by
  by_cases h3 : l.length < 3
  · have HX : Hid (tgI adds l = .error 4) := by unfold Hid tgI; rw [if_pos h3]
    have K1 : Hid (_ : Prop) := rpair_short l w h3
    clear h3 hv hal hl
    go_enter Tryd.func24, Tryd.ntmps24
    go_wp2_with fail
    refine Calls.mono K1.out ?_
    rintro e w1 ⟨rfl, hb1⟩
    go_wp2
    go_ret3
    rw [HX.out]
    exact ⟨hb1, rfl⟩
  · have K1 : Hid (_ : Prop) := rpair_any l w (by omega) hl
    by_cases hf : tpF l = 0
    · have HX : Hid (tgI adds l = .error 5) := by unfold Hid tgI; rw [if_neg h3, if_pos hf]
      rw [if_pos hf] at K1
      clear h3 hv hal hl hf
      go_enter Tryd.func24, Tryd.ntmps24
      go_wp2_with fail
      refine Calls.mono K1.out ?_
      rintro e w1 ⟨rfl, hb1⟩
      go_wp2
      go_ret3
      rw [HX.out]
      exact ⟨hb1, rfl⟩
    · have HX : Hid (tgI adds l = match lstI (tpF l) adds (l.drop 3) with | none => .error 4 | some R => .ok (tpF l, R)) := by unfold Hid tgI; rw [if_neg h3, if_neg hf]; rfl
      rw [if_neg hf] at K1
      have HF : Hid (isF (tpF l) = true) := fm_isF hf
      have hsl : (⟨l.toArray⟩ : ByteArray).extract 3 l.length = ⟨(l.drop 3).toArray⟩ := ext_l2 l 3
      have s1 : (3 : Int) ≤ (l.length : Int) := by omega
      have s2 : (3 : Int) ≤ ((⟨l.toArray⟩ : ByteArray).size : Int) := by rw [list_size]; omega
      have s3 : 3 ≤ (⟨l.toArray⟩ : ByteArray).size := by rw [list_size]; omega
      have KH : Hid (∀ W, Below w.heap.size w W → Calls Tryd.prog 43 #[v, .int .i64 (tpF l)] W fun e w' => e = .returned (.bool (decide (tpF l ∈ adds))) ∧ w' = W) := fun W hW => rhas_any (tpF l) v adds W (hv.below hW) hal
      have KD : Hid (∀ W, Calls Tryd.prog 42 #[.string ⟨(l.drop 3).toArray⟩, .int .i64 (tpF l), .bool (decide (tpF l ∈ adds))] W fun e w' => DecOk (lstI (tpF l) adds (l.drop 3)) W e w') := fun W => rdecode_any (tpF l) _ (l.drop 3) W (sz_fam HF.out).1 (by simp; omega)
      clear h3 hv hal hf
      generalize decide (tpF l ∈ adds) = ad at *
      go_enter Tryd.func24, Tryd.ntmps24
      go_wp2_with fail
      refine Calls.mono K1.out ?_
      rintro e w1 ⟨rfl, hb1⟩
      have HB1 : Hid (Below w.heap.size w w1) := hb1
      have HB1d : Hid (Below w.heap.size w w1.drew) := HB1.out.drew
      clear hb1 K1
      go_wp2
      cases hd : lstI (tpF l) adds (l.drop 3) with
      | none =>
        rw [hd] at KD HX
        simp only at HX
        clear hd
        go_region_held (fun _ => True) (trivial)
          (first | (go_at_call 43; refine Calls.mono (KH.out _ HB1d.out) ?_; rintro e wa ⟨rfl, hwa⟩; obtain rfl := hwa) | (go_at_call 42; refine Calls.mono (KD.out _) ?_; rintro e wb ⟨hbb, rfl⟩))
        have HB2 : Hid (Below w.heap.size w wb) := HB1d.out.trans (hbb.mono HB1d.out.size)
        clear hbb
        go_wp2
        go_ret3
        rw [HX.out]
        exact ⟨HB2.out, rfl⟩
      | some R =>
        rw [hd] at KD HX
        simp only at HX
        clear hd
        go_region_held (fun _ => True) (trivial)
          (first | (go_at_call 43; refine Calls.mono (KH.out _ HB1d.out) ?_; rintro e wa ⟨rfl, hwa⟩; obtain rfl := hwa) | (go_at_call 42; refine Calls.mono (KD.out _) ?_; rintro e wb ⟨hbb, vb, rfl, hob⟩))
        have HB2 : Hid (Below w.heap.size w wb) := HB1d.out.trans (hbb.mono HB1d.out.size)
        have HO2 : Hid (OwnN wb w.heap.size vb R) := owns_mono hob HB1d.out.size
        clear hbb hob
        go_wp2
        go_ret3
        rw [HX.out]
        exact ⟨HB2.out, vb, rfl, HO2.out⟩
/-- The next hop as the reference cuts it. -/
def hopR (f : Int) (l : List UInt8) : List UInt8 := if f = 2 ∧ cntI l = 32 then (hopI l).take 16 else hopI l
theorem hopR_yes {l : List UInt8} (h : cntI l = 32) : hopR 2 l = (hopI l).take 16 := by unfold hopR; rw [if_pos ⟨rfl, h⟩]
theorem hopR_no {f : Int} {l : List UInt8} (h : ¬ (f = 2 ∧ cntI l = 32)) : hopR f l = hopI l := by unfold hopR; rw [if_neg h]
theorem hopI_len (l : List UInt8) (h : wholeI l = true) : (hopI l).length = cntI l := by
  unfold wholeI at h
  simp at h
  unfold hopI
  simp
  omega
theorem nx_2_yes {l : List UInt8} (hl : (hopI l).length = cntI l) (h : cntI l = 32) : nxI 16 [] true l = (hopI l).take 16 := by
  unfold nxI
  simp [hl, h]
theorem nx_2_no {l : List UInt8} (hl : (hopI l).length = cntI l) (h : ¬ cntI l = 32) : nxI 16 [] true l = hopI l := by
  unfold nxI
  simp [hl, h]
theorem nx_f (h : Nat) (B l : List UInt8) : nxI h B false l = (hopI l).drop B.length := by
  unfold nxI
  simp
theorem led_nil (H : List UInt8) : led H [] = true := by simp [led]
theorem ref_hop (f : Int) (l : List UInt8) (hw : wholeI l = true) : hopF f l = (hopR f l).drop (ahL f).length := by
  have hl := hopI_len l hw
  by_cases h2 : f = 2
  · subst h2
    show nxI 16 [] true l = (hopR 2 l).drop 0
    rw [List.drop_zero]
    by_cases h32 : cntI l = 32
    · rw [nx_2_yes hl h32, hopR_yes h32]
    · rw [nx_2_no hl h32, hopR_no (fun h => h32 h.2)]
  · have e3 : twB f = false := by unfold twB; simpa using h2
    unfold hopF
    rw [e3, nx_f, hopR_no (fun h => h2 h.1)]
theorem ref_ok (f : Int) (l : List UInt8) (hw : wholeI l = true) : okF f l = true ↔ (hopR f l).length = (ahL f).length + (szOf f).toNat ∧ (hopR f l).take (ahL f).length = ahL f := by
  have hl := hopI_len l hw
  have hh := ref_hop f l hw
  unfold okF okN
  rw [hw, Bool.true_and]
  show (led (hopI l) (ahL f) && decide ((hopF f l).length = (szOf f).toNat)) = true ↔ _
  rw [hh]
  by_cases h2 : f = 2
  · subst h2
    show (led (hopI l) [] && decide (((hopR 2 l).drop 0).length = 16)) = true ↔ (hopR 2 l).length = 0 + 16 ∧ (hopR 2 l).take 0 = []
    rw [led_nil]
    simp
  · rw [hopR_no (fun h => h2 h.1)]
    unfold led
    simp only [Bool.and_eq_true, decide_eq_true_eq, beq_iff_eq, List.length_drop]
    constructor
    · rintro ⟨⟨h1, h3⟩, h4⟩
      exact ⟨by omega, h3⟩
    · rintro ⟨h1, h3⟩
      exact ⟨⟨by omega, h3⟩, by omega⟩
end Go.Proofs.YtjliopclpjeieaaDoor
