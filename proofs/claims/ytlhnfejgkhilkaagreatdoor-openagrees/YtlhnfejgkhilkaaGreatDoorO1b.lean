/-
  Lists that rise: rising, of families, of what is told of path ids, of restarts.
-/
import Derived.Test.YtlhnfejgkhilkaaGreatDoorO1
import Derived.LoopN
set_option linter.unusedVariables false
set_option linter.unusedSimpArgs false
namespace Go.Proofs.YtlhnfejgkhilkaaGreatDoor
open Go.RowKit
set_option maxRecDepth 100000 in
set_option maxHeartbeats 1600000 in
theorem rising_add (v : Value) (L : List Ad) (w : World) (hg : FamSizes w) (hv : AddsAt w v L) :
    Calls Tryz.prog 31 #[v, .func (.func 32) #[] #[]] w fun e w' => e = .returned (.bool (risF 0 (L.map (·.f)))) ∧ Below w.heap.size w w' := by
  obtain ⟨ad, b, off, cap, rfl, had, hcap, hrow⟩ := hv
  have HR : Hid (_ : Prop) := hrow
  have HG : Hid (FamSizes w) := hg
  clear hrow hg
  go_enter Tryz.func31, Tryz.ntmps31
  go_wp2
  go_loopw [5, 14] (fun t i wr => ∃ (k : Nat) (l : Int), k ≤ L.length ∧ i = .int .i64 k ∧ t = .int .i64 l ∧ (k : Int) ≤ l ∧ l ≤ 5 ∧ Below w.heap.size w wr ∧ risF 0 (L.map (·.f)) = risF l ((L.map (·.f)).drop k)) (fun _ i _ => L.length - (intOf i).toNat)
  case atStart => exact ⟨0, 0, Nat.zero_le _, rfl, rfl, by omega, by omega, Below.refl _ _, rfl⟩
  case round =>
    obtain ⟨k, l, hk, rfl, rfl, hkl, hl5, hb, hris⟩ := hrel
    have HB : Hid (Below w.heap.size w wr) := hb
    have HRI : Hid (_ = _) := hris
    clear hb hris
    by_cases hlt : k < L.length
    · obtain rfl : ad = some ⟨b, off, none⟩ := by
        rcases had with h | h
        · exact h
        · omega
      have c0 := (HB.out.cell (p := ⟨b, off + k * 3, none⟩) (lt_of_cell (HR.out k hlt).1)).trans (HR.out k hlt).1
      have c1 := (HB.out.cell (p := ⟨b, off + k * 3 + 1, none⟩) (lt_of_cell (HR.out k hlt).2.1)).trans (HR.out k hlt).2.1
      have c2 := (HB.out.cell (p := ⟨b, off + k * 3 + 2, none⟩) (lt_of_cell (HR.out k hlt).2.2)).trans (HR.out k hlt).2.2
      have HD : Hid ((L.map (·.f)).drop k = L[k].f :: (L.map (·.f)).drop (k + 1)) := by
        unfold Hid
        rw [List.drop_eq_getElem_cons (by simpa using hlt)]
        simp
      rw [HD.out] at HRI
      clear HD
      have HG1 : Hid (FamSizes wr) := HG.out.below HB.out
      generalize L[k].f = f at *
      generalize L[k].s = s at *
      generalize L[k].t = t at *
      by_cases hf : isF f = true ∧ l < f
      · obtain ⟨hf1, hf2⟩ := hf
        have hbd := isF_bd hf1
        rw [risF_go hf1 hf2] at HRI
        have HF1 : Hid (isF f = true) := hf1
        have HFX : Hid (isF f = true) := hf1
        clear hf1
        have KK : Hid (∀ X, Below w.heap.size w X → Calls Tryz.prog 45 #[.int .i64 f] X fun e w' => e = .returned (.tuple #[.int .u16 (afN f), .int .u8 (sfN f), .bool true]) ∧ Below X.heap.size X w') := fun X hX => by have := afi_any f X (HG.out.below hX); rw [HFX.out] at this; exact this
        clear HFX
        generalize (afN f : Int) = p at *
        generalize (sfN f : Int) = q at *
        have hba : Below wr.heap.size wr (wr.alloc (.cells #[.int .i64 f, .bool s, .bool t] 52)) := (Below.refl _ _).alloc (Nat.le_refl _) _
        have HBA : Hid (Below _ _ _) := hba
        clear hba
        go_wp2_with fail
        refine Calls.mono (addFam_any f s t _) ?_
        rintro e w1 ⟨rfl, hb1⟩
        have hb1' : Below w.heap.size w w1 := HB.out.trans ((HBA.out.trans (hb1.mono (by simp))).mono HB.out.size)
        have HB1 : Hid (Below w.heap.size w w1) := hb1'
        clear hb1 hb1'
        go_wp2_with fail
        refine Calls.mono (KK.out _ HB1.out) ?_
        rintro e w2 ⟨rfl, hb2⟩
        have HB2 : Hid (Below w.heap.size w w2) := HB1.out.trans (hb2.mono HB1.out.size)
        clear hb2
        go_wp2
        go_roundw
        case rel => exact ⟨k + 1, f, by omega, by go_num, rfl, by omega, hbd.2, HB2.out, HRI.out⟩
        case measure => simp [intOf]; omega
      · have hno : isF f = false ∨ (isF f = true ∧ f ≤ l) := by
          cases h : isF f
          · exact Or.inl rfl
          · exact Or.inr ⟨rfl, by
              by_cases h2 : l < f
              · exact absurd ⟨h, h2⟩ hf
              · omega⟩
        rw [risF_stop (by rcases hno with h | h; exact Or.inl h; exact Or.inr h.2)] at HRI
        clear hf
        rcases hno with hno | ⟨hno, hle⟩
        · have HFX : Hid (isF f = false) := hno
          clear hno
          have KK : Hid (∀ X, Below w.heap.size w X → Calls Tryz.prog 45 #[.int .i64 f] X fun e w' => e = .returned (.tuple #[.int .u16 (afN f), .int .u8 (sfN f), .bool false]) ∧ Below X.heap.size X w') := fun X hX => by have := afi_any f X (HG.out.below hX); rw [HFX.out] at this; exact this
          clear HFX
          generalize (afN f : Int) = p at *
          generalize (sfN f : Int) = q at *
          have hba : Below wr.heap.size wr (wr.alloc (.cells #[.int .i64 f, .bool s, .bool t] 52)) := (Below.refl _ _).alloc (Nat.le_refl _) _
          have HBA : Hid (Below _ _ _) := hba
          clear hba
          go_wp2_with fail
          refine Calls.mono (addFam_any f s t _) ?_
          rintro e w1 ⟨rfl, hb1⟩
          have hb1' : Below w.heap.size w w1 := HB.out.trans ((HBA.out.trans (hb1.mono (by simp))).mono HB.out.size)
          have HB1 : Hid (Below w.heap.size w w1) := hb1'
          clear hb1 hb1'
          go_wp2_with fail
          refine Calls.mono (KK.out _ HB1.out) ?_
          rintro e w2 ⟨rfl, hb2⟩
          have HB2 : Hid (Below w.heap.size w w2) := HB1.out.trans (hb2.mono HB1.out.size)
          clear hb2
          go_wp2
          go_ret
          exact ⟨ret_bool HRI.out.symm, HB2.out⟩
        · have HFX : Hid (isF f = true) := hno
          clear hno
          have KK : Hid (∀ X, Below w.heap.size w X → Calls Tryz.prog 45 #[.int .i64 f] X fun e w' => e = .returned (.tuple #[.int .u16 (afN f), .int .u8 (sfN f), .bool true]) ∧ Below X.heap.size X w') := fun X hX => by have := afi_any f X (HG.out.below hX); rw [HFX.out] at this; exact this
          clear HFX
          generalize (afN f : Int) = p at *
          generalize (sfN f : Int) = q at *
          have hba : Below wr.heap.size wr (wr.alloc (.cells #[.int .i64 f, .bool s, .bool t] 52)) := (Below.refl _ _).alloc (Nat.le_refl _) _
          have HBA : Hid (Below _ _ _) := hba
          clear hba
          go_wp2_with fail
          refine Calls.mono (addFam_any f s t _) ?_
          rintro e w1 ⟨rfl, hb1⟩
          have hb1' : Below w.heap.size w w1 := HB.out.trans ((HBA.out.trans (hb1.mono (by simp))).mono HB.out.size)
          have HB1 : Hid (Below w.heap.size w w1) := hb1'
          clear hb1 hb1'
          go_wp2_with fail
          refine Calls.mono (KK.out _ HB1.out) ?_
          rintro e w2 ⟨rfl, hb2⟩
          have HB2 : Hid (Below w.heap.size w w2) := HB1.out.trans (hb2.mono HB1.out.size)
          clear hb2
          go_wp2
          go_ret
          exact ⟨ret_bool HRI.out.symm, HB2.out⟩
    · obtain rfl : k = L.length := by omega
      rw [List.drop_eq_nil_of_le (by simp)] at HRI
      go_wp2
      go_ret
      exact ⟨ret_bool (by rw [HRI.out]; rfl), HB.out⟩
set_option maxRecDepth 100000 in
set_option maxHeartbeats 1600000 in
theorem rising_kept (v : Value) (L : List Kp) (w : World) (hg : FamSizes w) (hv : KeptsAt w v L) :
    Calls Tryz.prog 47 #[v, .func (.func 48) #[] #[]] w fun e w' => e = .returned (.bool (risF 0 (L.map (·.f)))) ∧ Below w.heap.size w w' := by
  obtain ⟨ad, b, off, cap, rfl, had, hcap, hrow⟩ := hv
  have HR : Hid (_ : Prop) := hrow
  have HG : Hid (FamSizes w) := hg
  clear hrow hg
  go_enter Tryz.func47, Tryz.ntmps47
  go_wp2
  go_loopw [5, 14] (fun t i wr => ∃ (k : Nat) (l : Int), k ≤ L.length ∧ i = .int .i64 k ∧ t = .int .i64 l ∧ (k : Int) ≤ l ∧ l ≤ 5 ∧ Below w.heap.size w wr ∧ risF 0 (L.map (·.f)) = risF l ((L.map (·.f)).drop k)) (fun _ i _ => L.length - (intOf i).toNat)
  case atStart => exact ⟨0, 0, Nat.zero_le _, rfl, rfl, by omega, by omega, Below.refl _ _, rfl⟩
  case round =>
    obtain ⟨k, l, hk, rfl, rfl, hkl, hl5, hb, hris⟩ := hrel
    have HB : Hid (Below w.heap.size w wr) := hb
    have HRI : Hid (_ = _) := hris
    clear hb hris
    by_cases hlt : k < L.length
    · obtain rfl : ad = some ⟨b, off, none⟩ := by
        rcases had with h | h
        · exact h
        · omega
      have c0 := (HB.out.cell (p := ⟨b, off + k * 2, none⟩) (lt_of_cell (HR.out k hlt).1)).trans (HR.out k hlt).1
      have c1 := (HB.out.cell (p := ⟨b, off + k * 2 + 1, none⟩) (lt_of_cell (HR.out k hlt).2)).trans (HR.out k hlt).2
      have HD : Hid ((L.map (·.f)).drop k = L[k].f :: (L.map (·.f)).drop (k + 1)) := by
        unfold Hid
        rw [List.drop_eq_getElem_cons (by simpa using hlt)]
        simp
      rw [HD.out] at HRI
      clear HD
      have HG1 : Hid (FamSizes wr) := HG.out.below HB.out
      generalize L[k].f = f at *
      generalize L[k].k = s at *
      by_cases hf : isF f = true ∧ l < f
      · obtain ⟨hf1, hf2⟩ := hf
        have hbd := isF_bd hf1
        rw [risF_go hf1 hf2] at HRI
        have HF1 : Hid (isF f = true) := hf1
        have HFX : Hid (isF f = true) := hf1
        clear hf1
        have KK : Hid (∀ X, Below w.heap.size w X → Calls Tryz.prog 45 #[.int .i64 f] X fun e w' => e = .returned (.tuple #[.int .u16 (afN f), .int .u8 (sfN f), .bool true]) ∧ Below X.heap.size X w') := fun X hX => by have := afi_any f X (HG.out.below hX); rw [HFX.out] at this; exact this
        clear HFX
        generalize (afN f : Int) = p at *
        generalize (sfN f : Int) = q at *
        have hba : Below wr.heap.size wr (wr.alloc (.cells #[.int .i64 f, .bool s] 40)) := (Below.refl _ _).alloc (Nat.le_refl _) _
        have HBA : Hid (Below _ _ _) := hba
        clear hba
        go_wp2_with fail
        refine Calls.mono (restartFam_any f s _) ?_
        rintro e w1 ⟨rfl, hb1⟩
        have hb1' : Below w.heap.size w w1 := HB.out.trans ((HBA.out.trans (hb1.mono (by simp))).mono HB.out.size)
        have HB1 : Hid (Below w.heap.size w w1) := hb1'
        clear hb1 hb1'
        go_wp2_with fail
        refine Calls.mono (KK.out _ HB1.out) ?_
        rintro e w2 ⟨rfl, hb2⟩
        have HB2 : Hid (Below w.heap.size w w2) := HB1.out.trans (hb2.mono HB1.out.size)
        clear hb2
        go_wp2
        go_roundw
        case rel => exact ⟨k + 1, f, by omega, by go_num, rfl, by omega, hbd.2, HB2.out, HRI.out⟩
        case measure => simp [intOf]; omega
      · have hno : isF f = false ∨ (isF f = true ∧ f ≤ l) := by
          cases h : isF f
          · exact Or.inl rfl
          · exact Or.inr ⟨rfl, by
              by_cases h2 : l < f
              · exact absurd ⟨h, h2⟩ hf
              · omega⟩
        rw [risF_stop (by rcases hno with h | h; exact Or.inl h; exact Or.inr h.2)] at HRI
        clear hf
        rcases hno with hno | ⟨hno, hle⟩
        · have HFX : Hid (isF f = false) := hno
          clear hno
          have KK : Hid (∀ X, Below w.heap.size w X → Calls Tryz.prog 45 #[.int .i64 f] X fun e w' => e = .returned (.tuple #[.int .u16 (afN f), .int .u8 (sfN f), .bool false]) ∧ Below X.heap.size X w') := fun X hX => by have := afi_any f X (HG.out.below hX); rw [HFX.out] at this; exact this
          clear HFX
          generalize (afN f : Int) = p at *
          generalize (sfN f : Int) = q at *
          have hba : Below wr.heap.size wr (wr.alloc (.cells #[.int .i64 f, .bool s] 40)) := (Below.refl _ _).alloc (Nat.le_refl _) _
          have HBA : Hid (Below _ _ _) := hba
          clear hba
          go_wp2_with fail
          refine Calls.mono (restartFam_any f s _) ?_
          rintro e w1 ⟨rfl, hb1⟩
          have hb1' : Below w.heap.size w w1 := HB.out.trans ((HBA.out.trans (hb1.mono (by simp))).mono HB.out.size)
          have HB1 : Hid (Below w.heap.size w w1) := hb1'
          clear hb1 hb1'
          go_wp2_with fail
          refine Calls.mono (KK.out _ HB1.out) ?_
          rintro e w2 ⟨rfl, hb2⟩
          have HB2 : Hid (Below w.heap.size w w2) := HB1.out.trans (hb2.mono HB1.out.size)
          clear hb2
          go_wp2
          go_ret
          exact ⟨ret_bool HRI.out.symm, HB2.out⟩
        · have HFX : Hid (isF f = true) := hno
          clear hno
          have KK : Hid (∀ X, Below w.heap.size w X → Calls Tryz.prog 45 #[.int .i64 f] X fun e w' => e = .returned (.tuple #[.int .u16 (afN f), .int .u8 (sfN f), .bool true]) ∧ Below X.heap.size X w') := fun X hX => by have := afi_any f X (HG.out.below hX); rw [HFX.out] at this; exact this
          clear HFX
          generalize (afN f : Int) = p at *
          generalize (sfN f : Int) = q at *
          have hba : Below wr.heap.size wr (wr.alloc (.cells #[.int .i64 f, .bool s] 40)) := (Below.refl _ _).alloc (Nat.le_refl _) _
          have HBA : Hid (Below _ _ _) := hba
          clear hba
          go_wp2_with fail
          refine Calls.mono (restartFam_any f s _) ?_
          rintro e w1 ⟨rfl, hb1⟩
          have hb1' : Below w.heap.size w w1 := HB.out.trans ((HBA.out.trans (hb1.mono (by simp))).mono HB.out.size)
          have HB1 : Hid (Below w.heap.size w w1) := hb1'
          clear hb1 hb1'
          go_wp2_with fail
          refine Calls.mono (KK.out _ HB1.out) ?_
          rintro e w2 ⟨rfl, hb2⟩
          have HB2 : Hid (Below w.heap.size w w2) := HB1.out.trans (hb2.mono HB1.out.size)
          clear hb2
          go_wp2
          go_ret
          exact ⟨ret_bool HRI.out.symm, HB2.out⟩
    · obtain rfl : k = L.length := by omega
      rw [List.drop_eq_nil_of_le (by simp)] at HRI
      go_wp2
      go_ret
      exact ⟨ret_bool (by rw [HRI.out]; rfl), HB.out⟩
end Go.Proofs.YtlhnfejgkhilkaaGreatDoor
