/-
  Lists that rise: rising, of families, of what is told of path ids, of restarts.
-/
import Derived.Test.YtlhnfejgkhilkaaGreatDoorX1
import Derived.LoopN
set_option linter.unusedVariables false
set_option linter.unusedSimpArgs false
namespace Go.Proofs.YtlhnfejgkhilkaaGreatDoor
open Go.RowKit
theorem risF_stop {l f : Int} {r : List Int} (h : isF f = false ∨ f ≤ l) : risF l (f :: r) = false := by
  simp only [risF]
  rcases h with h | h
  · rw [h]; rfl
  · rw [decide_eq_false (by omega)]; simp
theorem risF_go {l f : Int} {r : List Int} (h : isF f = true) (h2 : l < f) : risF l (f :: r) = risF f r := by
  simp only [risF]
  rw [h, decide_eq_true h2]; rfl
set_option maxRecDepth 100000 in
set_option maxHeartbeats 1600000 in
theorem rising_int (v : Value) (L : List Int) (w : World) (hg : FamSizes w) (hv : IntsAt w v L) :
    Calls Tryz.prog 29 #[v, .func (.func 30) #[] #[]] w fun e w' => e = .returned (.bool (risF 0 L)) ∧ Below w.heap.size w w' := by
  obtain ⟨ad, b, off, cap, rfl, had, hcap, hrow⟩ := hv
  have HR : Hid (_ : Prop) := hrow
  have HG : Hid (FamSizes w) := hg
  clear hrow hg
  go_enter Tryz.func29, Tryz.ntmps29
  go_wp2
  go_loopw [5, 14] (fun t i wr => ∃ (k : Nat) (l : Int), k ≤ L.length ∧ i = .int .i64 k ∧ t = .int .i64 l ∧ (k : Int) ≤ l ∧ l ≤ 5 ∧ Below w.heap.size w wr ∧ risF 0 L = risF l (L.drop k)) (fun _ i _ => L.length - (intOf i).toNat)
  case atStart => exact ⟨0, 0, Nat.zero_le _, rfl, rfl, by omega, by omega, Below.refl _ _, rfl⟩
  case round =>
    obtain ⟨k, l, hk, rfl, rfl, hkl, hl5, hb, hris⟩ := hrel
    have HB : Hid (Below w.heap.size w wr) := hb
    have HRI : Hid (_ = _) := hris
    clear hb hris
    by_cases hlt : k < L.length
    · obtain rfl : ad = some ⟨b, off, none⟩ := by
        rcases had with h | h
        · exact h
        · omega
      have c0 := (HB.out.cell (p := ⟨b, off + k, none⟩) (lt_of_cell (HR.out k hlt))).trans (HR.out k hlt)
      have HD : Hid (L.drop k = L[k] :: (L).drop (k + 1)) := by
        unfold Hid
        rw [List.drop_eq_getElem_cons (by simpa using hlt)]
        skip
      rw [HD.out] at HRI
      clear HD
      have HG1 : Hid (FamSizes wr) := HG.out.below HB.out
      generalize L[k] = f at *
      by_cases hf : isF f = true ∧ l < f
      · obtain ⟨hf1, hf2⟩ := hf
        have hbd := isF_bd hf1
        rw [risF_go hf1 hf2] at HRI
        have HF1 : Hid (isF f = true) := hf1
        have HFX : Hid (isF f = true) := hf1
        clear hf1
        have HK : Hid (Calls Tryz.prog 45 #[.int .i64 f] wr fun e w' => e = .returned (.tuple #[.int .u16 (afN f), .int .u8 (sfN f), .bool true]) ∧ Below wr.heap.size wr w') := by have := afi_any f wr HG1.out; rw [HFX.out] at this; exact this
        clear HFX
        generalize (afN f : Int) = p at *
        generalize (sfN f : Int) = q at *
        go_wp2_with (first | (go_at_call 30; refine (itself_any _ _).mono ?_; rintro e w' ⟨rfl, rfl⟩) | (go_at_call 45; refine Calls.mono HK.out ?_; rintro e w2 ⟨rfl, hb2⟩))
        have HB2 : Hid (Below w.heap.size w w2) := HB.out.trans (hb2.mono HB.out.size)
        clear hb2
        go_wp2
        go_roundw
        case rel => exact ⟨k + 1, f, by omega, by go_num, rfl, by omega, hbd.2, HB2.out, HRI.out⟩
        case measure => simp [intOf]; omega
      · have hno : isF f = false ∨ (isF f = true ∧ f ≤ l) := by
          cases h : isF f
          · exact Or.inl rfl
          · exact Or.inr ⟨rfl, by
              by_cases h2 : l < f
              · exact absurd ⟨h, h2⟩ hf
              · omega⟩
        rw [risF_stop (by rcases hno with h | h; exact Or.inl h; exact Or.inr h.2)] at HRI
        clear hf
        rcases hno with hno | ⟨hno, hle⟩
        · have HFX : Hid (isF f = false) := hno
          clear hno
          have HK : Hid (Calls Tryz.prog 45 #[.int .i64 f] wr fun e w' => e = .returned (.tuple #[.int .u16 (afN f), .int .u8 (sfN f), .bool false]) ∧ Below wr.heap.size wr w') := by have := afi_any f wr HG1.out; rw [HFX.out] at this; exact this
          clear HFX
          generalize (afN f : Int) = p at *
          generalize (sfN f : Int) = q at *
          go_wp2_with (first | (go_at_call 30; refine (itself_any _ _).mono ?_; rintro e w' ⟨rfl, rfl⟩) | (go_at_call 45; refine Calls.mono HK.out ?_; rintro e w2 ⟨rfl, hb2⟩))
          have HB2 : Hid (Below w.heap.size w w2) := HB.out.trans (hb2.mono HB.out.size)
          clear hb2
          go_wp2
          go_ret
          exact ⟨ret_bool HRI.out.symm, HB2.out⟩
        · have HFX : Hid (isF f = true) := hno
          clear hno
          have HK : Hid (Calls Tryz.prog 45 #[.int .i64 f] wr fun e w' => e = .returned (.tuple #[.int .u16 (afN f), .int .u8 (sfN f), .bool true]) ∧ Below wr.heap.size wr w') := by have := afi_any f wr HG1.out; rw [HFX.out] at this; exact this
          clear HFX
          generalize (afN f : Int) = p at *
          generalize (sfN f : Int) = q at *
          go_wp2_with (first | (go_at_call 30; refine (itself_any _ _).mono ?_; rintro e w' ⟨rfl, rfl⟩) | (go_at_call 45; refine Calls.mono HK.out ?_; rintro e w2 ⟨rfl, hb2⟩))
          have HB2 : Hid (Below w.heap.size w w2) := HB.out.trans (hb2.mono HB.out.size)
          clear hb2
          go_wp2
          go_ret
          exact ⟨ret_bool HRI.out.symm, HB2.out⟩
    · obtain rfl : k = L.length := by omega
      rw [List.drop_eq_nil_of_le (by simp)] at HRI
      go_wp2
      go_ret
      exact ⟨ret_bool (by rw [HRI.out]; rfl), HB.out⟩
end Go.Proofs.YtlhnfejgkhilkaaGreatDoor
