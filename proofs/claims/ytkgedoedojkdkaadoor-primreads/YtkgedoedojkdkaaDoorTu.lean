/-
  ParseUint to the base 16 at sixteen bits: of every text.
-/
import Derived.Test.YtkgedoedojkdkaaDoorProg
import Derived.WalkKit
import Derived.WalkSpells
import Derived.WalkLawsBesides
import Derived.Lib.ConvBytes
import Derived.Lib.Strings
set_option linter.unusedVariables false
set_option linter.unusedSimpArgs false
set_option maxRecDepth 100000
namespace Go.Proofs.YtkgedoedojkdkaaDoor
open Go.RowKit
/-- The value of a sign to the base 16, as the library takes it. -/
def dv (c : UInt8) : Option Nat := if 48 ≤ c.toNat ∧ c.toNat ≤ 57 then some (c.toNat - 48) else if 97 ≤ (c ||| 32).toNat ∧ (c ||| 32).toNat ≤ 102 then some ((c ||| 32).toNat - 87) else none
def p16 : Nat → List UInt8 → Option Nat
  | a, [] => some a
  | a, c :: r => (dv c).bind fun d => if 65535 < a * 16 + d then none else p16 (a * 16 + d) r
theorem or_u8 (c : UInt8) : bits .or .u8 (c.toNat : Int) 32 = ((c ||| 32).toNat : Int) := by
  have h : ∀ b : Fin 256, bits .or .u8 (b.val : Int) 32 = ((UInt8.ofNat b.val ||| 32).toNat : Int) := by decide +kernel
  have := h ⟨c.toNat, c.toNat_lt⟩
  simpa using this
theorem lower94 (c : UInt8) (w : World) : Calls Tryd.prog 94 #[.int .u8 (c.toNat : Int)] w fun e w' => e = .returned (.int .u8 ((c ||| 32).toNat : Int)) ∧ w' = w := by
  have h := or_u8 c
  go_enter Tryd.func94, Tryd.ntmps94
  go_wp2
  go_ret
  exact ⟨rfl, rfl⟩
/-- What ParseUint answers: the number and no error, or an error. -/
def PuI (o : Option Nat) (e : Ending) : Prop := match o with
  | some n => e = .returned (.tuple #[.int .u64 (n : Int), .nilIface])
  | none => e = .returned (.tuple #[.int .u64 0, .iface 114 (.int .i64 2)]) ∨ e = .returned (.tuple #[.int .u64 65535, .iface 114 (.int .i64 1)])
theorem puI_some {n : Nat} : PuI (some n) (.returned (.tuple #[.int .u64 (n : Int), .nilIface])) := rfl
theorem puI_syn : PuI none (.returned (.tuple #[.int .u64 0, .iface 114 (.int .i64 2)])) := Or.inl rfl
theorem puI_rng : PuI none (.returned (.tuple #[.int .u64 65535, .iface 114 (.int .i64 1)])) := Or.inr rfl
set_option maxHeartbeats 8000000 in
theorem ipu16 (t : ByteArray) (hne : t.size ≠ 0) (hmax : t.size ≤ 9223372036854775806) (w : World) :
    Calls Tryd.prog 81 #[.string t, .int .i64 16, .int .i64 16] w fun e w' => PuI (p16 0 t.data.toList) e ∧ w' = Lib.bytesWorld w 5 t := by
  have hemp : t.toList.isEmpty = false := by
    rw [← decide_eq_emptyBytes]
    exact decide_eq_false (fun h => hne (by rw [h]; rfl))
  have hcv := Lib.run_convert_string_bytes (P := Tryd.prog) w 9 59 5 t (u := .string) Tryd.underlying9 Tryd.underlying59 Tryd.underlying5
  have hB : ∀ j, j < t.size → (Lib.bytesWorld w 5 t).cell? ⟨w.heap.size, j, none⟩ = some (.int .u8 (t.data.toList.getD j 0).toNat) := fun j hj => Lib.bytesWorld_cell w 5 t j hj
  obtain ⟨W1, hW1⟩ : ∃ W1, W1 = Lib.bytesWorld w 5 t := ⟨_, rfl⟩
  rw [← hW1] at hcv hB ⊢
  clear hW1
  obtain ⟨bs, hL⟩ : ∃ bs, bs = t.data.toList := ⟨_, rfl⟩
  have hLn : bs.length = t.size := by rw [hL, Lib.size_eq]
  rw [← hL] at hB ⊢
  clear hL
  have hmv : IntKind.u64.wrap (IntKind.u64.wrap 65536 - 1) = 65535 := by
    rw [IntKind.wrap_u64, IntKind.wrap_u64]
    decide
  go_enter Tryd.func81, Tryd.ntmps81
  go_wp2
  go_loop [12, 13, 101] (fun vu vn vi => ∃ (k acc : Nat) (a : Int), vu = .bool false ∧ vn = .int .u64 a ∧ vi = .int .i64 (k : Int) ∧ k ≤ t.size ∧ Hid (a = (acc : Int) ∧ acc ≤ 65535 ∧ p16 0 bs = p16 acc (bs.drop k)))
    (fun _ _ vi => t.size - (intOf vi).toNat)
  case atStart => exact ⟨0, 0, 0, rfl, rfl, rfl, by omega, rfl, by omega, rfl⟩
  case round =>
    obtain ⟨k, acc, a, rfl, rfl, rfl, hk, hh⟩ := hrel
    obtain ⟨ha, hacc, hdec⟩ := hh.out
    clear hh
    have a0 : 0 ≤ a := by omega
    have a1 : a ≤ 65535 := by omega
    by_cases hkn : k < t.size
    · have hc := hB k hkn
      have hdrop : bs.drop k = bs[k]'(by omega) :: bs.drop (k + 1) := List.drop_eq_getElem_cons (by omega)
      have hget : bs.getD k 0 = bs[k]'(by omega) := by simp [List.getD, List.getElem?_eq_getElem (show k < bs.length by omega)]
      rw [hdrop] at hdec
      rw [hget] at hc
      generalize bs[k]'(by omega) = c at hc hdec
      have hc256 : c.toNat < 256 := c.toNat_lt
      clear hB hdrop hget
      by_cases hdig : 48 ≤ c.toNat ∧ c.toNat ≤ 57
      · have hdv : dv c = some (c.toNat - 48) := by unfold dv; rw [if_pos hdig]
        obtain ⟨hd0, hd1⟩ := hdig
        by_cases hov : 65535 < acc * 16 + (c.toNat - 48)
        · have hF : p16 acc (c :: bs.drop (k + 1)) = none := by simp [p16, hdv, hov]
          rw [hF] at hdec
          have HD : Hid (_ = _) := hdec
          have iov : 65535 < a * 16 + ((c.toNat : Int) - 48) := by omega
          clear hdv hacc hF hov hdec ha
          go_wp2
          go_ret2
          exact ⟨by rw [HD.out]; exact puI_rng, rfl⟩
        · have hF : p16 acc (c :: bs.drop (k + 1)) = p16 (acc * 16 + (c.toNat - 48)) (bs.drop (k + 1)) := by simp [p16, hdv, hov]
          have HN : Hid (a * 16 + ((c.toNat : Int) - 48) = ((acc * 16 + (c.toNat - 48) : Nat) : Int) ∧ acc * 16 + (c.toNat - 48) ≤ 65535 ∧ p16 0 bs = p16 (acc * 16 + (c.toNat - 48)) (bs.drop (k + 1))) := ⟨by omega, by omega, hdec.trans hF⟩
          have iov : a * 16 + ((c.toNat : Int) - 48) ≤ 65535 := by omega
          clear hacc hF hov hdec hdv ha
          go_wp2
          refine ⟨⟨k + 1, acc * 16 + (c.toNat - 48), a * 16 + ((c.toNat : Int) - 48), rfl, (by first | rfl | (congr 1; omega)), (by first | rfl | (congr 1; omega)), by omega, HN⟩, by simp [intOf]; omega⟩
      · have hb := fun W => lower94 c W
        have hdv : dv c = if 97 ≤ (c ||| 32).toNat ∧ (c ||| 32).toNat ≤ 102 then some ((c ||| 32).toNat - 87) else none := by unfold dv; rw [if_neg hdig]
        have hl : (c ||| 32).toNat < 256 := UInt8.toNat_lt _
        have h95 : c.toNat = 95 → (c ||| 32).toNat = 127 := fun h => by
          have : c = 95 := UInt8.toNat_inj.1 h
          subst this; rfl
        generalize (c ||| 32).toNat = l at *
        have HB : Hid (∀ W, _) := hb
        clear hb
        have hnd : (c.toNat : Int) < 48 ∨ 57 < (c.toNat : Int) := by omega
        by_cases hA : 97 ≤ l ∧ l ≤ 102
        · have q95 : ((c.toNat : Int) == 95) = false := by
            simp; intro h; have := h95 (by omega); omega
          rw [if_pos hA] at hdv
          obtain ⟨hl0, hl1⟩ := hA
          by_cases hov : 65535 < acc * 16 + (l - 87)
          · have hF : p16 acc (c :: bs.drop (k + 1)) = none := by simp [p16, hdv, hov]
            rw [hF] at hdec
            have HD : Hid (_ = _) := hdec
            have iov : 65535 < a * 16 + ((l : Int) - 87) := by omega
            clear hdv hacc hF hov hdec h95 hdig ha
            rcases hnd with hnd | hnd
            all_goals
              go_wp2_with (go_at_call 94; refine (HB.out _).mono ?_; rintro e w' ⟨rfl, rfl⟩)
              go_ret2
              exact ⟨by rw [HD.out]; exact puI_rng, rfl⟩
          · have hF : p16 acc (c :: bs.drop (k + 1)) = p16 (acc * 16 + (l - 87)) (bs.drop (k + 1)) := by simp [p16, hdv, hov]
            have HN : Hid (a * 16 + ((l : Int) - 87) = ((acc * 16 + (l - 87) : Nat) : Int) ∧ acc * 16 + (l - 87) ≤ 65535 ∧ p16 0 bs = p16 (acc * 16 + (l - 87)) (bs.drop (k + 1))) := ⟨by omega, by omega, hdec.trans hF⟩
            have iov : a * 16 + ((l : Int) - 87) ≤ 65535 := by omega
            clear hdv hacc hF hov hdec h95 hdig ha
            rcases hnd with hnd | hnd
            all_goals
              go_wp2_with (go_at_call 94; refine (HB.out _).mono ?_; rintro e w' ⟨rfl, rfl⟩)
              refine ⟨⟨k + 1, acc * 16 + (l - 87), a * 16 + ((l : Int) - 87), rfl, (by first | rfl | (congr 1; omega)), (by first | rfl | (congr 1; omega)), by omega, HN⟩, by simp [intOf]; omega⟩
        · rw [if_neg hA] at hdv
          have hF : p16 acc (c :: bs.drop (k + 1)) = none := by simp [p16, hdv]
          rw [hF] at hdec
          have HD : Hid (_ = _) := hdec
          clear hdv hacc hF hdec ha
          by_cases h5 : c.toNat = 95
          · have := h95 h5
            subst this
            have h5' : (c.toNat : Int) = 95 := by omega
            rw [h5'] at hc HB
            clear hA hdig h95 hnd h5 h5' hc256
            go_wp2_with (go_at_call 94; refine (HB.out _).mono ?_; rintro e w' ⟨rfl, rfl⟩)
            go_ret2
            exact ⟨by rw [HD.out]; exact puI_syn, rfl⟩
          · have q95 : ((c.toNat : Int) == 95) = false := by simp; omega
            clear h95 h5 hdig
            rcases hnd with hnd | hnd
            all_goals
              by_cases hB1 : l < 97
              · clear hA
                go_wp2_with (go_at_call 94; refine (HB.out _).mono ?_; rintro e w' ⟨rfl, rfl⟩)
                go_ret2
                exact ⟨by rw [HD.out]; exact puI_syn, rfl⟩
              · by_cases hB2 : 122 < l
                · clear hA
                  go_wp2_with (go_at_call 94; refine (HB.out _).mono ?_; rintro e w' ⟨rfl, rfl⟩)
                  go_ret2
                  exact ⟨by rw [HD.out]; exact puI_syn, rfl⟩
                · have hB3 : 103 ≤ l := by omega
                  clear hA
                  go_wp2_with (go_at_call 94; refine (HB.out _).mono ?_; rintro e w' ⟨rfl, rfl⟩)
                  go_ret2
                  exact ⟨by rw [HD.out]; exact puI_syn, rfl⟩
    · have hkk : k = t.size := by omega
      subst hkk
      have hF : p16 acc (bs.drop t.size) = some acc := by rw [List.drop_eq_nil_of_le (by omega)]; rfl
      rw [hF] at hdec
      have HD : Hid (_ = _) := hdec
      subst ha
      clear hacc hF hdec a0 a1
      go_wp2
      go_ret2
      exact ⟨by rw [HD.out]; exact puI_some, rfl⟩
end Go.Proofs.YtkgedoedojkdkaaDoor
