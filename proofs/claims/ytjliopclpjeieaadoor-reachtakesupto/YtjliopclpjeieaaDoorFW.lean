/-
  The reference's Take.
-/
import Derived.Test.YtjliopclpjeieaaDoorFV
import Derived.Deep.RegionHeld3
namespace Go.Proofs.YtjliopclpjeieaaDoor
open Go.RowKit
theorem ext_mid (l : List UInt8) (n : Nat) : (⟨l.toArray⟩ : ByteArray).extract 4 (4 + n) = ⟨((l.drop 4).take n).toArray⟩ := by
  apply ByteArray.ext
  simp
set_option maxRecDepth 100000 in
set_option maxHeartbeats 6400000 in
theorem rtake_bad (l : List UInt8) (v : Value) (adds : List Int) (w : World) (hl : l.length ≤ 2000000) (h : l.length < 3 ∨ tpF l = 0 ∨ l.length < 4) :
    Calls Tryd.prog 21 #[.string ⟨l.toArray⟩, v] w fun e w' => TakeOk8 (tkI adds l) w e w' := by
  by_cases h3 : l.length < 3
  · have HX : Hid (tkI adds l = .error 4) := by unfold Hid tkI; rw [if_pos h3]
    have K1 : Hid (_ : Prop) := rpair_short l w h3
    clear h3 h hl
    go_enter Tryd.func21, Tryd.ntmps21
    go_wp2_with fail
    refine Calls.mono K1.out ?_
    rintro e w1 ⟨rfl, hb1⟩
    go_wp2
    refine bodyPost_ret (v := .tuple #[.int .i64 0, .string ⟨#[]⟩, .slice none 0 0, .int .i64 4]) (by simp [results, Tryd.results21, go_sem]) rfl ?_
    rw [HX.out]
    exact ⟨hb1, rfl⟩
  · have K1 : Hid (_ : Prop) := rpair_any l w (by omega) hl
    by_cases hf : tpF l = 0
    · have HX : Hid (tkI adds l = .error 5) := by unfold Hid tkI; rw [if_neg h3, if_pos hf]
      rw [if_pos hf] at K1
      clear h3 hl hf h
      go_enter Tryd.func21, Tryd.ntmps21
      go_wp2_with fail
      refine Calls.mono K1.out ?_
      rintro e w1 ⟨rfl, hb1⟩
      go_wp2
      refine bodyPost_ret (v := .tuple #[.int .i64 0, .string ⟨#[]⟩, .slice none 0 0, .int .i64 5]) (by simp [results, Tryd.results21, go_sem]) rfl ?_
      rw [HX.out]
      exact ⟨hb1, rfl⟩
    · have h4 : l.length < 4 := by rcases h with h | h | h; exact absurd h h3; exact absurd h hf; exact h
      have hw : okF (tpF l) (l.drop 3) = false := by unfold okF okN wholeI; rw [decide_eq_false (by simp; omega)]; rfl
      have HX : Hid (tkI adds l = .error 4) := by unfold Hid tkI; rw [if_neg h3, if_neg hf, hw]; rfl
      rw [if_neg hf] at K1
      have h4' : (l.length : Int) < 4 := by omega
      clear h3 hf h hw
      go_enter Tryd.func21, Tryd.ntmps21
      go_wp2_with fail
      refine Calls.mono K1.out ?_
      rintro e w1 ⟨rfl, hb1⟩
      go_wp2
      refine bodyPost_ret (v := .tuple #[.int .i64 0, .string ⟨#[]⟩, .slice none 0 0, .int .i64 4]) (by simp [results, Tryd.results21, go_sem]) rfl ?_
      rw [HX.out]
      exact ⟨hb1, rfl⟩
theorem cnt_at (l : List UInt8) (h : 3 < l.length) : cntI (l.drop 3) = ((⟨l.toArray⟩ : ByteArray)[3]'(by rw [list_size]; exact h)).toNat := by
  unfold cntI
  rw [byte_at l 3 h]
  rfl
theorem hop_at (l : List UInt8) : hopI (l.drop 3) = (l.drop 4).take (cntI (l.drop 3)) := by
  unfold hopI
  rw [List.drop_drop]
theorem behind_at (l : List UInt8) : (l.drop 3).drop (cntI (l.drop 3) + 2) = l.drop (4 + cntI (l.drop 3) + 1) := by
  rw [List.drop_drop]
  congr 1
  omega
end Go.Proofs.YtjliopclpjeieaaDoor
