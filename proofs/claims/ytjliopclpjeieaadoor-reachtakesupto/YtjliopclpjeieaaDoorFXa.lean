/-
  The reference's Take, cut short.
-/
import Derived.Test.YtjliopclpjeieaaDoorFW
namespace Go.Proofs.YtjliopclpjeieaaDoor
open Go.RowKit
set_option maxRecDepth 100000 in
set_option maxHeartbeats 12800000 in
theorem rtake_cut (l : List UInt8) (v : Value) (adds : List Int) (w : World) (hl : l.length ≤ 2000000) (h4 : 4 ≤ l.length) (hf : ¬ tpF l = 0) (hB : l.length < 4 + cntI (l.drop 3) + 1) :
    Calls Tryd.prog 21 #[.string ⟨l.toArray⟩, v] w fun e w' => TakeOk8 (tkI adds l) w e w' := by
  have h3 : ¬ l.length < 3 := by omega
  have HX : Hid (tkI adds l = if okF (tpF l) (l.drop 3) then (match lstI (tpF l) adds ((l.drop 3).drop (cntI (l.drop 3) + 2)) with | none => .error 4 | some R => .ok (tpF l, hopF (tpF l) (l.drop 3), R)) else .error 4) := by unfold Hid tkI; rw [if_neg h3, if_neg hf]; rfl
  have K1 : Hid (_ : Prop) := rpair_any l w (by omega) hl
  rw [if_neg hf] at K1
  have HF : Hid (isF (tpF l) = true) := fm_isF hf
  have KA : Hid (∀ W, Calls Tryd.prog 34 #[.int .i64 (tpF l)] W fun e w' => e = .returned (.tuple #[.string ⟨(ahL (tpF l)).toArray⟩, .int .i64 (rz (tpF l))]) ∧ w' = W) := fun W => rahead_any _ W
  have HC : Hid (_ = _) := cnt_at l (by omega)
  have hb3 : 3 < (⟨l.toArray⟩ : ByteArray).size := by rw [list_size]; omega
  have hb3' : (3 : Int) < ((⟨l.toArray⟩ : ByteArray).size : Int) := by rw [list_size]; omega
  have hb3l : (3 : Int) < (l.length : Int) := by omega
  have h4' : ¬ ((l.length : Int) < 4) := by omega
  have hn256 : ((⟨l.toArray⟩ : ByteArray)[3]'hb3).toNat < 256 := UInt8.toNat_lt _
  have hok : okF (tpF l) (l.drop 3) = false := by unfold okF okN wholeI; rw [decide_eq_false (by simp; omega)]; rfl
  rw [hok] at HX
  simp only [Bool.false_eq_true, if_false] at HX
  generalize cntI (l.drop 3) = n at *
  have hn : ((⟨l.toArray⟩ : ByteArray)[3]'hb3).toNat = n := HC.out.symm
  clear hok HF h3 hf KA
  rw [hn] at hn256
  clear HC
  have hwa : wrap64 (n : Int) = n := wrap64_id _ (by omega) (by omega)
  have hwb : wrap64 (4 + (n : Int)) = 4 + n := wrap64_id _ (by omega) (by omega)
  have hwc : wrap64 (4 + (n : Int) + 1) = 4 + n + 1 := wrap64_id _ (by omega) (by omega)
  have hB' : (l.length : Int) < 4 + (n : Int) + 1 := by omega
  go_enter Tryd.func21, Tryd.ntmps21
  go_wp2_with fail
  refine Calls.mono K1.out ?_
  rintro e w1 ⟨rfl, hb1⟩
  go_wp2
  refine bodyPost_ret (v := .tuple #[.int .i64 0, .string ⟨#[]⟩, .slice none 0 0, .int .i64 4]) (by simp [results, Tryd.results21, go_sem]) rfl ?_
  rw [HX.out]
  exact ⟨hb1, rfl⟩
end Go.Proofs.YtjliopclpjeieaaDoor
