/-
  Refresh, ReadRefresh, and the reference's.
-/
import Derived.Test.YtkaghjohkhlimabDoorMG
namespace Go.Proofs.YtkaghjohkhlimabDoor
open Go.RowKit
/-- A refresh's bytes. -/
def rfL (f : Int) : List UInt8 := laid (afN f) 2 ++ laid 0 1 ++ laid (sfN f) 1
def rfA (f : Int) : Value := if isF f then .tuple #[.string ⟨(rfL f).toArray⟩, .int .i64 0] else .tuple #[.string ⟨#[]⟩, .int .i64 2]
theorem afN_lt (f : Int) : afN f < 256 := by unfold afN; split <;> (try split) <;> omega
theorem sfN_lt (f : Int) : sfN f < 256 := by unfold sfN; split <;> (try split) <;> (try split) <;> omega
theorem rf_four (f : Int) : rfL f = [0, UInt8.ofNat (afN f), 0, UInt8.ofNat (sfN f)] := by
  have h := afN_lt f
  show [UInt8.ofNat (afN f / 256), UInt8.ofNat (afN f / 1), UInt8.ofNat (0 / 1), UInt8.ofNat (sfN f / 1)] = _
  rw [Nat.div_eq_of_lt h]
  simp only [Nat.div_one]
  rfl
set_option maxHeartbeats 800000 in
theorem refresh_any (f : Int) (w : World) (hg : FamSizes w) : Calls Tryd.prog 8 #[.int .i64 f] w fun e w' => e = .returned (rfA f) ∧ Below w.heap.size w w' := by
  have HK : Hid (_ : Prop) := afi_any f w hg
  cases hf : isF f with
  | false =>
    rw [hf] at HK
    have HA : Hid (rfA f = .tuple #[.string ⟨#[]⟩, .int .i64 2]) := by unfold Hid rfA; rw [hf]; rfl
    rw [HA.out]
    clear hg hf HA
    go_enter Tryd.func8, Tryd.ntmps8
    go_wp2_with fail
    refine Calls.mono HK.out ?_
    rintro e w1 ⟨rfl, hb1⟩
    go_wp2
    go_ret2
    exact ⟨rfl, hb1⟩
  | true =>
    rw [hf] at HK
    have HA : Hid (rfA f = .tuple #[.string ⟨(rfL f).toArray⟩, .int .i64 0]) := by unfold Hid rfA; rw [hf]; rfl
    rw [HA.out]
    have ha := afN_lt f
    have hs := sfN_lt f
    have K1 : Hid (∀ X, _) := fun X => put_l [] (afN f) 2 X (by omega) (by omega) (by omega) (by simp)
    have K2 : Hid (∀ X, _) := fun X => put_l (laid (afN f) 2) 0 1 X (by omega) (by omega) (by omega) (by rw [laid_length]; omega)
    have K3 : Hid (∀ X, _) := fun X => put_l (laid (afN f) 2 ++ laid 0 1) (sfN f) 1 X (by omega) (by omega) (by omega) (by rw [List.length_append, laid_length, laid_length]; omega)
    have ga : IntKind.u64.wrap (afN f : Int) = (afN f : Int) := by simp [IntKind.wrap, IntKind.signed, IntKind.bits]; omega
    have gs : IntKind.u64.wrap (sfN f : Int) = (sfN f : Int) := by simp [IntKind.wrap, IntKind.signed, IntKind.bits]; omega
    rw [List.nil_append] at K1
    unfold rfL
    generalize laid (afN f) 2 ++ laid 0 1 ++ laid (sfN f) 1 = R3 at *
    generalize laid (afN f) 2 ++ laid 0 1 = R2 at *
    generalize laid (afN f) 2 = R1 at *
    generalize afN f = a at *
    generalize sfN f = s at *
    clear hg hf HA ha hs
    go_enter Tryd.func8, Tryd.ntmps8
    go_wp2_with fail
    refine Calls.mono HK.out ?_
    rintro e w1 ⟨rfl, hb1⟩
    have HB1 : Hid (Below w.heap.size w w1) := hb1
    clear hb1 HK
    go_wp2_with fail
    refine Calls.mono (K1.out _) ?_
    rintro e w2 ⟨rfl, hb2⟩
    have HB2 : Hid (Below w.heap.size w w2) := HB1.out.trans (hb2.mono HB1.out.size)
    clear hb2 K1
    go_wp2_with fail
    refine Calls.mono (K2.out _) ?_
    rintro e w3 ⟨rfl, hb3⟩
    have HB3 : Hid (Below w.heap.size w w3) := HB2.out.trans (hb3.mono HB2.out.size)
    clear hb3 K2
    go_wp2_with fail
    refine Calls.mono (K3.out _) ?_
    rintro e w4 ⟨rfl, hb4⟩
    have HB4 : Hid (Below w.heap.size w w4) := HB3.out.trans (hb4.mono HB3.out.size)
    clear hb4 K3
    go_wp2
    go_ret2
    exact ⟨rfl, HB4.out⟩
end Go.Proofs.YtkaghjohkhlimabDoor
