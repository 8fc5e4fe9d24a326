/-
  parseNumber, where ParseUint reads a number.
-/
import Derived.Test.YtbdfigfjoiefiaaDoorShelfB
import Derived.Test.YtbdfigfjoiefiaaDoorF1
namespace Go.Proofs.YtbdfigfjoiefiaaDoor
open Go.RowKit
set_option maxRecDepth 100000 in
theorem pnum_ok (l : List UInt8) (u : Nat) (w : World) (hl : l.length ≤ 100000) (hu : u < 4294967296) (hp : Lib.parseUintB 32 l = .ok u) (ht : Tabs w) :
    Calls Tryd.prog 102 #[.string ⟨l.toArray⟩] w fun e w' => e = .returned (.tuple #[.int .u32 (if Lib.decDigits u = l then (u : Int) else 0), .bool (decide (Lib.decDigits u = l))]) ∧ Below w.heap.size w w' := by
  have HT : Hid (Tabs _) := ht
  clear ht
  go_enter Tryd.func102, Tryd.ntmps102
  go_wp2_with fail
  refine (Tryd.strconv_ParseUint_10_at32_ok ⟨l.toArray⟩ (by simp [ByteArray.size]; omega) u (by simpa using hp) w).mono ?_
  rintro e w1 ⟨rfl, hw⟩
  have hb : Below w.heap.size w w1 := by
    rcases hw with rfl | rfl
    · exact Below.refl _ _
    · exact Lib.bytesWorld_below _ _ _
  have HB : Hid (Below _ _ _) := hb
  clear hw hb
  go_wp2_with fail
  refine (fmt_any u (by omega) w1 (HT.out.below HB.out)).mono ?_
  rintro e w2 ⟨rfl, hb2⟩
  have HB2 : Hid (Below w.heap.size w w2) := HB.out.trans (hb2.mono HB.out.size)
  clear hb2
  by_cases he : Lib.decDigits u = l
  · rw [he]
    have hmod : (u : Int) % 4294967296 = u := by omega
    go_wp2
    go_ret2
    exact ⟨by simp, HB2.out⟩
  · have hbe : (!Lib.decDigits u == l) = true := by simpa using he
    go_wp2
    go_ret2
    exact ⟨by simp, HB2.out⟩
end Go.Proofs.YtbdfigfjoiefiaaDoor
