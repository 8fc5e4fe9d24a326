/-
  CommText.
-/
import Derived.Test.YteldgfmcfkmpdabDoorE1
import Derived.Test.YteldgfmcfkmpdabDoorP2
namespace Go.Proofs.YteldgfmcfkmpdabDoor
open Go.RowKit
set_option maxRecDepth 100000 in
theorem text_walk (c : Nat) (w : World) (hc : c < 4294967296) (ht : Tabs w) (hm : MaxAt w) :
    Calls Tryd.prog 3 #[.int .u32 (c : Int)] w fun e w' => e = .returned (.bool true) ∧ Below w.heap.size w w' := by
  have HT : Hid (Tabs w) := ht
  have HM : Hid (MaxAt w) := hm
  clear ht hm
  go_enter Tryd.func3, Tryd.ntmps3
  go_wp2_with fail
  refine (text_any c w hc HT.out).mono ?_
  rintro e w1 ⟨rfl, hb1⟩
  have HB1 : Hid (Below w.heap.size w w1) := hb1
  have HP : Hid (Calls _ _ _ _ _) := parse_yes c w1 hc (HT.out.below hb1) (HM.out.below hb1)
  clear hb1
  generalize textC c = tx at *
  go_wp2_with fail
  refine Calls.mono HP.out ?_
  rintro e w2 ⟨rfl, hb2⟩
  have HB2 : Hid (Below w.heap.size w w2) := HB1.out.trans (hb2.mono HB1.out.size)
  clear hb2 HP
  go_wp2_with (go_at_call 6; refine (works_any w2 (HT.out.below HB2.out)).mono ?_; rintro e w3 ⟨rfl, hb3⟩)
  go_ret
  exact ⟨rfl, HB2.out.trans (hb3.mono HB2.out.size)⟩
end Go.Proofs.YteldgfmcfkmpdabDoor
