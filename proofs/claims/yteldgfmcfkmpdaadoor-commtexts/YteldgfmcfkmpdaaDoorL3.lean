/-
  CommTexts: its walk.
-/
import Derived.Test.YteldgfmcfkmpdaaDoorL2
namespace Go.Proofs.YteldgfmcfkmpdaaDoor
open Go.RowKit
set_option maxRecDepth 100000 in
set_option maxHeartbeats 1600000 in
theorem texts_walk (c x : Nat) (s : ByteArray) (w : World) (hc : c < 4294967296) (hs : s.size ≤ 1048576) (ht : Tabs w) (hm : MaxAt w) (he : ErrsAt w) :
    Calls Tryd.prog 5 #[.int .u32 (c : Int), .int .u64 (x : Int), .string s] w fun e w' => e = .returned (.bool true) ∧ Below w.heap.size w w' := by
  have HT : Hid (Tabs w) := ht
  have HP1 : Hid (Calls _ _ _ _ _) := parse_any s w (by omega) ht hm he
  clear ht hm he
  go_enter Tryd.func5, Tryd.ntmps5
  go_wp2_with fail
  refine Calls.mono HP1.out ?_
  rintro e w1 ⟨hp1, hb1⟩
  obtain ⟨n, er, rfl⟩ := hp1.form
  have HA : Hid (PAns s _) := hp1
  have HB1 : Hid (Below w.heap.size w w1) := hb1
  clear hp1 hb1 HP1
  go_wp2_with fail
  refine (rparse s w1 (by omega)).mono ?_
  rintro e w2 ⟨hp2, hb2⟩
  obtain rfl := PAns.eq hp2 HA.out
  have HB2 : Hid (Below w.heap.size w w2) := HB1.out.trans (hb2.mono HB1.out.size)
  clear hp2 hb2 HA
  have HX1 : Hid (∀ W, Tabs W → Calls Tryd.prog 27 #[.int .u32 (c : Int)] W fun e w' => e = .returned (.string (textC c)) ∧ Below W.heap.size W w') := fun W h => text_any c W hc h
  have HX2 : Hid (∀ W, Calls Tryd.prog 28 #[.int .u32 (c : Int)] W fun e w' => e = .returned (.string (textC c)) ∧ Below W.heap.size W w') := fun W => rtext c W hc
  have HX3 : Hid (∀ W, Calls Tryd.prog 29 #[.int .u64 (x : Int)] W fun e w' => e = .returned (.bool (isTg x)) ∧ w' = W) := fun W => isT x W
  have HX4 : Hid (∀ W, Calls Tryd.prog 30 #[.int .u64 (x : Int)] W fun e w' => e = .returned (.bool (isTg x)) ∧ w' = W) := fun W => risT x W
  have HX5 : Hid (∀ W, Calls Tryd.prog 31 #[.int .u16 (IntKind.u16.wrap (x : Int)), .int .u32 (c : Int)] W fun e w' => e = .returned (.int .u64 (tgI (x % 65536) c)) ∧ w' = W) := fun W => by
    rw [show IntKind.u16.wrap (x : Int) = ((x % 65536 : Nat) : Int) by rw [IntKind.wrap_u16]; omega]
    exact tgt _ c W (by omega) hc
  have HX6 : Hid (∀ W, Calls Tryd.prog 32 #[.int .u16 (IntKind.u16.wrap (x : Int)), .int .u32 (c : Int)] W fun e w' => e = .returned (.int .u64 (tgI (x % 65536) c)) ∧ w' = W) := fun W => by
    rw [show IntKind.u16.wrap (x : Int) = ((x % 65536 : Nat) : Int) by rw [IntKind.wrap_u16]; omega]
    exact rtgt _ c W (by omega) hc
  generalize textC c = tx at *
  generalize isTg x = tg at *
  generalize tgI (x % 65536) c = tv at *
  go_wp2_with fail
  refine (HX1.out w2 (HT.out.below HB2.out)).mono ?_
  rintro e w3 ⟨rfl, hb3⟩
  have HB3 : Hid (Below w.heap.size w w3) := HB2.out.trans (hb3.mono HB2.out.size)
  clear hb3
  go_wp2_with fail
  refine (HX2.out w3).mono ?_
  rintro e w4 ⟨rfl, hb4⟩
  have HB4 : Hid (Below w.heap.size w w4) := HB3.out.trans (hb4.mono HB3.out.size)
  clear hb4
  go_wp2_with fail
  refine (HX3.out w4).mono ?_
  rintro e w5 ⟨rfl, rfl⟩
  go_wp2_with fail
  refine (HX4.out _).mono ?_
  rintro e w5 ⟨rfl, rfl⟩
  go_wp2_with fail
  refine (HX5.out _).mono ?_
  rintro e w6 ⟨rfl, rfl⟩
  go_wp2_with fail
  refine (HX6.out _).mono ?_
  rintro e w7 ⟨rfl, rfl⟩
  go_wp2_with fail
  refine (works_any _ (HT.out.below HB4.out)).mono ?_
  rintro e w8 ⟨rfl, hb8⟩
  go_wp2
  go_ret
  exact ⟨rfl, HB4.out.trans (hb8.mono HB4.out.size)⟩
end Go.Proofs.YteldgfmcfkmpdaaDoor
