/-
  PathPrepends answers true.
-/
import Derived.Test.YtbdfigfjoiefiaaDoorO3
import Derived.Test.YtbdfigfjoiefiaaDoorI1
namespace Go.Proofs.YtbdfigfjoiefiaaDoor
open Go.RowKit
set_option maxRecDepth 100000 in
set_option maxHeartbeats 800000 in
theorem pp_any (va : Value) (L : List Sg) (a : Nat) (conf : Bool) (w : World) (ha : PathAt w va L) (hlt : a < 4294967296) (ht : Tabs w) :
    Calls Tryd.prog 4 #[va, .int .u32 (a : Int), .bool conf] w fun e w' => e = .returned (.bool true) ∧ Below w.heap.size w w' := by
  obtain ⟨ad, n, cap, rfl⟩ := ha.slice
  have HA : Hid (PathAt _ _ _) := ha
  have HT : Hid (Tabs _) := ht
  clear ha ht
  go_enter Tryd.func4, Tryd.ntmps4
  go_wp2_with fail
  refine (cut_any ad n cap L w HA.out).mono ?_
  rintro e w1 ⟨⟨v1, rfl, h1, _⟩, hw⟩
  obtain rfl : w = w1 := hw.symm
  clear hw
  obtain ⟨a1, n1, c1, rfl⟩ := h1.slice
  have H1 : Hid (PathAt _ _ _) := h1
  clear h1 HA
  generalize L.take 20 = A at *
  go_wp2_with fail
  refine (ownAll_any _ A w H1.out).mono ?_
  rintro e w2 ⟨v2, R, rfl, hR, ho, hb2⟩
  have h2 := ho.at
  rw [hR] at h2
  obtain ⟨a2, n2, c2, rfl⟩ := h2.slice
  have P2 : Hid (PathAt _ _ _) := h2
  have P1 : Hid (PathAt _ _ _) := H1.out.below hb2
  have B2 : Hid (Below _ _ _) := hb2
  clear h2 ho hb2 H1 hR
  go_wp2_with fail
  refine (prep_all _ A a conf w2 P2.out hlt).mono ?_
  rintro e w3 ⟨v3, R3, rfl, hR3, ho3, hb3⟩
  obtain ⟨a3, c3, rfl⟩ := slice_of_owns ho3.1
  have O3 : Hid (OwnS _ _ _ _) := ho3
  have C3 : Hid (Below w2.heap.size w2 w3) := hb3
  have E3 : Hid (sgs R3 = prepP A a conf) := hR3
  clear hb3 ho3 hR3
  go_wp2_with fail
  refine (rprep_all _ A a conf w3 (P1.out.below C3.out) hlt).mono ?_
  rintro e w4 ⟨v4, rfl, h4, hb4⟩
  obtain ⟨a4, n4, c4, rfl⟩ := h4.slice
  have P4 : Hid (PathAt _ _ _) := h4
  have O4 : Hid (OwnS _ _ _ _) := O3.out.below hb4
  have C4 : Hid (Below w2.heap.size w2 w4) := C3.out.trans (hb4.mono C3.out.size)
  clear hb4 h4 O3 C3
  have P3 : Hid (PathAt _ _ (prepP A a conf)) := E3.out ▸ O4.out.at
  generalize prepP A a conf = X at *
  generalize prepE A a conf = z at *
  go_wp2_with fail
  refine (rsame_any _ _ X X w4 P3.out P4.out).mono ?_
  rintro e w5 ⟨rfl, hb5⟩
  have O5 : Hid (OwnS _ _ _ _) := O4.out.below hb5
  have C5 : Hid (Below w2.heap.size w2 w5) := C4.out.trans (hb5.mono C4.out.size)
  clear hb5 P3 P4 O4 C4
  rw [show decide (X = X) = true by simp]
  go_wp2_with fail
  refine (spoil_any _ w5 _ R3 O5.out).mono ?_
  rintro e w6 ⟨rfl, hb6⟩
  have C6 : Hid (Below w2.heap.size w2 w6) := C5.out.trans hb6
  clear hb6 C5 O5
  go_wp2_with fail
  refine (rsame_any _ _ A A w6 (P2.out.below C6.out) (P1.out.below C6.out)).mono ?_
  rintro e w7 ⟨rfl, hb7⟩
  have B7 : Hid (Below w.heap.size w w7) := B2.out.trans ((C6.out.trans (hb7.mono C6.out.size)).mono B2.out.size)
  clear hb7
  rw [show decide (A = A) = true by simp]
  go_wp2_with fail
  refine (works_any w7 (HT.out.below B7.out)).mono ?_
  rintro e w8 ⟨rfl, hb8⟩
  have hB8 := B7.out.trans (hb8.mono B7.out.size)
  clear hb8
  go_wp2
  go_ret
  exact ⟨rfl, hB8⟩
end Go.Proofs.YtbdfigfjoiefiaaDoor
