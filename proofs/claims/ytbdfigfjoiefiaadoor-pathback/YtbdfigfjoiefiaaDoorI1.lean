/-
  PathSame answers true.
-/
import Derived.Test.YtbdfigfjoiefiaaDoorC3
import Derived.Test.YtbdfigfjoiefiaaDoorC4
import Derived.Test.YtbdfigfjoiefiaaDoorC6
import Derived.Test.YtbdfigfjoiefiaaDoorH1
namespace Go.Proofs.YtbdfigfjoiefiaaDoor
open Go.RowKit
theorem PathAt.slice {w : World} {v : Value} {L : List Sg} (h : PathAt w v L) : ∃ ad n cap, v = .slice ad n cap := by
  obtain ⟨ad, _, _, cap, h, _⟩ := h
  exact ⟨ad, _, cap, h⟩
set_option maxRecDepth 100000 in
set_option maxHeartbeats 800000 in
theorem ps_any (va vb : Value) (L M : List Sg) (w : World) (ha : PathAt w va L) (hb : PathAt w vb M) (ht : Tabs w) :
    Calls Tryd.prog 7 #[va, vb] w fun e w' => e = .returned (.bool true) ∧ Below w.heap.size w w' := by
  obtain ⟨ad, n, cap, rfl⟩ := ha.slice
  obtain ⟨ad', n', cap', rfl⟩ := hb.slice
  have HA : Hid (PathAt _ _ _) := ha
  have HB : Hid (PathAt _ _ _) := hb
  have HT : Hid (Tabs _) := ht
  clear ha hb ht
  go_enter Tryd.func7, Tryd.ntmps7
  go_wp2_with fail
  refine (cut_any ad n cap L w HA.out).mono ?_
  rintro e w1 ⟨⟨v1, rfl, h1, _⟩, rfl⟩
  obtain ⟨a1, n1, c1, rfl⟩ := h1.slice
  have H1 : Hid (PathAt _ _ _) := h1
  clear h1
  go_wp2_with fail
  refine (cut_any ad' n' cap' M _ HB.out).mono ?_
  rintro e w1 ⟨⟨v2, rfl, h2, _⟩, rfl⟩
  obtain ⟨a2, n2, c2, rfl⟩ := h2.slice
  have H2 : Hid (PathAt _ _ _) := h2
  clear h2 HA HB
  generalize L.take 20 = A at *
  generalize M.take 20 = B at *
  go_wp2_with fail
  refine (same_any _ _ A B _ H1.out H2.out).mono ?_
  rintro e w2 ⟨rfl, hb2⟩
  have P1 : Hid (PathAt _ _ _) := H1.out.below hb2
  have P2 : Hid (PathAt _ _ _) := H2.out.below hb2
  have B2 : Hid (Below _ _ _) := hb2
  clear hb2 H1 H2
  go_wp2_with fail
  refine (rsame_any _ _ A B _ P1.out P2.out).mono ?_
  rintro e w3 ⟨rfl, hb3⟩
  have P3 : Hid (PathAt _ _ _) := P1.out.below hb3
  have B3 : Hid (Below w1.heap.size w1 w3) := B2.out.trans (hb3.mono B2.out.size)
  clear hb3 P1 P2 B2
  generalize decide (A = B) = q
  have hq : (q == q) = true := by simp
  go_wp2_with fail
  refine (ownAll_any _ A w3 P3.out).mono ?_
  rintro e w4 ⟨v4, R, rfl, hR, ho, hb4⟩
  have h4 := ho.at
  rw [hR] at h4
  obtain ⟨a4, n4, c4, rfl⟩ := h4.slice
  have P4 : Hid (PathAt _ _ _) := h4
  have P5 : Hid (PathAt _ _ _) := P3.out.below hb4
  have B4 : Hid (Below w1.heap.size w1 w4) := B3.out.trans (hb4.mono B3.out.size)
  clear h4 ho hb4 P3 B3 hR
  go_wp2_with fail
  refine (same_any _ _ A A w4 P5.out P4.out).mono ?_
  rintro e w5 ⟨rfl, hb5⟩
  have B5 : Hid (Below w1.heap.size w1 w5) := B4.out.trans (hb5.mono B4.out.size)
  clear hb5 P4 P5 B4
  rw [show decide (A = A) = true by simp]
  go_wp2_with fail
  refine (works_any w5 (HT.out.below B5.out)).mono ?_
  rintro e w6 ⟨rfl, hb6⟩
  have hB6 := B5.out.trans (hb6.mono B5.out.size)
  clear hb6
  go_wp2
  go_ret
  exact ⟨rfl, hB6⟩
end Go.Proofs.YtbdfigfjoiefiaaDoor
