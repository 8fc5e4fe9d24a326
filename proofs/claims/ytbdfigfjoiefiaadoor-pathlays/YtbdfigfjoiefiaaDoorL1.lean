/-
  PathLays answers true.
-/
import Derived.Test.YtbdfigfjoiefiaaDoorK2
import Derived.Test.YtbdfigfjoiefiaaDoorK3
import Derived.Test.YtbdfigfjoiefiaaDoorI1
namespace Go.Proofs.YtbdfigfjoiefiaaDoor
open Go.RowKit
/-- What Encode and Text answer. -/
def encR (four : Bool) (L : List Sg) : ByteArray := if okPath L then ⟨(encOf four L).toArray⟩ else ⟨#[]⟩
def textR (L : List Sg) : ByteArray := if okPath L then ⟨(textOf L).toArray⟩ else ⟨#[]⟩
theorem encode_all (v : Value) (L : List Sg) (four : Bool) (w : World) (h : PathAt w v L) :
    Calls Tryd.prog 29 #[v, .bool four] w fun e w' => e = .returned (.tuple #[.string (encR four L), .int .i64 (chkOf L)]) ∧ Below w.heap.size w w' := by
  cases hk : okPath L with
  | true => rw [show encR four L = ⟨(encOf four L).toArray⟩ by simp [encR, hk], show chkOf L = 0 by simp [chkOf, hk]]; exact encode_any v L four w h hk
  | false => rw [show encR four L = ⟨#[]⟩ by simp [encR, hk], show chkOf L = 2 by simp [chkOf, hk]]; exact encode_bad v L four w h hk
theorem rencode_all (v : Value) (L : List Sg) (four : Bool) (w : World) (h : PathAt w v L) :
    Calls Tryd.prog 30 #[v, .bool four] w fun e w' => e = .returned (.tuple #[.string (encR four L), .int .i64 (chkOf L)]) ∧ Below w.heap.size w w' := by
  cases hk : okPath L with
  | true => rw [show encR four L = ⟨(encOf four L).toArray⟩ by simp [encR, hk], show chkOf L = 0 by simp [chkOf, hk]]; exact rencode_any v L four w h hk
  | false => rw [show encR four L = ⟨#[]⟩ by simp [encR, hk], show chkOf L = 2 by simp [chkOf, hk]]; exact rencode_bad v L four w h hk
theorem text_all (v : Value) (L : List Sg) (w : World) (h : PathAt w v L) (ht : Tabs w) :
    Calls Tryd.prog 31 #[v] w fun e w' => e = .returned (.tuple #[.string (textR L), .int .i64 (chkOf L)]) ∧ Below w.heap.size w w' := by
  cases hk : okPath L with
  | true => rw [show textR L = ⟨(textOf L).toArray⟩ by simp [textR, hk], show chkOf L = 0 by simp [chkOf, hk]]; exact text_any v L w h hk ht
  | false => rw [show textR L = ⟨#[]⟩ by simp [textR, hk], show chkOf L = 2 by simp [chkOf, hk]]; exact text_bad v L w h hk
theorem rtext_all (v : Value) (L : List Sg) (w : World) (h : PathAt w v L) (ht : Tabs w) :
    Calls Tryd.prog 32 #[v] w fun e w' => e = .returned (.tuple #[.string (textR L), .int .i64 (chkOf L)]) ∧ Below w.heap.size w w' := by
  cases hk : okPath L with
  | true => rw [show textR L = ⟨(textOf L).toArray⟩ by simp [textR, hk], show chkOf L = 0 by simp [chkOf, hk]]; exact rtext_any v L w h hk ht
  | false => rw [show textR L = ⟨#[]⟩ by simp [textR, hk], show chkOf L = 2 by simp [chkOf, hk]]; exact rtext_bad v L w h hk
set_option maxRecDepth 100000 in
set_option maxHeartbeats 800000 in
theorem pl_any (va : Value) (L : List Sg) (four : Bool) (w : World) (ha : PathAt w va L) (ht : Tabs w) :
    Calls Tryd.prog 5 #[va, .bool four] w fun e w' => e = .returned (.bool true) ∧ Below w.heap.size w w' := by
  obtain ⟨ad, n, cap, rfl⟩ := ha.slice
  have HA : Hid (PathAt _ _ _) := ha
  have HT : Hid (Tabs _) := ht
  clear ha ht
  go_enter Tryd.func5, Tryd.ntmps5
  go_wp2_with fail
  refine (cut_any ad n cap L w HA.out).mono ?_
  rintro e w1 ⟨⟨v1, rfl, h1, _⟩, hw⟩
  obtain rfl : w = w1 := hw.symm
  clear hw
  obtain ⟨a1, n1, c1, rfl⟩ := h1.slice
  have H1 : Hid (PathAt _ _ _) := h1
  clear h1 HA
  generalize L.take 20 = A at *
  go_wp2_with fail
  refine (ownAll_any _ A w H1.out).mono ?_
  rintro e w2 ⟨v2, R, rfl, hR, ho, hb2⟩
  have h2 := ho.at
  rw [hR] at h2
  obtain ⟨a2, n2, c2, rfl⟩ := h2.slice
  have P2 : Hid (PathAt _ _ _) := h2
  have P1 : Hid (PathAt _ _ _) := H1.out.below hb2
  have B2 : Hid (Below _ _ _) := hb2
  clear h2 ho hb2 H1 hR
  go_wp2_with fail
  refine (encode_all _ A four w2 P2.out).mono ?_
  rintro e w3 ⟨rfl, hb3⟩
  have Q2 : Hid (PathAt _ _ _) := P2.out.below hb3
  have Q1 : Hid (PathAt _ _ _) := P1.out.below hb3
  have B3 : Hid (Below w.heap.size w w3) := B2.out.trans (hb3.mono B2.out.size)
  clear hb3 P2 P1 B2
  go_wp2_with fail
  refine (rencode_all _ A four w3 Q1.out).mono ?_
  rintro e w4 ⟨rfl, hb4⟩
  have P2 : Hid (PathAt _ _ _) := Q2.out.below hb4
  have P1 : Hid (PathAt _ _ _) := Q1.out.below hb4
  have B4 : Hid (Below w.heap.size w w4) := B3.out.trans (hb4.mono B3.out.size)
  clear hb4 Q2 Q1 B3
  go_wp2_with fail
  refine (text_all _ A w4 P2.out (HT.out.below B4.out)).mono ?_
  rintro e w5 ⟨rfl, hb5⟩
  have Q2 : Hid (PathAt _ _ _) := P2.out.below hb5
  have Q1 : Hid (PathAt _ _ _) := P1.out.below hb5
  have B5 : Hid (Below w.heap.size w w5) := B4.out.trans (hb5.mono B4.out.size)
  clear hb5 P2 P1 B4
  go_wp2_with fail
  refine (rtext_all _ A w5 Q1.out (HT.out.below B5.out)).mono ?_
  rintro e w6 ⟨rfl, hb6⟩
  have P2 : Hid (PathAt _ _ _) := Q2.out.below hb6
  have P1 : Hid (PathAt _ _ _) := Q1.out.below hb6
  have B6 : Hid (Below w.heap.size w w6) := B5.out.trans (hb6.mono B5.out.size)
  clear hb6 Q2 Q1 B5
  generalize encR four A = x at *
  generalize textR A = y at *
  generalize chkOf A = z at *
  go_wp2_with fail
  refine (rsame_any _ _ A A w6 P2.out P1.out).mono ?_
  rintro e w7 ⟨rfl, hb7⟩
  have B7 : Hid (Below w.heap.size w w7) := B6.out.trans (hb7.mono B6.out.size)
  clear hb7 P2 P1 B6
  rw [show decide (A = A) = true by simp]
  go_wp2_with fail
  refine (works_any w7 (HT.out.below B7.out)).mono ?_
  rintro e w8 ⟨rfl, hb8⟩
  have hB8 := B7.out.trans (hb8.mono B7.out.size)
  clear hb8
  go_wp2
  go_ret
  exact ⟨rfl, hB8⟩
end Go.Proofs.YtbdfigfjoiefiaaDoor
