/-
  PathAgain answers true.
-/
import Derived.Test.YtbdfigfjoiefiabDoorY1
import Derived.Test.YtbdfigfjoiefiabDoorX5
import Derived.Test.YtbdfigfjoiefiabDoorH1
set_option linter.unusedVariables false
set_option linter.unusedSimpArgs false
set_option maxRecDepth 100000
namespace Go.Proofs.YtbdfigfjoiefiabDoor
open Go.RowKit
theorem chk_ok {L : List Sg} (h : okPath L = true) : chkOf L = 0 := by unfold chkOf; rw [h]; rfl
theorem lst_eq (l : List UInt8) : ((⟨l.toArray⟩ : ByteArray).toList == (⟨l.toArray⟩ : ByteArray).toList) = true := by simp
set_option maxHeartbeats 2000000 in
/-- The second half: what is read of a text is told by it. -/
theorem again_walk (l : List UInt8) (four : Bool) (w : World) (hl : l.length < 140737488351233) (ht : Tabs w) (hE : ErrsAt w) :
    Calls Tryd.prog 3 #[.string ⟨l.toArray⟩, .bool four] w fun e w' => e = .returned (.bool true) ∧ Below w.heap.size w w' := by
  have HT : Hid (Tabs w) := ht
  have HE : Hid (ErrsAt w) := hE
  have HL : Hid (l.length < 140737488351233) := hl
  have KD : Hid (∀ X, _) := fun X => decode_any l four X
  have HD : Hid (∀ L, decI (szN four) 16 l = some L → okPath L = true ∧ encOf four L = l) := fun L h => dec_ok four l L h
  generalize hX : decI (szN four) 16 l = X at *
  clear hX ht hE hl
  go_enter Tryd.func3, Tryd.ntmps3
  go_wp2_with fail
  refine Calls.mono (works_any w HT.out) ?_
  rintro e w1 ⟨rfl, hb1⟩
  have HB1 : Hid (Below w.heap.size w w1) := hb1
  clear hb1
  go_wp2_with fail
  refine Calls.mono (KD.out w1) ?_
  rintro e w2 ⟨hb2, hx⟩
  have HB2 : Hid (Below w.heap.size w w2) := HB1.out.trans (hb2.mono HB1.out.size)
  clear hb2 KD HB1
  cases X with
  | some L =>
    obtain ⟨v, R, rfl, hR, hO⟩ := hx
    have h2 := hO.at
    rw [hR] at h2
    have HP : Hid (PathAt w2 v L) := h2
    have HG : Hid (okPath L = true ∧ encOf four L = l) := HD.out L rfl
    clear hR hO h2 HD
    go_wp2_with fail
    refine Calls.mono (encode_any v L four w2 HP.out HG.out.1) ?_
    rintro e w3 ⟨rfl, hb3⟩
    have HP3 : Hid (PathAt w3 v L) := HP.out.below hb3
    have HB3 : Hid (Below w.heap.size w w3) := HB2.out.trans (hb3.mono HB2.out.size)
    rw [HG.out.2]
    have HC3 : Hid (_ : Prop) := check_any v L w3 HP3.out
    rw [chk_ok HG.out.1] at HC3
    clear hb3 HB2 HP HP3 HG
    have hst := lst_eq l
    go_wp2_with fail
    refine Calls.mono HC3.out ?_
    rintro e w4 ⟨rfl, hb4⟩
    have HB4 : Hid (Below w.heap.size w w4) := HB3.out.trans (hb4.mono HB3.out.size)
    clear hb4 HB3 HC3
    have KP : Hid (_ : Prop) := parse_any l HL.out w4 (HT.out.below HB4.out) (HE.out.below HB4.out)
    go_wp2_with fail
    refine Calls.mono KP.out ?_
    rintro e w5 ⟨⟨u, R5, rfl, hO5, hk5, ht5⟩ | rfl, hb5⟩
    · have HB5 : Hid (Below w.heap.size w w5) := HB4.out.trans (hb5.mono HB4.out.size)
      have HP5 : Hid (PathAt w5 u (sgs R5)) := hO5.at
      have HK5 : Hid (okPath (sgs R5) = true ∧ textOf (sgs R5) = l) := ⟨hk5, ht5⟩
      clear hb5 hO5 hk5 ht5 KP
      go_wp2_with fail
      refine Calls.mono (text_any u (sgs R5) w5 HP5.out HK5.out.1 (HT.out.below HB5.out)) ?_
      rintro e w6 ⟨rfl, hb6⟩
      have HP6 : Hid (PathAt w6 u (sgs R5)) := HP5.out.below hb6
      have HB6 : Hid (Below w.heap.size w w6) := HB5.out.trans (hb6.mono HB5.out.size)
      rw [HK5.out.2]
      have HC6 : Hid (_ : Prop) := check_any u (sgs R5) w6 HP6.out
      rw [chk_ok HK5.out.1] at HC6
      clear hb6 HB5 HP5 HP6 HK5
      go_wp2_with fail
      refine Calls.mono HC6.out ?_
      rintro e w7 ⟨rfl, hb7⟩
      have HB7 : Hid (Below w.heap.size w w7) := HB6.out.trans (hb7.mono HB6.out.size)
      clear hb7 HB6 HC6
      go_wp2
      go_ret
      exact ⟨rfl, HB7.out⟩
    · have HB5 : Hid (Below w.heap.size w w5) := HB4.out.trans (hb5.mono HB4.out.size)
      clear hb5 KP
      go_wp2
      go_ret
      exact ⟨rfl, HB5.out⟩
  | none =>
    obtain rfl := hx
    have KP : Hid (_ : Prop) := parse_any l HL.out w2 (HT.out.below HB2.out) (HE.out.below HB2.out)
    have hst := lst_eq l
    clear HD
    go_wp2_with fail
    refine Calls.mono KP.out ?_
    rintro e w5 ⟨⟨u, R5, rfl, hO5, hk5, ht5⟩ | rfl, hb5⟩
    · have HB5 : Hid (Below w.heap.size w w5) := HB2.out.trans (hb5.mono HB2.out.size)
      have HP5 : Hid (PathAt w5 u (sgs R5)) := hO5.at
      have HK5 : Hid (okPath (sgs R5) = true ∧ textOf (sgs R5) = l) := ⟨hk5, ht5⟩
      clear hb5 hO5 hk5 ht5 KP
      go_wp2_with fail
      refine Calls.mono (text_any u (sgs R5) w5 HP5.out HK5.out.1 (HT.out.below HB5.out)) ?_
      rintro e w6 ⟨rfl, hb6⟩
      have HP6 : Hid (PathAt w6 u (sgs R5)) := HP5.out.below hb6
      have HB6 : Hid (Below w.heap.size w w6) := HB5.out.trans (hb6.mono HB5.out.size)
      rw [HK5.out.2]
      have HC6 : Hid (_ : Prop) := check_any u (sgs R5) w6 HP6.out
      rw [chk_ok HK5.out.1] at HC6
      clear hb6 HB5 HP5 HP6 HK5
      go_wp2_with fail
      refine Calls.mono HC6.out ?_
      rintro e w7 ⟨rfl, hb7⟩
      have HB7 : Hid (Below w.heap.size w w7) := HB6.out.trans (hb7.mono HB6.out.size)
      clear hb7 HB6 HC6
      go_wp2
      go_ret
      exact ⟨rfl, HB7.out⟩
    · have HB5 : Hid (Below w.heap.size w w5) := HB2.out.trans (hb5.mono HB2.out.size)
      clear hb5 KP
      go_wp2
      go_ret
      exact ⟨rfl, HB5.out⟩
end Go.Proofs.YtbdfigfjoiefiabDoor
