/-
  SetsCut's walk.
-/
import Derived.Test.YtjchobcmbkiilaaDoorV4
set_option linter.unusedVariables false
set_option linter.unusedSimpArgs false
set_option maxRecDepth 100000
namespace Go.Proofs.YtjchobcmbkiilaaDoor
open Go.RowKit
theorem okA_atm (b : Nat) : okA (atmN b) = true := by
  unfold atmN okA
  by_cases h : b % 3 = 0
  · rw [if_pos h]; simp; omega
  · rw [if_neg h]
    have : b % 3 = 1 ∨ b % 3 = 2 := by omega
    rcases this with e | e <;> rw [e] <;> decide
theorem atL_len (l : List Nat) : (atL l).length ≤ 10 := by unfold atL; rw [List.length_map, List.length_take]; omega
theorem fewL_len (l : List Nat) : (fewL l).length ≤ 12 := by unfold fewL; rw [List.length_map, List.length_take]; omega
theorem all_atL (l : List Nat) : (atL l).all okA = true := by
  rw [List.all_eq_true]
  intro x hx
  obtain ⟨b, _, rfl⟩ := List.mem_map.1 hx
  exact okA_atm b
theorem okP_atL (l : List Nat) : okP (atL l) = true := by
  unfold okP
  rw [all_atL, decide_eq_true (by have := atL_len l; omega)]; rfl
theorem okP_two (l m : List Nat) : okP (atL l ++ atL m) = true := by
  unfold okP
  rw [List.all_append, all_atL, all_atL, decide_eq_true (by have := atL_len l; have := atL_len m; rw [List.length_append]; omega)]; rfl
/-- Found among the first k cuts. -/
def fnd (a b : List Atm) (l : List Nat) (k : Nat) : Bool := (List.range k).any fun j => mt a (l.take j) && mt b (l.drop j)
theorem fnd_succ (a b : List Atm) (l : List Nat) (k : Nat) : fnd a b l (k + 1) = (fnd a b l k || (mt a (l.take k) && mt b (l.drop k))) := by
  unfold fnd
  rw [List.range_succ, List.any_append]
  simp
theorem fnd_all (a b : List Atm) (l : List Nat) : fnd a b l (l.length + 1) = mt (a ++ b) l := by
  rw [Bool.eq_iff_iff, mt_app]
  unfold fnd
  rw [List.any_eq_true]
  constructor
  · rintro ⟨k, hk, h⟩
    rw [Bool.and_eq_true] at h
    exact ⟨k, by have := List.mem_range.1 hk; omega, h.1, h.2⟩
  · rintro ⟨k, hk, h1, h2⟩
    exact ⟨k, List.mem_range.2 (by omega), by rw [h1, h2]; rfl⟩
theorem two_ps (w : World) (va vb : Value) (a b : List Atm) (ha : AtAt w va a) (hb : AtAt w vb b) {W : World} (hW : W = w.alloc (.cells #[va, vb] 23)) : PsAt W (.slice (some ⟨w.heap.size, 0, none⟩) 2 2) [a, b] := by
  have hbx : Below w.heap.size w W := by rw [hW]; exact below_box _ _
  refine ⟨_, w.heap.size, 0, 2, rfl, Or.inl rfl, Nat.le_refl _, fun j hj => ?_⟩
  have : j = 0 ∨ j = 1 := by simp at hj; omega
  rcases this with rfl | rfl
  · exact ⟨va, by rw [hW, World.cell?_alloc_new]; rfl, ha.below hbx⟩
  · exact ⟨vb, by rw [hW, World.cell?_alloc_new]; rfl, hb.below hbx⟩
set_option maxHeartbeats 4000000 in
theorem cut_walk (w : World) (vx vy vz : Value) (X Y Z : List Nat) (hx : U8At w vx X) (hy : U8At w vy Y) (hz : U8At w vz Z) (lx : X.length ≤ 9223372036854775807) (ly : Y.length ≤ 9223372036854775807) (lz : Z.length ≤ 9223372036854775807) (he : Env w) :
    Calls Tryd.prog 3 #[vx, vy, vz] w fun e w' => e = .returned (.bool true) ∧ Below w.heap.size w w' := by
  have HE : Hid (Env w) := he
  have HX : Hid (U8At w vx X) := hx
  have HY : Hid (U8At w vy Y) := hy
  have HZ : Hid (U8At w vz Z) := hz
  clear he hx hy hz
  go_enter Tryd.func3, Tryd.ntmps3
  go_wp2_with fail
  refine Calls.mono (atoms_any vx X w HX.out lx) ?_
  rintro e w1 ⟨⟨va, rfl, ha⟩, hb1⟩
  have HB1 : Hid (Below w.heap.size w w1) := hb1
  have HA1 : Hid (AtAt w1 va (atL X)) := ha.at
  clear ha hb1 HX
  go_wp2_with fail
  refine Calls.mono (atoms_any vy Y w1 (HY.out.below HB1.out) ly) ?_
  rintro e w2 ⟨⟨vb, rfl, hb⟩, hb2⟩
  have HB2 : Hid (Below w.heap.size w w2) := HB1.out.trans (hb2.mono HB1.out.size)
  have HA2 : Hid (AtAt w2 va (atL X)) := HA1.out.below hb2
  have HC2 : Hid (AtAt w2 vb (atL Y)) := hb.at
  clear hb hb2 HY HA1 HB1
  go_wp2_with fail
  refine Calls.mono (few_any vz Z w2 (HZ.out.below HB2.out) lz) ?_
  rintro e w3 ⟨⟨vl, rfl, hl⟩, hb3⟩
  have HB3 : Hid (Below w.heap.size w w3) := HB2.out.trans (hb3.mono HB2.out.size)
  have HA : Hid (AtAt w3 va (atL X)) := HA2.out.below hb3
  have HC : Hid (AtAt w3 vb (atL Y)) := HC2.out.below hb3
  have HL : Hid (ASAt w3 vl (fewL Z)) := hl.at
  clear hl hb3 HZ HA2 HC2 HB2
  have l1 := atL_len X
  have l2 := atL_len Y
  have l3 := fewL_len Z
  have HOA : Hid (okP (atL X) = true) := okP_atL X
  have HOB : Hid (okP (atL Y) = true) := okP_atL Y
  have HOC : Hid (okP (atL X ++ atL Y) = true) := okP_two X Y
  generalize atL X = a at *
  generalize atL Y = b at *
  generalize fewL Z = l at *
  obtain ⟨aad, acap, rfl⟩ := HA.out.len
  obtain ⟨bad, bcap, rfl⟩ := HC.out.len
  obtain ⟨lad, lcap, rfl⟩ := HL.out.len
  have hlc := HL.out.parts.2.1
  have HMA : Hid (∀ W y L, Below w3.heap.size w3 W → ASAt W y L → L.length ≤ 1000 → Calls Tryd.prog 7 #[.slice aad a.length acap, y] W fun e w' => e = .returned (.bool (mt a L)) ∧ Below W.heap.size W w') := fun W y L hW hy hL => by
    have := match_any _ y a L W (HA.out.below hW) hy (by omega) (by omega)
    rw [HOA.out, Bool.true_and] at this
    exact this
  have HMB : Hid (∀ W y L, Below w3.heap.size w3 W → ASAt W y L → L.length ≤ 1000 → Calls Tryd.prog 7 #[.slice bad b.length bcap, y] W fun e w' => e = .returned (.bool (mt b L)) ∧ Below W.heap.size W w') := fun W y L hW hy hL => by
    have := match_any _ y b L W (HC.out.below hW) hy (by omega) (by omega)
    rw [HOB.out, Bool.true_and] at this
    exact this
  go_wp2
  go_loopw [10, 11] (fun x10 x11 wr => ∃ k : Nat, x11 = .int .i64 k ∧ k ≤ l.length + 1 ∧ x10 = .bool (fnd a b l k) ∧ Below w3.heap.size w3 wr) (fun _ x11 _ => l.length + 1 - (intOf x11).toNat)
  case atStart => exact ⟨0, rfl, by omega, rfl, Below.refl _ _⟩
  case round =>
    obtain ⟨k, rfl, hk, rfl, hb⟩ := hrel
    have HB : Hid (Below w3.heap.size w3 wr) := hb
    clear hb
    have HF : Hid (fnd a b l (k + 1) = (fnd a b l k || (mt a (l.take k) && mt b (l.drop k)))) := fnd_succ a b l k
    by_cases hlt : k ≤ l.length
    · obtain ⟨pa, pc, hp1, hp2⟩ := slice_hU l lad lcap k hlt hlc
      obtain ⟨qa, qc, hq1, hq2⟩ := slice_lU l lad lcap k hlt hlc
      have HP : Hid (∀ W, Below w3.heap.size w3 W → ASAt W (.slice pa k pc) (l.take k)) := fun W hW => hp2 W (HL.out.below hW)
      have HQ : Hid (∀ W, Below w3.heap.size w3 W → ASAt W (.slice qa (l.length - k) qc) (l.drop k)) := fun W hW => hq2 W (HL.out.below hW)
      clear hp2 hq2
      have g1 : (l.take k).length ≤ 1000 := by rw [List.length_take]; omega
      have g2 : (l.drop k).length ≤ 1000 := by rw [List.length_drop]; omega
      cases hf : fnd a b l k with
      | true =>
        rw [hf, Bool.true_or] at HF
        go_wp2
        go_roundw
        case rel => exact ⟨k + 1, by go_num, by omega, by rw [HF.out], HB.out⟩
        case measure => simp [intOf]; omega
      | false =>
        rw [hf, Bool.false_or] at HF
        have HK1 : Hid (∀ W, Below w3.heap.size w3 W → _) := fun W hW => HMA.out W _ _ hW (HP.out W hW) g1
        have HK2 : Hid (∀ W, Below w3.heap.size w3 W → _) := fun W hW => HMB.out W _ _ hW (HQ.out W hW) g2
        cases h1 : mt a (l.take k) with
        | false =>
          rw [h1] at HF HK1
          rw [Bool.false_and] at HF
          go_wp2_with (go_at_call 7; refine Calls.mono (HK1.out _ HB.out) ?_; rintro e w4 ⟨rfl, hb4⟩)
          go_roundw
          case rel => exact ⟨k + 1, by go_num, by omega, by rw [HF.out], HB.out.trans (hb4.mono HB.out.size)⟩
          case measure => simp [intOf]; omega
        | true =>
          rw [h1] at HF HK1
          rw [Bool.true_and] at HF
          generalize mt b (l.drop k) = r2 at *
          go_wp2_with fail
          refine Calls.mono (HK1.out _ HB.out) ?_
          rintro e w4 ⟨rfl, hb4⟩
          have HB4 : Hid (Below w3.heap.size w3 w4) := HB.out.trans (hb4.mono HB.out.size)
          clear hb4
          go_wp2_with fail
          refine Calls.mono (HK2.out _ HB4.out) ?_
          rintro e w5 ⟨rfl, hb5⟩
          have HB5 : Hid (Below w3.heap.size w3 w5) := HB4.out.trans (hb5.mono HB4.out.size)
          clear hb5
          go_wp2
          go_roundw
          case rel => exact ⟨k + 1, by go_num, by omega, by rw [HF.out], HB5.out⟩
          case measure => simp [intOf]; omega
    · obtain rfl : k = l.length + 1 := by omega
      have HG : Hid (fnd a b l (l.length + 1) = mt (a ++ b) l) := fnd_all a b l
      clear HF
      rw [HG.out]
      have hnl : ¬ (((l.length + 1 : Nat) : Int) ≤ (l.length : Int)) := by omega
      go_wp2_with fail
      have hbx := below_box wr (.cells #[.slice aad a.length acap, .slice bad b.length bcap] 23)
      have HBX : Hid (Below w3.heap.size w3 _) := HB.out.trans (hbx.mono HB.out.size)
      refine Calls.mono (join_any _ [a, b] _ (two_ps wr _ _ a b (HA.out.below HB.out) (HC.out.below HB.out) rfl) (by simp) (by simp; omega)) ?_
      rintro e w4 ⟨⟨vj, rfl, hj⟩, hb4⟩
      have HB4 : Hid (Below w3.heap.size w3 w4) := HBX.out.trans (hb4.mono HBX.out.size)
      rw [show [a, b].flatten = a ++ b by simp] at hj
      have hl20 : (a ++ b).length ≤ 20 := by rw [List.length_append]; omega
      generalize a ++ b = ab at *
      have HJ : Hid (AtAt w4 vj ab) := hj.at
      obtain ⟨jad, jcap, rfl⟩ := HJ.out.len
      clear hj hb4 hbx HBX
      go_wp2_with fail
      have hM := match_any _ _ ab l w4 HJ.out (HL.out.below HB4.out) (by omega) (by omega)
      rw [HOC.out, Bool.true_and] at hM
      refine Calls.mono hM ?_
      rintro e w5 ⟨rfl, hb5⟩
      have HB5 : Hid (Below w3.heap.size w3 w5) := HB4.out.trans (hb5.mono HB4.out.size)
      have HBW : Hid (Below w.heap.size w w5) := HB3.out.trans (HB5.out.mono HB3.out.size)
      clear hb5 hM
      generalize mt ab l = z at *
      go_wp2_with fail
      refine Calls.mono (works_any w5 (HE.out.below HBW.out)) ?_
      rintro e w6 ⟨rfl, hb6⟩
      have HB6 : Hid (Below w.heap.size w w6) := HBW.out.trans (hb6.mono HBW.out.size)
      clear hb6
      go_wp2
      go_ret
      exact ⟨rfl, HB6.out⟩
end Go.Proofs.YtjchobcmbkiilaaDoor
