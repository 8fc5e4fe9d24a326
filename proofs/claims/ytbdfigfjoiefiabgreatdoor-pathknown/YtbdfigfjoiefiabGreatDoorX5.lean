/-
  gather over the segments of a text, and Parse, whatever the text is.
-/
import Derived.Test.YtbdfigfjoiefiabGreatDoorX4
set_option linter.unusedVariables false
set_option linter.unusedSimpArgs false
set_option maxRecDepth 100000
namespace Go.Proofs.YtbdfigfjoiefiabGreatDoor
open Go.RowKit
/-- Segments, a blank behind each. -/
def prT : List Sg → List UInt8
  | [] => []
  | s :: L => segT s ++ 32 :: prT L
theorem prT_snoc (s : Sg) : ∀ L : List Sg, prT (L ++ [s]) = prT L ++ (segT s ++ [32])
  | [] => by simp [prT]
  | t :: L => by simp [prT, prT_snoc s L]
theorem tx_snoc (s : Sg) : ∀ L : List Sg, tx (L ++ [s]) = prT L ++ segT s
  | [] => by simp [prT, tx]
  | t :: L => by
    have := tx_snoc s L
    simp [prT, tx, this]
theorem seg_text (k : Nat) (d : List Nat) (r : List UInt8) : segT ((k : Int), d) ++ r = opn k :: (wd d ++ shut k :: r) := by simp [segT, wd]
/-- Where gather stands. -/
def GaI (l : List UInt8) (R : List Sv) (q : Bool) (m : List UInt8) : Prop :=
  R.length ≤ 16 ∧ (∀ s ∈ sgs R, okSeg s = true) ∧ m.length ≤ l.length ∧ (q = true ∧ l = prT (sgs R) ++ m ∨ q = false ∧ R ≠ [] ∧ l = tx (sgs R) ++ m)
theorem GaI.next {l m X m2 : List UInt8} {R : List Sv} {q2 : Bool} {k : Nat} {d : List Nat} {v : Value} (h : GaI l R true m) (hm : m = opn k :: (X ++ shut k :: (if q2 then 32 :: m2 else m2))) (hX : X = wd d ∨ d.length = 256) (hok : okSeg ((k : Int), d) = true) (h16 : R.length ≠ 16) : GaI l (R ++ [((k : Int), v, d)]) q2 m2 := by
  obtain ⟨h1, h2, h3, h4⟩ := h
  have hd := (okSeg_iff _).1 hok
  have hXe : X = wd d := by
    rcases hX with h | h
    · exact h
    · have := hd.2.2.2.1
      simp only at this
      omega
  have h5 : l = prT (sgs R) ++ m := by
    rcases h4 with ⟨_, h⟩ | ⟨h, _⟩
    · exact h
    · cases h
  subst hXe
  rw [← seg_text] at hm
  refine ⟨by simp; omega, ?_, ?_, ?_⟩
  · intro s hs
    rw [sgs_snoc'] at hs
    rcases List.mem_append.1 hs with hs | hs
    · exact h2 s hs
    · rw [List.mem_singleton.1 hs]; exact hok
  · refine Nat.le_trans ?_ h3
    rw [hm]
    cases q2 <;> simp <;> omega
  · cases q2 with
    | true => exact Or.inl ⟨rfl, by rw [h5, hm, sgs_snoc', prT_snoc]; simp⟩
    | false => exact Or.inr ⟨rfl, by simp, by rw [h5, hm, sgs_snoc', tx_snoc]; simp⟩
theorem GaI.done {l : List UInt8} {R : List Sv} (h : GaI l R false []) : okPath (sgs R) = true ∧ R ≠ [] ∧ tx (sgs R) = l := by
  obtain ⟨h1, h2, h3, ⟨h, _⟩ | ⟨_, h4, h5⟩⟩ := h
  · cases h
  · refine ⟨?_, h4, by rw [h5]; simp⟩
    unfold okPath
    simp only [Bool.and_eq_true, decide_eq_true_eq, List.all_eq_true]
    exact ⟨by simp [sgs]; omega, h2⟩
theorem ErrsAt.bes {w w' : World} {p q : Nat} (h : ErrsAt w) (hb : Bes p q w w') (hp : 7 ≤ p) (hq : 7 ≤ q) : ErrsAt w' := by
  have hz := h.lt
  obtain ⟨⟨a, b, t, fr, h1⟩, ⟨c, d, t', fr', h2⟩⟩ := h
  exact ⟨⟨a, b, t, fr, (hb.block 5 (by omega) (by omega) (by omega)).trans h1⟩, ⟨c, d, t', fr', (hb.block 6 (by omega) (by omega) (by omega)).trans h2⟩⟩
/-- What gather answers. -/
def GaR (l : List UInt8) (w w' : World) (e : Ending) : Prop :=
  (∃ v R, e = .returned (.tuple #[v, .int .i64 0]) ∧ OwnS w' w.heap.size v R ∧ okPath (sgs R) = true ∧ R ≠ [] ∧ tx (sgs R) = l) ∨ e = .returned (.tuple #[.slice none 0 0, .int .i64 4])
set_option maxHeartbeats 4000000 in
theorem gatherM (pm ps : Nat) (l : List UInt8) (w : World) (h : TmAt w pm ps true l) (hl : l.length < 140737488351233) (ht : Tabs w) (hE : ErrsAt w) (hp7 : 7 ≤ pm) (hq7 : 7 ≤ ps) :
    Calls Tryz.prog 26 #[.func (.func 45) #[] #[.pointer (some ⟨pm, 0, none⟩), .pointer (some ⟨ps, 0, none⟩)]] w fun e w' => GaR l w w' e ∧ Bes pm ps w w' := by
  obtain ⟨i0, hi, hq0, hq1, hq2⟩ := info_parts info48
  obtain ⟨hp, hq⟩ := h.lt
  have HT : Hid (TmAt w pm ps true l) := h
  have HL : Hid (l.length < 140737488351233) := hl
  have HTB : Hid (Tabs w) := ht
  have HEB : Hid (ErrsAt w) := hE
  clear h hl ht hE
  go_enter Tryz.func26, Tryz.ntmps26
  go_wp2
  go_loopw [4] (fun t wr => ∃ (R : List Sv) (q : Bool) (m : List UInt8), GaI l R q m ∧ OwnS wr w.heap.size t R ∧ TmAt wr pm ps q m ∧ Bes pm ps w wr) (fun t _ => 17 - slen t)
  case atStart => exact ⟨[], true, l, ⟨by simp, by simp [sgs], Nat.le_refl _, Or.inl ⟨rfl, rfl⟩⟩, ⟨World.ownsRow_nil _ _ _ _, fun r hr => by simp at hr, by simp⟩, HT.out, Bes.refl _ _ _⟩
  case round =>
    obtain ⟨R, q, m, hi2, ho, htt, hb⟩ := hrel
    obtain ⟨adq, cq, rfl⟩ := slice_of_owns ho.1
    have HO : Hid (OwnS _ _ _ _) := ho
    have HB : Hid (Bes pm ps w wr) := hb
    have HI : Hid (GaI l R q m) := hi2
    have hml : m.length < 140737488351233 := by have := hi2.2.2.1; have := HL.out; omega
    have KN : Hid (_ : Prop) := nextM_any pm ps q m wr htt hml (HTB.out.bes hb (by omega) (by omega)) (HEB.out.bes hb hp7 hq7)
    clear ho hb htt hml
    have hlen := hi2.1
    clear hi2
    go_wp2_with fail
    refine Calls.mono KN.out ?_
    rintro e w4 ⟨⟨hq, hm, rfl⟩ | rfl | ⟨k, ad, c, d, X, q2, m2, hqt, h1, h4, rfl, hou, htm, hX, hmm⟩, hb4⟩
    · have HO4 : Hid (OwnS _ _ _ _) := HO.out.bes hb4 hp (by omega)
      have HB4 : Hid (Bes pm ps w w4) := HB.out.trans hb4
      have HD : Hid (okPath (sgs R) = true ∧ R ≠ [] ∧ tx (sgs R) = l) := by
        have := HI.out
        rw [hq, hm] at this
        exact this.done
      clear hb4 hq hm KN
      go_wp2
      go_ret2
      exact ⟨Or.inl ⟨_, R, rfl, HO4.out.alloc _, HD.out⟩, HB4.out.then ((Below.refl _ _).alloc HB4.out.size _)⟩
    · have HB4 : Hid (Bes pm ps w w4) := HB.out.trans hb4
      clear hb4 KN
      go_wp2
      go_ret2
      exact ⟨Or.inr rfl, HB4.out.then ((Below.refl _ _).alloc HB4.out.size _)⟩
    · have HO4 : Hid (OwnS _ _ _ _) := HO.out.bes hb4 hp (by omega)
      have HB4 : Hid (Bes pm ps w w4) := HB.out.trans hb4
      have HT4 : Hid (TmAt _ _ _ _ _) := htm
      have HU4 : Hid (OwnU _ _ _ _) := hou
      have HX : Hid (X = wd d ∨ d.length = 256) := hX
      have HM : Hid (m = opn k :: (X ++ shut k :: (if q2 then 32 :: m2 else m2))) := hmm
      have HQ : Hid (q = true) := hqt
      have h4s := hb4.size
      clear hb4 htm hou hX hmm hqt KN HO h1 h4
      by_cases h16 : R.length = 16
      · have h16' : (R.length : Int) = 16 := by omega
        clear h16
        go_wp2
        go_ret2
        exact ⟨Or.inr rfl, HB4.out.then ((Below.refl _ _).alloc HB4.out.size _)⟩
      · have h16' : ¬ ((R.length : Int) = 16) := by omega
        have h16'' : ((R.length : Int) == 16) = false := by simpa using h16'
        have HN16 : Hid (R.length ≠ 16) := h16
        clear h16
        go_wp2_with fail
        refine (maySeg_any (k : Int) _ d _ (HU4.out.alloc _).at).mono ?_
        rintro e w5 ⟨rfl, hb5⟩
        have c0 : w5.cell? ⟨w4.heap.size, 0, none⟩ = some (.int .i64 (k : Int)) := below_cell hb5 (by simp)
        have c1 : w5.cell? ⟨w4.heap.size, 1, none⟩ = some (.slice ad d.length c) := below_cell hb5 (by simp)
        have HO5 : Hid (OwnS _ _ _ _) := (HO4.out.alloc _).below hb5
        have HU5 : Hid (OwnU _ _ _ _) := (HU4.out.alloc _).below hb5
        have HB5 : Hid (Bes pm ps w w5) := (HB4.out.then ((Below.refl _ _).alloc HB4.out.size _)).then (hb5.mono (Nat.le_trans HB4.out.size (by simp)))
        have HT5 : Hid (TmAt w5 pm ps q2 m2) := (HT4.out.below ((Below.refl _ _).alloc (Nat.le_refl _) _)).below hb5
        have h5 := HB5.out.size
        have hwr := HB.out.size
        clear hb5 HO4 HU4 HB4 HT4
        by_cases hok : okSeg ((k : Int), d) = true
        · rw [hok]
          have HI6 : Hid (GaI l (R ++ [((k : Int), .slice ad d.length c, d)]) q2 m2) := by
            have := HI.out
            rw [HQ.out] at this
            exact this.next HM.out HX.out hok HN16.out
          have HUW : Hid (OwnU w5 w.heap.size _ _) := HU5.out.mono hwr
          clear hok
          go_wp2_with (at_builtin; refine wpList_append_own _ rfl _ _ 27 rfl w.heap.size 24 i0 (.agg #[.int .i64 0, .slice none 0 0]) 2 32 Tryz.underlying27 hi hq0 hq1 hq2 rfl (by decide) _ _ _ rfl (HO5.out.1.alloc _) ⟨w5.heap.size, 0, none⟩ 1 1 [.int .i64 (k : Int), .slice ad d.length c] rfl rfl (news2 w5 _ _ 24) (two_seg _ _ _ _) (by unfold maxLen; omega) (by omega) (Nat.le_trans h5 (by simp)) ?_; intro v6 w6 hown6 hgrow6 _)
          have hos : OwnS w6 w.heap.size v6 (R ++ [((k : Int), .slice ad d.length c, d)]) := OwnS.snoc (HO5.out.alloc _) (HUW.out.alloc _) (by omega) hown6 hgrow6
          obtain ⟨ad6, c6, rfl⟩ := slice_of_owns hown6
          have hbw : Below w.heap.size w5 w6 := ((Below.refl _ _).alloc h5 _).grown hgrow6 (Nat.le_trans h5 (by simp)) (fun k e => (HO5.out.1.lt k e).1)
          have HB6 : Hid (Bes pm ps w w6) := HB5.out.then hbw
          have HT6 : Hid (TmAt w6 pm ps q2 m2) := ⟨(hbw.cell (p := ⟨pm, 0, none⟩) hp).trans HT5.out.m, (hbw.cell (p := ⟨ps, 0, none⟩) (by omega)).trans HT5.out.s, (hbw.frozen (p := ⟨pm, 0, none⟩) hp).trans HT5.out.fm, (hbw.frozen (p := ⟨ps, 0, none⟩) (by omega)).trans HT5.out.fs, HT5.out.ne⟩
          clear hown6 hgrow6 hbw
          go_roundw
          case rel => exact ⟨_, q2, m2, HI6.out, hos, HT6.out, HB6.out⟩
          case measure => simp [slen]; omega
        · have hok' : okSeg ((k : Int), d) = false := by simpa using hok
          rw [hok']
          clear hok hok'
          go_wp2
          go_ret2
          exact ⟨Or.inr rfl, HB5.out⟩
/-- What Parse answers. -/
def PaR (l : List UInt8) (w w' : World) (e : Ending) : Prop :=
  (∃ v R, e = .returned (.tuple #[v, .int .i64 0]) ∧ OwnS w' w.heap.size v R ∧ okPath (sgs R) = true ∧ textOf (sgs R) = l) ∨ e = .returned (.tuple #[.slice none 0 0, .int .i64 4])
set_option maxHeartbeats 2000000 in
theorem parse_any (l : List UInt8) (hl : l.length < 140737488351233) (w : World) (ht : Tabs w) (hE : ErrsAt w) :
    Calls Tryz.prog 13 #[.string ⟨l.toArray⟩] w fun e w' => PaR l w w' e ∧ Below w.heap.size w w' := by
  by_cases h45 : l = [45]
  · subst h45
    go_enter Tryz.func13, Tryz.ntmps13
    go_wp2
    go_ret2
    exact ⟨Or.inl ⟨_, [], rfl, ⟨World.ownsRow_nil _ _ _ _, fun r hr => by simp at hr, by simp⟩, rfl, rfl⟩, Below.refl _ _⟩
  · have hne : (l.toArray.toList == #[(45 : UInt8)].toList) = false := by simpa using h45
    have hz := hE.lt
    have KI : Hid (_ : Prop) := inText_any l w
    have HT : Hid (Tabs w) := ht
    have HE : Hid (ErrsAt w) := hE
    have HL : Hid (l.length < 140737488351233) := hl
    clear hl ht hE h45
    go_enter Tryz.func13, Tryz.ntmps13
    go_wp2_with fail
    refine Calls.mono KI.out ?_
    rintro e w1 ⟨pm, ps, rfl, c1, c2, f1, f2, hn, h1, h2, hb1⟩
    have HB1 : Hid (Below w.heap.size w w1) := hb1
    have KG : Hid (_ : Prop) := gatherM pm ps l w1 ⟨c1, c2, f1, f2, hn⟩ HL.out (HT.out.below hb1) (HE.out.below hb1) (by omega) (by omega)
    clear c1 c2 f1 f2 hn hb1
    go_wp2_with fail
    refine Calls.mono KG.out ?_
    rintro e w2 ⟨⟨v, R, rfl, hO, hk, hne2, htx⟩ | rfl, hb2⟩
    · have HB2 : Hid (Below w.heap.size w w2) := HB1.out.trans (hb2.below h1 h2 HB1.out.size)
      have HO : Hid (OwnS w2 w.heap.size v R) := hO.mono HB1.out.size
      have HR : Hid (okPath (sgs R) = true ∧ textOf (sgs R) = l) := ⟨hk, by
        unfold textOf
        rw [if_neg (by intro e; exact hne2 (by simpa [sgs] using e)), ← tx_join]
        exact htx⟩
      clear hb2 hO hk hne2 htx KG
      go_wp2
      go_ret2
      exact ⟨Or.inl ⟨_, R, rfl, HO.out, HR.out⟩, HB2.out⟩
    · have HB2 : Hid (Below w.heap.size w w2) := HB1.out.trans (hb2.below h1 h2 HB1.out.size)
      clear hb2 KG
      go_wp2
      go_ret2
      exact ⟨Or.inr rfl, HB2.out⟩
end Go.Proofs.YtbdfigfjoiefiabGreatDoor
