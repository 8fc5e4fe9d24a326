/-
  gather over the segments of a text.
-/
import Derived.Test.YtbdfigfjoiefiaaDoorU6
set_option linter.unusedSimpArgs false
set_option linter.unusedVariables false
namespace Go.Proofs.YtbdfigfjoiefiaaDoor
open Go.RowKit
theorem MaxAt.bes {w w' : World} {p q : Nat} (h : MaxAt w) (hb : Bes p q w w') (hp : 3 ≤ p) (hq : 3 ≤ q) : MaxAt w' := by
  obtain ⟨m, hm⟩ := h
  refine ⟨m, ?_⟩
  have hlt := lt_of_cell hm
  have e := hb.block 2 hlt (by omega) (by omega)
  unfold World.cell? at hm ⊢
  rw [e]
  exact hm
theorem sgs_snoc' (R : List Sv) (k : Int) (v : Value) (l : List Nat) : sgs (R ++ [(k, v, l)]) = sgs R ++ [(k, l)] := by simp [sgs]
set_option maxRecDepth 100000 in
set_option maxHeartbeats 1600000 in
theorem gatherT (pm ps : Nat) (L : List Sg) (w : World) (h : TtAt w pm ps L) (hok : okPath L = true) (hx : ∀ s ∈ L, ∀ x ∈ s.2, x < 4294967296) (ht : Tabs w) (hm : MaxAt w) (hp3 : 3 ≤ pm) (hq3 : 3 ≤ ps) :
    Calls Tryd.prog 58 #[.func (.func 78) #[] #[.pointer (some ⟨pm, 0, none⟩), .pointer (some ⟨ps, 0, none⟩)]] w fun e w' => (∃ v R, e = .returned (.tuple #[v, .int .i64 0]) ∧ sgs R = L ∧ OwnS w' w.heap.size v R) ∧ Bes pm ps w w' := by
  obtain ⟨i0, hi, hq0, hq1, hq2⟩ := info_parts info48
  obtain ⟨hp, hq⟩ := h.lt
  have hL := okPath_len hok
  have HT : Hid (TtAt w pm ps L) := h
  have HX : Hid (∀ s ∈ L, okSeg s = true ∧ ∀ x ∈ s.2, x < 4294967296) := fun s hs => ⟨by
    obtain ⟨i, hi', e⟩ := List.getElem_of_mem hs
    rw [← e]
    exact okPath_seg hok i hi', hx s hs⟩
  have HTX : Hid (∀ M N, M ++ N = L → (tx N).length ≤ 900000) := fun M N e => by
    have hN : okPath N = true := by
      unfold okPath at hok ⊢
      rw [← e] at hok
      simp only [Bool.and_eq_true, decide_eq_true_eq, List.all_append, List.length_append] at hok ⊢
      exact ⟨by omega, hok.2.2⟩
    have := tx_len N hN (fun s hs => hx s (by rw [← e]; exact List.mem_append_right _ hs))
    omega
  have HTB : Hid (Tabs w) := ht
  have HMX : Hid (MaxAt w) := hm
  clear h hok hx ht hm
  go_enter Tryd.func58, Tryd.ntmps58
  go_wp2
  go_loopw [4] (fun t wr => ∃ (R : List Sv) (M : List Sg), sgs R ++ M = L ∧ OwnS wr w.heap.size t R ∧ TtAt wr pm ps M ∧ Bes pm ps w wr) (fun t _ => 17 - slen t)
  case atStart => exact ⟨[], L, rfl, ⟨World.ownsRow_nil _ _ _ _, fun r hr => by simp at hr, by simp⟩, HT.out, Bes.refl _ _ _⟩
  case round =>
    obtain ⟨R, M, hRM, ho, htt, hb⟩ := hrel
    have hlen : R.length + M.length ≤ 16 := by
      have : (sgs R ++ M).length = L.length := by rw [hRM]
      simp [sgs] at this
      omega
    obtain ⟨adq, cq, rfl⟩ := slice_of_owns ho.1
    have HO : Hid (OwnS _ _ _ _) := ho
    have HB : Hid (Bes pm ps w wr) := hb
    have HRM : Hid (sgs R ++ M = L) := hRM
    have HTT : Hid (TtAt _ _ _ _) := htt
    have HTR : Hid (Tabs wr) := HTB.out.bes hb (by omega) (by omega)
    have HMR : Hid (MaxAt wr) := HMX.out.bes hb hp3 hq3
    clear ho hb hRM htt
    cases M with
    | nil =>
      go_wp2_with fail
      refine (nextT_end pm ps wr HTT.out).mono ?_
      rintro e w4 ⟨rfl, hb4⟩
      have HO4 : Hid (OwnS _ _ _ _) := HO.out.below hb4
      have HB4 : Hid (Bes pm ps w w4) := HB.out.then (hb4.mono HB.out.size)
      clear hb4
      go_wp2
      go_ret2
      refine ⟨⟨_, R, rfl, by have := HRM.out; simpa using this, HO4.out.alloc _⟩, HB4.out.then ((Below.refl _ _).alloc HB4.out.size _)⟩
    | cons s N =>
      obtain ⟨kd, av⟩ := s
      have hsx := HX.out (kd, av) (by rw [← HRM.out]; simp)
      have htx := HTX.out (sgs R ++ [(kd, av)]) N (by rw [← HRM.out]; simp)
      have KN : Hid (_ : Prop) := nextT_yes pm ps (kd, av) N wr HTT.out hsx.1 hsx.2 htx HTR.out HMR.out
      have hok : okSeg (kd, av) = true := hsx.1
      clear hsx htx HTT HTR HMR
      go_wp2_with fail
      refine Calls.mono KN.out ?_
      rintro e w4 ⟨⟨ad, c, rfl, hou⟩, htt4, hb4⟩
      have HO4 : Hid (OwnS _ _ _ _) := HO.out.bes hb4 hp hq
      have HB4 : Hid (Bes pm ps w w4) := HB.out.trans hb4
      have HT4 : Hid (TtAt _ _ _ _) := htt4
      have HU4 : Hid (OwnU _ _ _ _) := hou
      have h4 := hb4.size
      clear hb4 hou htt4 KN HO
      simp only [List.length_cons] at hlen
      have h16' : ¬ ((R.length : Int) = 16) := by omega
      have h16'' : ((R.length : Int) == 16) = false := by simpa using h16'
      go_wp2_with fail
      refine (maySeg_any kd _ av _ (HU4.out.alloc _).at).mono ?_
      rintro e w5 ⟨rfl, hb5⟩
      have c0 : w5.cell? ⟨w4.heap.size, 0, none⟩ = some (.int .i64 kd) := below_cell hb5 (by simp)
      have c1 : w5.cell? ⟨w4.heap.size, 1, none⟩ = some (.slice ad av.length c) := below_cell hb5 (by simp)
      have HO5 : Hid (OwnS _ _ _ _) := (HO4.out.alloc _).below hb5
      have HU5 : Hid (OwnU _ _ _ _) := (HU4.out.alloc _).below hb5
      have HB5 : Hid (Bes pm ps w w5) := (HB4.out.then ((Below.refl _ _).alloc HB4.out.size _)).then (hb5.mono (Nat.le_trans HB4.out.size (by simp)))
      have HT5 : Hid (TtAt w5 pm ps N) := (HT4.out.below ((Below.refl _ _).alloc (Nat.le_refl _) _)).below hb5
      have h5 := HB5.out.size
      have hwr := HB.out.size
      clear hb5 HO4 HU4 HB4 HT4
      rw [hok]
      have HUW : Hid (OwnU w5 w.heap.size _ _) := HU5.out.mono hwr
      clear hok
      go_wp2_with (at_builtin; refine wpList_append_own _ rfl _ _ 22 rfl w.heap.size 48 i0 (.agg #[.int .i64 0, .slice none 0 0]) 2 32 Tryd.underlying22 hi hq0 hq1 hq2 rfl (by decide) _ _ _ rfl (HO5.out.1.alloc _) ⟨w5.heap.size, 0, none⟩ 1 1 [.int .i64 kd, .slice ad av.length c] rfl rfl (news2 w5 _ _ 48) (two_seg _ _ _ _) (by unfold maxLen; omega) (by omega) (Nat.le_trans h5 (by simp)) ?_; intro v6 w6 hown6 hgrow6 _)
      have hos : OwnS w6 w.heap.size v6 (R ++ [(kd, .slice ad av.length c, av)]) := OwnS.snoc (HO5.out.alloc _) (HUW.out.alloc _) (by omega) hown6 hgrow6
      obtain ⟨ad6, c6, rfl⟩ := slice_of_owns hown6
      have hbw : Below w.heap.size w5 w6 := ((Below.refl _ _).alloc h5 _).grown hgrow6 (Nat.le_trans h5 (by simp)) (fun k e => (HO5.out.1.lt k e).1)
      have HB6 : Hid (Bes pm ps w w6) := HB5.out.then hbw
      have HT6 : Hid (TtAt w6 pm ps N) := ⟨(hbw.cell (p := ⟨pm, 0, none⟩) hp).trans HT5.out.m, (hbw.cell (p := ⟨ps, 0, none⟩) hq).trans HT5.out.s, (hbw.frozen (p := ⟨pm, 0, none⟩) hp).trans HT5.out.fm, (hbw.frozen (p := ⟨ps, 0, none⟩) hq).trans HT5.out.fs, HT5.out.ne⟩
      clear hown6 hgrow6 hbw
      go_roundw
      case rel => exact ⟨_, N, by rw [sgs_snoc', ← HRM.out]; simp, hos, HT6.out, HB6.out⟩
      case measure => simp [slen]; omega
theorem inText_any (l : List UInt8) (w : World) :
    Calls Tryd.prog 62 #[.string ⟨l.toArray⟩] w fun e w' => ∃ pm ps, e = .returned (.func (.func 78) #[] #[.pointer (some ⟨pm, 0, none⟩), .pointer (some ⟨ps, 0, none⟩)]) ∧ w'.cell? ⟨pm, 0, none⟩ = some (.bool true) ∧ w'.cell? ⟨ps, 0, none⟩ = some (.string ⟨l.toArray⟩) ∧ w'.frozen? ⟨pm, 0, none⟩ = false ∧ w'.frozen? ⟨ps, 0, none⟩ = false ∧ pm ≠ ps ∧ w.heap.size ≤ pm ∧ w.heap.size ≤ ps ∧ Below w.heap.size w w' := by
  go_enter Tryd.func62, Tryd.ntmps62
  go_wp2
  go_ret
  have hb : ∀ o o', Below w.heap.size w ((w.alloc o).alloc o') := fun o o' => ((Below.refl _ _).alloc (Nat.le_refl _) o).alloc (by simp) o'
  refine ⟨_, _, rfl, by simp, by simp, by simp, by simp, by simp, by simp, by simp, hb _ _⟩
theorem parse_text (L : List Sg) (w : World) (hok : okPath L = true) (hx : ∀ s ∈ L, ∀ x ∈ s.2, x < 4294967296) (ht : Tabs w) (hm : MaxAt w) :
    Calls Tryd.prog 35 #[.string ⟨(textOf L).toArray⟩] w fun e w' => PathOk (some L) w e w' := by
  cases L with
  | nil =>
    show Calls Tryd.prog 35 #[.string ⟨#[45]⟩] w _
    go_enter Tryd.func35, Tryd.ntmps35
    go_wp2
    go_ret2
    exact ⟨Below.refl _ _, _, [], rfl, rfl, ⟨World.ownsRow_nil _ _ _ _, fun r hr => by simp at hr, by simp⟩⟩
  | cons s N =>
    have e1 : textOf (s :: N) = tx (s :: N) := by
      unfold textOf
      rw [if_neg (by simp), tx_join]
    rw [e1]
    have hne : ((tx (s :: N)).toArray.toList == #[(45 : UInt8)].toList) = false := by
      have : tx (s :: N) = opn s.1.toNat :: (Lib.join (s.2.map Lib.decDigits) [32] ++ [shut s.1.toNat] ++ (if N = [] then [] else 32 :: tx N)) := by simp [tx, segT]
      rw [this]
      have h45 : (opn s.1.toNat == 45) = false := by
        unfold opn
        split
        · rfl
        · split
          · rfl
          · split <;> rfl
      simp [h45]
    have HOK : Hid (okPath (s :: N) = true) := hok
    have HX : Hid (∀ t ∈ s :: N, ∀ x ∈ t.2, x < 4294967296) := hx
    have hz := ht.size
    have KI : Hid (_ : Prop) := inText_any (tx (s :: N)) w
    have HT : Hid (Tabs w) := ht
    have HM : Hid (MaxAt w) := hm
    have hm3 : 3 ≤ w.heap.size := by obtain ⟨m, h⟩ := hm; exact lt_of_cell h
    clear hok hx ht hm e1
    have HL : Hid (tx (s :: N) = tx (s :: N)) := rfl
    generalize hl : tx (s :: N) = l at *
    go_enter Tryd.func35, Tryd.ntmps35
    go_wp2_with fail
    refine Calls.mono KI.out ?_
    rintro e w1 ⟨pm, ps, rfl, c1, c2, f1, f2, hn, h1, h2, hb1⟩
    have HB1 : Hid (Below w.heap.size w w1) := hb1
    have KG : Hid (_ : Prop) := gatherT pm ps (s :: N) w1 ⟨by rw [c1]; rfl, by rw [c2, hl], f1, f2, hn⟩ HOK.out HX.out (HT.out.below hb1) (HM.out.below hb1) (by omega) (by omega)
    clear c1 c2 f1 f2 hn hb1
    go_wp2_with fail
    refine Calls.mono KG.out ?_
    rintro e w2 ⟨⟨v, R, rfl, hR, hO⟩, hb2⟩
    have HB2 : Hid (Below w.heap.size w w2) := HB1.out.trans (hb2.below h1 h2 HB1.out.size)
    have HO : Hid (OwnS w2 w.heap.size v R) := hO.mono HB1.out.size
    have HR : Hid (sgs R = s :: N) := hR
    clear hb2 hO hR KG
    go_wp2
    go_ret2
    exact ⟨HB2.out, _, R, rfl, HR.out, HO.out⟩
end Go.Proofs.YtbdfigfjoiefiaaDoor
