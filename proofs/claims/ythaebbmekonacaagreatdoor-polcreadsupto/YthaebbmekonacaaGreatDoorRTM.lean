/-
  Term over whatever reading leaves.
-/
import Derived.Test.YthaebbmekonacaaGreatDoorRL
import Derived.Test.YthaebbmekonacaaGreatDoorTZ
import Derived.Defers
import Derived.Recover
set_option linter.unusedVariables false
set_option linter.unusedSimpArgs false
set_option maxRecDepth 100000
namespace Go.Proofs.YthaebbmekonacaaGreatDoor
open Go.RowKit
/-- A block of two cells. -/
structure C2 (w : World) (b : Nat) (v0 v1 : Value) : Prop where
  c0 : w.cell? ⟨b, 0, none⟩ = some v0
  c1 : w.cell? ⟨b, 1, none⟩ = some v1
  f : ∀ i, w.frozen? ⟨b, i, none⟩ = false
theorem C2.new (w : World) (t : TypeId) (v0 v1 : Value) : C2 (w.alloc (.cells #[v0, v1] t)) w.heap.size v0 v1 :=
  ⟨by rw [World.cell?_alloc_new]; rfl, by rw [World.cell?_alloc_new]; rfl, fun i => World.frozen?_alloc_new _ _ _ _⟩
theorem C2.bs2 {w w' : World} {b p q : Nat} {v0 v1 : Value} (h : C2 w b v0 v1) (hb : Bs2 p q w w') (hp : b ≠ p) (hq : b ≠ q) : C2 w' b v0 v1 :=
  ⟨hb.cell h.c0 hp hq, hb.cell h.c1 hp hq, fun i => hb.frozen (lt_of_cell h.c0) (h.f i) hp hq⟩
theorem C2.below {w w' : World} {b : Nat} {v0 v1 : Value} (h : C2 w b v0 v1) (hb : Below w.heap.size w w') : C2 w' b v0 v1 := by
  have h1 : Bs2 (b + 1) (b + 1) w w' := Bs2.of_below hb
  exact h.bs2 h1 (by omega) (by omega)
theorem C2.other {w : World} {b b' i : Nat} {v v0 v1 : Value} (h : C2 w b v0 v1) (hb : b' ≠ b) : C2 (w.setCell ⟨b', i, none⟩ v) b v0 v1 := by
  obtain ⟨h0, h1, hf⟩ := h
  refine ⟨?_, ?_, fun i => by rw [World.frozen?_setCell]; exact hf i⟩
  all_goals rw [World.cell?_setCell_other _ _ _ _ (by intro e; injection e with e; exact hb e)]; assumption
theorem C2.set0 {w : World} {b : Nat} {v v0 v1 : Value} (h : C2 w b v0 v1) : C2 (w.setCell ⟨b, 0, none⟩ v) b v v1 := by
  obtain ⟨h0, h1, hf⟩ := h
  exact ⟨World.cell?_setCell_same _ _ _ h0, (World.cell?_setCell_other _ _ _ _ (by intro e; injection e with _ e; omega)).trans h1, fun i => by rw [World.frozen?_setCell]; exact hf i⟩
theorem C2.set1 {w : World} {b : Nat} {v v0 v1 : Value} (h : C2 w b v0 v1) : C2 (w.setCell ⟨b, 1, none⟩ v) b v0 v := by
  obtain ⟨h0, h1, hf⟩ := h
  exact ⟨(World.cell?_setCell_other _ _ _ _ (by intro e; injection e with _ e; omega)).trans h0, World.cell?_setCell_same _ _ _ h1, fun i => by rw [World.frozen?_setCell]; exact hf i⟩
theorem OwnCd.set {w : World} {base b i : Nat} {u v : Value} {l : List Cd} (h : OwnCd w base v l) (hb : b < base) : OwnCd (w.setCell ⟨b, i, none⟩ u) base v l :=
  owns_heap' h fun g hg => by
    have := owns_lt h g hg
    simp only [World.setCell, Array.getElem?_modify]
    rw [if_neg (by omega)]
theorem OwnAc.set {w : World} {base b i : Nat} {u v : Value} {l : List Ac} (h : OwnAc w base v l) (hb : b < base) : OwnAc (w.setCell ⟨b, i, none⟩ u) base v l :=
  owns_heap' h fun g hg => by
    have := owns_lt h g hg
    simp only [World.setCell, Array.getElem?_modify]
    rw [if_neg (by omega)]
def ifW : List UInt8 := [105, 102]
def thenW : List UInt8 := [116, 104, 101, 110]
/-- What reading conditions asks. -/
def RdsC (W0 : World) (pl ps : Nat) (W : List (List (List UInt8))) (L : List Cd) : Prop := ∀ k (h : k < L.length) (h' : k < W.length) (X : World) (r : List (List UInt8)), Std0 W0 X pl ps → Rd X pl ps (W[k] ++ r) → Calls Tryz.prog 88 #[clo pl ps] X fun e w' => e = .returned (cdV L[k]) ∧ Left X w' pl ps r
def RdsA (W0 : World) (pl ps : Nat) (W : List (List (List UInt8))) (L : List Ac) : Prop := ∀ k (h : k < L.length) (h' : k < W.length) (X : World) (r : List (List UInt8)), Std0 W0 X pl ps → Rd X pl ps (W[k] ++ r) → Calls Tryz.prog 91 #[clo pl ps] X fun e w' => e = .returned (acV L[k]) ∧ Left X w' pl ps r
set_option maxHeartbeats 2000000 in
theorem readTerm_if (WC WA : List (List (List UInt8))) (cs : List Cd) (acs : List Ac) (hC : WC.length = cs.length) (hA : WA.length = acs.length) (h1 : 1 ≤ cs.length) (hok : okT ⟨cs, acs⟩ = true) (hsm : SmT ⟨cs, acs⟩) (pl ps : Nat) (W0 w : World) (h0 : Std0 W0 w pl ps)
    (hr : Rd w pl ps (ifW :: flatW WC (thenW :: flatW WA []))) (HRc : RdsC W0 pl ps WC cs) (HRa : RdsA W0 pl ps WA acs) :
    Calls Tryz.prog 49 #[clo pl ps] w fun e w' => (∃ vc va, e = .returned (.agg #[vc, va]) ∧ OwnCd w' w.heap.size vc cs ∧ OwnAc w' w.heap.size va acs) ∧ Left w w' pl ps [] := by
  have o := ok_term hok
  dsimp only at o
  have hl := hr.lt
  obtain ⟨W1, hW1⟩ : ∃ W1, (w.alloc (.cells #[.slice none 0 0, .slice none 0 0] 63)).alloc (.cells #[.slice none 0 0, .slice none 0 0] 63) = W1 := ⟨_, rfl⟩
  have hsz : (w.alloc (.cells #[.slice none 0 0, .slice none 0 0] 63)).heap.size = w.heap.size + 1 := by simp
  have bb1 : Below w.heap.size w W1 := by rw [← hW1]; exact ((Below.refl _ _).alloc (Nat.le_refl _) _).alloc (by rw [hsz]; omega) _
  have b1 : Bs2 pl ps w W1 := Bs2.of_below bb1
  have r1 : Rd W1 pl ps (ifW :: flatW WC (thenW :: flatW WA [])) := hr.below bb1
  have d1 : C2 W1 w.heap.size (.slice none 0 0) (.slice none 0 0) := by rw [← hW1]; exact (C2.new w 63 _ _).below ((Below.refl _ _).alloc (Nat.le_refl _) _)
  have c1 : C2 W1 (w.heap.size + 1) (.slice none 0 0) (.slice none 0 0) := by rw [← hW1, ← hsz]; exact C2.new _ 63 _ _
  have HNl : Hid (w.heap.size ≠ pl ∧ w.heap.size ≠ ps ∧ w.heap.size + 1 ≠ pl ∧ w.heap.size + 1 ≠ ps) := ⟨by omega, by omega, by omega, by omega⟩
  have HPl : Hid (pl < w.heap.size ∧ ps < w.heap.size) := hl
  have HS : Hid (Std0 W0 w pl ps) := h0
  have HB1 : Hid (Bs2 pl ps w W1) := b1
  have HR1 : Hid (Rd W1 pl ps (ifW :: flatW WC (thenW :: flatW WA []))) := r1
  have HD1 : Hid (C2 W1 w.heap.size _ _) := d1
  have HC1 : Hid (C2 W1 (w.heap.size + 1) _ _) := c1
  have HKc : Hid (∀ X, Std0 W0 X pl ps → Rd X pl ps (flatW WC (thenW :: flatW WA [])) → Calls Tryz.prog 87 #[.func (.func 92) #[] #[.pointer (some ⟨pl, 0, none⟩), .pointer (some ⟨ps, 0, none⟩)], .func (.func 88) #[] #[]] X fun e w' => (∃ v, e = .returned (.tuple #[v, .string ⟨#[116, 104, 101, 110]⟩]) ∧ OwnCd w' X.heap.size v cs) ∧ Left X w' pl ps (flatW WA [])) := fun X hX hRX => readListCd WC cs hC h1 o.1 (thenW :: flatW WA []) (by show thenW ≠ andW; decide) pl ps W0 X hX hRX HRc
  have HKa : Hid (∀ X, Std0 W0 X pl ps → Rd X pl ps (flatW WA []) → Calls Tryz.prog 90 #[.func (.func 92) #[] #[.pointer (some ⟨pl, 0, none⟩), .pointer (some ⟨ps, 0, none⟩)], .func (.func 91) #[] #[]] X fun e w' => (∃ v, e = .returned (.tuple #[v, .string ⟨#[32]⟩]) ∧ OwnAc w' X.heap.size v acs) ∧ Left X w' pl ps []) := fun X hX hRX => readListAc WA acs hA o.2.1 o.2.2.1 [] (by decide) pl ps W0 X hX hRX HRa
  have HM : Hid (∀ X vc va, EnvX X → CdAt X vc cs → AcAt X va acs → Calls Tryz.prog 40 #[.agg #[vc, va]] X fun e w' => e = .returned (.bool true) ∧ Below X.heap.size X w') := fun X vc va hX hc ha => by have := mayTerm_any (.agg #[vc, va]) ⟨cs, acs⟩ X hX.e ⟨vc, va, rfl, hc, ha⟩ hsm; rw [hok] at this; exact this
  clear h0 hr hl hsz bb1 b1 r1 d1 c1 HRc HRa o hC hA h1 hok hsm
  generalize flatW WA [] = fa at *
  generalize flatW WC (thenW :: fa) = fc at *
  unfold clo
  go_enter Tryz.func49, Tryz.ntmps49
  go_wp2_with fail
  refine Calls.mono (next_yes pl ps ifW _ W1 HR1.out (HS.out.bs2 HB1.out).max) ?_
  rintro e W2 ⟨rfl, hr2, hb2⟩
  have HR2 : Hid (_ : Prop) := hr2
  have HB2 : Hid (Bs2 pl ps w W2) := HB1.out.trans hb2
  have HD2 : Hid (_ : Prop) := HD1.out.bs2 hb2 HNl.out.1 HNl.out.2.1
  have HC2 : Hid (_ : Prop) := HC1.out.bs2 hb2 HNl.out.2.2.1 HNl.out.2.2.2
  clear hr2 hb2 HR1 HB1 HD1 HC1
  have hif : (ifW == ([105, 102] : List UInt8)) = true := by decide
  go_wp2_with fail
  refine Calls.mono (HKc.out _ (HS.out.bs2 HB2.out) HR2.out) ?_
  rintro e W3 ⟨⟨v3, rfl, ho3⟩, hl3⟩
  have hbase : w.heap.size + 1 < W2.heap.size := lt_of_cell HC2.out.c0
  have HR3 : Hid (_ : Prop) := hl3.rd
  have HB3 : Hid (Bs2 pl ps w W3) := HB2.out.trans hl3.bs
  have HD3 : Hid (_ : Prop) := HD2.out.bs2 hl3.bs HNl.out.1 HNl.out.2.1
  have HC3 : Hid (_ : Prop) := HC2.out.bs2 hl3.bs HNl.out.2.2.1 HNl.out.2.2.2
  obtain ⟨a3, k3, e3, hk3⟩ := own_len ho3
  subst e3
  have HBs : Hid (w.heap.size + 1 < W2.heap.size) := hbase
  have HO3 : Hid (OwnCd W3 W2.heap.size (.slice a3 cs.length k3) cs) := ho3
  clear hl3 ho3 hbase HR2 HB2 HD2 HC2
  obtain ⟨W4, hW4⟩ : ∃ W, W3.setCell ⟨w.heap.size + 1, 0, none⟩ (.slice a3 cs.length k3) = W := ⟨_, rfl⟩
  have HR4 : Hid (Rd W4 pl ps fa) := by unfold Hid; rw [← hW4]; exact HR3.out.set HNl.out.2.2.1 HNl.out.2.2.2
  have HB4 : Hid (Bs2 pl ps w W4) := by unfold Hid; rw [← hW4]; exact HB3.out.set (by omega)
  have HD4 : Hid (C2 W4 w.heap.size (.slice none 0 0) (.slice none 0 0)) := by unfold Hid; rw [← hW4]; exact HD3.out.other (by omega)
  have HC4 : Hid (C2 W4 (w.heap.size + 1) (.slice a3 cs.length k3) (.slice none 0 0)) := by unfold Hid; rw [← hW4]; exact HC3.out.set0
  have HO4 : Hid (OwnCd W4 W2.heap.size (.slice a3 cs.length k3) cs) := by unfold Hid; rw [← hW4]; exact HO3.out.set HBs.out
  have z0 := HC3.out.c0
  have z1 := HC3.out.f 0
  clear HR3 HB3 HD3 HC3 HO3
  go_wp2_with fail
  clear z0 z1
  refine Calls.mono (need_yes _) ?_
  rintro e Wq ⟨rfl, hq⟩
  subst Wq
  go_wp2_with fail
  refine Calls.mono (HKa.out _ (HS.out.bs2 HB4.out) HR4.out) ?_
  rintro e W5 ⟨⟨v5, rfl, ho5⟩, hl5⟩
  have hbase : w.heap.size + 1 < W4.heap.size := lt_of_cell HC4.out.c0
  have HR5 : Hid (_ : Prop) := hl5.rd
  have HB5 : Hid (Bs2 pl ps w W5) := HB4.out.trans hl5.bs
  have HD5 : Hid (_ : Prop) := HD4.out.bs2 hl5.bs HNl.out.1 HNl.out.2.1
  have HC5 : Hid (_ : Prop) := HC4.out.bs2 hl5.bs HNl.out.2.2.1 HNl.out.2.2.2
  have HO5 : Hid (OwnCd W5 W2.heap.size (.slice a3 cs.length k3) cs) := HO4.out.bs2 hl5.bs (by have := HPl.out; have := HBs.out; omega) (by have := HPl.out; have := HBs.out; omega)
  obtain ⟨a5, k5, e5, hk5⟩ := own_len ho5
  subst e5
  have HBs4 : Hid (w.heap.size + 1 < W4.heap.size) := hbase
  have HP5 : Hid (OwnAc W5 W4.heap.size (.slice a5 acs.length k5) acs) := ho5
  clear hl5 ho5 hbase HR4 HB4 HD4 HC4 HO4
  obtain ⟨W6, hW6⟩ : ∃ W, W5.setCell ⟨w.heap.size + 1, 1, none⟩ (.slice a5 acs.length k5) = W := ⟨_, rfl⟩
  have HR6 : Hid (Rd W6 pl ps []) := by unfold Hid; rw [← hW6]; exact HR5.out.set HNl.out.2.2.1 HNl.out.2.2.2
  have HB6 : Hid (Bs2 pl ps w W6) := by unfold Hid; rw [← hW6]; exact HB5.out.set (by omega)
  have HD6 : Hid (C2 W6 w.heap.size (.slice none 0 0) (.slice none 0 0)) := by unfold Hid; rw [← hW6]; exact HD5.out.other (by omega)
  have HC6 : Hid (C2 W6 (w.heap.size + 1) (.slice a3 cs.length k3) (.slice a5 acs.length k5)) := by unfold Hid; rw [← hW6]; exact HC5.out.set1
  have HO6 : Hid (OwnCd W6 W2.heap.size (.slice a3 cs.length k3) cs) := by unfold Hid; rw [← hW6]; exact HO5.out.set HBs.out
  have HP6 : Hid (OwnAc W6 W4.heap.size (.slice a5 acs.length k5) acs) := by unfold Hid; rw [← hW6]; exact HP5.out.set HBs4.out
  have z0 := HC5.out.c1
  have z1 := HC5.out.f 1
  have y0 := HC6.out.c0
  have y1 := HC6.out.c1
  clear HR5 HB5 HD5 HC5 HO5 HP5
  go_wp2_with fail
  clear z0 z1 y0 y1
  refine Calls.mono (HM.out _ _ _ (HS.out.bs2 HB6.out).env HO6.out.at HP6.out.at) ?_
  rintro e W7 ⟨rfl, hb7⟩
  have HR7 : Hid (Rd W7 pl ps []) := HR6.out.below hb7
  have HB7 : Hid (Bs2 pl ps w W7) := HB6.out.trans (Bs2.of_below hb7)
  have HD7 : Hid (C2 W7 w.heap.size (.slice none 0 0) (.slice none 0 0)) := HD6.out.below hb7
  have HC7 : Hid (C2 W7 (w.heap.size + 1) (.slice a3 cs.length k3) (.slice a5 acs.length k5)) := HC6.out.below hb7
  have HO7 : Hid (OwnCd W7 W2.heap.size (.slice a3 cs.length k3) cs) := HO6.out.below hb7
  have HP7 : Hid (OwnAc W7 W4.heap.size (.slice a5 acs.length k5) acs) := HP6.out.below hb7
  clear hb7 HR6 HB6 HD6 HC6 HO6 HP6
  go_wp2_with fail
  refine Calls.mono (need_yes _) ?_
  rintro e Wq ⟨rfl, hq⟩
  subst Wq
  have y0 := HC7.out.c0
  have y1 := HC7.out.c1
  have x0 := HD7.out.c0
  have x1 := HD7.out.c1
  have f0 := HD7.out.f 0
  have f1 := HD7.out.f 1
  have HF : Hid (C2 ((W7.setCell ⟨w.heap.size, 0, none⟩ (.slice a3 cs.length k3)).setCell ⟨w.heap.size, 1, none⟩ (.slice a5 acs.length k5)) w.heap.size (.slice a3 cs.length k3) (.slice a5 acs.length k5)) := HD7.out.set0.set1
  have HLf : Hid (Left w ((W7.setCell ⟨w.heap.size, 0, none⟩ (.slice a3 cs.length k3)).setCell ⟨w.heap.size, 1, none⟩ (.slice a5 acs.length k5)) pl ps []) := ⟨(HR7.out.set HNl.out.1 HNl.out.2.1).set HNl.out.1 HNl.out.2.1, (HB7.out.set (Nat.le_refl _)).set (Nat.le_refl _)⟩
  have HOf : Hid (OwnCd ((W7.setCell ⟨w.heap.size, 0, none⟩ (.slice a3 cs.length k3)).setCell ⟨w.heap.size, 1, none⟩ (.slice a5 acs.length k5)) w.heap.size (.slice a3 cs.length k3) cs) := owns_mono ((HO7.out.set (by have := HBs.out; omega)).set (by have := HBs.out; omega)) (by have := HBs.out; omega)
  have HPf : Hid (OwnAc ((W7.setCell ⟨w.heap.size, 0, none⟩ (.slice a3 cs.length k3)).setCell ⟨w.heap.size, 1, none⟩ (.slice a5 acs.length k5)) w.heap.size (.slice a5 acs.length k5) acs) := owns_mono ((HP7.out.set (by have := HBs4.out; omega)).set (by have := HBs4.out; omega)) (by have := HBs4.out; omega)
  go_wp2_with fail
  generalize (W7.setCell ⟨w.heap.size, 0, none⟩ (.slice a3 cs.length k3)).setCell ⟨w.heap.size, 1, none⟩ (.slice a5 acs.length k5) = WF at *
  have e0 := HF.out.c0
  have e1 := HF.out.c1
  refine bodyPost_ret (v := .agg #[.slice a3 cs.length k3, .slice a5 acs.length k5]) (by simp [results, Tryz.results49, go_sem, e0, e1]) rfl ?_
  exact ⟨⟨_, _, rfl, HOf.out, HPf.out⟩, HLf.out⟩
theorem words_any (s : List UInt8) (hs : s.length < 140737488351233) (w : World) : Calls Tryz.prog 50 #[.string ⟨s.toArray⟩] w fun e w' => e = .returned (clo (w.heap.size + 1) w.heap.size) ∧ Rd w' (w.heap.size + 1) w.heap.size (spl s) ∧ Below w.heap.size w w' := by
  have hmf : ∀ (fn : Fn) (first cap : Array Value) (w : World), (Instr.makeFunc fn first cap).run Tryz.prog w = .ok (.func fn first cap) w := fun _ _ _ _ => rfl
  have hsz : (w.alloc (.cells #[.string ⟨s.toArray⟩] 9)).heap.size = w.heap.size + 1 := by simp
  have HR : Hid (Rd ((w.alloc (.cells #[.string ⟨s.toArray⟩] 9)).alloc (.cells #[.bool true] 4)) (w.heap.size + 1) w.heap.size (spl s)) := by
    refine ⟨by omega, true, s, ?_, ?_, ?_, ?_, hs, Or.inl ⟨rfl, rfl⟩⟩
    · rw [← hsz, World.cell?_alloc_new]; rfl
    · rw [World.cell?_alloc_old _ _ _ (by simp), World.cell?_alloc_new]; rfl
    · rw [← hsz]; exact World.frozen?_alloc_new _ _ _ _
    · rw [World.frozen?_alloc_old _ _ _ (by simp)]; exact World.frozen?_alloc_new _ _ _ _
  have HB : Hid (Below w.heap.size w ((w.alloc (.cells #[.string ⟨s.toArray⟩] 9)).alloc (.cells #[.bool true] 4))) := ((Below.refl _ _).alloc (Nat.le_refl _) _).alloc (by rw [hsz]; omega) _
  clear hs hsz
  unfold clo
  go_enter Tryz.func50, Tryz.ntmps50
  go_wp2
  go_ret
  exact ⟨rfl, HR.out, HB.out⟩
/-- The deferred function, where nothing was given up. -/
theorem catch_idle (p : Addr) (w : World) : CallsD Tryz.prog 48 #[.pointer (some p)] .returning w fun e u' w' => e = .returned (.tuple #[]) ∧ u' = .returning ∧ w' = w := by
  refine callsD_of_wpS Tryz.func48 rfl fun c₀ cs hu => ?_
  apply wpS_seq
  apply wpS_region
  simp [wpOpsS, go_sem, recoverD, hu, Tryz.ntmps48, Exit.thenS]
  apply wpS_seq
  apply wpS_region
  simp [wpOpsS, go_sem, recoverD, hu, Tryz.ntmps48, Exit.thenS]
  refine wpS_cond (t := false) (by simp [Act.eval, Array.replicate]) ?_
  simp only [Bool.false_eq_true, if_false]
  refine wpS_of_wp (wp_skip ?_)
  cases c₀
  simp_all [bodyPostS, results, Tryz.results48]
end Go.Proofs.YthaebbmekonacaaGreatDoor
set_option linter.unusedVariables false
set_option linter.unusedSimpArgs false
set_option maxRecDepth 100000
namespace Go.Proofs.YthaebbmekonacaaGreatDoor
open Go.RowKit
theorem AcAt.cells {w w' : World} {v : Value} {L : List Ac} (h : AcAt w v L) (hc : ∀ b i u, w.cell? ⟨b, i, none⟩ = some u → w'.cell? ⟨b, i, none⟩ = some u) : AcAt w' v L := by
  obtain ⟨ad, b, off, cap, h1, h2, h3, h4⟩ := h
  exact ⟨ad, b, off, cap, h1, h2, h3, fun j hj => ⟨hc _ _ _ (h4 j hj).1, hc _ _ _ (h4 j hj).2.1, hc _ _ _ (h4 j hj).2.2.1, hc _ _ _ (h4 j hj).2.2.2⟩⟩
/-- What TermReads hands on. -/
structure TermOk (w w' : World) (cs : List Cd) (acs : List Ac) (e : Ending) : Prop where
  v : ∃ vc va, e = .returned (.tuple #[.agg #[vc, va], .nilIface]) ∧ CdAt w' vc cs ∧ AcAt w' va acs
  b : Below w.heap.size w w'
set_option maxHeartbeats 2000000 in
theorem term_if (s : List UInt8) (hs : s.length < 140737488351233) (WC WA : List (List (List UInt8))) (cs : List Cd) (acs : List Ac) (hC : WC.length = cs.length) (hA : WA.length = acs.length) (h1 : 1 ≤ cs.length) (hok : okT ⟨cs, acs⟩ = true) (hsm : SmT ⟨cs, acs⟩) (w : World) (he : EnvX w)
    (hw : spl s = ifW :: flatW WC (thenW :: flatW WA [])) (HRc : ∀ W0 pl ps, RdsC W0 pl ps WC cs) (HRa : ∀ W0 pl ps, RdsA W0 pl ps WA acs) :
    Calls Tryz.prog 23 #[.string ⟨s.toArray⟩] w fun e w' => TermOk w w' cs acs e := by
  have hmf : ∀ (fn : Fn) (first cap : Array Value) (w : World), (Instr.makeFunc fn first cap).run Tryz.prog w = .ok (.func fn first cap) w := fun _ _ _ _ => rfl
  obtain ⟨W1, hW1⟩ : ∃ W1, (w.alloc (.cells #[.slice none 0 0, .slice none 0 0] 63)).alloc (.cells #[.nilIface] 70) = W1 := ⟨_, rfl⟩
  have hsz : (w.alloc (.cells #[.slice none 0 0, .slice none 0 0] 63)).heap.size = w.heap.size + 1 := by simp
  have hs1 : W1.heap.size = w.heap.size + 2 := by rw [← hW1]; simp
  have bb1 : Below w.heap.size w W1 := by rw [← hW1]; exact ((Below.refl _ _).alloc (Nat.le_refl _) _).alloc (by rw [hsz]; omega) _
  have d1 : C2 W1 w.heap.size (.slice none 0 0) (.slice none 0 0) := by rw [← hW1]; exact (C2.new w 63 _ _).below ((Below.refl _ _).alloc (Nat.le_refl _) _)
  have n1 : W1.cell? ⟨w.heap.size + 1, 0, none⟩ = some .nilIface := by rw [← hW1, ← hsz, World.cell?_alloc_new]; rfl
  have f1 : W1.frozen? ⟨w.heap.size + 1, 0, none⟩ = false := by rw [← hW1, ← hsz]; exact World.frozen?_alloc_new _ _ _ _
  have HS1 : Hid (W1.heap.size = w.heap.size + 2) := hs1
  have HB1 : Hid (Below w.heap.size w W1) := bb1
  have HD1 : Hid (C2 W1 w.heap.size _ _) := d1
  have HN1 : Hid (_ = _) := n1
  have HF1 : Hid (_ = false) := f1
  have HW : Hid (∀ X, Calls Tryz.prog 50 #[.string ⟨s.toArray⟩] X fun e w' => e = .returned (clo (X.heap.size + 1) X.heap.size) ∧ Rd w' (X.heap.size + 1) X.heap.size (ifW :: flatW WC (thenW :: flatW WA [])) ∧ Below X.heap.size X w') := fun X => by have := words_any s hs X; rw [hw] at this; exact this
  have HT : Hid (∀ X, Below W1.heap.size W1 X → Rd X (W1.heap.size + 1) W1.heap.size (ifW :: flatW WC (thenW :: flatW WA [])) → Calls Tryz.prog 49 #[clo (W1.heap.size + 1) W1.heap.size] X fun e w' => (∃ vc va, e = .returned (.agg #[vc, va]) ∧ OwnCd w' X.heap.size vc cs ∧ OwnAc w' X.heap.size va acs) ∧ Left X w' (W1.heap.size + 1) W1.heap.size []) := fun X hX hR => readTerm_if WC WA cs acs hC hA h1 hok hsm _ _ W1 X ⟨he.below bb1, hX, by omega, Nat.le_refl _⟩ hR (HRc _ _ _) (HRa _ _ _)
  clear hs hC hA h1 hok hsm he hw HRc HRa hsz hs1 bb1 d1 n1 f1
  go_enter_defers Tryz.func23, Tryz.ntmps23
  go_wp2_with fail
  refine Calls.mono (HW.out W1) ?_
  rintro e W2 ⟨rfl, hr2, hb2⟩
  have HR2 : Hid (_ : Prop) := hr2
  have HB2 : Hid (Below W1.heap.size W1 W2) := hb2
  have HD2 : Hid (C2 W2 w.heap.size _ _) := HD1.out.below hb2
  have HN2 : Hid (W2.cell? ⟨w.heap.size + 1, 0, none⟩ = some .nilIface) := below_cell hb2 HN1.out
  have HF2 : Hid (W2.frozen? ⟨w.heap.size + 1, 0, none⟩ = false) := by unfold Hid; have := HF1.out; unfold World.frozen? at this ⊢; rw [hb2.block _ (lt_of_cell HN1.out)]; exact this
  clear hr2 hb2 HD1 HN1 HF1
  go_wp2_with fail
  refine Calls.mono (HT.out _ HB2.out HR2.out) ?_
  rintro e W3 ⟨⟨vc, va, rfl, hc3, ha3⟩, hl3⟩
  have p1 : w.heap.size ≠ W1.heap.size + 1 ∧ w.heap.size ≠ W1.heap.size ∧ w.heap.size + 1 ≠ W1.heap.size + 1 ∧ w.heap.size + 1 ≠ W1.heap.size := by have := HS1.out; exact ⟨by omega, by omega, by omega, by omega⟩
  have d3 := HD2.out.bs2 hl3.bs p1.1 p1.2.1
  have n3 := hl3.bs.cell HN2.out p1.2.2.1 p1.2.2.2
  have f3 := hl3.bs.frozen (lt_of_cell HN2.out) HF2.out p1.2.2.1 p1.2.2.2
  have hge : w.heap.size + 2 ≤ W2.heap.size := by have := HS1.out; have := HB2.out.size; omega
  obtain ⟨a3, k3, e3, hk3⟩ := own_len hc3
  subst e3
  obtain ⟨a4, k4, e4, hk4⟩ := own_len ha3
  subst e4
  have HBf : Hid (Below w.heap.size w (((W3.setCell ⟨w.heap.size, 0, none⟩ (.slice a3 cs.length k3)).setCell ⟨w.heap.size, 1, none⟩ (.slice a4 acs.length k4)).setCell ⟨w.heap.size + 1, 0, none⟩ .nilIface)) := by
    have b0 : Bs2 (W1.heap.size + 1) W1.heap.size w W3 := (Bs2.of_below HB1.out).trans ((Bs2.of_below HB2.out).trans hl3.bs)
    exact (((b0.set (b := w.heap.size) (i := 0) (v := .slice a3 cs.length k3) (Nat.le_refl _)).set (b := w.heap.size) (i := 1) (v := .slice a4 acs.length k4) (Nat.le_refl _)).set (b := w.heap.size + 1) (i := 0) (v := .nilIface) (by omega)).below (by have := HS1.out; omega) (by have := HS1.out; omega) (Nat.le_refl _)
  have HCf : Hid (CdAt (((W3.setCell ⟨w.heap.size, 0, none⟩ (.slice a3 cs.length k3)).setCell ⟨w.heap.size, 1, none⟩ (.slice a4 acs.length k4)).setCell ⟨w.heap.size + 1, 0, none⟩ .nilIface) (.slice a3 cs.length k3) cs) := (((hc3.set (by omega)).set (by omega)).set (by omega)).at
  have HAf : Hid (AcAt (((W3.setCell ⟨w.heap.size, 0, none⟩ (.slice a3 cs.length k3)).setCell ⟨w.heap.size, 1, none⟩ (.slice a4 acs.length k4)).setCell ⟨w.heap.size + 1, 0, none⟩ .nilIface) (.slice a4 acs.length k4) acs) := (((ha3.set (by omega)).set (by omega)).set (by omega)).at
  have HDf : Hid (C2 (((W3.setCell ⟨w.heap.size, 0, none⟩ (.slice a3 cs.length k3)).setCell ⟨w.heap.size, 1, none⟩ (.slice a4 acs.length k4)).setCell ⟨w.heap.size + 1, 0, none⟩ .nilIface) w.heap.size (.slice a3 cs.length k3) (.slice a4 acs.length k4)) := d3.set0.set1.other (by omega)
  have HNf : Hid ((((W3.setCell ⟨w.heap.size, 0, none⟩ (.slice a3 cs.length k3)).setCell ⟨w.heap.size, 1, none⟩ (.slice a4 acs.length k4)).setCell ⟨w.heap.size + 1, 0, none⟩ .nilIface).cell? ⟨w.heap.size + 1, 0, none⟩ = some .nilIface) := World.cell?_setCell_same _ _ _ (u := .nilIface) (by rw [World.cell?_setCell_other _ _ _ _ (by intro e; injection e with e; omega), World.cell?_setCell_other _ _ _ _ (by intro e; injection e with e; omega)]; exact n3)
  have x0 := d3.c0
  have x1 := d3.c1
  have g0 := d3.f 0
  have g1 := d3.f 1
  clear d3 p1 hge hl3 hc3 ha3 HB1 HB2 HD2 HN2 HF2 HT HW HR2
  go_wp2_with fail
  generalize ((W3.setCell ⟨w.heap.size, 0, none⟩ (.slice a3 cs.length k3)).setCell ⟨w.heap.size, 1, none⟩ (.slice a4 acs.length k4)).setCell ⟨w.heap.size + 1, 0, none⟩ .nilIface = WF at *
  refine leaves_cons (f := 48) (args := #[.pointer (some ⟨w.heap.size + 1, 0, none⟩)]) (by simp) (by simp [go_sem]) ?_
  refine (catch_idle ⟨w.heap.size + 1, 0, none⟩ _).mono ?_
  rintro e u' w'' ⟨rfl, rfl, rfl⟩
  have e0 := HDf.out.c0
  have e1 := HDf.out.c1
  have e2 := HNf.out
  have HOK : Hid (TermOk w w'' cs acs (.returned (.tuple #[.agg #[.slice a3 cs.length k3, .slice a4 acs.length k4], .nilIface]))) := ⟨⟨_, _, rfl, HCf.out, HAf.out⟩, HBf.out⟩
  simp [Leaves, settle, results, Tryz.results23, go_sem, e0, e1, e2]
  exact HOK.out
/-- The example's term. -/
def smT : Tm := ⟨[⟨1, false, ⟨#[97]⟩, 0⟩, ⟨5, true, ⟨#[]⟩, 0⟩], [⟨3, ⟨#[]⟩, 200, ⟨#[]⟩⟩, ⟨1, ⟨#[]⟩, 0, ⟨#[]⟩⟩]⟩
def smS : List UInt8 := [105, 102, 32, 112, 114, 101, 102, 105, 120, 32, 97, 32, 97, 110, 100, 32, 110, 111, 116, 32, 111, 114, 105, 103, 105, 110, 32, 105, 103, 112, 32, 116, 104, 101, 110, 32, 112, 114, 101, 102, 32, 50, 48, 48, 32, 97, 110, 100, 32, 97, 99, 99, 101, 112, 116]
theorem sm_ok : okT smT = true := by decide +kernel
theorem sm_sm : SmT smT := by
  refine ⟨?_, ?_, by decide, by decide⟩
  · intro c hc
    simp [smT] at hc
    rcases hc with rfl | rfl <;> decide
  · intro c hc
    simp [smT] at hc
    rcases hc with rfl | rfl <;> exact ⟨by decide, by decide⟩
theorem sm_txt : tT smT = smS := by decide +kernel
theorem sm_wds : spl smS = ifW :: flatW [[[112, 114, 101, 102, 105, 120], [97]], [[110, 111, 116], [111, 114, 105, 103, 105, 110], [105, 103, 112]]] (thenW :: flatW [[[112, 114, 101, 102], [50, 48, 48]], [[97, 99, 99, 101, 112, 116]]] []) := by decide +kernel
theorem sm_rc (W0 : World) (pl ps : Nat) : RdsC W0 pl ps [[[112, 114, 101, 102, 105, 120], [97]], [[110, 111, 116], [111, 114, 105, 103, 105, 110], [105, 103, 112]]] smT.cs := by
  intro k h h' X r hX hR
  have hk : k = 0 ∨ k = 1 := by simp at h'; omega
  rcases hk with rfl | rfl
  · exact readC1 [97] pl ps r W0 X hX hR
  · exact readC5n [105, 103, 112] 0 (by decide) (by decide) (by decide +kernel) pl ps r W0 X hX hR
theorem sm_ra (W0 : World) (pl ps : Nat) : RdsA W0 pl ps [[[112, 114, 101, 102], [50, 48, 48]], [[97, 99, 99, 101, 112, 116]]] smT.acs := by
  intro k h h' X r hX hR
  have hk : k = 0 ∨ k = 1 := by simp at h'; omega
  rcases hk with rfl | rfl
  · exact readA3 [50, 48, 48] 200 (by decide) (by decide +kernel) pl ps r W0 X hX hR
  · exact readA1 pl ps r W0 X hX hR
theorem term_small (w : World) (he : EnvX w) : Calls Tryz.prog 23 #[.string ⟨smS.toArray⟩] w fun e w' => TermOk w w' smT.cs smT.acs e :=
  term_if smS (by decide) _ _ smT.cs smT.acs rfl rfl (by decide) sm_ok sm_sm w he sm_wds sm_rc sm_ra
theorem text_small (v : Value) (w : World) (he : EnvX w) (hv : TmAt w v smT) : Calls Tryz.prog 20 #[v] w fun e w' => e = .returned (.tuple #[.string ⟨smS.toArray⟩, .int .i64 0]) ∧ Below w.heap.size w w' := by
  have h := termText_any v smT w he hv sm_sm (by intro a ha; simp [smT] at ha; rcases ha with rfl | rfl <;> decide)
  rw [show ttS smT = smS by unfold ttS; rw [sm_ok]; exact sm_txt, show ttE smT = 0 by unfold ttE; rw [sm_ok]; rfl] at h
  exact h
set_option maxHeartbeats 2000000 in
/-- works: the example, there and back. -/
theorem works_any (w : World) (he : EnvX w) : Calls Tryz.prog 18 #[] w fun e w' => e = .returned (.bool true) ∧ Below w.heap.size w w' := by
  have HT : Hid (Calls Tryz.prog 23 #[.string ⟨#[105, 102, 32, 112, 114, 101, 102, 105, 120, 32, 97, 32, 97, 110, 100, 32, 110, 111, 116, 32, 111, 114, 105, 103, 105, 110, 32, 105, 103, 112, 32, 116, 104, 101, 110, 32, 112, 114, 101, 102, 32, 50, 48, 48, 32, 97, 110, 100, 32, 97, 99, 99, 101, 112, 116]⟩] w fun e w' => TermOk w w' smT.cs smT.acs e) := term_small w he
  have HE : Hid (EnvX w) := he
  clear he
  go_enter Tryz.func18, Tryz.ntmps18
  go_wp2_with fail
  refine Calls.mono HT.out ?_
  rintro e w1 ⟨⟨vc, va, rfl, hc, ha⟩, hb⟩
  obtain ⟨adc, bc, oc, cc, rfl, hadc, hcc, hrc⟩ := hc
  obtain ⟨ada, ba, oa, ca, rfl, hada, hca, hra⟩ := ha
  have hadc' : adc = some ⟨bc, oc, none⟩ := by
    rcases hadc with h | h
    · exact h
    · exact absurd h (by decide)
  have hada' : ada = some ⟨ba, oa, none⟩ := by
    rcases hada with h | h
    · exact h
    · exact absurd h (by decide)
  subst hadc' hada'
  have r0 : w1.cell? ⟨bc, oc + 4, none⟩ = some (.int .i64 5) ∧ w1.cell? ⟨bc, oc + 4 + 1, none⟩ = some (.bool true) ∧ w1.cell? ⟨bc, oc + 4 + 2, none⟩ = some (.string ⟨#[]⟩) ∧ w1.cell? ⟨bc, oc + 4 + 3, none⟩ = some (.int .i64 0) := hrc 1 (by decide)
  have r1 : w1.cell? ⟨ba, oa, none⟩ = some (.int .i64 3) ∧ w1.cell? ⟨ba, oa + 1, none⟩ = some (.string ⟨#[]⟩) ∧ w1.cell? ⟨ba, oa + 2, none⟩ = some (.int .u32 200) ∧ w1.cell? ⟨ba, oa + 3, none⟩ = some (.string ⟨#[]⟩) := by have := hra 0 (by decide); rw [Nat.zero_mul, Nat.add_zero] at this; exact this
  have hb2 : Below w1.heap.size w1 (w1.alloc (.cells #[.slice (some ⟨bc, oc, none⟩) 2 cc, .slice (some ⟨ba, oa, none⟩) 2 ca] 63)) := (Below.refl _ _).alloc (Nat.le_refl _) _
  have HTx : Hid (Calls Tryz.prog 20 #[.agg #[.slice (some ⟨bc, oc, none⟩) 2 cc, .slice (some ⟨ba, oa, none⟩) 2 ca]] (w1.alloc (.cells #[.slice (some ⟨bc, oc, none⟩) 2 cc, .slice (some ⟨ba, oa, none⟩) 2 ca] 63)) fun e w' => e = .returned (.tuple #[.string ⟨#[105, 102, 32, 112, 114, 101, 102, 105, 120, 32, 97, 32, 97, 110, 100, 32, 110, 111, 116, 32, 111, 114, 105, 103, 105, 110, 32, 105, 103, 112, 32, 116, 104, 101, 110, 32, 112, 114, 101, 102, 32, 50, 48, 48, 32, 97, 110, 100, 32, 97, 99, 99, 101, 112, 116]⟩, .int .i64 0]) ∧ Below (w1.alloc (.cells #[.slice (some ⟨bc, oc, none⟩) 2 cc, .slice (some ⟨ba, oa, none⟩) 2 ca] 63)).heap.size (w1.alloc (.cells #[.slice (some ⟨bc, oc, none⟩) 2 cc, .slice (some ⟨ba, oa, none⟩) 2 ca] 63)) w') :=
    text_small _ _ ((HE.out.below hb).below hb2) ⟨_, _, rfl, (show CdAt w1 (.slice (some ⟨bc, oc, none⟩) 2 cc) smT.cs from ⟨_, bc, oc, cc, rfl, Or.inl rfl, hcc, hrc⟩).below hb2, (show AcAt w1 (.slice (some ⟨ba, oa, none⟩) 2 ca) smT.acs from ⟨_, ba, oa, ca, rfl, Or.inl rfl, hca, hra⟩).below hb2⟩
  have HQ : Hid (∀ X, Below (w1.alloc (.cells #[.slice (some ⟨bc, oc, none⟩) 2 cc, .slice (some ⟨ba, oa, none⟩) 2 ca] 63)).heap.size (w1.alloc (.cells #[.slice (some ⟨bc, oc, none⟩) 2 cc, .slice (some ⟨ba, oa, none⟩) 2 ca] 63)) X → X.cell? ⟨w1.heap.size, 0, none⟩ = some (.slice (some ⟨bc, oc, none⟩) 2 cc) ∧ X.cell? ⟨w1.heap.size, 1, none⟩ = some (.slice (some ⟨ba, oa, none⟩) 2 ca)) := fun X hX => ⟨below_cell hX (by rw [World.cell?_alloc_new]; rfl), below_cell hX (by rw [World.cell?_alloc_new]; rfl)⟩
  have HB2 : Hid (Below w1.heap.size w1 _) := hb2
  have HB1 : Hid (Below w.heap.size w w1) := hb
  have H0 : Hid (_ ∧ _) := r0
  have H1 : Hid (_ ∧ _) := r1
  have hcc' : 2 ≤ cc := hcc
  have hca' : 2 ≤ ca := hca
  clear hrc hra hadc hada hcc hca r0 r1 hb hb2 HT HE
  rw [show smT.cs.length = 2 from rfl, show smT.acs.length = 2 from rfl]
  go_wp2_with fail
  refine Calls.mono HTx.out ?_
  rintro e w3 ⟨rfl, hb3⟩
  obtain ⟨t0, t1⟩ := HQ.out w3 hb3
  have hb4 := HB2.out.trans (hb3.mono HB2.out.size)
  have c0 := below_cell hb4 H0.out.1
  have c1 := below_cell hb4 H0.out.2.1
  have c2 := below_cell hb4 H0.out.2.2.1
  have c3 := below_cell hb4 H0.out.2.2.2
  have d0 := below_cell hb4 H1.out.1
  have d1 := below_cell hb4 H1.out.2.1
  have d2 := below_cell hb4 H1.out.2.2.1
  have d3 := below_cell hb4 H1.out.2.2.2
  have HB4 : Hid (Below w.heap.size w w3) := HB1.out.trans (hb4.mono HB1.out.size)
  clear hb4 hb3 HTx HQ HB2 HB1 H0 H1
  go_wp2
  go_ret
  exact ⟨rfl, HB4.out⟩
end Go.Proofs.YthaebbmekonacaaGreatDoor
set_option linter.unusedVariables false
set_option linter.unusedSimpArgs false
set_option maxRecDepth 100000
namespace Go.Proofs.YthaebbmekonacaaGreatDoor
open Go.RowKit
/-- What reading is given up with. -/
def PAN : List PanicEntry := [{ v := .iface 99 (.agg #[.int .i64 9]), recovered := false }]
theorem need_no (w : World) : Calls Tryz.prog 89 #[.bool false] w fun e w' => e = .panicked PAN ∧ w' = w := by
  unfold PAN
  go_enter Tryz.func89, Tryz.ntmps89
  go_wp2
  exact ⟨rfl, rfl, rfl⟩
/-- What is left where reading is given up. -/
structure Pan (w w' : World) (pl ps : Nat) (e : Ending) : Prop where
  e : e = .panicked PAN
  bs : Bs2 pl ps w w'
end Go.Proofs.YthaebbmekonacaaGreatDoor
set_option linter.unusedVariables false
set_option linter.unusedSimpArgs false
set_option maxRecDepth 100000
namespace Go.Proofs.YthaebbmekonacaaGreatDoor
open Go.RowKit
/-- The deferred function, where reading was given up. -/
theorem catch_pan (p : Addr) (w : World) (x : Value) (hc : w.cell? p = some x) (hz : w.frozen? p = false) :
    CallsD Tryz.prog 48 #[.pointer (some p)] (.panicking PAN) w fun e u' w' =>
      e = .returned (.tuple #[]) ∧ u' = .panicking [{ v := .iface 99 (.agg #[.int .i64 9]), recovered := true }] ∧ w' = (w.alloc (.cells #[.int .i64 9, .int .i64 0] 101)).setCell p (.iface 97 (.pointer (some ⟨w.heap.size, 0, none⟩))) := by
  unfold PAN
  have hlt := (show p.block < w.heap.size from by
    have := hc
    unfold World.cell? at this
    exact Decidable.byContradiction fun h => by rw [Array.getElem?_eq_none (by omega)] at this; simp at this)
  have hta : ∀ W, (Instr.typeAssert (.iface 99 (.agg #[.int .i64 9])) 20 99 false).run Tryz.prog W = .ok (.agg #[.int .i64 9]) W := fun W => by kernel_rfl
  have hfd : ∀ W, (Instr.field 99 (.agg #[.int .i64 9]) 0).run Tryz.prog W = .ok (.int .i64 9) W := fun W => by kernel_rfl
  have hc2 : (w.alloc (.cells #[.int .i64 9, .int .i64 0] 101)).cell? p = some x := by rw [World.cell?_alloc_old _ _ _ (Nat.ne_of_lt hlt)]; exact hc
  have hz2 : (w.alloc (.cells #[.int .i64 9, .int .i64 0] 101)).frozen? p = false := by rw [World.frozen?_alloc_old _ _ _ (Nat.ne_of_lt hlt)]; exact hz
  refine callsD_of_wpS Tryz.func48 rfl fun c₀ cs hu => ?_
  apply wpS_seq
  apply wpS_region
  simp [wpOpsS, go_sem, recoverD, hu, Tryz.ntmps48, Exit.thenS]
  apply wpS_seq
  apply wpS_region
  simp [wpOpsS, go_sem, recoverD, hu, Tryz.ntmps48, Exit.thenS]
  refine wpS_cond (t := true) (by simp [Act.eval, Array.replicate]) ?_
  simp only [if_true]
  apply wpS_region
  simp [wpOpsS, go_sem, recoverD, hta, hfd, hc2, hz2, bodyPostS, results, Tryz.results48]
end Go.Proofs.YthaebbmekonacaaGreatDoor
