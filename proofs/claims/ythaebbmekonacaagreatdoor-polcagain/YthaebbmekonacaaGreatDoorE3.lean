/-
  Terms that may be.
-/
import Derived.Test.YthaebbmekonacaaGreatDoorE2
set_option linter.unusedVariables false
set_option linter.unusedSimpArgs false
set_option maxRecDepth 100000
namespace Go.Proofs.YthaebbmekonacaaGreatDoor
open Go.RowKit
def goB (a : Ac) : Bool := !(a.k == 1) && !(a.k == 2)
theorem goesOn_any (a : Ac) (w : World) : Calls Tryz.prog 73 #[acV a] w fun e w' => e = .returned (.bool (goB a)) ∧ Below w.heap.size w w' := by
  obtain ⟨k, nm, n, ad⟩ := a
  have HREF : Hid (goB ⟨k, nm, n, ad⟩ = (!(k == 1) && !(k == 2))) := rfl
  have HB : Hid (Below _ _ _) := below_box w (.cells #[.int .i64 k, .string nm, .int .u32 (n : Int), .string ad] 40)
  generalize goB ⟨k, nm, n, ad⟩ = r at *
  unfold acV
  dsimp only
  by_cases h1 : k = 1
  · subst h1
    go_enter Tryz.func73, Tryz.ntmps73
    go_wp2
    go_ret
    exact ⟨ret_bool (by rw [HREF.out]; rfl), HB.out⟩
  · have g1 : (k == 1) = false := beq_eq_false_iff_ne.2 h1
    have g1' : (k != 1) = true := by simp [h1]
    rw [g1] at HREF
    by_cases h2 : k = 2
    · subst h2
      clear h1 g1 g1'
      go_enter Tryz.func73, Tryz.ntmps73
      go_wp2
      go_ret
      exact ⟨ret_bool (by rw [HREF.out]; rfl), HB.out⟩
    · have g2 : (k == 2) = false := beq_eq_false_iff_ne.2 h2
      have g2' : (k != 2) = true := by simp [h2]
      rw [g2] at HREF
      clear h1 h2
      go_enter Tryz.func73, Tryz.ntmps73
      go_wp2
      go_ret
      exact ⟨ret_bool (by rw [HREF.out]; rfl), HB.out⟩
/-- May a term be? -/
def okT (T : Tm) : Bool := decide (T.cs.length ≤ 64 ∧ 1 ≤ T.acs.length ∧ T.acs.length ≤ 64) && (T.cs.all okC && (T.acs.all okA' && T.acs.dropLast.all goB))
/-- What comes in is no longer than any machine's memory. -/
structure SmT (T : Tm) : Prop where
  c : ∀ c ∈ T.cs, c.nm.size ≤ maxLen
  a : ∀ a ∈ T.acs, a.nm.size ≤ maxLen ∧ a.ad.size ≤ maxLen
  lc : T.cs.length ≤ 1152921504606846976
  la : T.acs.length ≤ 1152921504606846976
theorem AcAt.less {w : World} {ad : Option Addr} {cap m : Nat} {L : List Ac} (h : AcAt w (.slice ad L.length cap) L) (hm : L.length = m + 1) : AcAt w (.slice ad m cap) L.dropLast := by
  obtain ⟨ad', b, off, cap', e, h1, h2, h3⟩ := h
  injection e with e1 e2 e3
  subst e1; subst e3
  have hl : L.dropLast.length = m := by rw [List.length_dropLast]; omega
  refine ⟨ad, b, off, cap, by rw [hl], Or.inl (by rcases h1 with h | h; exact h; omega), by omega, fun j hj => ?_⟩
  have hj' : j < L.length := by omega
  have := h3 j hj'
  rw [List.getElem_dropLast]
  exact this
set_option maxHeartbeats 2000000 in
theorem mayTerm_any (v : Value) (T : Tm) (w : World) (he : EnvT w) (hv : TmAt w v T) (hs : SmT T) : Calls Tryz.prog 40 #[v] w fun e w' => e = .returned (.bool (okT T)) ∧ Below w.heap.size w w' := by
  obtain ⟨vc, va, rfl, hc, ha⟩ := hv
  obtain ⟨cs, acs⟩ := T
  dsimp only at hc ha
  obtain ⟨adc, capc, rfl⟩ := hc.len
  obtain ⟨ada, capa, rfl⟩ := ha.len
  have HREF : Hid (okT ⟨cs, acs⟩ = (decide (cs.length ≤ 64 ∧ 1 ≤ acs.length ∧ acs.length ≤ 64) && (cs.all okC && (acs.all okA' && acs.dropLast.all goB)))) := rfl
  have HB : Hid (Below _ _ _) := below_box w (.cells #[.slice adc cs.length capc, .slice ada acs.length capa] 63)
  generalize okT ⟨cs, acs⟩ = r at *
  have l1 := hs.lc
  have l2 := hs.la
  dsimp only at l1 l2
  by_cases h : cs.length ≤ 64 ∧ 1 ≤ acs.length ∧ acs.length ≤ 64
  · rw [decide_eq_true h, Bool.true_and] at HREF
    have HA : Hid (∀ X, Below w.heap.size w X → Calls Tryz.prog 69 #[.slice adc cs.length capc, .func (.func 70) #[] #[]] X fun e w' => e = .returned (.bool (cs.all okC)) ∧ Below X.heap.size X w') := fun X hX => allCd _ cs okC X (hc.below hX) (by omega) fun k hk y Y hY hy => by subst hy; exact mayCond_any _ Y (he.t.below (hX.trans (hY.mono hX.size))) (hs.c _ (List.getElem_mem hk))
    have HC : Hid (∀ X, Below w.heap.size w X → Calls Tryz.prog 71 #[.slice ada acs.length capa, .func (.func 72) #[] #[]] X fun e w' => e = .returned (.bool (acs.all okA')) ∧ Below X.heap.size X w') := fun X hX => allAc _ acs okA' X (ha.below hX) (by omega) fun k hk y Y hY hy => by subst hy; exact mayAction_any _ Y (he.below (hX.trans (hY.mono hX.size))) (hs.a _ (List.getElem_mem hk)).1 (hs.a _ (List.getElem_mem hk)).2
    obtain ⟨m, hm⟩ : ∃ m, acs.length = m + 1 := ⟨acs.length - 1, by omega⟩
    have HG : Hid (∀ X, Below w.heap.size w X → Calls Tryz.prog 71 #[.slice ada m capa, .func (.func 73) #[] #[]] X fun e w' => e = .returned (.bool (acs.dropLast.all goB)) ∧ Below X.heap.size X w') := fun X hX => allGo _ acs.dropLast goB X ((ha.less hm).below hX) (by rw [List.length_dropLast]; omega) fun k hk y Y hY hy => by subst hy; exact goesOn_any _ Y
    have hcap : m + 1 ≤ capa := by obtain ⟨_, _, _, _, e, _, h3, _⟩ := ha; injection e with _ _ e; omega
    rw [hm] at HC HB l2 h ⊢
    clear ha hc hs he hm
    generalize cs.all okC = z1 at *
    generalize acs.all okA' = z2 at *
    generalize acs.dropLast.all goB = z3 at *
    generalize cs.length = n at *
    have HX : Hid (∀ X, Below (w.alloc (.cells #[.slice adc n capc, .slice ada (m + 1) capa] 63)).heap.size (w.alloc (.cells #[.slice adc n capc, .slice ada (m + 1) capa] 63)) X → X.cell? ⟨w.heap.size, 1, none⟩ = some (.slice ada (m + 1) capa)) := fun X hX => below_cell hX (by rw [World.cell?_alloc_new]; rfl)
    have q1 : ¬ (64 : Int) < (n : Int) := by omega
    have q2 : (m : Int) < 64 := by omega
    have q3 : (0 : Int) ≤ (m : Int) := by omega
    have q4 : (m : Int) ≤ (capa : Int) := by omega
    cases z1
    · go_enter Tryz.func40, Tryz.ntmps40
      go_wp2_with (go_at_call 69; refine Calls.mono (HA.out _ HB.out) ?_; rintro e w2 ⟨rfl, hb2⟩)
      go_ret
      exact ⟨ret_bool HREF.out.symm, HB.out.trans (hb2.mono HB.out.size)⟩
    · cases z2
      · go_enter Tryz.func40, Tryz.ntmps40
        go_wp2_with (go_at_call 69; refine Calls.mono (HA.out _ HB.out) ?_; rintro e w2 ⟨rfl, hb2⟩; have c1 := HX.out w2 hb2; have HB2 : Hid (Below w.heap.size w w2) := HB.out.trans (hb2.mono HB.out.size))
        refine Calls.mono (HC.out _ HB2.out) ?_
        rintro e w3 ⟨rfl, hb3⟩
        go_wp2
        go_ret
        exact ⟨ret_bool HREF.out.symm, HB2.out.trans (hb3.mono HB2.out.size)⟩
      · go_enter Tryz.func40, Tryz.ntmps40
        go_wp2_with (go_at_call 69; refine Calls.mono (HA.out _ HB.out) ?_; rintro e w2 ⟨rfl, hb2⟩; have c1 := HX.out w2 hb2; have HB2 : Hid (Below w.heap.size w w2) := HB.out.trans (hb2.mono HB.out.size))
        refine Calls.mono (HC.out _ HB2.out) ?_
        rintro e w3 ⟨rfl, hb3⟩
        have c2 := below_cell hb3 c1
        have HB3 : Hid (Below w.heap.size w w3) := HB2.out.trans (hb3.mono HB2.out.size)
        clear c1 hb3
        go_wp2_with fail
        refine Calls.mono (HG.out _ HB3.out) ?_
        rintro e w4 ⟨rfl, hb4⟩
        go_wp2
        go_ret
        exact ⟨ret_bool HREF.out.symm, HB3.out.trans (hb4.mono HB3.out.size)⟩
  · rw [decide_eq_false h, Bool.false_and] at HREF
    clear hc ha he hs
    generalize cs.length = n at *
    generalize acs.length = m at *
    by_cases g1 : (64 : Int) < (n : Int)
    · go_enter Tryz.func40, Tryz.ntmps40
      go_wp2
      go_ret
      exact ⟨ret_bool HREF.out.symm, HB.out⟩
    · by_cases g2 : m = 0
      · subst g2
        go_enter Tryz.func40, Tryz.ntmps40
        go_wp2
        go_ret
        exact ⟨ret_bool HREF.out.symm, HB.out⟩
      · obtain ⟨k, rfl⟩ : ∃ k, m = k + 1 := ⟨m - 1, by omega⟩
        have g3 : (64 : Int) ≤ (k : Int) := by omega
        clear h g2
        go_enter Tryz.func40, Tryz.ntmps40
        go_wp2
        go_ret
        exact ⟨ret_bool HREF.out.symm, HB.out⟩
end Go.Proofs.YthaebbmekonacaaGreatDoor
