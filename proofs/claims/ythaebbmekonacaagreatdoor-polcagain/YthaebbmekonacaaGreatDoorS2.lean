/-
  Two terms, two policies: are they the same?
-/
import Derived.Test.YthaebbmekonacaaGreatDoorS1
import Derived.Deep.RegionHeld
import Derived.BigQuiet
set_option linter.unusedVariables false
set_option linter.unusedSimpArgs false
set_option maxRecDepth 100000
namespace Go.Proofs.YthaebbmekonacaaGreatDoor
open Go.RowKit
def eqT (a b : Tm) : Bool := eqL eqC a.cs b.cs && eqL eqA a.acs b.acs
theorem eqT_refl (a : Tm) : eqT a a = true := by unfold eqT; rw [eqL_refl eqC eqC_refl, eqL_refl eqA eqA_refl]; rfl
/-- Lists of a term are no longer than memory. -/
def LenT (T : Tm) : Prop := T.cs.length ≤ 1152921504606846976 ∧ T.acs.length ≤ 1152921504606846976
set_option maxHeartbeats 1000000 in
theorem sameTerm_any (u v : Value) (a b : Tm) (w : World) (hu : TmAt w u a) (hv : TmAt w v b) (la : LenT a) (lb : LenT b) : Calls Tryz.prog 57 #[u, v] w fun e w' => e = .returned (.bool (eqT a b)) ∧ Below w.heap.size w w' := by
  obtain ⟨uc, ua, rfl, huc, hua⟩ := hu
  obtain ⟨vc, va, rfl, hvc, hva⟩ := hv
  have HREF : Hid (eqT a b = (eqL eqC a.cs b.cs && eqL eqA a.acs b.acs)) := rfl
  have HC : Hid (∀ X, Below w.heap.size w X → Calls Tryz.prog 103 #[uc, vc] X fun e w' => e = .returned (.bool (eqL eqC a.cs b.cs)) ∧ Below X.heap.size X w') := fun X hX => equalCd uc vc a.cs b.cs X (huc.below hX) (hvc.below hX) la.1 lb.1
  have HA : Hid (∀ X, Below w.heap.size w X → Calls Tryz.prog 104 #[ua, va] X fun e w' => e = .returned (.bool (eqL eqA a.acs b.acs)) ∧ Below X.heap.size X w') := fun X hX => equalAc ua va a.acs b.acs X (hua.below hX) (hva.below hX) la.2 lb.2
  obtain ⟨x1, y1, rfl⟩ := huc.len
  obtain ⟨x2, y2, rfl⟩ := hua.len
  obtain ⟨x3, y3, rfl⟩ := hvc.len
  obtain ⟨x4, y4, rfl⟩ := hva.len
  clear huc hua hvc hva la lb
  generalize eqT a b = r at *
  generalize eqL eqC a.cs b.cs = z1 at *
  generalize eqL eqA a.acs b.acs = z2 at *
  generalize a.cs.length = n1 at *
  generalize a.acs.length = n2 at *
  generalize b.cs.length = n3 at *
  generalize b.acs.length = n4 at *
  have hsz : (w.alloc (.cells #[.slice x1 n1 y1, .slice x2 n2 y2] 63)).heap.size = w.heap.size + 1 := by simp
  obtain ⟨W, hW⟩ : ∃ W, (w.alloc (.cells #[.slice x1 n1 y1, .slice x2 n2 y2] 63)).alloc (.cells #[.slice x3 n3 y3, .slice x4 n4 y4] 63) = W := ⟨_, rfl⟩
  have HB : Hid (Below w.heap.size w W) := by unfold Hid; rw [← hW]; exact ((Below.refl _ _).alloc (Nat.le_refl _) _).alloc (by rw [hsz]; omega) _
  have p0 : W.cell? ⟨w.heap.size, 0, none⟩ = some (.slice x1 n1 y1) := by rw [← hW, World.cell?_alloc_old _ _ _ (by simp), World.cell?_alloc_new]; rfl
  have p1 : W.cell? ⟨w.heap.size, 1, none⟩ = some (.slice x2 n2 y2) := by rw [← hW, World.cell?_alloc_old _ _ _ (by simp), World.cell?_alloc_new]; rfl
  have q0 : W.cell? ⟨w.heap.size + 1, 0, none⟩ = some (.slice x3 n3 y3) := by rw [← hW, ← hsz, World.cell?_alloc_new]; rfl
  have q1 : W.cell? ⟨w.heap.size + 1, 1, none⟩ = some (.slice x4 n4 y4) := by rw [← hW, ← hsz, World.cell?_alloc_new]; rfl
  clear hsz
  cases z1
  · go_enter Tryz.func57, Tryz.ntmps57
    go_wp2_with (go_at_call 103; refine Calls.mono (HC.out _ HB.out) ?_; rintro e w2 ⟨rfl, hb2⟩)
    go_ret
    exact ⟨ret_bool HREF.out.symm, HB.out.trans (hb2.mono HB.out.size)⟩
  · go_enter Tryz.func57, Tryz.ntmps57
    go_wp2_with (go_at_call 103; refine Calls.mono (HC.out _ HB.out) ?_; rintro e w2 ⟨rfl, hb2⟩; have p1 := below_cell hb2 p1; have q1 := below_cell hb2 q1; have HB2 : Hid (Below w.heap.size w w2) := HB.out.trans (hb2.mono HB.out.size))
    refine Calls.mono (HA.out _ HB2.out) ?_
    rintro e w3 ⟨rfl, hb3⟩
    go_wp2
    go_ret
    exact ⟨ret_bool HREF.out.symm, HB2.out.trans (hb3.mono HB2.out.size)⟩
set_option maxHeartbeats 1600000 in
theorem equalTs (v u : Value) (L M : List Tm) (w : World) (hv : TsAt w v L) (hu : TsAt w u M) (hlen : L.length ≤ 1152921504606846976) (hlen2 : M.length ≤ 1152921504606846976) (hL : ∀ t ∈ L, LenT t) (hM : ∀ t ∈ M, LenT t) :
    Calls Tryz.prog 56 #[v, u, .func (.func 57) #[] #[]] w fun e w' => e = .returned (.bool (eqL eqT L M)) ∧ Below w.heap.size w w' := by
  obtain ⟨ad, b, off, cap, rfl, had, hcap, hrow⟩ := hv
  obtain ⟨ad2, b2, off2, cap2, rfl, had2, hcap2, hrow2⟩ := hu
  have HR : Hid (_ : Prop) := hrow
  have HS : Hid (_ : Prop) := hrow2
  have HLm : Hid (_ ∧ _) := And.intro hL hM
  clear hrow hrow2 hL hM
  by_cases hl : L.length = M.length
  · obtain ⟨n, hn⟩ : ∃ n, L.length = n := ⟨_, rfl⟩
    have hm : M.length = n := by omega
    have HZ : Hid (eqL eqT (L.drop n) (M.drop n) = true) := by unfold Hid; rw [← hn]; exact eqL_end eqT L M hl
    have HN : Hid (L.length = n ∧ M.length = n) := ⟨hn, hm⟩
    rw [hn] at had hcap hlen ⊢
    rw [hm] at had2 hcap2 hlen2 ⊢
    clear hn hm hl
    obtain ⟨z, hz⟩ : ∃ z, eqL eqT L M = z := ⟨_, rfl⟩
    rw [hz]
    have HE : Hid (_ = z) := hz
    clear hz
    go_enter Tryz.func56, Tryz.ntmps56
    go_wp2
    go_loopw [7, 8, 9, 17] (fun x7 x8 x9 i wr => ∃ (k : Nat), k ≤ n ∧ i = .int .i64 k ∧ Below w.heap.size w wr ∧ eqL eqT (L.drop k) (M.drop k) = z) (fun _ _ _ i _ => n - (intOf i).toNat)
    case atStart => exact ⟨0, Nat.zero_le _, rfl, Below.refl _ _, HE.out⟩
    case round =>
      obtain ⟨k, hk, rfl, hb, hre⟩ := hrel
      have HB : Hid (Below w.heap.size w wr) := hb
      have HQ : Hid (_ = z) := hre
      clear hb hre
      by_cases hlt : k < n
      · obtain rfl : ad = some ⟨b, off, none⟩ := by
          rcases had with h | h
          · exact h
          · omega
        obtain rfl : ad2 = some ⟨b2, off2, none⟩ := by
          rcases had2 with h | h
          · exact h
          · omega
        have k1 : k < L.length := by rw [HN.out.1]; exact hlt
        have k2 : k < M.length := by rw [HN.out.2]; exact hlt
        obtain ⟨vc, va, c0', c1', hvc, hva⟩ := HR.out k k1
        obtain ⟨uc, ua, d0', d1', huc, hua⟩ := HS.out k k2
        have c0 := below_cell HB.out c0'
        have c1 := below_cell HB.out c1'
        have d0 := below_cell HB.out d0'
        have d1 := below_cell HB.out d1'
        have HK : Hid (∀ X, Below w.heap.size w X → Calls Tryz.prog 57 #[.agg #[vc, va], .agg #[uc, ua]] X fun e w' => e = .returned (.bool (eqT L[k] M[k])) ∧ Below X.heap.size X w') := fun X hX => sameTerm_any _ _ L[k] M[k] X ⟨vc, va, rfl, hvc.below hX, hva.below hX⟩ ⟨uc, ua, rfl, huc.below hX, hua.below hX⟩ (HLm.out.1 _ (List.getElem_mem k1)) (HLm.out.2 _ (List.getElem_mem k2))
        rw [eqL_at eqT L M k k1 k2] at HQ
        obtain ⟨x1, y1, e1⟩ := hvc.len
        obtain ⟨x2, y2, e2⟩ := hva.len
        obtain ⟨x3, y3, e3⟩ := huc.len
        obtain ⟨x4, y4, e4⟩ := hua.len
        subst e1 e2 e3 e4
        clear hvc hva huc hua c0' c1' d0' d1'
        generalize eqT L[k] M[k] = q at *
        generalize L[k].cs.length = n1 at *
        generalize L[k].acs.length = n2 at *
        generalize M[k].cs.length = n3 at *
        generalize M[k].acs.length = n4 at *
        have HY : Hid (∃ y, eqL eqT (L.drop (k + 1)) (M.drop (k + 1)) = y) := ⟨_, rfl⟩
        obtain ⟨y, hy⟩ := HY.out
        rw [hy] at HQ
        have HY2 : Hid (_ = y) := hy
        clear hy HY k1 k2
        have i1 : (k : Int) < (n : Int) := by omega
        have HA2 : Hid (∀ A B, Below w.heap.size w ((wr.alloc (.cells A 63)).alloc (.cells B 63))) := fun A B => HB.out.trans (((Below.refl _ _).alloc (Nat.le_refl _) _).alloc (by simp) _ |>.mono HB.out.size)
        have hx0 : (wr.alloc (.cells #[.slice x1 n1 y1, .slice x2 n2 y2] 63)).cell? ⟨b2, off2 + k * 2, none⟩ = some (.slice x3 n3 y3) := below_cell ((Below.refl _ _).alloc (Nat.le_refl _) _) d0
        have hx1 : (wr.alloc (.cells #[.slice x1 n1 y1, .slice x2 n2 y2] 63)).cell? ⟨b2, off2 + k * 2 + 1, none⟩ = some (.slice x4 n4 y4) := below_cell ((Below.refl _ _).alloc (Nat.le_refl _) _) d1
        cases q
        · go_wp2_with (go_at_call 57; refine Calls.mono (HK.out _ (HA2.out _ _)) ?_; rintro e w2 ⟨rfl, hb2⟩)
          go_ret
          exact ⟨ret_bool HQ.out, (HA2.out _ _).trans (hb2.mono (HA2.out _ _).size)⟩
        · go_wp2_with (go_at_call 57; refine Calls.mono (HK.out _ (HA2.out _ _)) ?_; rintro e w2 ⟨rfl, hb2⟩)
          go_roundw
          case rel => exact ⟨k + 1, by omega, by go_num, (HA2.out _ _).trans (hb2.mono (HA2.out _ _).size), HY2.out.trans HQ.out⟩
          case measure => simp [intOf]; omega
      · obtain rfl : k = n := by omega
        go_wp2
        go_ret
        exact ⟨ret_bool (by rw [← HQ.out]; exact HZ.out.symm), HB.out⟩
  · have H : Hid (eqL eqT L M = false) := eqL_len eqT L M hl
    generalize eqL eqT L M = z at *
    clear HR HS HLm
    generalize L.length = n at *
    generalize M.length = m at *
    go_enter Tryz.func56, Tryz.ntmps56
    go_wp2
    go_ret
    exact ⟨ret_bool H.out.symm, Below.refl _ _⟩
/-- A policy. -/
structure Po where
  nm : ByteArray
  ts : List Tm
  els : Bool
def eqP (a b : Po) : Bool := (a.nm.toList == b.nm.toList) && ((a.els == b.els) && eqL eqT a.ts b.ts)
theorem eqP_refl (a : Po) : eqP a a = true := by unfold eqP; rw [eqL_refl eqT eqT_refl]; simp
def PoAt (w : World) (v : Value) (p : Po) : Prop := ∃ vt, v = .agg #[.string p.nm, vt, .bool p.els] ∧ TsAt w vt p.ts
theorem PoAt.below {w w' : World} {v : Value} {p : Po} (h : PoAt w v p) (hb : Below w.heap.size w w') : PoAt w' v p := by
  obtain ⟨vt, e, h⟩ := h
  exact ⟨vt, e, h.below hb⟩
def LenP (p : Po) : Prop := p.ts.length ≤ 1152921504606846976 ∧ ∀ t ∈ p.ts, LenT t
set_option maxHeartbeats 1600000 in
theorem same_any (u v : Value) (a b : Po) (w : World) (hu : PoAt w u a) (hv : PoAt w v b) (la : LenP a) (lb : LenP b) : Calls Tryz.prog 26 #[u, v] w fun e w' => e = .returned (.bool (eqP a b)) ∧ Below w.heap.size w w' := by
  obtain ⟨ut, rfl, hut⟩ := hu
  obtain ⟨vt, rfl, hvt⟩ := hv
  have HREF : Hid (eqP a b = ((a.nm.toList == b.nm.toList) && ((a.els == b.els) && eqL eqT a.ts b.ts))) := rfl
  have HC : Hid (∀ X, Below w.heap.size w X → Calls Tryz.prog 56 #[ut, vt, .func (.func 57) #[] #[]] X fun e w' => e = .returned (.bool (eqL eqT a.ts b.ts)) ∧ Below X.heap.size X w') := fun X hX => equalTs ut vt a.ts b.ts X (hut.below hX) (hvt.below hX) la.1 lb.1 la.2 lb.2
  obtain ⟨x1, y1, rfl⟩ := hut.len
  obtain ⟨x2, y2, rfl⟩ := hvt.len
  clear hut hvt la lb
  generalize eqP a b = r at *
  generalize eqL eqT a.ts b.ts = z at *
  generalize a.ts.length = n1 at *
  generalize b.ts.length = n2 at *
  generalize a.nm = s1 at *
  generalize b.nm = s2 at *
  generalize a.els = e1 at *
  generalize b.els = e2 at *
  have hsz : (w.alloc (.cells #[.string s1, .slice x1 n1 y1, .bool e1] 24)).heap.size = w.heap.size + 1 := by simp
  have HB : Hid (Below w.heap.size w ((w.alloc (.cells #[.string s1, .slice x1 n1 y1, .bool e1] 24)).alloc (.cells #[.string s2, .slice x2 n2 y2, .bool e2] 24))) := ((Below.refl _ _).alloc (Nat.le_refl _) _).alloc (by rw [hsz]; omega) _
  clear hsz
  cases h1 : (s1.toList == s2.toList)
  · rw [h1] at HREF
    go_enter Tryz.func26, Tryz.ntmps26
    go_wp2
    go_ret
    exact ⟨ret_bool HREF.out.symm, HB.out⟩
  · rw [h1] at HREF
    cases h2 : (e1 == e2)
    · rw [h2] at HREF
      go_enter Tryz.func26, Tryz.ntmps26
      go_wp2
      go_ret
      exact ⟨ret_bool HREF.out.symm, HB.out⟩
    · rw [h2] at HREF
      go_enter Tryz.func26, Tryz.ntmps26
      go_wp2_with (go_at_call 56; refine Calls.mono (HC.out _ HB.out) ?_; rintro e w2 ⟨rfl, hb2⟩)
      go_ret
      exact ⟨ret_bool HREF.out.symm, HB.out.trans (hb2.mono HB.out.size)⟩
end Go.Proofs.YthaebbmekonacaaGreatDoor
