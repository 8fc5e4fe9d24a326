/-
  The reference's Same of policies; policies of one's own.
-/
import Derived.Test.YthaebbmekonacaaGreatDoorSV
set_option linter.unusedVariables false
set_option linter.unusedSimpArgs false
set_option maxRecDepth 100000
namespace Go.Proofs.YthaebbmekonacaaGreatDoor
open Go.RowKit
set_option maxHeartbeats 4000000 in
theorem rsameTerm_any (u v : Value) (a b : Tm) (w : World) (hu : TmAt w u a) (hv : TmAt w v b) (la : LenT a) (lb : LenT b) : Calls Tryz.prog 22 #[u, v] w fun e w' => e = .returned (.bool (eqT a b)) ∧ Below w.heap.size w w' := by
  obtain ⟨uc, ua, rfl, huc, hua⟩ := hu
  obtain ⟨vc, va, rfl, hvc, hva⟩ := hv
  have HREF : Hid (eqT a b = (eqL eqC a.cs b.cs && eqL eqA a.acs b.acs)) := rfl
  obtain ⟨la1, la2⟩ := la
  obtain ⟨lb1, lb2⟩ := lb
  obtain ⟨xc, bc, oc, capc, rfl, hxc, hcc, hrc⟩ := huc
  obtain ⟨xa, ba, oa, capa, rfl, hxa, hca, hra⟩ := hua
  obtain ⟨yc, dc, pc, kapc, rfl, hyc, hkc, hsc⟩ := hvc
  obtain ⟨ya, da, pa, kapa, rfl, hya, hka, hsa⟩ := hva
  have HRC : Hid (_ : Prop) := hrc
  have HRA : Hid (_ : Prop) := hra
  have HSC : Hid (_ : Prop) := hsc
  have HSA : Hid (_ : Prop) := hsa
  clear hrc hra hsc hsa
  have HBX : Hid (∀ A B, Below w.heap.size w ((w.alloc (.cells A 63)).alloc (.cells B 63))) := fun A B => ((Below.refl _ _).alloc (Nat.le_refl _) _).alloc (by simp) _
  by_cases hl : a.cs.length = b.cs.length ∧ a.acs.length = b.acs.length
  · obtain ⟨n, hn⟩ : ∃ n, a.cs.length = n := ⟨_, rfl⟩
    obtain ⟨m, hm⟩ : ∃ m, a.acs.length = m := ⟨_, rfl⟩
    have hn2 : b.cs.length = n := by omega
    have hm2 : b.acs.length = m := by omega
    have HZC : Hid (eqL eqC (a.cs.drop n) (b.cs.drop n) = true) := by unfold Hid; rw [← hn]; exact eqL_end eqC a.cs b.cs hl.1
    have HZA : Hid (eqL eqA (a.acs.drop m) (b.acs.drop m) = true) := by unfold Hid; rw [← hm]; exact eqL_end eqA a.acs b.acs hl.2
    have HN : Hid (a.cs.length = n ∧ b.cs.length = n ∧ a.acs.length = m ∧ b.acs.length = m) := ⟨hn, hn2, hm, hm2⟩
    rw [hn] at hxc hcc la1 ⊢
    rw [hm] at hxa hca la2 ⊢
    rw [hn2] at hyc hkc lb1 ⊢
    rw [hm2] at hya hka lb2 ⊢
    clear hn hm hn2 hm2 hl
    obtain ⟨z1, hz1⟩ : ∃ z, eqL eqC a.cs b.cs = z := ⟨_, rfl⟩
    obtain ⟨z2, hz2⟩ : ∃ z, eqL eqA a.acs b.acs = z := ⟨_, rfl⟩
    rw [hz1, hz2] at HREF
    have HE1 : Hid (_ = z1) := hz1
    have HE2 : Hid (_ = z2) := hz2
    clear hz1 hz2
    generalize eqT a b = r at *
    have HBl : Hid (_ : Prop) := HBX.out #[.slice xc n capc, .slice xa m capa] #[.slice yc n kapc, .slice ya m kapa]
    obtain ⟨W, hW⟩ : ∃ W, (w.alloc (.cells #[.slice xc n capc, .slice xa m capa] 63)).alloc (.cells #[.slice yc n kapc, .slice ya m kapa] 63) = W := ⟨_, rfl⟩
    have hsz : (w.alloc (.cells #[.slice xc n capc, .slice xa m capa] 63)).heap.size = w.heap.size + 1 := by simp
    have p0 : W.cell? ⟨w.heap.size, 0, none⟩ = some (.slice xc n capc) := by rw [← hW, World.cell?_alloc_old _ _ _ (by simp), World.cell?_alloc_new]; rfl
    have p1 : W.cell? ⟨w.heap.size, 1, none⟩ = some (.slice xa m capa) := by rw [← hW, World.cell?_alloc_old _ _ _ (by simp), World.cell?_alloc_new]; rfl
    have q0 : W.cell? ⟨w.heap.size + 1, 0, none⟩ = some (.slice yc n kapc) := by rw [← hW, ← hsz, World.cell?_alloc_new]; rfl
    have q1 : W.cell? ⟨w.heap.size + 1, 1, none⟩ = some (.slice ya m kapa) := by rw [← hW, ← hsz, World.cell?_alloc_new]; rfl
    have HBW : Hid (Below w.heap.size w W) := by unfold Hid; rw [← hW]; exact HBl.out
    have HP : Hid (_ ∧ _ ∧ _ ∧ _) := And.intro p0 (And.intro p1 (And.intro q0 q1))
    clear hsz HBl HBX
    go_enter Tryz.func22, Tryz.ntmps22
    go_wp2
    clear p0 p1 q0 q1
    go_loopw [5] (fun i wr => ∃ (k : Nat), k ≤ n ∧ i = .int .i64 k ∧ Below W.heap.size W wr ∧ eqL eqC (a.cs.drop k) (b.cs.drop k) = z1) (fun i _ => n - (intOf i).toNat)
    case atStart => exact ⟨0, Nat.zero_le _, rfl, Below.refl _ _, HE1.out⟩
    case round =>
      obtain ⟨k, hk, rfl, hb, hre⟩ := hrel
      have HB : Hid (Below W.heap.size W wr) := hb
      have HQ : Hid (_ = z1) := hre
      have p0 := below_cell hb HP.out.1
      have q0 := below_cell hb HP.out.2.2.1
      have HWw : Hid (Below w.heap.size w wr) := HBW.out.trans (hb.mono HBW.out.size)
      clear hb hre
      by_cases hlt : k < n
      · obtain rfl : xc = some ⟨bc, oc, none⟩ := by
          rcases hxc with h | h
          · exact h
          · omega
        obtain rfl : yc = some ⟨dc, pc, none⟩ := by
          rcases hyc with h | h
          · exact h
          · omega
        have k1 : k < a.cs.length := by rw [HN.out.1]; exact hlt
        have k2 : k < b.cs.length := by rw [HN.out.2.1]; exact hlt
        have c0 := below_cell HWw.out (HRC.out k k1).1
        have c1 := below_cell HWw.out (HRC.out k k1).2.1
        have c2 := below_cell HWw.out (HRC.out k k1).2.2.1
        have c3 := below_cell HWw.out (HRC.out k k1).2.2.2
        have d0 := below_cell HWw.out (HSC.out k k2).1
        have d1 := below_cell HWw.out (HSC.out k k2).2.1
        have d2 := below_cell HWw.out (HSC.out k k2).2.2.1
        have d3 := below_cell HWw.out (HSC.out k k2).2.2.2
        rw [eqL_at eqC a.cs b.cs k k1 k2] at HQ
        obtain ⟨q, hq⟩ : ∃ q, eqC a.cs[k] b.cs[k] = q := ⟨_, rfl⟩
        rw [hq] at HQ
        unfold eqC at hq
        have HF : Hid (_ = q) := hq
        clear hq
        have HY : Hid (∃ y, eqL eqC (a.cs.drop (k + 1)) (b.cs.drop (k + 1)) = y) := ⟨_, rfl⟩
        obtain ⟨y, hy⟩ := HY.out
        rw [hy] at HQ
        have HY2 : Hid (_ = y) := hy
        clear hy HY
        generalize a.cs[k].k = xk at *
        generalize b.cs[k].k = yk at *
        generalize a.cs[k].nt = xnt at *
        generalize b.cs[k].nt = ynt at *
        generalize a.cs[k].nm = xnm at *
        generalize b.cs[k].nm = ynm at *
        generalize a.cs[k].n = xn at *
        generalize b.cs[k].n = yn at *
        clear k1 k2
        have i1 : (k : Int) < (n : Int) := by omega
        have hne : ∀ W, _ = _ := fun W => neqC xk yk xnt ynt xnm ynm xn yn W
        simp only [HF.out] at hne
        clear HF
        cases q
        · go_wp2
          go_region
          go_wp2
          go_ret
          have hz : z1 = false := HQ.out.symm
          exact ⟨ret_bool (by rw [HREF.out, hz]; rfl), below_dr HWw.out 1⟩
        · go_wp2
          go_region
          go_wp2
          go_roundw
          case rel => exact ⟨k + 1, by omega, by go_num, below_dr HB.out 1, HY2.out.trans HQ.out⟩
          case measure => simp [intOf]; omega
      · obtain rfl : k = n := by omega
        have hz1 : z1 = true := HQ.out.symm.trans HZC.out
        rw [hz1, Bool.true_and] at HREF
        have HREF : Hid (r = z2) := HREF
        clear HQ HE1 HZC hz1 hlt
        generalize wr = wo at *
        go_wp2
        clear p0 q0
        go_loopw [6] (fun i wr => ∃ (j : Nat), j ≤ m ∧ i = .int .i64 j ∧ Below wo.heap.size wo wr ∧ eqL eqA (a.acs.drop j) (b.acs.drop j) = z2) (fun i _ => m - (intOf i).toNat)
        case atStart => exact ⟨0, Nat.zero_le _, rfl, Below.refl _ _, HE2.out⟩
        case round =>
          obtain ⟨j, hj, rfl, hb, hre⟩ := hrel
          have HB2 : Hid (Below wo.heap.size wo wr) := hb
          have HQ : Hid (_ = z2) := hre
          have p1 := below_cell hb (below_cell HB.out HP.out.2.1)
          have q1 := below_cell hb (below_cell HB.out HP.out.2.2.2)
          have HWr : Hid (Below w.heap.size w wr) := HWw.out.trans (hb.mono HWw.out.size)
          clear hb hre
          by_cases hlt : j < m
          · obtain rfl : xa = some ⟨ba, oa, none⟩ := by
              rcases hxa with h | h
              · exact h
              · omega
            obtain rfl : ya = some ⟨da, pa, none⟩ := by
              rcases hya with h | h
              · exact h
              · omega
            have k1 : j < a.acs.length := by rw [HN.out.2.2.1]; exact hlt
            have k2 : j < b.acs.length := by rw [HN.out.2.2.2]; exact hlt
            have c0 := below_cell HWr.out (HRA.out j k1).1
            have c1 := below_cell HWr.out (HRA.out j k1).2.1
            have c2 := below_cell HWr.out (HRA.out j k1).2.2.1
            have c3 := below_cell HWr.out (HRA.out j k1).2.2.2
            have d0 := below_cell HWr.out (HSA.out j k2).1
            have d1 := below_cell HWr.out (HSA.out j k2).2.1
            have d2 := below_cell HWr.out (HSA.out j k2).2.2.1
            have d3 := below_cell HWr.out (HSA.out j k2).2.2.2
            rw [eqL_at eqA a.acs b.acs j k1 k2] at HQ
            obtain ⟨q, hq⟩ : ∃ q, eqA a.acs[j] b.acs[j] = q := ⟨_, rfl⟩
            rw [hq] at HQ
            unfold eqA at hq
            have HF : Hid (_ = q) := hq
            clear hq
            have HY : Hid (∃ y, eqL eqA (a.acs.drop (j + 1)) (b.acs.drop (j + 1)) = y) := ⟨_, rfl⟩
            obtain ⟨y, hy⟩ := HY.out
            rw [hy] at HQ
            have HY2 : Hid (_ = y) := hy
            clear hy HY
            generalize a.acs[j].k = xk at *
            generalize b.acs[j].k = yk at *
            generalize a.acs[j].nm = xnm at *
            generalize b.acs[j].nm = ynm at *
            generalize a.acs[j].n = xn at *
            generalize b.acs[j].n = yn at *
            generalize a.acs[j].ad = xad at *
            generalize b.acs[j].ad = yad at *
            clear k1 k2
            have i1 : (j : Int) < (m : Int) := by omega
            have hne : ∀ W, _ = _ := fun W => neqA xk yk xnm ynm xn yn xad yad W
            simp only [HF.out] at hne
            clear HF
            cases q
            · go_wp2
              go_region
              go_wp2
              go_ret
              have hz : z2 = false := HQ.out.symm
              exact ⟨ret_bool (by rw [HREF.out, hz]), below_dr HWr.out 1⟩
            · go_wp2
              go_region
              go_wp2
              go_roundw
              case rel => exact ⟨j + 1, by omega, by go_num, below_dr HB2.out 1, HY2.out.trans HQ.out⟩
              case measure => simp [intOf]; omega
          · obtain rfl : j = m := by omega
            have hz2 : z2 = true := HQ.out.symm.trans HZA.out
            clear HQ HE2 HZA hlt
            go_wp2
            go_ret
            exact ⟨ret_bool (by rw [HREF.out, hz2]), HWr.out⟩
  · have HF : Hid (eqT a b = false) := by
      unfold Hid eqT
      by_cases h1 : a.cs.length = b.cs.length
      · rw [eqL_len eqA _ _ (fun h => hl ⟨h1, h⟩), Bool.and_false]
      · rw [eqL_len eqC _ _ h1, Bool.false_and]
    generalize eqT a b = r at *
    clear HRC HRA HSC HSA HREF
    generalize a.cs.length = n1 at *
    generalize a.acs.length = n2 at *
    generalize b.cs.length = n3 at *
    generalize b.acs.length = n4 at *
    by_cases h1 : n1 = n3
    · subst h1
      have h2 : ¬ n2 = n4 := fun h => hl ⟨rfl, h⟩
      clear hl
      go_enter Tryz.func22, Tryz.ntmps22
      go_wp2
      go_ret
      exact ⟨ret_bool HF.out.symm, HBX.out _ _⟩
    · clear hl
      go_enter Tryz.func22, Tryz.ntmps22
      go_wp2
      go_ret
      exact ⟨ret_bool HF.out.symm, HBX.out _ _⟩
end Go.Proofs.YthaebbmekonacaaGreatDoor
set_option linter.unusedVariables false
set_option linter.unusedSimpArgs false
set_option maxRecDepth 100000
namespace Go.Proofs.YthaebbmekonacaaGreatDoor
open Go.RowKit
end Go.Proofs.YthaebbmekonacaaGreatDoor
