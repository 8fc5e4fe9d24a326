/-
  The reference's Same of policies; policies of one's own.
-/
import Derived.Test.YthaebbmekonacaaGreatDoorS3
set_option linter.unusedVariables false
set_option linter.unusedSimpArgs false
set_option maxRecDepth 100000
namespace Go.Proofs.YthaebbmekonacaaGreatDoor
open Go.RowKit
set_option maxHeartbeats 4000000 in
theorem rsame_any (u v : Value) (a b : Po) (w : World) (hu : PoAt w u a) (hv : PoAt w v b) (la : LenP a) (lb : LenP b) : Calls Tryz.prog 16 #[u, v] w fun e w' => e = .returned (.bool (eqP a b)) ∧ Below w.heap.size w w' := by
  obtain ⟨ut, rfl, hut⟩ := hu
  obtain ⟨vt, rfl, hvt⟩ := hv
  have HREF : Hid (eqP a b = ((a.nm.toList == b.nm.toList) && ((a.els == b.els) && eqL eqT a.ts b.ts))) := rfl
  obtain ⟨la1, la2⟩ := la
  obtain ⟨lb1, lb2⟩ := lb
  obtain ⟨L, hL⟩ : ∃ L, a.ts = L := ⟨_, rfl⟩
  obtain ⟨M, hM⟩ : ∃ M, b.ts = M := ⟨_, rfl⟩
  rw [hL] at hut HREF la1 la2
  rw [hM] at hvt HREF lb1 lb2
  obtain ⟨xc, bc, oc, capc, rfl, hxc, hcc, hrc⟩ := hut
  obtain ⟨yc, dc, pc, kapc, rfl, hyc, hkc, hsc⟩ := hvt
  have HRC : Hid (_ : Prop) := hrc
  have HSC : Hid (_ : Prop) := hsc
  have HLm : Hid (_ ∧ _) := And.intro la2 lb2
  clear hrc hsc hL hM la2 lb2
  generalize eqP a b = r at *
  generalize a.nm = s1 at *
  generalize b.nm = s2 at *
  generalize a.els = e1 at *
  generalize b.els = e2 at *
  have HBX : Hid (∀ A B, Below w.heap.size w ((w.alloc (.cells A 24)).alloc (.cells B 24))) := fun A B => ((Below.refl _ _).alloc (Nat.le_refl _) _).alloc (by simp) _
  by_cases h1 : s1.toList = s2.toList
  · by_cases h2 : e1 = e2
    · by_cases h3 : L.length = M.length
      · rw [h1, h2, beq_self_eq_true, beq_self_eq_true, Bool.true_and, Bool.true_and] at HREF
        subst h2
        have HREF : Hid (r = eqL eqT L M) := HREF
        obtain ⟨n, hn⟩ : ∃ n, L.length = n := ⟨_, rfl⟩
        have hm : M.length = n := by omega
        have HZ : Hid (eqL eqT (L.drop n) (M.drop n) = true) := by unfold Hid; rw [← hn]; exact eqL_end eqT L M h3
        have HN : Hid (L.length = n ∧ M.length = n) := ⟨hn, hm⟩
        rw [hn] at hxc hcc la1 ⊢
        rw [hm] at hyc hkc lb1 ⊢
        clear hn hm h3
        obtain ⟨z, hz⟩ : ∃ z, eqL eqT L M = z := ⟨_, rfl⟩
        rw [hz] at HREF
        have HE : Hid (_ = z) := hz
        clear hz
        have HBl : Hid (_ : Prop) := HBX.out #[.string s1, .slice xc n capc, .bool e1] #[.string s2, .slice yc n kapc, .bool e1]
        obtain ⟨W, hW⟩ : ∃ W, (w.alloc (.cells #[.string s1, .slice xc n capc, .bool e1] 24)).alloc (.cells #[.string s2, .slice yc n kapc, .bool e1] 24) = W := ⟨_, rfl⟩
        have hsz : (w.alloc (.cells #[.string s1, .slice xc n capc, .bool e1] 24)).heap.size = w.heap.size + 1 := by simp
        have p0 : W.cell? ⟨w.heap.size, 0, none⟩ = some (.string s1) := by rw [← hW, World.cell?_alloc_old _ _ _ (by simp), World.cell?_alloc_new]; rfl
        have p1 : W.cell? ⟨w.heap.size, 1, none⟩ = some (.slice xc n capc) := by rw [← hW, World.cell?_alloc_old _ _ _ (by simp), World.cell?_alloc_new]; rfl
        have p2 : W.cell? ⟨w.heap.size, 2, none⟩ = some (.bool e1) := by rw [← hW, World.cell?_alloc_old _ _ _ (by simp), World.cell?_alloc_new]; rfl
        have q0 : W.cell? ⟨w.heap.size + 1, 0, none⟩ = some (.string s2) := by rw [← hW, ← hsz, World.cell?_alloc_new]; rfl
        have q1 : W.cell? ⟨w.heap.size + 1, 1, none⟩ = some (.slice yc n kapc) := by rw [← hW, ← hsz, World.cell?_alloc_new]; rfl
        have q2 : W.cell? ⟨w.heap.size + 1, 2, none⟩ = some (.bool e1) := by rw [← hW, ← hsz, World.cell?_alloc_new]; rfl
        have HBW : Hid (Below w.heap.size w W) := by unfold Hid; rw [← hW]; exact HBl.out
        have HP : Hid (_ ∧ _) := And.intro p1 q1
        clear hsz HBl HBX
        go_enter Tryz.func16, Tryz.ntmps16
        go_wp2
        clear p0 p1 p2 q0 q1 q2 h1
        go_loopw [5] (fun i wr => ∃ (k : Nat), k ≤ n ∧ i = .int .i64 k ∧ Below W.heap.size W wr ∧ eqL eqT (L.drop k) (M.drop k) = z) (fun i _ => n - (intOf i).toNat)
        case atStart => exact ⟨0, Nat.zero_le _, rfl, Below.refl _ _, HE.out⟩
        case round =>
          obtain ⟨k, hk, rfl, hb, hre⟩ := hrel
          have HB : Hid (Below W.heap.size W wr) := hb
          have HQ : Hid (_ = z) := hre
          have p1 := below_cell hb HP.out.1
          have q1 := below_cell hb HP.out.2
          have HWw : Hid (Below w.heap.size w wr) := HBW.out.trans (hb.mono HBW.out.size)
          clear hb hre
          by_cases hlt : k < n
          · obtain rfl : xc = some ⟨bc, oc, none⟩ := by
              rcases hxc with h | h
              · exact h
              · omega
            obtain rfl : yc = some ⟨dc, pc, none⟩ := by
              rcases hyc with h | h
              · exact h
              · omega
            have k1 : k < L.length := by rw [HN.out.1]; exact hlt
            have k2 : k < M.length := by rw [HN.out.2]; exact hlt
            obtain ⟨vc, va, c0', c1', hvc, hva⟩ := HRC.out k k1
            obtain ⟨uc, ua, d0', d1', huc, hua⟩ := HSC.out k k2
            have c0 := below_cell HWw.out c0'
            have c1 := below_cell HWw.out c1'
            have d0 := below_cell HWw.out d0'
            have d1 := below_cell HWw.out d1'
            have HK : Hid (∀ X, Below w.heap.size w X → Calls Tryz.prog 22 #[.agg #[vc, va], .agg #[uc, ua]] X fun e w' => e = .returned (.bool (eqT L[k] M[k])) ∧ Below X.heap.size X w') := fun X hX => rsameTerm_any _ _ L[k] M[k] X ⟨vc, va, rfl, hvc.below hX, hva.below hX⟩ ⟨uc, ua, rfl, huc.below hX, hua.below hX⟩ (HLm.out.1 _ (List.getElem_mem k1)) (HLm.out.2 _ (List.getElem_mem k2))
            rw [eqL_at eqT L M k k1 k2] at HQ
            obtain ⟨x1, y1, e1'⟩ := hvc.len
            obtain ⟨x2, y2, e2'⟩ := hva.len
            obtain ⟨x3, y3, e3'⟩ := huc.len
            obtain ⟨x4, y4, e4'⟩ := hua.len
            subst e1' e2' e3' e4'
            clear hvc hva huc hua c0' c1' d0' d1'
            generalize eqT L[k] M[k] = q at *
            generalize L[k].cs.length = n1 at *
            generalize L[k].acs.length = n2 at *
            generalize M[k].cs.length = n3 at *
            generalize M[k].acs.length = n4 at *
            have HY : Hid (∃ y, eqL eqT (L.drop (k + 1)) (M.drop (k + 1)) = y) := ⟨_, rfl⟩
            obtain ⟨y, hy⟩ := HY.out
            rw [hy] at HQ
            have HY2 : Hid (_ = y) := hy
            clear hy HY k1 k2
            have i1 : (k : Int) < (n : Int) := by omega
            cases q
            · go_wp2
              go_region_held (fun w' => w'.cell? ⟨w.heap.size, 1, none⟩ = some (.slice (some ⟨bc, oc, none⟩) n capc) ∧ w'.cell? ⟨w.heap.size + 1, 1, none⟩ = some (.slice (some ⟨dc, pc, none⟩) n kapc) ∧ w'.cell? ⟨bc, oc + k * 2, none⟩ = some (.slice x1 n1 y1) ∧ w'.cell? ⟨bc, oc + k * 2 + 1, none⟩ = some (.slice x2 n2 y2) ∧ w'.cell? ⟨dc, pc + k * 2, none⟩ = some (.slice x3 n3 y3) ∧ w'.cell? ⟨dc, pc + k * 2 + 1, none⟩ = some (.slice x4 n4 y4)) (go_keep)
                (first | (go_at_call 22; refine Calls.mono (HK.out _ (below_dr HWw.out 1)) ?_; rintro e w5 ⟨rfl, hb5⟩; have p1 := below_cell hb5 p1; have q1 := below_cell hb5 q1; have c0 := below_cell hb5 c0; have c1 := below_cell hb5 c1; have d0 := below_cell hb5 d0; have d1 := below_cell hb5 d1))
              all_goals go_wp2
              all_goals go_ret
              all_goals have hz : z = false := HQ.out.symm
              all_goals exact ⟨ret_bool (by rw [HREF.out, hz]), (below_dr HWw.out 1).trans (hb5.mono HWw.out.size)⟩
            · go_wp2
              go_region_held (fun w' => w'.cell? ⟨w.heap.size, 1, none⟩ = some (.slice (some ⟨bc, oc, none⟩) n capc) ∧ w'.cell? ⟨w.heap.size + 1, 1, none⟩ = some (.slice (some ⟨dc, pc, none⟩) n kapc) ∧ w'.cell? ⟨bc, oc + k * 2, none⟩ = some (.slice x1 n1 y1) ∧ w'.cell? ⟨bc, oc + k * 2 + 1, none⟩ = some (.slice x2 n2 y2) ∧ w'.cell? ⟨dc, pc + k * 2, none⟩ = some (.slice x3 n3 y3) ∧ w'.cell? ⟨dc, pc + k * 2 + 1, none⟩ = some (.slice x4 n4 y4)) (go_keep)
                (first | (go_at_call 22; refine Calls.mono (HK.out _ (below_dr HWw.out 1)) ?_; rintro e w5 ⟨rfl, hb5⟩; have p1 := below_cell hb5 p1; have q1 := below_cell hb5 q1; have c0 := below_cell hb5 c0; have c1 := below_cell hb5 c1; have d0 := below_cell hb5 d0; have d1 := below_cell hb5 d1))
              all_goals go_wp2
              go_roundw
              case rel => exact ⟨k + 1, by omega, by go_num, (below_dr HB.out 1).trans (hb5.mono HB.out.size), HY2.out.trans HQ.out⟩
              case measure => simp [intOf]; omega
          · obtain rfl : k = n := by omega
            have hz : z = true := HQ.out.symm.trans HZ.out
            clear HQ HE HZ hlt
            go_wp2
            go_ret
            exact ⟨ret_bool (by rw [HREF.out, hz]), HWw.out⟩
      · have HF : Hid (r = false) := by unfold Hid; rw [HREF.out, eqL_len eqT L M h3, Bool.and_false, Bool.and_false]
        subst h2
        clear HRC HSC HREF HLm
        generalize L.length = n1 at *
        generalize M.length = n2 at *
        go_enter Tryz.func16, Tryz.ntmps16
        go_wp2
        go_ret
        exact ⟨ret_bool HF.out.symm, HBX.out _ _⟩
    · have HF : Hid (r = false) := by unfold Hid; rw [HREF.out, beq_eq_false_iff_ne.2 h2, Bool.false_and, Bool.and_false]
      have h2' : (e1 == e2) = false := beq_eq_false_iff_ne.2 h2
      clear HRC HSC HREF HLm
      generalize L.length = n1 at *
      generalize M.length = n2 at *
      go_enter Tryz.func16, Tryz.ntmps16
      go_wp2
      go_ret
      exact ⟨ret_bool HF.out.symm, HBX.out _ _⟩
  · have HF : Hid (r = false) := by unfold Hid; rw [HREF.out, beq_eq_false_iff_ne.2 h1, Bool.false_and]
    have h1' : (s1.toList == s2.toList) = false := beq_eq_false_iff_ne.2 h1
    clear HRC HSC HREF HLm
    generalize L.length = n1 at *
    generalize M.length = n2 at *
    go_enter Tryz.func16, Tryz.ntmps16
    go_wp2
    go_ret
    exact ⟨ret_bool HF.out.symm, HBX.out _ _⟩
end Go.Proofs.YthaebbmekonacaaGreatDoor
