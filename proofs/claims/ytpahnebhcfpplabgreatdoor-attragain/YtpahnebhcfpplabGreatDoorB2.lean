/-
  inBytes' closure, for every text of bytes.
-/
import Derived.Test.YtpahnebhcfpplabGreatDoorB1
namespace Go.Proofs.YtpahnebhcfpplabGreatDoor
open Go.RowKit
structure CRAt (w : World) (p q : Nat) : Prop where
  b0 : w.cell? ⟨q, 0, none⟩ = some (.pointer (some ⟨p, 0, none⟩))
  n0 : q ≠ p
theorem CRAt.beside {w w' : World} {p q : Nat} (h : CRAt w p q) (hb : Beside p w w') : CRAt w' p q := ⟨hb.cell h.b0 h.n0, h.n0⟩
theorem CRAt.alloc {w : World} {p q : Nat} (h : CRAt w p q) (o : Obj) : CRAt (w.alloc o) p q := ⟨below_cell ((Below.refl _ _).alloc (Nat.le_refl _) o) h.b0, h.n0⟩
theorem and16 (F : Nat) (h : F < 256) : bits .and .u64 (F : Int) 16 = ((F &&& 16 : Nat) : Int) := bits_and_u64_nat F 16 (by omega) (by decide)
set_option maxRecDepth 100000 in
set_option maxHeartbeats 3200000 in
theorem nextR_any (p q : Nat) (l : List UInt8) (w : World) (hcl : CRAt w p q) (hr : RdrAt w p ⟨l.toArray⟩) :
    Calls Tryz.prog 32 #[.pointer (some ⟨q, 0, none⟩)] w fun e w' => NextR p l w e w' := by
  have hp := hr.lt
  have HC : Hid (CRAt (w.alloc (.cells #[.int .u8 0, .int .u8 0, .string ⟨#[]⟩] 30)) p q) := hcl.alloc _
  have HR : Hid (RdrAt (w.alloc (.cells #[.int .u8 0, .int .u8 0, .string ⟨#[]⟩] 30)) p ⟨l.toArray⟩) := hr.kept ((Below.refl _ _).alloc (Nat.le_refl _) _) hp
  have HB : Hid (Beside p w (w.alloc (.cells #[.int .u8 0, .int .u8 0, .string ⟨#[]⟩] 30))) := Beside.of_below ((Below.refl _ _).alloc (Nat.le_refl _) _) (Nat.le_refl _)
  have HZ : Hid (Z3 w (w.alloc (.cells #[.int .u8 0, .int .u8 0, .string ⟨#[]⟩] 30))) := Z3.start w
  have b0 := HC.out.b0
  clear hcl hr
  go_enter Tryz.func32, Tryz.ntmps32
  go_wp2_with fail
  refine (left_any p ⟨l.toArray⟩ _ HR.out).mono ?_
  rintro e w1 ⟨rfl, rfl⟩
  rw [list_size]
  generalize w.alloc (.cells #[.int .u8 0, .int .u8 0, .string ⟨#[]⟩] 30) = w0 at *
  by_cases hl0 : l = []
  · subst hl0
    simp only [List.length_nil]
    obtain ⟨z0, z1, z2, g0, g1, g2, _⟩ := HZ.out
    go_wp2
    have hg := HZ.out.got (.int .u8 0) (.int .u8 0) (.string ⟨#[]⟩)
    unfold put3 at hg
    refine bodyPost_ret (v := .tuple #[zeroR, .int .i64 5]) (by simp [results, Tryz.results32, go_sem, zeroR, hg.1, hg.2.1, hg.2.2]) rfl ?_
    exact ⟨put3_beside HB.out _ _ _, Or.inl ⟨rfl, rfl⟩⟩
  · have hl1' : ¬ ((l.length : Int) = 0) := by simpa using hl0
    have hl1'' : ((l.length : Int) == 0) = false := by simpa using hl1'
    have HL : Hid (l ≠ []) := hl0
    clear hl0
    go_wp2_with fail
    refine (numT p l 1 w0 HR.out (by decide) (by decide)).mono ?_
    rintro e w1 ⟨rfl, hr1, hb1⟩
    have HC1 : Hid (CRAt _ _ _) := HC.out.beside hb1
    have HZ1 : Hid (Z3 _ _) := HZ.out.beside hb1 hp
    have HB1 : Hid (Beside p w w1) := HB.out.trans hb1
    have HR1 : Hid (RdrAt _ _ _) := hr1
    have b1 := HC1.out.b0
    clear HC HZ HB b0 HR hb1 hr1
    have hF := gotN_lt 1 l
    have HRI : Hid (_ = _) := rawI_eq l
    generalize gotN 1 l = F at *
    generalize restN 1 l = l1 at *
    generalize decide (1 ≤ l.length) = d1 at *
    go_wp2_with fail
    refine (numT p l1 1 w1 HR1.out (by decide) (by decide)).mono ?_
    rintro e w2 ⟨rfl, hr2, hb2⟩
    have HC2 : Hid (CRAt _ _ _) := HC1.out.beside hb2
    have HZ2 : Hid (Z3 _ _) := HZ1.out.beside hb2 hp
    have HB2 : Hid (Beside p w w2) := HB1.out.trans hb2
    have HR2 : Hid (RdrAt _ _ _) := hr2
    have b2 := HC2.out.b0
    clear HC1 HZ1 HB1 b1 HR1 hb2 hr2
    have hT := gotN_lt 1 l1
    generalize gotN 1 l1 = T at *
    generalize restN 1 l1 = l2 at *
    generalize decide (1 ≤ l1.length) = d2 at *
    have ha := and16 F (by omega)
    have hwF : IntKind.u8.wrap (F : Int) = (F : Int) := by rw [IntKind.wrap_u8]; omega
    have hwT : IntKind.u8.wrap (T : Int) = (T : Int) := by rw [IntKind.wrap_u8]; omega
    have hmF : (F : Int) % 256 = F := by omega
    have hmT : (T : Int) % 256 = T := by omega
    by_cases h16 : F &&& 16 = 0
    · have hz : zOf F = 1 := by simp [zOf, h16]
      rw [hz] at HRI
      rw [h16] at ha
      clear h16 hz
      go_wp2_with fail
      refine (numT p l2 1 w2 HR2.out (by decide) (by decide)).mono ?_
      rintro e w3 ⟨rfl, hr3, hb3⟩
      have HC3 : Hid (CRAt _ _ _) := HC2.out.beside hb3
      have HZ3 : Hid (Z3 _ _) := HZ2.out.beside hb3 hp
      have HB3 : Hid (Beside p w w3) := HB2.out.trans hb3
      have HR3 : Hid (RdrAt _ _ _) := hr3
      have b3 := HC3.out.b0
      clear HC2 HZ2 HB2 b2 HR2 hb3 hr3
      have hN := gotN_lt 1 l2
      generalize gotN 1 l2 = N at *
      generalize restN 1 l2 = l3 at *
      have hwN : IntKind.i64.wrap (N : Int) = (N : Int) := by rw [IntKind.wrap_i64]; omega
      obtain ⟨dn, hdn⟩ : ∃ d, d = decide (1 ≤ l2.length) := ⟨_, rfl⟩
      have HDN : Hid (_ = _) := hdn
      rw [← hdn]
      clear hdn
      go_wp2_with fail
      refine (takeT p l3 N w3 HR3.out).mono ?_
      rintro e w4 ⟨rfl, hr4, hb4⟩
      have HZ4 : Hid (Z3 _ _) := HZ3.out.beside hb4 hp
      have HB4 : Hid (Beside p w w4) := HB3.out.trans hb4
      have HR4 : Hid (RdrAt _ _ _) := hr4
      clear HC3 HZ3 HB3 b3 HR3 hb4 hr4
      obtain ⟨z0, z1, z2, g0, g1, g2, _⟩ := HZ4.out
      cases dn with
      | false =>
        have HNO : Hid (¬ (1 ≤ l2.length ∧ N ≤ l3.length)) := fun h => by have := HDN.out; rw [decide_eq_true h.1] at this; exact absurd this (by decide)
        generalize (if N ≤ l3.length then (⟨(l3.take N).toArray⟩ : ByteArray) else ⟨#[]⟩) = bs at *
        generalize decide (N ≤ l3.length) = dt at *
        go_wp2
        have hg := HZ4.out.got (.int .u8 0) (.int .u8 0) (.string ⟨#[]⟩)
        unfold put3 at hg
        refine bodyPost_ret (v := .tuple #[zeroR, .int .i64 4]) (by simp [results, Tryz.results32, go_sem, zeroR, hg.1, hg.2.1, hg.2.2]) rfl ?_
        exact ⟨put3_beside HB4.out _ _ _, Or.inr (Or.inl ⟨HL.out, by rw [HRI.out]; exact if_neg (fun h => HNO.out h), rfl⟩)⟩
      | true =>
        by_cases ht : N ≤ l3.length
        · rw [if_pos ht, decide_eq_true ht]
          have HYES : Hid (rawI l = some ((F, T, ⟨(l3.take N).toArray⟩), l3.drop N)) := by
            unfold Hid; rw [HRI.out]; exact if_pos ⟨of_decide_eq_true HDN.out.symm, ht⟩
          have HR5 : Hid (RdrAt w4 p ⟨(l3.drop N).toArray⟩) := by have := HR4.out; rw [restN, if_pos ht] at this; exact this
          clear ht HRI HR4
          generalize l3.drop N = rest at *
          generalize (⟨(l3.take N).toArray⟩ : ByteArray) = bs at *
          go_wp2
          have hg := HZ4.out.got (.int .u8 (F : Int)) (.int .u8 (T : Int)) (.string bs)
          unfold put3 at hg
          refine bodyPost_ret (v := .tuple #[.agg #[.int .u8 (F : Int), .int .u8 (T : Int), .string bs], .int .i64 0]) (by simp [results, Tryz.results32, go_sem, hg.1, hg.2.1, hg.2.2]) rfl ?_
          exact ⟨put3_beside HB4.out _ _ _, Or.inr (Or.inr ⟨(F, T, bs), rest, HL.out, HYES.out, rfl, put3_rdr HR5.out hp _ _ _⟩)⟩
        · rw [if_neg ht, decide_eq_false ht]
          have HNO : Hid (¬ (1 ≤ l2.length ∧ N ≤ l3.length)) := fun h => ht h.2
          clear ht HR4
          go_wp2
          have hg := HZ4.out.got (.int .u8 0) (.int .u8 0) (.string ⟨#[]⟩)
          unfold put3 at hg
          refine bodyPost_ret (v := .tuple #[zeroR, .int .i64 4]) (by simp [results, Tryz.results32, go_sem, zeroR, hg.1, hg.2.1, hg.2.2]) rfl ?_
          exact ⟨put3_beside HB4.out _ _ _, Or.inr (Or.inl ⟨HL.out, by rw [HRI.out]; exact if_neg (fun h => HNO.out h), rfl⟩)⟩
    · have hz : zOf F = 2 := by simp [zOf, h16]
      rw [hz] at HRI
      have h16' : ¬ (((F &&& 16 : Nat) : Int) = 0) := by omega
      have h16'' : (((F &&& 16 : Nat) : Int) == 0) = false := by simpa using h16'
      generalize F &&& 16 = FF at *
      clear h16 hz
      go_wp2_with fail
      refine (numT p l2 2 w2 HR2.out (by decide) (by decide)).mono ?_
      rintro e w3 ⟨rfl, hr3, hb3⟩
      have HC3 : Hid (CRAt _ _ _) := HC2.out.beside hb3
      have HZ3 : Hid (Z3 _ _) := HZ2.out.beside hb3 hp
      have HB3 : Hid (Beside p w w3) := HB2.out.trans hb3
      have HR3 : Hid (RdrAt _ _ _) := hr3
      have b3 := HC3.out.b0
      clear HC2 HZ2 HB2 b2 HR2 hb3 hr3
      have hN := gotN_lt 2 l2
      generalize gotN 2 l2 = N at *
      generalize restN 2 l2 = l3 at *
      have hwN : IntKind.i64.wrap (N : Int) = (N : Int) := by rw [IntKind.wrap_i64]; omega
      obtain ⟨dn, hdn⟩ : ∃ d, d = decide (2 ≤ l2.length) := ⟨_, rfl⟩
      have HDN : Hid (_ = _) := hdn
      rw [← hdn]
      clear hdn
      go_wp2_with fail
      refine (takeT p l3 N w3 HR3.out).mono ?_
      rintro e w4 ⟨rfl, hr4, hb4⟩
      have HZ4 : Hid (Z3 _ _) := HZ3.out.beside hb4 hp
      have HB4 : Hid (Beside p w w4) := HB3.out.trans hb4
      have HR4 : Hid (RdrAt _ _ _) := hr4
      clear HC3 HZ3 HB3 b3 HR3 hb4 hr4
      obtain ⟨z0, z1, z2, g0, g1, g2, _⟩ := HZ4.out
      cases dn with
      | false =>
        have HNO : Hid (¬ (2 ≤ l2.length ∧ N ≤ l3.length)) := fun h => by have := HDN.out; rw [decide_eq_true h.1] at this; exact absurd this (by decide)
        generalize (if N ≤ l3.length then (⟨(l3.take N).toArray⟩ : ByteArray) else ⟨#[]⟩) = bs at *
        generalize decide (N ≤ l3.length) = dt at *
        go_wp2
        have hg := HZ4.out.got (.int .u8 0) (.int .u8 0) (.string ⟨#[]⟩)
        unfold put3 at hg
        refine bodyPost_ret (v := .tuple #[zeroR, .int .i64 4]) (by simp [results, Tryz.results32, go_sem, zeroR, hg.1, hg.2.1, hg.2.2]) rfl ?_
        exact ⟨put3_beside HB4.out _ _ _, Or.inr (Or.inl ⟨HL.out, by rw [HRI.out]; exact if_neg (fun h => HNO.out h), rfl⟩)⟩
      | true =>
        by_cases ht : N ≤ l3.length
        · rw [if_pos ht, decide_eq_true ht]
          have HYES : Hid (rawI l = some ((F, T, ⟨(l3.take N).toArray⟩), l3.drop N)) := by
            unfold Hid; rw [HRI.out]; exact if_pos ⟨of_decide_eq_true HDN.out.symm, ht⟩
          have HR5 : Hid (RdrAt w4 p ⟨(l3.drop N).toArray⟩) := by have := HR4.out; rw [restN, if_pos ht] at this; exact this
          clear ht HRI HR4
          generalize l3.drop N = rest at *
          generalize (⟨(l3.take N).toArray⟩ : ByteArray) = bs at *
          go_wp2
          have hg := HZ4.out.got (.int .u8 (F : Int)) (.int .u8 (T : Int)) (.string bs)
          unfold put3 at hg
          refine bodyPost_ret (v := .tuple #[.agg #[.int .u8 (F : Int), .int .u8 (T : Int), .string bs], .int .i64 0]) (by simp [results, Tryz.results32, go_sem, hg.1, hg.2.1, hg.2.2]) rfl ?_
          exact ⟨put3_beside HB4.out _ _ _, Or.inr (Or.inr ⟨(F, T, bs), rest, HL.out, HYES.out, rfl, put3_rdr HR5.out hp _ _ _⟩)⟩
        · rw [if_neg ht, decide_eq_false ht]
          have HNO : Hid (¬ (2 ≤ l2.length ∧ N ≤ l3.length)) := fun h => ht h.2
          clear ht HR4
          go_wp2
          have hg := HZ4.out.got (.int .u8 0) (.int .u8 0) (.string ⟨#[]⟩)
          unfold put3 at hg
          refine bodyPost_ret (v := .tuple #[zeroR, .int .i64 4]) (by simp [results, Tryz.results32, go_sem, zeroR, hg.1, hg.2.1, hg.2.2]) rfl ?_
          exact ⟨put3_beside HB4.out _ _ _, Or.inr (Or.inl ⟨HL.out, by rw [HRI.out]; exact if_neg (fun h => HNO.out h), rfl⟩)⟩
end Go.Proofs.YtpahnebhcfpplabGreatDoor
