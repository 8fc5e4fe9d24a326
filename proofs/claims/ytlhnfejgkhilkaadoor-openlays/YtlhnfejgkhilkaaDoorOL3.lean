/-
  OpenLays: the walk.
-/
import Derived.Test.YtlhnfejgkhilkaaDoorOa
import Derived.Test.YtlhnfejgkhilkaaDoorW5
import Derived.Test.YtlhnfejgkhilkaaDoorW2
import Derived.Deep.RegionHeld3
set_option linter.unusedVariables false
set_option linter.unusedSimpArgs false
namespace Go.Proofs.YtlhnfejgkhilkaaDoor
open Go.RowKit
/-- An open, and a copy of it, in memory. -/
structure LyAt (w wr : World) (o : Opn) (vf va vk rf ra rk : Value) (b : Nat) : Prop where
  r1 : wr.heap[w.heap.size]? = some (.cells (opC o vf va vk) 27 (0, 0))
  r2 : wr.heap[b]? = some (.cells (opC o rf ra rk) 27 (0, 0))
  bel : Below w.heap.size w wr
  l1 : ListsAt wr o vf va vk
  l2 : ListsAt wr o rf ra rk
  g : FamSizes wr
theorem LyAt.next {w wr w' : World} {o : Opn} {vf va vk rf ra rk : Value} {b : Nat} (h : LyAt w wr o vf va vk rf ra rk b) (hb : Below wr.heap.size wr w') : LyAt w w' o vf va vk rf ra rk b :=
  ⟨blk10 hb h.r1, blk10 hb h.r2, h.bel.trans (hb.mono h.bel.size), h.l1.below hb, h.l2.below hb, h.g.below hb⟩
theorem LyAt.drew {w wr : World} {o : Opn} {vf va vk rf ra rk : Value} {b : Nat} (h : LyAt w wr o vf va vk rf ra rk b) : LyAt w wr.drew o vf va vk rf ra rk b := h.next ((Below.refl _ _).drew)
theorem enc_both (o : Opn) (hw : OpnWf o) : ∃ (s : ByteArray) (e : Int), (∀ vf va vk X, FamSizes X → ListsAt X o vf va vk → Calls Tryd.prog 9 #[opV o vf va vk] X fun r w' => r = .returned (.tuple #[.string s, .int .i64 e]) ∧ Below X.heap.size X w') ∧ (∀ vf va vk X, ListsAt X o vf va vk → Calls Tryd.prog 10 #[opV o vf va vk] X fun r w' => r = .returned (.tuple #[.string s, .int .i64 e]) ∧ Below X.heap.size X w') := by
  cases hm : mayB o with
  | true => exact ⟨_, _, fun vf va vk X hX hl => encode_yes o vf va vk X hX hl hw hm, fun vf va vk X hl => rencode_yes o vf va vk X hl hw hm⟩
  | false => exact ⟨_, _, fun vf va vk X hX hl => encode_no o vf va vk X hX hl hm, fun vf va vk X hl => rencode_no o vf va vk X hl hw hm⟩
set_option maxRecDepth 100000 in
set_option maxHeartbeats 12800000 in
theorem lays_walk (o : Opn) (vf va vk : Value) (w : World) (hg : FamSizes w) (hL : ListsAt w o vf va vk) (hw : OpnWf o) (hbd : Bnd o) :
    Calls Tryd.prog 3 #[opV o vf va vk] w fun e w' => e = .returned (.bool true) ∧ Below w.heap.size w w' := by
  obtain ⟨sE, eE, hE, hR⟩ := enc_both o hw
  obtain ⟨fa0, fc0, evf⟩ : ∃ a c, vf = .slice a o.fams.length c := by obtain ⟨a, _, _, c, e, _⟩ := hL.f; exact ⟨a, c, e⟩
  obtain ⟨aa0, ac0, eva⟩ : ∃ a c, va = .slice a o.adds.length c := by obtain ⟨a, _, _, c, e, _⟩ := hL.a; exact ⟨a, c, e⟩
  obtain ⟨ka0, kc0, evk⟩ : ∃ a c, vk = .slice a o.kept.length c := by obtain ⟨a, _, _, c, e, _⟩ := hL.k; exact ⟨a, c, e⟩
  subst evf eva evk
  have hb0 : Below w.heap.size w (w.alloc (.cells (opC o (.slice fa0 o.fams.length fc0) (.slice aa0 o.adds.length ac0) (.slice ka0 o.kept.length kc0)) 27)) := (Below.refl _ _).alloc (Nat.le_refl _) _
  have HT0 : Hid ((w.alloc (.cells (opC o (.slice fa0 o.fams.length fc0) (.slice aa0 o.adds.length ac0) (.slice ka0 o.kept.length kc0)) 27)).heap[w.heap.size]? = some (.cells (opC o (.slice fa0 o.fams.length fc0) (.slice aa0 o.adds.length ac0) (.slice ka0 o.kept.length kc0)) 27 (0, 0))) := hp_new rfl
  have KO : Hid (_ : Prop) := own_any o (.slice fa0 o.fams.length fc0) (.slice aa0 o.adds.length ac0) (.slice ka0 o.kept.length kc0) (w.alloc (.cells (opC o (.slice fa0 o.fams.length fc0) (.slice aa0 o.adds.length ac0) (.slice ka0 o.kept.length kc0)) 27)) (hL.below hb0) hbd
  have KE : Hid (_ : Prop) := hE
  have KR : Hid (_ : Prop) := hR
  have KC : Hid (∀ vf va vk X, FamSizes X → ListsAt X o vf va vk → _) := fun vf va vk X hX hl => check_any o vf va vk X hX hl
  have KD : Hid (∀ vf va vk X, ListsAt X o vf va vk → _) := fun vf va vk X hl => rcheck_any o vf va vk X hl hw
  have KS : Hid (∀ vf va vk uf ua uk X, ListsAt X o vf va vk → ListsAt X o uf ua uk → _) := fun vf va vk uf ua uk X h1 h2 => rsame_yes o vf va vk uf ua uk X h1 h2 (by have := hbd.f; omega) (by have := hbd.a; omega) (by have := hbd.k; omega)
  generalize (if mayB o = true then (0 : Int) else 2) = ce at *
  have HB0 : Hid (Below _ _ _) := hb0
  have HG : Hid (FamSizes w) := hg
  have HL0 : Hid (ListsAt w o (.slice fa0 o.fams.length fc0) (.slice aa0 o.adds.length ac0) (.slice ka0 o.kept.length kc0)) := hL
  clear hE hR hb0 hg hL hw hbd
  unfold opC at HT0 HB0
  unfold opV opC at KO
  unfold opV opC
  go_enter Tryd.func3, Tryd.ntmps3
  go_wp2_with fail
  refine Calls.mono KO.out ?_
  rintro e w1 ⟨rf, ra, rk, rfl, hl1, hb1⟩
  obtain ⟨fa, fc, erf⟩ : ∃ a c, rf = .slice a o.fams.length c := by obtain ⟨a, _, _, c, e, _⟩ := hl1.f; exact ⟨a, c, e⟩
  obtain ⟨aa, ac, era⟩ : ∃ a c, ra = .slice a o.adds.length c := by obtain ⟨a, _, _, c, e, _⟩ := hl1.a; exact ⟨a, c, e⟩
  obtain ⟨ka, kc, erk⟩ : ∃ a c, rk = .slice a o.kept.length c := by obtain ⟨a, _, _, c, e, _⟩ := hl1.k; exact ⟨a, c, e⟩
  subst erf era erk
  have HW1 : Hid (Below w.heap.size w w1) := HB0.out.trans (hb1.mono HB0.out.size)
  have hba : Below w1.heap.size w1 (w1.alloc (.cells (opC o (.slice fa o.fams.length fc) (.slice aa o.adds.length ac) (.slice ka o.kept.length kc)) 27)) := (Below.refl _ _).alloc (Nat.le_refl _) _
  have HY : Hid (LyAt w (w1.alloc (.cells (opC o (.slice fa o.fams.length fc) (.slice aa o.adds.length ac) (.slice ka o.kept.length kc)) 27)) o (.slice fa0 o.fams.length fc0) (.slice aa0 o.adds.length ac0) (.slice ka0 o.kept.length kc0) (.slice fa o.fams.length fc) (.slice aa o.adds.length ac) (.slice ka o.kept.length kc) w1.heap.size) :=
    ⟨blk10 hba (blk10 hb1 HT0.out), hp_new rfl, HW1.out.trans (hba.mono HW1.out.size), (HL0.out.below HW1.out).below hba, hl1.below hba, (HG.out.below HW1.out).below hba⟩
  clear hl1 hb1 hba KO HB0 HT0 HL0
  unfold opC at HY
  unfold opV opC at KE KR
  go_wp2_with fail
  refine Calls.mono (KE.out _ _ _ _ HY.out.g HY.out.l2) ?_
  rintro e w2 ⟨rfl, hb2⟩
  have HY2 : Hid (LyAt w w2 o (.slice fa0 o.fams.length fc0) (.slice aa0 o.adds.length ac0) (.slice ka0 o.kept.length kc0) (.slice fa o.fams.length fc) (.slice aa o.adds.length ac) (.slice ka o.kept.length kc) w1.heap.size) := HY.out.next hb2
  clear hb2 HY
  have c0 : w2.cell? ⟨w.heap.size, 0, none⟩ = some (.int .u32 o.asn) := cl_row HY2.out.r1 rfl
  have c1 : w2.cell? ⟨w.heap.size, 1, none⟩ = some (.int .i64 o.hold) := cl_row HY2.out.r1 rfl
  have c2 : w2.cell? ⟨w.heap.size, 2, none⟩ = some (.int .u32 o.id) := cl_row HY2.out.r1 rfl
  have c3 : w2.cell? ⟨w.heap.size, 3, none⟩ = some (.slice fa0 o.fams.length fc0) := cl_row HY2.out.r1 rfl
  have c4 : w2.cell? ⟨w.heap.size, 4, none⟩ = some (.bool o.four) := cl_row HY2.out.r1 rfl
  have c5 : w2.cell? ⟨w.heap.size, 5, none⟩ = some (.bool o.refr) := cl_row HY2.out.r1 rfl
  have c6 : w2.cell? ⟨w.heap.size, 6, none⟩ = some (.slice aa0 o.adds.length ac0) := cl_row HY2.out.r1 rfl
  have c7 : w2.cell? ⟨w.heap.size, 7, none⟩ = some (.bool o.gr) := cl_row HY2.out.r1 rfl
  have c8 : w2.cell? ⟨w.heap.size, 8, none⟩ = some (.bool o.again) := cl_row HY2.out.r1 rfl
  have c9 : w2.cell? ⟨w.heap.size, 9, none⟩ = some (.int .i64 o.time) := cl_row HY2.out.r1 rfl
  have c10 : w2.cell? ⟨w.heap.size, 10, none⟩ = some (.slice ka0 o.kept.length kc0) := cl_row HY2.out.r1 rfl
  go_wp2_with fail
  refine Calls.mono (KR.out _ _ _ _ HY2.out.l1) ?_
  rintro e w3 ⟨rfl, hb3⟩
  have HY3 : Hid (LyAt w w3 o (.slice fa0 o.fams.length fc0) (.slice aa0 o.adds.length ac0) (.slice ka0 o.kept.length kc0) (.slice fa o.fams.length fc) (.slice aa o.adds.length ac) (.slice ka o.kept.length kc) w1.heap.size) := HY2.out.next hb3
  clear hb3 HY2 c0 c1 c2 c3 c4 c5 c6 c7 c8 c9 c10 KE KR
  obtain ⟨S, hS⟩ : ∃ S : World → Prop, S = fun w' => LyAt w w' o (.slice fa0 o.fams.length fc0) (.slice aa0 o.adds.length ac0) (.slice ka0 o.kept.length kc0) (.slice fa o.fams.length fc) (.slice aa o.adds.length ac) (.slice ka o.kept.length kc) w1.heap.size := ⟨_, rfl⟩
  have hs3 : Held10 S w3.drew := by unfold Held10; rw [hS]; exact HY3.out.drew
  have HZZ : Hid (∀ w', Held10 S w' → Below w.heap.size w w') := fun w' h => by unfold Held10 at h; rw [hS] at h; exact h.bel
  have k0 : ∀ w', Held10 S w' → w'.cell? ⟨w.heap.size, 0, none⟩ = some (.int .u32 o.asn) := fun w' h => by unfold Held10 at h; rw [hS] at h; exact cl_row h.r1 rfl
  have k1 : ∀ w', Held10 S w' → w'.cell? ⟨w.heap.size, 1, none⟩ = some (.int .i64 o.hold) := fun w' h => by unfold Held10 at h; rw [hS] at h; exact cl_row h.r1 rfl
  have k2 : ∀ w', Held10 S w' → w'.cell? ⟨w.heap.size, 2, none⟩ = some (.int .u32 o.id) := fun w' h => by unfold Held10 at h; rw [hS] at h; exact cl_row h.r1 rfl
  have k3 : ∀ w', Held10 S w' → w'.cell? ⟨w.heap.size, 3, none⟩ = some (.slice fa0 o.fams.length fc0) := fun w' h => by unfold Held10 at h; rw [hS] at h; exact cl_row h.r1 rfl
  have k4 : ∀ w', Held10 S w' → w'.cell? ⟨w.heap.size, 4, none⟩ = some (.bool o.four) := fun w' h => by unfold Held10 at h; rw [hS] at h; exact cl_row h.r1 rfl
  have k5 : ∀ w', Held10 S w' → w'.cell? ⟨w.heap.size, 5, none⟩ = some (.bool o.refr) := fun w' h => by unfold Held10 at h; rw [hS] at h; exact cl_row h.r1 rfl
  have k6 : ∀ w', Held10 S w' → w'.cell? ⟨w.heap.size, 6, none⟩ = some (.slice aa0 o.adds.length ac0) := fun w' h => by unfold Held10 at h; rw [hS] at h; exact cl_row h.r1 rfl
  have k7 : ∀ w', Held10 S w' → w'.cell? ⟨w.heap.size, 7, none⟩ = some (.bool o.gr) := fun w' h => by unfold Held10 at h; rw [hS] at h; exact cl_row h.r1 rfl
  have k8 : ∀ w', Held10 S w' → w'.cell? ⟨w.heap.size, 8, none⟩ = some (.bool o.again) := fun w' h => by unfold Held10 at h; rw [hS] at h; exact cl_row h.r1 rfl
  have k9 : ∀ w', Held10 S w' → w'.cell? ⟨w.heap.size, 9, none⟩ = some (.int .i64 o.time) := fun w' h => by unfold Held10 at h; rw [hS] at h; exact cl_row h.r1 rfl
  have k10 : ∀ w', Held10 S w' → w'.cell? ⟨w.heap.size, 10, none⟩ = some (.slice ka0 o.kept.length kc0) := fun w' h => by unfold Held10 at h; rw [hS] at h; exact cl_row h.r1 rfl
  have m0 : ∀ w', Held10 S w' → w'.cell? ⟨w1.heap.size, 0, none⟩ = some (.int .u32 o.asn) := fun w' h => by unfold Held10 at h; rw [hS] at h; exact cl_row h.r2 rfl
  have m1 : ∀ w', Held10 S w' → w'.cell? ⟨w1.heap.size, 1, none⟩ = some (.int .i64 o.hold) := fun w' h => by unfold Held10 at h; rw [hS] at h; exact cl_row h.r2 rfl
  have m2 : ∀ w', Held10 S w' → w'.cell? ⟨w1.heap.size, 2, none⟩ = some (.int .u32 o.id) := fun w' h => by unfold Held10 at h; rw [hS] at h; exact cl_row h.r2 rfl
  have m3 : ∀ w', Held10 S w' → w'.cell? ⟨w1.heap.size, 3, none⟩ = some (.slice fa o.fams.length fc) := fun w' h => by unfold Held10 at h; rw [hS] at h; exact cl_row h.r2 rfl
  have m4 : ∀ w', Held10 S w' → w'.cell? ⟨w1.heap.size, 4, none⟩ = some (.bool o.four) := fun w' h => by unfold Held10 at h; rw [hS] at h; exact cl_row h.r2 rfl
  have m5 : ∀ w', Held10 S w' → w'.cell? ⟨w1.heap.size, 5, none⟩ = some (.bool o.refr) := fun w' h => by unfold Held10 at h; rw [hS] at h; exact cl_row h.r2 rfl
  have m6 : ∀ w', Held10 S w' → w'.cell? ⟨w1.heap.size, 6, none⟩ = some (.slice aa o.adds.length ac) := fun w' h => by unfold Held10 at h; rw [hS] at h; exact cl_row h.r2 rfl
  have m7 : ∀ w', Held10 S w' → w'.cell? ⟨w1.heap.size, 7, none⟩ = some (.bool o.gr) := fun w' h => by unfold Held10 at h; rw [hS] at h; exact cl_row h.r2 rfl
  have m8 : ∀ w', Held10 S w' → w'.cell? ⟨w1.heap.size, 8, none⟩ = some (.bool o.again) := fun w' h => by unfold Held10 at h; rw [hS] at h; exact cl_row h.r2 rfl
  have m9 : ∀ w', Held10 S w' → w'.cell? ⟨w1.heap.size, 9, none⟩ = some (.int .i64 o.time) := fun w' h => by unfold Held10 at h; rw [hS] at h; exact cl_row h.r2 rfl
  have m10 : ∀ w', Held10 S w' → w'.cell? ⟨w1.heap.size, 10, none⟩ = some (.slice ka o.kept.length kc) := fun w' h => by unfold Held10 at h; rw [hS] at h; exact cl_row h.r2 rfl
  have M11 : Hid (∀ X, Held10 S X → Calls Tryd.prog 11 #[opV o (.slice fa o.fams.length fc) (.slice aa o.adds.length ac) (.slice ka o.kept.length kc)] X fun e w' => e = .returned (.int .i64 ce) ∧ Held10 S w') := fun X h => by
    unfold Held10 at *; rw [hS] at *
    exact (KC.out _ _ _ X h.g h.l2).mono fun e w' ⟨x, y⟩ => ⟨x, h.next y⟩
  have M12 : Hid (∀ X, Held10 S X → Calls Tryd.prog 12 #[opV o (.slice fa0 o.fams.length fc0) (.slice aa0 o.adds.length ac0) (.slice ka0 o.kept.length kc0)] X fun e w' => e = .returned (.int .i64 ce) ∧ Held10 S w') := fun X h => by
    unfold Held10 at *; rw [hS] at *
    exact (KD.out _ _ _ X h.l1).mono fun e w' ⟨x, y⟩ => ⟨x, h.next y⟩
  have M13 : Hid (∀ X, Held10 S X → Calls Tryd.prog 13 #[opV o (.slice fa o.fams.length fc) (.slice aa o.adds.length ac) (.slice ka o.kept.length kc), opV o (.slice fa0 o.fams.length fc0) (.slice aa0 o.adds.length ac0) (.slice ka0 o.kept.length kc0)] X fun e w' => e = .returned (.bool true) ∧ Held10 S w') := fun X h => by
    unfold Held10 at *; rw [hS] at *
    exact (KS.out _ _ _ _ _ _ X h.l2 h.l1).mono fun e w' ⟨x, y⟩ => ⟨x, h.next y⟩
  have M14 : Hid (∀ X, Held10 S X → Calls Tryd.prog 14 #[] X fun e w' => e = .returned (.bool true) ∧ Held10 S w') := fun X h => by
    unfold Held10 at *; rw [hS] at *
    exact (works_any X h.g).mono fun e w' ⟨x, y⟩ => ⟨x, h.next y⟩
  unfold opV opC at M11 M12 M13
  clear hS HY3 KC KD KS HG HW1
  generalize o.asn = x0 at *
  generalize o.hold = x1 at *
  generalize o.id = x2 at *
  generalize o.four = x4 at *
  generalize o.refr = x5 at *
  generalize o.gr = x7 at *
  generalize o.again = x8 at *
  generalize o.time = x9 at *
  generalize o.fams.length = nf at *
  generalize o.adds.length = na at *
  generalize o.kept.length = nk at *
  go_wp2
  go_region_held3 (fun w' => Held10 S w') (with_reducible assumption)
    (first | (go_at_call 11; refine (M11.out _ (by with_reducible assumption)).mono ?_; rintro e wa ⟨rfl, sA⟩) | (go_at_call 12; refine (M12.out _ (by with_reducible assumption)).mono ?_; rintro e wb ⟨rfl, sB⟩) | (go_at_call 13; refine (M13.out _ (by with_reducible assumption)).mono ?_; rintro e wd ⟨rfl, sD⟩) | (go_at_call 14; refine (M14.out _ (by with_reducible assumption)).mono ?_; rintro e we ⟨rfl, sE2⟩))
  go_wp2
  go_ret
  exact ⟨rfl, HZZ.out _ (by with_reducible assumption)⟩
end Go.Proofs.YtlhnfejgkhilkaaDoor
