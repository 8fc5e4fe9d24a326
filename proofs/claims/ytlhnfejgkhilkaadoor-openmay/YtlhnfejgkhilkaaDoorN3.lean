/-
  OpenMay: what is taken may be, and what is not is nothing.
-/
import Derived.Test.YtlhnfejgkhilkaaDoorN2
set_option linter.unusedVariables false
set_option linter.unusedSimpArgs false
namespace Go.Proofs.YtlhnfejgkhilkaaDoor
open Go.RowKit
set_option maxRecDepth 100000 in
set_option maxHeartbeats 3200000 in
theorem may_walk (l : List UInt8) (w : World) (hg : FamSizes w) : Calls Tryd.prog 7 #[.string ⟨l.toArray⟩] w fun e w' => e = .returned (.bool true) ∧ Below w.heap.size w w' := by
  have HG : Hid (FamSizes w) := hg
  have K0 : Hid (_ : Prop) := works_any w hg
  clear hg
  cases hd : decI l with
  | error n =>
    have KD : Hid (∀ X, FamSizes X → Calls Tryd.prog 15 #[.string ⟨l.toArray⟩] X fun e w' => e = .returned (.tuple #[opV zO nilS nilS nilS, vdt 3 2 (n : Int)]) ∧ Below X.heap.size X w') := fun X hX => by
      have := decode_any l X hX
      rw [hd] at this
      exact this
    clear hd
    unfold opV opC zO nilS vdt at KD
    go_enter Tryd.func7, Tryd.ntmps7
    go_wp2_with fail
    refine Calls.mono K0.out ?_
    rintro e w1 ⟨rfl, hb1⟩
    have HB1 : Hid (Below w.heap.size w w1) := hb1
    have K1 : Hid (_ : Prop) := KD.out w1 (HG.out.below hb1)
    clear hb1 KD K0
    go_wp2_with fail
    refine Calls.mono K1.out ?_
    rintro e w2 ⟨rfl, hb2⟩
    have HB2 : Hid (Below w.heap.size w w2) := HB1.out.trans (hb2.mono HB1.out.size)
    clear hb2
    go_wp2
    go_ret
    exact ⟨rfl, (HB2.out.alloc HB2.out.size _).alloc (by have := HB2.out.size; simp; omega) _⟩
  | ok o =>
    have KD : Hid (∀ X, FamSizes X → Calls Tryd.prog 15 #[.string ⟨l.toArray⟩] X fun e w' => DecOk X.heap.size (.ok o) e w' ∧ Below X.heap.size X w') := fun X hX => by
      have := decode_any l X hX
      rw [hd] at this
      exact this
    have HM : Hid (OpOk o → mayB o = true) := fun hk => (decI_may hd hk).1
    clear hd
    go_enter Tryd.func7, Tryd.ntmps7
    go_wp2_with fail
    refine Calls.mono K0.out ?_
    rintro e w1 ⟨rfl, hb1⟩
    have HB1 : Hid (Below w.heap.size w w1) := hb1
    have K1 : Hid (_ : Prop) := KD.out w1 (HG.out.below hb1)
    clear hb1 KD K0
    go_wp2_with fail
    refine Calls.mono K1.out ?_
    rintro e w2 ⟨⟨vf, va, vk, rfl, h1, h2, h3, h4⟩, hb2⟩
    have HB2 : Hid (Below w.heap.size w w2) := HB1.out.trans (hb2.mono HB1.out.size)
    have HL : Hid (ListsAt w2 o vf va vk) := lists_of_owns h1 h2 h3
    have hm := HM.out h4
    have hba : Below w2.heap.size w2 ((w2.alloc (.cells (opC o vf va vk) 27)).alloc (.cells #[.int .i64 0, .int .u8 0, .int .u8 0] 37)) := ((Below.refl _ _).alloc (Nat.le_refl _) _).alloc (by simp) _
    have KC : Hid (_ : Prop) := check_any o vf va vk _ ((HG.out.below HB2.out).below hba) (HL.out.below hba)
    rw [hm, if_pos rfl] at KC
    have HB3 : Hid (Below w.heap.size w _) := HB2.out.trans (hba.mono HB2.out.size)
    obtain ⟨a1, k1, rfl⟩ := slice_of_owns h1
    obtain ⟨a2, k2, rfl⟩ := slice_of_owns h2
    obtain ⟨a3, k3, rfl⟩ := slice_of_owns h3
    clear h1 h2 h3 h4 hb2 hm hba HM HL
    unfold opV opC at KC
    unfold opC at HB3
    unfold opV opC vdt
    dsimp only at KC HB3 ⊢
    go_wp2_with fail
    refine Calls.mono KC.out ?_
    rintro e w3 ⟨rfl, hb3⟩
    go_wp2
    go_ret
    exact ⟨rfl, HB3.out.trans (hb3.mono HB3.out.size)⟩
end Go.Proofs.YtlhnfejgkhilkaaDoor
