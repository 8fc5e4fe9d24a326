/-
  The example there and back: works; OpenMay.
-/
import Derived.Test.YtlhnfejgkhilkabDoorN1
set_option linter.unusedVariables false
set_option linter.unusedSimpArgs false
namespace Go.Proofs.YtlhnfejgkhilkabDoor
open Go.RowKit
theorem lists_of_owns {w : World} {base : Nat} {o : Opn} {vf va vk : Value} (h1 : w.ownsRow base 3 1 vf o.fams.length (intsC o.fams)) (h2 : w.ownsRow base 51 3 va o.adds.length (addsC o.adds)) (h3 : w.ownsRow base 45 2 vk o.kept.length (keptC o.kept)) : ListsAt w o vf va vk := ⟨ints_of_owns h1, adds_of_owns h2, kept_of_owns h3⟩
set_option maxRecDepth 100000 in
set_option maxHeartbeats 3200000 in
theorem works_any (w : World) (hg : FamSizes w) : Calls Tryd.prog 5 #[] w fun e w' => e = .returned (.bool true) ∧ Below w.heap.size w w' := by
  have HG : Hid (FamSizes w) := hg
  have KE : Hid (∀ X vf, FamSizes X → ListsAt X oneO vf nilS nilS → Calls Tryd.prog 12 #[opV oneO vf nilS nilS] X fun e w' => e = .returned (.tuple #[.string ⟨#[4, 0, 1, 0, 90, 10, 0, 0, 1, 8, 2, 6, 1, 4, 0, 1, 0, 1]⟩, .int .i64 0]) ∧ Below X.heap.size X w') := fun X vf hX hL => by
    have := encode_yes oneO vf nilS nilS X hX hL ⟨by decide, by decide, by decide, by decide⟩ may_one
    rw [enc_one] at this
    exact this
  have KD : Hid (∀ X, FamSizes X → Calls Tryd.prog 8 #[.string ⟨#[4, 0, 1, 0, 90, 10, 0, 0, 1, 8, 2, 6, 1, 4, 0, 1, 0, 1]⟩] X fun e w' => DecOk X.heap.size (.ok oneO) e w' ∧ Below X.heap.size X w') := fun X hX => by
    have := decode_any smallL X hX
    rw [dec_one] at this
    exact this
  clear hg
  go_enter Tryd.func5, Tryd.ntmps5
  go_wp2_with fail
  refine Calls.mono (one_any w) ?_
  rintro e w1 ⟨⟨vf, rfl, hl1⟩, hb1⟩
  have HB1 : Hid (Below w.heap.size w w1) := hb1
  have K1 : Hid (_ : Prop) := KE.out w1 vf (HG.out.below hb1) hl1
  clear hb1 hl1 KE
  go_wp2_with fail
  refine Calls.mono K1.out ?_
  rintro e w2 ⟨rfl, hb2⟩
  have HB2 : Hid (Below w.heap.size w w2) := HB1.out.trans (hb2.mono HB1.out.size)
  have K2 : Hid (_ : Prop) := KD.out w2 (HG.out.below HB2.out)
  clear hb2 HB1 K1 KD
  go_wp2_with fail
  refine Calls.mono K2.out ?_
  rintro e w3 ⟨⟨vf3, va3, vk3, rfl, h1, h2, h3, h4⟩, hb3⟩
  have HB3 : Hid (Below w.heap.size w w3) := HB2.out.trans (hb3.mono HB2.out.size)
  obtain ⟨ad, b, off, cap, rfl, had, hcap, hrow⟩ := ints_of_owns h1
  obtain rfl : ad = some ⟨b, off, none⟩ := by
    rcases had with h | h
    · exact h
    · simp [oneO] at h
  have hr0 : w3.cell? ⟨b, off, none⟩ = some (.int .i64 1) := hrow 0 (by simp [oneO])
  have hbl := lt_of_cell hr0
  have hcap1 : 1 ≤ cap := hcap
  obtain ⟨a2, k2, rfl⟩ := slice_of_owns h2
  obtain ⟨a3, k3, rfl⟩ := slice_of_owns h3
  clear h1 h2 h3 h4 hb3 hrow had K2 HB2
  unfold opV opC vdt oneO
  dsimp only
  go_wp2
  go_ret
  exact ⟨rfl, (HB3.out.alloc HB3.out.size _).alloc (by have := HB3.out.size; simp; omega) _⟩
end Go.Proofs.YtlhnfejgkhilkabDoor
