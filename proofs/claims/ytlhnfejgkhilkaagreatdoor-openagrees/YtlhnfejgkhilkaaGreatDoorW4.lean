/-
  The reference's Check for every open; its Encode where an open may not be.
-/
import Derived.Test.YtlhnfejgkhilkaaGreatDoorVa
import Derived.Test.YtlhnfejgkhilkaaGreatDoorM0
import Derived.Test.YtlhnfejgkhilkaaGreatDoorP4
set_option linter.unusedVariables false
set_option linter.unusedSimpArgs false
namespace Go.Proofs.YtlhnfejgkhilkaaGreatDoor
open Go.RowKit
theorem bad1_no {o : Opn} (h : bad1 o = true) : mayB o = false := by
  cases hm : mayB o with
  | false => rfl
  | true =>
    have hM := mayF_of hm
    have h1 := hM.a
    have h2 := hM.s
    have h3 := hM.hd
    have h4 := hM.h
    have h5 := hM.i
    have h6 := hM.n
    unfold bad1 at h
    unfold holdB at h4
    simp only [Bool.or_eq_true, Bool.and_eq_true, decide_eq_true_eq, beq_iff_eq, Bool.not_eq_true'] at h h4
    rcases h2 with h2 | h2
    · rcases h with ((((((h | h) | h) | h) | h) | h) | h) | h <;> first | omega | (rw [h2] at h; exact absurd h.1 (by decide))
    · omega
theorem bad1_yes {o : Opn} (hw : OpnWf o) (h : bad1 o = false) : mayB o = (risF 0 o.fams && risF 0 (o.adds.map (·.f)) && !(o.adds.any idleB) && restB o) := by
  have a0 := hw.a0
  have i0 := hw.i0
  unfold bad1 at h
  simp only [Bool.or_eq_false_iff, Bool.and_eq_false_iff, beq_eq_false_iff_ne, decide_eq_false_iff_not, Bool.not_eq_false'] at h
  obtain ⟨⟨⟨⟨⟨⟨⟨m1, m2⟩, m3⟩, m4⟩, m5⟩, m6⟩, m7⟩, m8⟩ := h
  have e1 : decide (0 < o.asn) = true := decide_eq_true (by omega)
  have e2 : (o.four || decide (o.asn ≤ 65535)) = true := by
    rcases m2 with m2 | m2
    · rw [m2]; rfl
    · rw [decide_eq_true (by omega)]; simp
  have e3 : holdB o.hold = true := by
    unfold holdB
    simp only [Bool.or_eq_true, Bool.and_eq_true, decide_eq_true_eq, beq_iff_eq]
    omega
  have e4 : decide (0 < o.id) = true := decide_eq_true (by omega)
  have e5 : decide (0 < (o.fams.length : Int)) = true := decide_eq_true (by omega)
  unfold mayB
  rw [e1, e2, e3, e4, e5]
  simp
theorem rcheck_any (o : Opn) (vf va vk : Value) (w : World) (h : ListsAt w o vf va vk) (hw : OpnWf o) :
    Calls Tryz.prog 18 #[opV o vf va vk] w fun e w' => e = .returned (.int .i64 (if mayB o = true then 0 else 2)) ∧ Below w.heap.size w w' := by
  cases hb : bad1 o with
  | true =>
    rw [bad1_no hb]
    exact rcheck_bad1 o vf va vk w h hb
  | false =>
    rw [bad1_yes hw hb]
    exact rcheck_good o vf va vk w h hb
end Go.Proofs.YtlhnfejgkhilkaaGreatDoor
