/-
  Take's closure that puts the keys into order.
-/
import Derived.Test.YtgplhdhnailpfaaE1
set_option linter.unusedSimpArgs false
set_option maxRecDepth 100000
namespace Go.Proofs.Ytgplhdhnailpfaa
open Go.RowKit Go.Maps
theorem inOrder_any {p b kb base : Nat} {L : List Fd} {w : World} {v : Value} {ss : List Ky} (h : WhAt w p b L) (hk : w.cell? ⟨kb, 0, none⟩ = some v) (ho : OwnK w base v ss) (h1 : v.ownBlock ≠ some p) (h2 : v.ownBlock ≠ some b) (hl : ss.length ≤ 60000) :
    Calls Try.prog 31 #[.func (.func 37) #[.pointer (some ⟨p, 0, none⟩)] #[], .pointer (some ⟨kb, 0, none⟩)] w fun e w' => e = .returned (.tuple #[]) ∧ KeysAt w' v (sortT L ss) ∧ w.grownBy w' v.ownBlock := by
  have hb1 : Below w.heap.size w (w.alloc (.cells #[.func (.func 37) #[.pointer (some ⟨p, 0, none⟩)] #[]] 65)) := (Below.refl _ _).alloc (Nat.le_refl _) _
  have h3 : v.ownBlock ≠ some w.heap.size := fun e => by have := (owns_lt ho _ e).2; omega
  have hs := sort_any (tb := w.heap.size) (h.below hb1) (by simp) (owns_below ho hb1) h1 h2 h3 hl
  have hk1 := cell2 hb1 hk
  obtain ⟨ad, c, rfl⟩ := slice_of_owns ho
  have HS : Hid (_ : Prop) := hs
  have HG : Hid (w.grownBy (w.alloc (.cells #[.func (.func 37) #[.pointer (some ⟨p, 0, none⟩)] #[]] 65)) (Value.ownBlock (.slice ad ss.length c))) := grown_of_below hb1 _
  clear h ho h1 h2 h3 hl hs hb1
  go_enter Try.func31, Try.ntmps31
  go_wp2_with (go_at_call 32; refine Calls.mono HS.out ?_; rintro e w2 ⟨rfl, hka, hg⟩)
  go_end0
  exact ⟨rfl, hka, HG.out.trans hg⟩
end Go.Proofs.Ytgplhdhnailpfaa
