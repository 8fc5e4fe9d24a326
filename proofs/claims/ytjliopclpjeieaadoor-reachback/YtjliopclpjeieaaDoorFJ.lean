/-
  ReachBack's walk.
-/
import Derived.Test.YtjliopclpjeieaaDoorFIa
import Derived.Test.YtjliopclpjeieaaDoorFIb
import Derived.Test.YtjliopclpjeieaaDoorFIc
import Derived.Test.YtjliopclpjeieaaDoorFId
namespace Go.Proofs.YtjliopclpjeieaaDoor
open Go.RowKit
/-- ReachBack, over the table of families. -/
theorem back_walk (F : Int) (nx : List UInt8) (v0 : Value) (R : List Nl) (add : Bool) (vo : Value) (L : List Int) (W : World) (hT : Tb W) (hR : NlsAt W v0 R) (hw : ∀ n ∈ R, NlWf n) (hL : IntsAt W vo L) :
    Calls Tryd.prog 6 #[.agg #[.int .i64 F, .string ⟨nx.toArray⟩, v0], .bool add, vo] W fun e w' => e = .returned (.bool true) ∧ Below W.heap.size W w' := by
  obtain ⟨ad, b, off, cap, rfl, had, hcap, hrow⟩ := hR
  have h1 := NlsAt.cut had hcap hrow 2000
  have h2 : (R.take 2000).length ≤ 30000 := by simp; omega
  have h3 : ∀ n ∈ R.take 2000, NlWf n := fun n hn => hw n (List.mem_of_mem_take hn)
  have h4 : min (R.length : Int) 2000 = ((R.take 2000).length : Int) := by simp; omega
  have h5 : ((R.take 2000).length : Int) ≤ cap := Int.ofNat_le.2 (Nat.le_trans (by simp; omega) hcap)
  cases ad with
  | none =>
    have h0 : R.length = 0 := by rcases had with h | h; cases h; exact h
    have h0r : (R.take 2000).length = 0 := by simp [h0]
    cases add with
    | true => exact back_yesN F nx R.length cap _ _ vo L W hT rfl h0 h0r h1 h2 h3 hL
    | false => exact back_noN F nx R.length cap _ _ vo L W hT rfl h0 h0r h1 h2 h3 hL
  | some a =>
    cases add with
    | true => exact back_yesS F nx a R.length cap _ _ vo L W hT rfl h4 h5 h1 h2 h3 hL
    | false => exact back_noS F nx a R.length cap _ _ vo L W hT rfl h4 h5 h1 h2 h3 hL
end Go.Proofs.YtjliopclpjeieaaDoor
