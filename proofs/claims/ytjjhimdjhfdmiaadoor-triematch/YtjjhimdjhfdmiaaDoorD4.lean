/-
  The contracts of New, Copy and Len.
-/
import Derived.Test.YtjjhimdjhfdmiaaDoorD2
namespace Go.Proofs.YtjjhimdjhfdmiaaDoor
open Go.Deep (BT)
open Go.RowKit
theorem HeadAt.new (w : World) (b : Nat) (p : Option Addr) (c : Int) (h : b = w.heap.size) : HeadAt (w.alloc (.cells #[.bool true, .pointer p, .int .i64 c] 54)) b p c := by
  subst h; constructor <;> simp
theorem newT_any (w : World) :
    Calls Tryd.prog 7 #[] w fun e w' => e = .returned (.pointer (some ⟨w.heap.size, 0, none⟩)) ∧ TrAt w' w.heap.size .nil 0 ∧ Below w.heap.size w w' := by
  go_enter Tryd.func7, Tryd.ntmps7
  go_wp2
  go_ret
  exact ⟨rfl, ⟨by simp, trivial, none, HeadAt.new w _ none 0 rfl, rfl⟩, (Below.refl _ _).alloc (Nat.le_refl _) _⟩
theorem copyT_any (tb : Nat) (t : T) (c : Int) (w : World) (ht : TrAt w tb t c) :
    Calls Tryd.prog 17 #[.pointer (some ⟨tb, 0, none⟩)] w fun e w' => e = .returned (.pointer (some ⟨w.heap.size, 0, none⟩)) ∧ TrAt w' w.heap.size t c ∧ Below w.heap.size w w' := by
  obtain ⟨lt, wf, p, hd, hrep⟩ := ht
  obtain ⟨h0, h1, h2, _, _⟩ := id hd
  have hW : Below w.heap.size w (w.alloc (.cells #[.bool true, .pointer p, .int .i64 c] 54)) := (Below.refl _ _).alloc (Nat.le_refl _) _
  go_enter Tryd.func17, Tryd.ntmps17
  go_wp2
  go_ret
  exact ⟨rfl, ⟨by simp, wf, p, HeadAt.new w _ p c rfl, (Rep.mono (fun j h => by have := h.2; omega) _ _ (Rep.lt t p hrep)).below hW⟩, hW⟩
theorem lenT_any (tb : Nat) (t : T) (c : Int) (w : World) (ht : TrAt w tb t c) :
    Calls Tryd.prog 12 #[.pointer (some ⟨tb, 0, none⟩)] w fun e w' => e = .returned (.int .i64 c) ∧ w' = w := by
  obtain ⟨lt, wf, p, hd, hrep⟩ := ht
  have h2 := hd.c2
  go_enter Tryd.func12, Tryd.ntmps12
  go_wp2
  go_ret
  exact ⟨rfl, rfl⟩
end Go.Proofs.YtjjhimdjhfdmiaaDoor
