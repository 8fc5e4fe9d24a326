/-
  Readers that are none: nil, and one that New did not make.
-/
import Derived.Test.YtbkpadjnnlcknaaA8
namespace Go.Proofs.Ytbkpadjnnlcknaa
open Go.RowKit
theorem take_nil (n : Int) (w : World) :
    Calls Try.prog 10 #[.pointer none, .int .i64 n] w fun e w' => e = .returned (.tuple #[.string ⟨#[]⟩, .bool false]) ∧ w' = w := by
  go_enter Try.func10, Try.ntmps10
  go_wp2
  go_ret2
  exact ⟨rfl, rfl⟩
theorem left_nil (w : World) :
    Calls Try.prog 15 #[.pointer none] w fun e w' => e = .returned (.int .i64 0) ∧ w' = w := by
  go_enter Try.func15, Try.ntmps15
  go_wp2
  go_ret
  exact ⟨rfl, rfl⟩
theorem rest_nil (w : World) :
    Calls Try.prog 14 #[.pointer none] w fun e w' => e = .returned (.string ⟨#[]⟩) ∧ w' = w := by
  go_enter Try.func14, Try.ntmps14
  go_wp2_with (first | (go_at_call 15; refine (left_nil _).mono ?_; rintro e w' ⟨rfl, rfl⟩) | (go_at_call 10; refine (take_nil 0 _).mono ?_; rintro e w' ⟨rfl, rfl⟩))
  go_ret
  exact ⟨rfl, rfl⟩
theorem take_un (p : Nat) (n : Int) (w : World) (c0 : w.cell? ⟨p, 0, none⟩ = some (.bool false)) :
    Calls Try.prog 10 #[.pointer (some ⟨p, 0, none⟩), .int .i64 n] w fun e w' => e = .returned (.tuple #[.string ⟨#[]⟩, .bool false]) ∧ w' = w := by
  go_enter Try.func10, Try.ntmps10
  go_wp2
  go_ret2
  exact ⟨rfl, rfl⟩
theorem left_un (p : Nat) (s : ByteArray) (w : World) (c1 : w.cell? ⟨p, 1, none⟩ = some (.string s)) :
    Calls Try.prog 15 #[.pointer (some ⟨p, 0, none⟩)] w fun e w' => e = .returned (.int .i64 (s.size : Int)) ∧ w' = w := by
  go_enter Try.func15, Try.ntmps15
  go_wp2
  go_ret
  exact ⟨rfl, rfl⟩
theorem number_un (p : Nat) (n : Nat) (w : World) (hp : p < w.heap.size) (c0 : w.cell? ⟨p, 0, none⟩ = some (.bool false)) :
    Calls Try.prog 24 #[.func (.func 10) #[.pointer (some ⟨p, 0, none⟩)] #[], .int .i64 (n : Int)] w fun e w' =>
      e = .returned (.tuple #[.int .u64 0, .bool false]) ∧ Below w.heap.size w w' := by
  have hb : Below w.heap.size w (w.alloc (.cells #[.int .u64 0] 31)) := (Below.refl _ _).alloc (by simp) _
  have c0' := (hb.cell (p := ⟨p, 0, none⟩) hp).trans c0
  go_enter Try.func24, Try.ntmps24
  go_wp2_with (go_at_call 10; refine (take_un p n _ c0').mono ?_; rintro e w' ⟨rfl, rfl⟩)
  refine wp_loop_rounds 1 ?_
  rw [rounds_succ]
  go_wp2
  go_ret2
  exact ⟨rfl, hb⟩
theorem num_un (p : Nat) (n : Nat) (w : World) (hp : p < w.heap.size) (c0 : w.cell? ⟨p, 0, none⟩ = some (.bool false)) (h0 : 1 ≤ n) (h1 : n ≤ 8) :
    Calls Try.prog 12 #[.pointer (some ⟨p, 0, none⟩), .int .i64 (n : Int)] w fun e w' => e = .returned (.tuple #[.int .u64 0, .bool false]) ∧ Below w.heap.size w w' := by
  go_enter Try.func12, Try.ntmps12
  go_wp2_with (first | (go_at_call 23; refine (isSize_yes _ (by omega) (by omega) _).mono ?_; rintro e w' ⟨rfl, rfl⟩) | (go_at_call 24; refine (number_un p n _ hp c0).mono ?_; rintro e w' ⟨rfl, h2⟩))
  go_ret2
  exact ⟨rfl, h2⟩
end Go.Proofs.Ytbkpadjnnlcknaa
