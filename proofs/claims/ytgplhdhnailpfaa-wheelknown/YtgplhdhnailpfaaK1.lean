/-
  Wheels that are none.
-/
import Derived.Test.YtgplhdhnailpfaaG1
import Derived.Laws.IdiomRangeMap
set_option linter.unusedSimpArgs false
set_option maxRecDepth 100000
namespace Go.Proofs.Ytgplhdhnailpfaa
open Go.RowKit Go.Maps Go.Shelf
theorem look_none (c : Bool) (k : Ky) (w : World) : (Instr.lookup 60 (.map none) (.agg #[.int .i64 k.kind, .string k.peer, .int .i64 k.fam]) c).run Try.prog w = .ok (if c then .tuple #[.int .u64 0, .bool false] else .int .u64 0) w :=
  Maps.look_nil c law Try.underlying60 (zero28 w) (keyOf_mk k)
theorem at_nil (k : Ky) (w : World) : Calls Try.prog 8 #[.pointer none, .agg #[.int .i64 k.kind, .string k.peer, .int .i64 k.fam]] w fun e w' => e = .returned (.tuple #[.int .u64 0, .bool false]) ∧ Below w.heap.size w w' := by
  have hl : ∀ W, (Instr.lookup 60 (.map none) (.agg #[.int .i64 k.kind, .string k.peer, .int .i64 k.fam]) true).run Try.prog W = .ok (.tuple #[.int .u64 0, .bool false]) W := fun W => look_none true k W
  go_enter Try.func8, Try.ntmps8
  go_wp2
  go_quiet ((go_at_call 26; exact Calls.quiet_of_same (timers_nil _)))
  go_wp2
  go_ret2
  exact ⟨rfl, below_drewN ((Below.refl _ _).alloc (Nat.le_refl _) _) _⟩
theorem arm_nil (k : Ky) (t : Int) (w : World) : Calls Try.prog 10 #[.pointer none, .agg #[.int .i64 k.kind, .string k.peer, .int .i64 k.fam], .int .u64 t] w fun e w' => e = .returned (.int .i64 1) ∧ Below w.heap.size w w' := by
  have hl : ∀ W, (Instr.lookup 60 (.map none) (.agg #[.int .i64 k.kind, .string k.peer, .int .i64 k.fam]) true).run Try.prog W = .ok (.tuple #[.int .u64 0, .bool false]) W := fun W => look_none true k W
  have hq := nil_eql
  go_enter Try.func10, Try.ntmps10
  go_wp2_with (go_at_call 26; refine (timers_nil _).mono ?_; rintro e w' ⟨rfl, hww⟩; subst w')
  go_ret
  exact ⟨rfl, (Below.refl _ _).alloc (Nat.le_refl _) _⟩
theorem arm_none {q : Nat} (k : Ky) (t : Int) {w : World} (hc : w.cell? ⟨q, 0, none⟩ = some (.map none)) : Calls Try.prog 10 #[.pointer (some ⟨q, 0, none⟩), .agg #[.int .i64 k.kind, .string k.peer, .int .i64 k.fam], .int .u64 t] w fun e w' => e = .returned (.int .i64 1) ∧ Below w.heap.size w w' := by
  have hl : ∀ W, (Instr.lookup 60 (.map none) (.agg #[.int .i64 k.kind, .string k.peer, .int .i64 k.fam]) true).run Try.prog W = .ok (.tuple #[.int .u64 0, .bool false]) W := fun W => look_none true k W
  have hq := nil_eql
  have HC : Hid ((w.alloc (.cells #[.int .i64 k.kind, .string k.peer, .int .i64 k.fam] 27)).cell? ⟨q, 0, none⟩ = some (.map none)) := cell2 ((Below.refl _ _).alloc (Nat.le_refl _) _) hc
  clear hc
  go_enter Try.func10, Try.ntmps10
  go_wp2_with (go_at_call 26; refine (timers_none HC.out).mono ?_; rintro e w' ⟨rfl, hww⟩; subst w')
  go_ret
  exact ⟨rfl, (Below.refl _ _).alloc (Nat.le_refl _) _⟩
theorem len_nil' (w : World) : Calls Try.prog 20 #[.pointer none] w fun e w' => e = .returned (.int .i64 0) ∧ w' = w := by
  have hl : ∀ (ty : TypeId) (W : World), (Builtin.len_ #[60] ty #[.map none]).run Try.prog W = .ok (.int .i64 0) W := fun ty W => Maps.len_nil Try.underlying60 ty
  go_enter Try.func20, Try.ntmps20
  go_wp2_with (go_at_call 26; refine (timers_nil _).mono ?_; rintro e w' ⟨rfl, hww⟩; subst w')
  go_ret
  exact ⟨rfl, rfl⟩
theorem copy_nil (w : World) : Calls Try.prog 21 #[.pointer none] w fun e w' => e = .returned (.pointer none) ∧ w' = w := by
  have hq := nil_eql
  go_enter Try.func21, Try.ntmps21
  go_wp2_with (go_at_call 26; refine (timers_nil _).mono ?_; rintro e w' ⟨rfl, hww⟩; subst w')
  go_ret
  exact ⟨rfl, rfl⟩
theorem drop_nil' (s : ByteArray) (w : World) : Calls Try.prog 18 #[.pointer none, .string s] w fun e w' => e = .returned (.int .i64 0) ∧ Below w.heap.size w w' := by
  have hl : ∀ (ty : TypeId) (W : World), (Builtin.len_ #[60] ty #[.map none]).run Try.prog W = .ok (.int .i64 0) W := fun ty W => Maps.len_nil Try.underlying60 ty
  have hr : ∀ W, (Instr.range 60 (.map none)).run Try.prog W = .ok (.pointer (some ⟨W.heap.size, 0, none⟩)) (W.alloc (.mapIter none 0 #[] 0)) := fun W => run_range_nilMap W 60 27 28 Try.underlying60
  have hn : ∀ (W : World) (ty : TypeId), (Instr.next (.pointer (some ⟨W.heap.size, 0, none⟩)) false ty).run Try.prog (W.alloc (.mapIter none 0 #[] 0)) = .ok (.tuple #[.bool false]) (W.alloc (.mapIter none 0 #[] 0)) := fun W ty => run_next_nilMap W ty 0 0 #[]
  go_enter Try.func18, Try.ntmps18
  go_wp2_with (go_at_call 26; refine (timers_nil _).mono ?_; rintro e w' ⟨rfl, hww⟩; subst w')
  refine wp_loop_rounds 1 ?_
  rw [rounds_succ]
  go_wp2
  go_ret
  exact ⟨rfl, (Below.refl _ _).alloc (Nat.le_refl _) _⟩
theorem keysTo_nil (now : Int) (w : World) : Calls Try.prog 30 #[.pointer none, .int .u64 now] w fun e w' => e = .returned (.slice none 0 0) ∧ Below w.heap.size w w' := by
  have hr : ∀ W, (Instr.range 60 (.map none)).run Try.prog W = .ok (.pointer (some ⟨W.heap.size, 0, none⟩)) (W.alloc (.mapIter none 0 #[] 0)) := fun W => run_range_nilMap W 60 27 28 Try.underlying60
  have hn : ∀ (W : World) (ty : TypeId), (Instr.next (.pointer (some ⟨W.heap.size, 0, none⟩)) false ty).run Try.prog (W.alloc (.mapIter none 0 #[] 0)) = .ok (.tuple #[.bool false]) (W.alloc (.mapIter none 0 #[] 0)) := fun W ty => run_next_nilMap W ty 0 0 #[]
  go_enter Try.func30, Try.ntmps30
  go_wp2_with (go_at_call 26; refine (timers_nil _).mono ?_; rintro e w' ⟨rfl, hww⟩; subst w')
  refine wp_loop_rounds 1 ?_
  rw [rounds_succ]
  go_wp2
  go_ret
  exact ⟨rfl, (Below.refl _ _).alloc (Nat.le_refl _) _⟩
theorem inOrder_nil {kb : Nat} {w : World} (hk : w.cell? ⟨kb, 0, none⟩ = some (.slice none 0 0)) :
    Calls Try.prog 31 #[.func (.func 37) #[.pointer none] #[], .pointer (some ⟨kb, 0, none⟩)] w fun e w' => e = .returned (.tuple #[]) ∧ Below w.heap.size w w' := by
  have hb1 : Below w.heap.size w (w.alloc (.cells #[.func (.func 37) #[.pointer none] #[]] 65)) := (Below.refl _ _).alloc (Nat.le_refl _) _
  have hk1 := cell2 hb1 hk
  have HS : Hid (∀ W, Calls Try.prog 32 #[.slice none 0 0, .func (.func 33) #[] #[.pointer (some ⟨w.heap.size, 0, none⟩)]] W fun e w' => e = .returned (.tuple #[]) ∧ w' = W) := fun W => AnyF.slices_SortFunc_none Try.laysF0 none 0 (.func (.func 33) #[] #[.pointer (some ⟨w.heap.size, 0, none⟩)]) W
  have HB : Hid (_ : Prop) := hb1
  clear hb1 hk
  go_enter Try.func31, Try.ntmps31
  go_wp2_with (go_at_call 32; refine Calls.mono (HS.out _) ?_; rintro e w2 ⟨rfl, hww⟩; subst w2)
  go_end0
  exact ⟨rfl, HB.out⟩
theorem take_nil (now : Int) (w : World) : Calls Try.prog 16 #[.pointer none, .int .u64 now] w fun e w' => e = .returned (.slice none 0 0) ∧ Below w.heap.size w w' := by
  go_enter Try.func16, Try.ntmps16
  go_wp2_with fail
  refine (keysTo_nil _ _).mono ?_
  rintro e w1 ⟨rfl, hb1⟩
  have HB1 : Hid (Below w.heap.size w (w1.alloc (.cells #[.slice none 0 0] 59))) := hb1.alloc hb1.size _
  have HI : Hid (_ : Prop) := inOrder_nil (kb := w1.heap.size) (w := w1.alloc (.cells #[.slice none 0 0] 59)) (by simp)
  clear hb1
  go_wp2_with (go_at_call 31; refine Calls.mono HI.out ?_; rintro e w2 ⟨rfl, hb2⟩; have hkb : w2.cell? ⟨w1.heap.size, 0, none⟩ = some (.slice none 0 0) := cell2 hb2 (by simp))
  refine wp_loop_rounds 1 ?_
  rw [rounds_succ]
  go_wp2
  go_ret
  exact ⟨rfl, HB1.out.trans (hb2.mono HB1.out.size)⟩
end Go.Proofs.Ytgplhdhnailpfaa
