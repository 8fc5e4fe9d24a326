/-
  The rows of the known types, as rowOf makes them.
-/
import Derived.Test.YtpahnebhcfpplabGreatDoorE1
namespace Go.Proofs.YtpahnebhcfpplabGreatDoor
open Go.RowKit
@[go_sem] theorem run_store_fn {P : Program} {w : World} {a : Addr} {m : Mode} (fn : Fn) (first captured : Array Value) : (store a (.func fn first captured) m).run P w = stored P w a (.func fn first captured) m := run_store P w a _ m rfl
theorem c_at {W : World} {b : Nat} {v : Value} {t : TypeId} (hb : b = W.heap.size) : (W.alloc (.cells #[v] t)).cell? ⟨b, 0, none⟩ = some v := by subst hb; simp
theorem c_up {W : World} {a : Addr} {v : Value} {o : Obj} (h : W.cell? a = some v) : (W.alloc o).cell? a = some v := below_cell ((Below.refl _ _).alloc (Nat.le_refl _) _) h
theorem pathRow (four : Bool) (w : World) :
    Calls Tryz.prog 51 #[.bool four] w fun e w' => e = .returned (.agg #[.int .u8 64, .int .i64 2, .func (.func 86) #[] #[.pointer (some ⟨w.heap.size, 0, none⟩)], .func (.func 88) #[] #[.pointer (some ⟨w.heap.size, 0, none⟩)]]) ∧ w'.cell? ⟨w.heap.size, 0, none⟩ = some (.bool four) ∧ Below w.heap.size w w' := by
  go_enter Tryz.func51, Tryz.ntmps51
  go_wp2
  refine bodyPost_ret (v := .agg #[.int .u8 64, .int .i64 2, .func (.func 86) #[] #[.pointer (some ⟨w.heap.size, 0, none⟩)], .func (.func 88) #[] #[.pointer (some ⟨w.heap.size, 0, none⟩)]]) (by simp [results, Tryz.results51, go_sem]) rfl ?_
  refine ⟨rfl, by simp, ?_⟩
  exact ((Below.refl _ _).alloc (Nat.le_refl _) _).alloc (by simp) _
theorem numberRow (bits : Int) (F : Nat) (w : World) :
    Calls Tryz.prog 54 #[.int .u8 bits, .func (.func F) #[] #[]] w fun e w' => e = .returned (.agg #[.int .u8 bits, .int .i64 2, .func (.func 90) #[] #[.pointer (some ⟨w.heap.size, 0, none⟩)], .func (.func 91) #[] #[.pointer (some ⟨w.heap.size, 0, none⟩)]]) ∧ w'.cell? ⟨w.heap.size, 0, none⟩ = some (.func (.func F) #[] #[]) ∧ Below w.heap.size w w' := by
  go_enter Tryz.func54, Tryz.ntmps54
  go_wp2
  refine bodyPost_ret (v := .agg #[.int .u8 bits, .int .i64 2, .func (.func 90) #[] #[.pointer (some ⟨w.heap.size, 0, none⟩)], .func (.func 91) #[] #[.pointer (some ⟨w.heap.size, 0, none⟩)]]) (by simp [results, Tryz.results54, go_sem]) rfl ?_
  refine ⟨rfl, by simp, ?_⟩
  exact ((Below.refl _ _).alloc (Nat.le_refl _) _).alloc (by simp) _
theorem listRow69 (bits : Int) (fa fe fd : Nat) (w : World) :
    Calls Tryz.prog 60 #[.int .u8 bits, .func (.func fa) #[] #[], .func (.func fe) #[] #[], .func (.func fd) #[] #[]] w fun e w' => e = .returned (.agg #[.int .u8 bits, .int .i64 2, .func (.func 94) #[] #[.pointer (some ⟨w.heap.size + 1, 0, none⟩), .pointer (some ⟨w.heap.size, 0, none⟩)], .func (.func 95) #[] #[.pointer (some ⟨w.heap.size + 1 + 1, 0, none⟩), .pointer (some ⟨w.heap.size, 0, none⟩)]]) ∧ w'.cell? ⟨w.heap.size, 0, none⟩ = some (.func (.func fa) #[] #[]) ∧ w'.cell? ⟨w.heap.size + 1, 0, none⟩ = some (.func (.func fe) #[] #[]) ∧ w'.cell? ⟨w.heap.size + 1 + 1, 0, none⟩ = some (.func (.func fd) #[] #[]) ∧ Below w.heap.size w w' := by
  go_enter Tryz.func60, Tryz.ntmps60
  go_wp2
  refine bodyPost_ret (v := .agg #[.int .u8 bits, .int .i64 2, .func (.func 94) #[] #[.pointer (some ⟨w.heap.size + 1, 0, none⟩), .pointer (some ⟨w.heap.size, 0, none⟩)], .func (.func 95) #[] #[.pointer (some ⟨w.heap.size + 1 + 1, 0, none⟩), .pointer (some ⟨w.heap.size, 0, none⟩)]]) (by simp [results, Tryz.results60, go_sem]) rfl ?_
  refine ⟨rfl, c_up (c_up (c_up (c_at rfl))), c_up (c_up (c_at (by simp))), c_up (c_at (by simp)), ?_⟩
  exact ((((Below.refl _ _).alloc (Nat.le_refl _) _).alloc (by simp) _).alloc (by simp; omega) _).alloc (by simp; omega) _
theorem listRow77 (bits : Int) (fa fe fd : Nat) (w : World) :
    Calls Tryz.prog 68 #[.int .u8 bits, .func (.func fa) #[] #[], .func (.func fe) #[] #[], .func (.func fd) #[] #[]] w fun e w' => e = .returned (.agg #[.int .u8 bits, .int .i64 2, .func (.func 102) #[] #[.pointer (some ⟨w.heap.size + 1, 0, none⟩), .pointer (some ⟨w.heap.size, 0, none⟩)], .func (.func 103) #[] #[.pointer (some ⟨w.heap.size + 1 + 1, 0, none⟩), .pointer (some ⟨w.heap.size, 0, none⟩)]]) ∧ w'.cell? ⟨w.heap.size, 0, none⟩ = some (.func (.func fa) #[] #[]) ∧ w'.cell? ⟨w.heap.size + 1, 0, none⟩ = some (.func (.func fe) #[] #[]) ∧ w'.cell? ⟨w.heap.size + 1 + 1, 0, none⟩ = some (.func (.func fd) #[] #[]) ∧ Below w.heap.size w w' := by
  go_enter Tryz.func68, Tryz.ntmps68
  go_wp2
  refine bodyPost_ret (v := .agg #[.int .u8 bits, .int .i64 2, .func (.func 102) #[] #[.pointer (some ⟨w.heap.size + 1, 0, none⟩), .pointer (some ⟨w.heap.size, 0, none⟩)], .func (.func 103) #[] #[.pointer (some ⟨w.heap.size + 1 + 1, 0, none⟩), .pointer (some ⟨w.heap.size, 0, none⟩)]]) (by simp [results, Tryz.results68, go_sem]) rfl ?_
  refine ⟨rfl, c_up (c_up (c_up (c_at rfl))), c_up (c_up (c_at (by simp))), c_up (c_at (by simp)), ?_⟩
  exact ((((Below.refl _ _).alloc (Nat.le_refl _) _).alloc (by simp) _).alloc (by simp; omega) _).alloc (by simp; omega) _
theorem listRow81 (bits : Int) (fa fe fd : Nat) (w : World) :
    Calls Tryz.prog 72 #[.int .u8 bits, .func (.func fa) #[] #[], .func (.func fe) #[] #[], .func (.func fd) #[] #[]] w fun e w' => e = .returned (.agg #[.int .u8 bits, .int .i64 2, .func (.func 108) #[] #[.pointer (some ⟨w.heap.size + 1, 0, none⟩), .pointer (some ⟨w.heap.size, 0, none⟩)], .func (.func 109) #[] #[.pointer (some ⟨w.heap.size + 1 + 1, 0, none⟩), .pointer (some ⟨w.heap.size, 0, none⟩)]]) ∧ w'.cell? ⟨w.heap.size, 0, none⟩ = some (.func (.func fa) #[] #[]) ∧ w'.cell? ⟨w.heap.size + 1, 0, none⟩ = some (.func (.func fe) #[] #[]) ∧ w'.cell? ⟨w.heap.size + 1 + 1, 0, none⟩ = some (.func (.func fd) #[] #[]) ∧ Below w.heap.size w w' := by
  go_enter Tryz.func72, Tryz.ntmps72
  go_wp2
  refine bodyPost_ret (v := .agg #[.int .u8 bits, .int .i64 2, .func (.func 108) #[] #[.pointer (some ⟨w.heap.size + 1, 0, none⟩), .pointer (some ⟨w.heap.size, 0, none⟩)], .func (.func 109) #[] #[.pointer (some ⟨w.heap.size + 1 + 1, 0, none⟩), .pointer (some ⟨w.heap.size, 0, none⟩)]]) (by simp [results, Tryz.results72, go_sem]) rfl ?_
  refine ⟨rfl, c_up (c_up (c_up (c_at rfl))), c_up (c_up (c_at (by simp))), c_up (c_at (by simp)), ?_⟩
  exact ((((Below.refl _ _).alloc (Nat.le_refl _) _).alloc (by simp) _).alloc (by simp; omega) _).alloc (by simp; omega) _
theorem aggRow_true (w : World) :
    Calls Tryz.prog 59 #[.bool true] w fun e w' => e = .returned (.agg #[.int .u8 192, .int .i64 1, .func (.func 92) #[] #[.pointer (some ⟨w.heap.size, 0, none⟩), .pointer (some ⟨w.heap.size + 1 + 1, 0, none⟩)], .func (.func 93) #[] #[.pointer (some ⟨w.heap.size + 1 + 1, 0, none⟩)]]) ∧ w'.cell? ⟨w.heap.size, 0, none⟩ = some (.bool true) ∧ w'.cell? ⟨w.heap.size + 1 + 1, 0, none⟩ = some (.int .i64 4) ∧ Below w.heap.size w w' := by
  go_enter Tryz.func59, Tryz.ntmps59
  go_wp2
  refine bodyPost_ret (v := .agg #[.int .u8 192, .int .i64 1, .func (.func 92) #[] #[.pointer (some ⟨w.heap.size, 0, none⟩), .pointer (some ⟨w.heap.size + 1 + 1, 0, none⟩)], .func (.func 93) #[] #[.pointer (some ⟨w.heap.size + 1 + 1, 0, none⟩)]]) (by simp [results, Tryz.results59, go_sem]) rfl ?_
  refine ⟨rfl, c_up (c_up (c_at rfl)), c_at (by simp), ?_⟩
  have hb : ∀ a b c : Obj, Below w.heap.size w (((w.alloc a).alloc b).alloc c) := fun a b c => (((Below.refl _ _).alloc (Nat.le_refl _) _).alloc (by simp) _).alloc (by simp; omega) _
  exact hb _ _ _
theorem aggRow_false (w : World) :
    Calls Tryz.prog 59 #[.bool false] w fun e w' => e = .returned (.agg #[.int .u8 192, .int .i64 1, .func (.func 92) #[] #[.pointer (some ⟨w.heap.size, 0, none⟩), .pointer (some ⟨w.heap.size + 1 + 1, 0, none⟩)], .func (.func 93) #[] #[.pointer (some ⟨w.heap.size + 1 + 1, 0, none⟩)]]) ∧ w'.cell? ⟨w.heap.size, 0, none⟩ = some (.bool false) ∧ w'.cell? ⟨w.heap.size + 1 + 1, 0, none⟩ = some (.int .i64 2) ∧ Below w.heap.size w w' := by
  go_enter Tryz.func59, Tryz.ntmps59
  go_wp2
  refine bodyPost_ret (v := .agg #[.int .u8 192, .int .i64 1, .func (.func 92) #[] #[.pointer (some ⟨w.heap.size, 0, none⟩), .pointer (some ⟨w.heap.size + 1 + 1, 0, none⟩)], .func (.func 93) #[] #[.pointer (some ⟨w.heap.size + 1 + 1, 0, none⟩)]]) (by simp [results, Tryz.results59, go_sem]) rfl ?_
  refine ⟨rfl, c_up (c_up (c_at rfl)), c_at (by simp), ?_⟩
  have hb : ∀ a b c : Obj, Below w.heap.size w (((w.alloc a).alloc b).alloc c) := fun a b c => (((Below.refl _ _).alloc (Nat.le_refl _) _).alloc (by simp) _).alloc (by simp; omega) _
  exact hb _ _ _
/-- The answer's block, while nothing is in it. -/
structure R4 (w w2 : World) : Prop where
  z0 : w2.cell? ⟨w.heap.size, 0, none⟩ = some (.int .u8 0)
  z1 : w2.cell? ⟨w.heap.size, 1, none⟩ = some (.int .i64 0)
  z2 : w2.cell? ⟨w.heap.size, 2, none⟩ = some .nilFunc
  z3 : w2.cell? ⟨w.heap.size, 3, none⟩ = some .nilFunc
  g0 : w2.frozen? ⟨w.heap.size, 0, none⟩ = false
  g1 : w2.frozen? ⟨w.heap.size, 1, none⟩ = false
  g2 : w2.frozen? ⟨w.heap.size, 2, none⟩ = false
  g3 : w2.frozen? ⟨w.heap.size, 3, none⟩ = false
theorem R4.start (w : World) : R4 w (w.alloc (.cells #[.int .u8 0, .int .i64 0, .nilFunc, .nilFunc] 84)) := ⟨by simp, by simp, by simp, by simp, by simp, by simp, by simp, by simp⟩
theorem R4.below {w w1 w2 : World} (h : R4 w w1) (hb : Below w1.heap.size w1 w2) : R4 w w2 :=
  have hl : w.heap.size < w1.heap.size := lt_of_cell h.z0
  ⟨below_cell hb h.z0, below_cell hb h.z1, below_cell hb h.z2, below_cell hb h.z3, (hb.frozen hl).trans h.g0, (hb.frozen hl).trans h.g1, (hb.frozen hl).trans h.g2, (hb.frozen hl).trans h.g3⟩
/-- The answer's block with a row in it. -/
def put4 (w2 : World) (p : Nat) (a b c d : Value) : World := (((w2.setCell ⟨p, 0, none⟩ a).setCell ⟨p, 1, none⟩ b).setCell ⟨p, 2, none⟩ c).setCell ⟨p, 3, none⟩ d
theorem R4.got {w w2 : World} (h : R4 w w2) (a b c d : Value) : (put4 w2 w.heap.size a b c d).cell? ⟨w.heap.size, 0, none⟩ = some a ∧ (put4 w2 w.heap.size a b c d).cell? ⟨w.heap.size, 1, none⟩ = some b ∧ (put4 w2 w.heap.size a b c d).cell? ⟨w.heap.size, 2, none⟩ = some c ∧ (put4 w2 w.heap.size a b c d).cell? ⟨w.heap.size, 3, none⟩ = some d := by
  unfold put4
  refine ⟨?_, ?_, ?_, ?_⟩
  · rw [World.cell?_setCell_other _ _ _ _ (by simp), World.cell?_setCell_other _ _ _ _ (by simp), World.cell?_setCell_other _ _ _ _ (by simp)]; exact World.cell?_setCell_same _ _ _ h.z0
  · rw [World.cell?_setCell_other _ _ _ _ (by simp), World.cell?_setCell_other _ _ _ _ (by simp)]; exact World.cell?_setCell_same _ _ _ (by rw [World.cell?_setCell_other _ _ _ _ (by simp)]; exact h.z1)
  · rw [World.cell?_setCell_other _ _ _ _ (by simp)]; exact World.cell?_setCell_same _ _ _ (by rw [World.cell?_setCell_other _ _ _ _ (by simp), World.cell?_setCell_other _ _ _ _ (by simp)]; exact h.z2)
  · exact World.cell?_setCell_same _ _ _ (by rw [World.cell?_setCell_other _ _ _ _ (by simp), World.cell?_setCell_other _ _ _ _ (by simp), World.cell?_setCell_other _ _ _ _ (by simp)]; exact h.z3)
theorem put4_below {B : Nat} {w w2 : World} (h : Below B w w2) {p : Nat} (hp : B ≤ p) (a b c d : Value) : Below B w (put4 w2 p a b c d) := (((h.setCell hp _).setCell hp _).setCell hp _).setCell hp _
theorem put4_cell {w2 : World} {p q : Nat} {v : Value} (h : w2.cell? ⟨q, 0, none⟩ = some v) (hq : q ≠ p) (a b c d : Value) : (put4 w2 p a b c d).cell? ⟨q, 0, none⟩ = some v := by
  unfold put4
  rw [World.cell?_setCell_other _ _ _ _ (by simp), World.cell?_setCell_other _ _ _ _ (by simp), World.cell?_setCell_other _ _ _ _ (by simp), World.cell?_setCell_other _ _ _ _ (by simp)]
  exact h
end Go.Proofs.YtpahnebhcfpplabGreatDoor
