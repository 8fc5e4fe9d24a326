/-
  Read of the example's raw attributes.
-/
import Derived.Test.YtpahnebhcfpplabGreatDoorB7
namespace Go.Proofs.YtpahnebhcfpplabGreatDoor
open Go.RowKit
def zA : Array Value := #[.int .i64 0, .slice none 0 0, .string ⟨#[]⟩, .bool false, .int .u32 0, .bool false, .int .u32 0, .bool false, .int .u32 0, .int .u32 0, .slice none 0 0, .slice none 0 0, .slice none 0 0, .bool false, .int .u32 0, .slice none 0 0]
/-- The example's raw attributes. -/
def R3 : List Rw := [(64, 1, ⟨#[1]⟩), (64, 2, ⟨#[2, 1, 0, 0, 0, 1]⟩), (64, 3, ⟨#[10, 0, 0, 1]⟩)]
def metN (z : Array Value) : Nat → Array Value
  | 0 => z
  | n + 1 => (metN z n).setIfInBounds (n + 1) (.bool true)
def csN (pv : Value) : Nat → Array Value
  | 0 => zA
  | 1 => zA.setIfInBounds 0 (.int .i64 1)
  | 2 => (zA.setIfInBounds 0 (.int .i64 1)).setIfInBounds 1 pv
  | _ => ((zA.setIfInBounds 0 (.int .i64 1)).setIfInBounds 1 pv).setIfInBounds 2 (.string ⟨#[10, 0, 0, 1]⟩)
theorem met0 : (metN Tryz.zeroCells76 0)[1]? = some (.bool false) := by kernel_rfl
theorem met1 : (metN Tryz.zeroCells76 1)[2]? = some (.bool false) := by kernel_rfl
theorem met2 : (metN Tryz.zeroCells76 2)[3]? = some (.bool false) := by kernel_rfl
/-- What stands in memory while Read goes through the example. -/
structure RAt (w wr : World) (n : Nat) (pv : Value) : Prop where
  a : AW wr (w.heap.size + 2) (csN pv n)
  wo : wr.heap[w.heap.size + 3]? = some (.cells #[.int .i64 0, .int .u8 0, .int .u8 0] 41 (0, 0))
  me : wr.heap[w.heap.size + 4]? = some (.cells (metN Tryz.zeroCells76 n) 76 (0, 0))
  rs : wr.heap[w.heap.size]? = some (.cells zA 39 (0, 0))
  rv : wr.heap[w.heap.size + 1]? = some (.cells #[.int .i64 0, .int .u8 0, .int .u8 0] 41 (0, 0))
  bel : Below w.heap.size w wr
  pa : 2 ≤ n → ∃ R base, sgs R = [(2, [1])] ∧ OwnS wr base pv R ∧ w.heap.size + 5 ≤ base
theorem RAt.lt {w wr : World} {n : Nat} {pv : Value} (h : RAt w wr n pv) : w.heap.size + 4 < wr.heap.size := (Array.getElem?_eq_some_iff.mp h.me).1
theorem RAt.above {w wr wr' : World} {n : Nat} {pv : Value} (h : RAt w wr n pv) (hb : Below wr.heap.size wr wr') : RAt w wr' n pv :=
  have hl := h.lt
  ⟨h.a.below hb, (hb.block _ (by omega)).trans h.wo, (hb.block _ (by omega)).trans h.me, (hb.block _ (by omega)).trans h.rs, (hb.block _ (by omega)).trans h.rv, h.bel.trans (hb.mono (by omega)), fun h2 => by
    obtain ⟨R, base, h3, h4, h5⟩ := h.pa h2
    exact ⟨R, base, h3, h4.below hb, h5⟩⟩
theorem RAt.drew {w wr : World} {n : Nat} {pv : Value} (h : RAt w wr n pv) : RAt w wr.drew n pv := ⟨h.a, h.wo, h.me, h.rs, h.rv, h.bel.drew, h.pa⟩
/-- A row of which the flag of a type is set. -/
theorem RAt.met {w wr : World} {n : Nat} {pv : Value} (a : AW wr (w.heap.size + 2) (csN pv (n + 1))) (wo : wr.heap[w.heap.size + 3]? = some (.cells #[.int .i64 0, .int .u8 0, .int .u8 0] 41 (0, 0)))
    (me : wr.heap[w.heap.size + 4]? = some (.cells (metN Tryz.zeroCells76 n) 76 (0, 0))) (rs : wr.heap[w.heap.size]? = some (.cells zA 39 (0, 0))) (rv : wr.heap[w.heap.size + 1]? = some (.cells #[.int .i64 0, .int .u8 0, .int .u8 0] 41 (0, 0))) (bel : Below w.heap.size w wr)
    (pa : 2 ≤ n + 1 → ∃ R base, sgs R = [(2, [1])] ∧ OwnS wr base pv R ∧ w.heap.size + 5 ≤ base) : RAt w (wr.setCell ⟨w.heap.size + 4, n + 1, none⟩ (.bool true)) (n + 1) pv := by
  refine ⟨?_, ?_, heap_setCell_same _ _ _ _ _ _ me, ?_, ?_, bel.setCell (by show _ ≤ w.heap.size + 4; omega) _, fun h2 => ?_⟩
  · unfold AW; rw [Below.heap_setCell _ _ _ _ (by show w.heap.size + 2 ≠ w.heap.size + 4; omega)]; exact a
  · rw [Below.heap_setCell _ _ _ _ (by show w.heap.size + 3 ≠ w.heap.size + 4; omega)]; exact wo
  · rw [Below.heap_setCell _ _ _ _ (by show w.heap.size ≠ w.heap.size + 4; omega)]; exact rs
  · rw [Below.heap_setCell _ _ _ _ (by show w.heap.size + 1 ≠ w.heap.size + 4; omega)]; exact rv
  · obtain ⟨R, base, h3, h4, h5⟩ := pa h2
    exact ⟨R, base, h3, h4.beside (Beside.set _ _ _) (by omega), h5⟩
/-- Behind judge: all but the attributes is as it was. -/
theorem RAt.judged {w wr w' : World} {n : Nat} {pv pv' : Value} (h : RAt w wr n pv) (hb : Beside (w.heap.size + 2) wr w') (ha : AW w' (w.heap.size + 2) (csN pv' (n + 1))) (hpa : 2 ≤ n + 1 → ∃ R base, sgs R = [(2, [1])] ∧ OwnS w' base pv' R ∧ w.heap.size + 5 ≤ base) :
    AW w' (w.heap.size + 2) (csN pv' (n + 1)) ∧ w'.heap[w.heap.size + 3]? = some (.cells #[.int .i64 0, .int .u8 0, .int .u8 0] 41 (0, 0)) ∧ w'.heap[w.heap.size + 4]? = some (.cells (metN Tryz.zeroCells76 n) 76 (0, 0)) ∧ w'.heap[w.heap.size]? = some (.cells zA 39 (0, 0)) ∧ w'.heap[w.heap.size + 1]? = some (.cells #[.int .i64 0, .int .u8 0, .int .u8 0] 41 (0, 0)) ∧ Below w.heap.size w w' ∧ (2 ≤ n + 1 → ∃ R base, sgs R = [(2, [1])] ∧ OwnS w' base pv' R ∧ w.heap.size + 5 ≤ base) := by
  have hl := h.lt
  exact ⟨ha, (hb.block _ (by omega) (by omega)).trans h.wo, (hb.block _ (by omega) (by omega)).trans h.me, (hb.block _ (by omega) (by omega)).trans h.rs, (hb.block _ (by omega) (by omega)).trans h.rv, h.bel.trans (hb.below (by omega) (by omega)), hpa⟩
end Go.Proofs.YtpahnebhcfpplabGreatDoor
