/-
  right, the statements' own maker of paths: what it makes may be.
-/
import Derived.Test.YtbdfigfjoiefiabGreatDoorN1
namespace Go.Proofs.YtbdfigfjoiefiabGreatDoor
open Go.RowKit
/-- A segment that right makes. -/
def goodS (r : Sv) : Prop := 1 ≤ r.1 ∧ r.1 ≤ 4 ∧ 1 ≤ r.2.2.length ∧ r.2.2.length ≤ 3 ∧ 0 ∉ r.2.2
/-- What stands in memory while a segment is made in block q. -/
structure MkAt (wr wr2 : World) (q : Nat) (kd : Int) (ad : Option Addr) (c : Nat) (lst : List Nat) : Prop where
  c0 : wr2.cell? ⟨q, 0, none⟩ = some (.int .i64 kd)
  c1 : wr2.cell? ⟨q, 1, none⟩ = some (.slice ad lst.length c)
  f1 : wr2.frozen? ⟨q, 1, none⟩ = false
  own : OwnU wr2 (q + 1) (.slice ad lst.length c) lst
  nz : 0 ∉ lst
  bel : Below q wr wr2
  siz : q + 1 ≤ wr2.heap.size
theorem kind_bd (k : Int) : 1 ≤ wrap64 (1 + (wrap64 (k.tmod 4 + 4)).tmod 4) ∧ wrap64 (1 + (wrap64 (k.tmod 4 + 4)).tmod 4) ≤ 4 := by
  have h1 : (-k).tmod 4 < 4 := Int.tmod_lt_of_pos _ (by decide)
  rw [Int.neg_tmod] at h1
  have h2 : k.tmod 4 < 4 := Int.tmod_lt_of_pos k (by decide)
  have e : wrap64 (k.tmod 4 + 4) = k.tmod 4 + 4 := by unfold wrap64; omega
  rw [e, Int.tmod_eq_emod_of_nonneg (by omega)]
  have e2 : wrap64 (1 + (k.tmod 4 + 4) % 4) = 1 + (k.tmod 4 + 4) % 4 := by unfold wrap64; omega
  rw [e2]
  omega
theorem MkAt.start (wr : World) (kd : Int) : MkAt wr (wr.alloc (.cells #[.int .i64 kd, .slice none 0 0] 24)) wr.heap.size kd none 0 [] :=
  ⟨by simp, by simp, by simp, ⟨World.ownsRow_nil _ _ _ _, by simp, by simp⟩, by simp, (Below.refl _ _).alloc (Nat.le_refl _) _, by simp⟩
theorem max_nat (x : Nat) : (if (x : Int) < 1 then (1 : Int) else (x : Int)) = ((max x 1 : Nat) : Int) := by split <;> omega
theorem MkAt.next {U wr w3 : World} {q g cap1 c3 y n : Nat} {K : Int} {ad3 : Option Addr} {lst : List Nat} {o : Obj} (h : MkAt U wr q K ad3 c3 lst) (hn : lst.length = n)
    (hown3 : w3.ownsRow (q + 1) 26 1 (.slice (some ⟨g, 0, none⟩) (n + 1) cap1) (n + 1) (cellsU lst ++ [.int .u32 (y : Int)])) (hg : (wr.alloc o).drew.grownBy w3 (Value.slice ad3 n c3).ownBlock)
    (t0 : w3.cell? ⟨q, 0, none⟩ = some (.int .i64 K)) (t1 : w3.cell? ⟨q, 1, none⟩ = some (.slice ad3 n c3)) (tf : w3.frozen? ⟨q, 1, none⟩ = false) (hy : y < 4294967296) (hyz : y ≠ 0) (h3 : n < 3) :
    MkAt U (w3.setCell ⟨q, 1, none⟩ (.slice (some ⟨g, 0, none⟩) (n + 1) cap1)) q K (some ⟨g, 0, none⟩) cap1 (lst ++ [y]) := by
  subst hn
  have hl : (lst ++ [y]).length = lst.length + 1 := by simp
  have hgq : q + 1 ≤ g := (hown3.lt g rfl).1
  have hsz := h.siz
  refine ⟨?_, ?_, by rw [World.frozen?_setCell]; exact tf, ⟨?_, ?_, by simp; omega⟩, ?_, ?_, ?_⟩
  · rw [World.cell?_setCell_other _ _ _ _ (by simp)]; exact t0
  · rw [hl]; exact World.cell?_setCell_same _ _ _ t1
  · rw [hl, cellsU_snoc]
    exact owns_set hown3 (b := q) (fun g' e => by simp [Value.ownBlock] at e; omega) 1 _
  · intro x hx
    rcases List.mem_append.mp hx with hx | hx
    · exact h.own.2.1 x hx
    · rw [List.mem_singleton.mp hx]; exact hy
  · intro hx
    rcases List.mem_append.mp hx with hx | hx
    · exact h.nz hx
    · exact hyz (List.mem_singleton.mp hx).symm
  · refine Below.setCell (Below.grown (Below.drew (Below.alloc h.bel (by omega) o)) hg (by show q ≤ (wr.alloc o).heap.size; simp; omega) (fun k e => ?_)) (Nat.le_refl _) _
    have := (h.own.1.lt k e).1
    omega
  · have := hg.size
    have h2 : (wr.alloc o).drew.heap.size = wr.heap.size + 1 := by show (wr.alloc o).heap.size = _; simp
    have h3 : (w3.setCell ⟨q, 1, none⟩ (.slice (some ⟨g, 0, none⟩) (lst.length + 1) cap1)).heap.size = w3.heap.size := by simp
    omega
end Go.Proofs.YtbdfigfjoiefiabGreatDoor
