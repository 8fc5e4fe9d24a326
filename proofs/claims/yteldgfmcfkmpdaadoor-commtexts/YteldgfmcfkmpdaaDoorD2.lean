/-
  Decode of bytes that hold 64 plain communities at most.
-/
import Derived.Test.YteldgfmcfkmpdaaDoorD1
import Derived.Test.YteldgfmcfkmpdaaDoorShelfA
import Derived.Laws.OwnMore
import Derived.Deep.AppendLies
namespace Go.Proofs.YteldgfmcfkmpdaaDoor
open Go.RowKit Go.Maps Go.Shelf Go.Sort Go.Lib
/-- The cells of plain communities. -/
def cellsU (l : List Nat) : List Value := l.map fun (x : Nat) => .int .u32 (x : Int)
def encU' (x : Nat) : Value := .int .u32 (x : Int)
def cfU (x y : Nat) : Int := cmpI x y
theorem ltU (x y : Nat) : ltOf cfU x y = decide (x < y) := by
  unfold ltOf cfU cmpI
  by_cases h1 : x < y
  · simp [h1]
  · by_cases h2 : y < x <;> simp [h1, h2]
theorem swoU : SWO (ltOf cfU) where
  irrefl x := by rw [ltU]; simp
  trans x y z h1 h2 := by rw [ltU] at *; simp at *; omega
  ntrans x y z h1 h2 := by rw [ltU] at *; simp at *; omega
theorem totU (x y : Nat) (h1 : ltOf cfU x y = false) (h2 : ltOf cfU y x = false) : x = y := by rw [ltU] at *; simp at *; omega
theorem cmpReadsU (blk off size : Nat) (w : World) : CmpReads Tryd.prog 40 #[] encU' cfU blk off size w := fun _ _ _ _ x y =>
  (cmpU x y _).mono fun _ _ ⟨he, hw⟩ => ⟨he, 0, by rw [hw]; rfl⟩
/-- The numbers, rising. -/
def sortU (l : List Nat) : List Nat := l.mergeSort fun x y => !(ltOf cfU) y x
theorem grown_sorted {w : World} {g n : Nat} {os : Array Obj} (d : Array Nat) : w.grownBy (sortWorld encU' w g 0 n d os) (some g) := by
  refine ⟨rfl, rfl, rfl, by simp [sortWorld], fun k hk hne => ?_⟩
  unfold sortWorld
  rw [heap_grow_old _ _ (by simpa using hk)]
  have : g ≠ k := fun e => hne (by rw [e])
  simp [putRow, mapBlock, Sort.ahead, Array.getElem?_modify, this]
theorem sort_own (v : Value) (l : List Nat) (w : World) (base : Nat) (hl : l ≠ []) (h32 : ∀ x ∈ l, x < 4294967296) (hm : l.length ≤ 1000) (hb : base ≤ w.heap.size) (h : w.ownsRow base 23 1 v l.length (cellsU l)) :
    Calls Tryd.prog 93 #[v, .func (.func 40) #[] #[]] w fun e w' => e = .returned (.tuple #[]) ∧ PlainAt w' v (sortU l) ∧ Below base w w' := by
  have hpos : 0 < l.length := List.length_pos_iff.mpr hl
  obtain ⟨g, cap, rfl, hcap⟩ : ∃ g cap, v = .slice (some ⟨g, 0, none⟩) l.length cap ∧ l.length ≤ cap := by
    obtain ⟨_, ⟨_, h0⟩ | ⟨g, cap, cur, h, _, _, hc, _⟩⟩ := id h
    · omega
    · exact ⟨g, cap, h, hc⟩
  have hlt := h.lt g rfl
  have hH : Holds encU' w g 0 l.toArray := fun j hj => by
    have hj' : j < l.length := by simpa using hj
    refine ⟨?_, by rw [Nat.zero_add]; exact h.frozenAt j⟩
    rw [Nat.zero_add, h.cellAt j (by omega)]
    simp [cellsU, encU', hj', getElem!_pos]
  have hsort := Tryd.slices_SortFunc_total encU' (fun _ => rfl) cfU swoU 40 #[] g 0 cap l.toArray w (enters_of Tryd.func40 (by kernel_rfl) rfl) (cmpReadsU g 0 l.toArray.size w).lays hH hlt.2 (by simp; omega) totU
  rw [List.size_toArray] at hsort
  refine hsort.mono ?_
  rintro e w' ⟨rfl, n, os, rfl⟩
  refine ⟨rfl, ?_, (Below.refl _ _).grown (grown_sorted _) hb (fun k hk => by injection hk with hk; omega)⟩
  have hsl : (sortU l).length = l.length := by simp [sortU]
  refine ⟨some ⟨g, 0, none⟩, g, 0, cap, by rw [hsl], Or.inl rfl, ⟨by omega, by omega⟩, fun j hj => ⟨?_, h32 _ (List.mem_mergeSort.mp (List.getElem_mem hj))⟩⟩
  have hc := cell?_putRow encU' w g 0 l.toArray (sortU l).toArray hH (by simp [hsl]) j (by simpa using hj)
  show (sortWorld encU' w g 0 n (sortU l).toArray os).cell? _ = _
  unfold sortWorld
  rw [show Sort.ahead w n = w.drewN n from rfl] at *
  rw [World.cell?, heap_grow_old _ _ (by simpa using hlt.2)]
  rw [World.cell?] at hc
  simp only [encU'] at hc
  rw [getElem!_pos _ _ (by simpa using hj)] at hc
  rw [show (putRow encU' (w.drewN n) g 0 (sortU l).toArray).heap = (putRow encU' w g 0 (sortU l).toArray).heap from rfl]
  simpa using hc
/-- The k-th number of the bytes. -/
def numAt (s : ByteArray) (k : Nat) : Nat := worth ((s.extract (4 * k) s.size).data.toList.take 4)
/-- Each once, in the order in which they come. -/
def once1 (acc : List Nat) (x : Nat) : List Nat := if x ∈ acc then acc else acc ++ [x]
def onceTo (s : ByteArray) : Nat → List Nat
  | 0 => []
  | k + 1 => once1 (onceTo s k) (numAt s k)
theorem onceTo_le (s : ByteArray) (k : Nat) : (onceTo s k).length ≤ k := by
  induction k with
  | zero => simp [onceTo]
  | succ k ih =>
    unfold onceTo once1
    split
    · omega
    · rw [List.length_append, List.length_singleton]; omega
theorem numAt_lt (s : ByteArray) (k : Nat) : numAt s k < 4294967296 := by
  have := worth_lt ((s.extract (4 * k) s.size).data.toList.take 4)
  have hl : ((s.extract (4 * k) s.size).data.toList.take 4).length ≤ 4 := by simp; omega
  exact Nat.lt_of_lt_of_le this (Nat.le_trans (Nat.pow_le_pow_right (by omega) hl) (by decide))
theorem onceTo_lt (s : ByteArray) (k : Nat) : ∀ x ∈ onceTo s k, x < 4294967296 := by
  induction k with
  | zero => simp [onceTo]
  | succ k ih =>
    unfold onceTo once1
    split
    · exact ih
    · intro x hx
      rcases List.mem_append.mp hx with h | h
      · exact ih x h
      · simp at h; subst h; exact numAt_lt s k
theorem onceTo_pos (s : ByteArray) (k : Nat) : onceTo s (k + 1) ≠ [] := by
  unfold onceTo once1
  split
  · rename_i h; intro e; rw [e] at h; simp at h
  · simp
/-- How many bytes a reader has left. -/
def leftAt (w : World) (p : Nat) : Nat := match w.cell? ⟨p, 1, none⟩ with | some (.string s) => s.size | _ => 0
theorem RdrAt.left {w : World} {p : Nat} {s : ByteArray} (h : RdrAt w p s) : leftAt w p = s.size := by unfold leftAt; rw [h.c1]
theorem RdrAt.far {w w' : World} {p : Nat} {s : ByteArray} {row : Option Nat} (h : RdrAt w p s) (hg : w.grownBy w' row) (hne : some p ≠ row) : RdrAt w' p s :=
  ⟨hg.cell h.c0 hne, hg.cell h.c1 hne, (hg.frozen_far ⟨p, 0, none⟩ h.lt hne).trans h.f0, (hg.frozen_far ⟨p, 1, none⟩ h.lt hne).trans h.f1⟩
theorem Beside.grown {p : Nat} {w w' : World} (h : Beside p w w') : w.grownBy w' (some p) :=
  ⟨h.os, h.tape, h.output, h.size, fun k hk hne => h.block k hk (fun e => hne (by rw [e]))⟩
/-- What stands in memory while communities are read: k of them are. -/
structure DecAt (w wr : World) (v : Value) (s : ByteArray) (k : Nat) : Prop where
  rdr : RdrAt wr (w.heap.size + 2) (s.extract (4 * k) s.size)
  met : ∃ n, n ≤ k ∧ MetAt wr (w.heap.size + 1) w.heap.size n (onceTo s k)
  own : wr.ownsRow (w.heap.size + 3) 23 1 v (onceTo s k).length (cellsU (onceTo s k))
  bel : Below w.heap.size w wr
  sz : w.heap.size + 3 ≤ wr.heap.size
theorem own_far {w w' : World} {base p : Nat} {v : Value} {n : Nat} {xs : List Value} (h : w.ownsRow base 23 1 v n xs) (hg : w.grownBy w' (some p)) (hp : p < base) : w'.ownsRow base 23 1 v n xs := by
  refine h.kept hg ?_
  by_cases e : v.ownBlock = some p
  · have := (h.lt p e).1; omega
  · exact Or.inr e
theorem extract_next (s : ByteArray) (k : Nat) : (s.extract (4 * k) s.size).extract 4 (s.extract (4 * k) s.size).size = s.extract (4 * (k + 1)) s.size := by
  apply ByteArray.ext
  simp
  congr 1 <;> omega
end Go.Proofs.YteldgfmcfkmpdaaDoor
