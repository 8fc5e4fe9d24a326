/-
  What lies in memory; the small functions of the program and of the reference.
-/
import Derived.Test.YtlinoklgchfedaaDoorA1
import Derived.Laws.BitsAllLaws
import Derived.RowKit
import Derived.Test.YtlinoklgchfedaaDoorProg
import Derived.WalkKit
import Derived.WalkSpells
import Derived.WalkLawsBesides
import Derived.Laws.IdiomStrings
import Derived.RegionTactic
import Derived.Deep.RegionWith
import Derived.Deep.RegionHeld
import Derived.Deep.AppendLies
import Derived.LoopN
import Derived.Lib.SlBuf
import Derived.BigQuiet
namespace Go.Proofs.YtlinoklgchfedaaDoor
open Go.RowKit
theorem lt_of_cell {w : World} {b i : Nat} {v : Value} (h : w.cell? ⟨b, i, none⟩ = some v) : b < w.heap.size := World.block_lt_of_cell? w _ h
theorem below_drewN {B : Nat} {a w : World} (h : Below B a w) (n : Nat) : Below B a (w.drewN n) := ⟨h.os, h.tape, h.output, h.size, h.block⟩
theorem list_size (l : List UInt8) : (⟨l.toArray⟩ : ByteArray).size = l.length := by simp [ByteArray.size]
theorem hp_new {W : World} {o : Obj} {n : Nat} (hn : n = W.heap.size) : (W.alloc o).heap[n]? = some o := by
  subst hn
  show (W.heap.push o)[W.heap.size]? = some o
  simp
theorem hp_up {W : World} {o x : Obj} {n : Nat} (h : W.heap[n]? = some x) : (W.alloc o).heap[n]? = some x := by rw [Below.heap_alloc _ _ _ (Array.getElem?_eq_some_iff.mp h).1]; exact h
theorem cl_row {w : World} {k i : Nat} {cs : Array Value} {t : TypeId} {v : Value} (hk : w.heap[k]? = some (.cells cs t (0, 0))) (hi : cs[i]? = some v) : w.cell? ⟨k, i, none⟩ = some v := by
  rw [World.cell?, hk]
  exact hi
theorem fz_row {w : World} {k i : Nat} {cs : Array Value} {t : TypeId} (hk : w.heap[k]? = some (.cells cs t (0, 0))) : w.frozen? ⟨k, i, none⟩ = false := by
  simp [World.frozen?, hk]
theorem ret_int {k : IntKind} {a b : Int} (h : a = b) : Ending.returned (.int k a) = .returned (.int k b) := by rw [h]
theorem ret_bool {a b : Bool} (h : a = b) : Ending.returned (.bool a) = .returned (.bool b) := by rw [h]
/-- All blocks but two are as they were. -/
structure Beside (p b : Nat) (w w' : World) : Prop where
  os : w'.os = w.os
  tape : w'.tape = w.tape
  output : w'.output = w.output
  size : w.heap.size ≤ w'.heap.size
  block : ∀ k, k < w.heap.size → k ≠ p → k ≠ b → w'.heap[k]? = w.heap[k]?
theorem Beside.below {p b B : Nat} {w w' : World} (h : Beside p b w w') (hp : B ≤ p) (hb : B ≤ b) (hB : B ≤ w.heap.size) : Below B w w' :=
  ⟨h.os, h.tape, h.output, h.size, fun k hk => h.block k (by omega) (by omega) (by omega)⟩
theorem Beside.of_below {p b B : Nat} {w w' : World} (h : Below B w w') (hB : w.heap.size ≤ B) : Beside p b w w' :=
  ⟨h.os, h.tape, h.output, h.size, fun k hk _ _ => h.block k (by omega)⟩
theorem Beside.refl {p b : Nat} (w : World) : Beside p b w w := Beside.of_below (Below.refl _ _) (Nat.le_refl _)
theorem Beside.trans {p q : Nat} {a b c : World} (h : Beside p q a b) (k : Beside p q b c) : Beside p q a c :=
  ⟨k.os.trans h.os, k.tape.trans h.tape, k.output.trans h.output, Nat.le_trans h.size k.size, fun j hj hp hq => (k.block j (Nat.lt_of_lt_of_le hj h.size) hp hq).trans (h.block j hj hp hq)⟩
theorem Beside.then {p b : Nat} {w w' w'' : World} (h : Beside p b w w') (k : Below w'.heap.size w' w'') : Beside p b w w'' := h.trans (Beside.of_below k (Nat.le_refl _))
/-- The same, where what lies at base and above may be written as well. -/
theorem Beside.over {p b B : Nat} {w w' w'' : World} (h : Beside p b w w') (k : Below B w' w'') (hB : w.heap.size ≤ B) : Beside p b w w'' :=
  ⟨k.os.trans h.os, k.tape.trans h.tape, k.output.trans h.output, Nat.le_trans h.size k.size, fun j hj hp hq => (k.block j (by omega)).trans (h.block j hj hp hq)⟩
theorem Beside.setp {p b : Nat} (w : World) (i : Nat) (v : Value) : Beside p b w (w.setCell ⟨p, i, none⟩ v) := by
  have h := (Below.refl 0 w).setCell (p := ⟨p, i, none⟩) (by simp) v
  exact ⟨h.os, h.tape, h.output, h.size, fun k _ hk _ => Below.heap_setCell w ⟨p, i, none⟩ v k hk⟩
theorem Beside.row {p b : Nat} (w : World) (cs : Array Value) : Beside p b w (w.setRow b cs) :=
  ⟨rfl, rfl, rfl, by simp [World.setRow], fun k _ _ hk => by show (w.heap.modify b _)[k]? = _; rw [Array.getElem?_modify, if_neg (fun e => hk e.symm)]⟩
/-- The table of sizes. -/
structure SzAt (w : World) : Prop where
  c2 : w.cell? ⟨0, 2, none⟩ = some (.int .i64 29)
  c3 : w.cell? ⟨0, 3, none⟩ = some (.int .i64 4096)
  c4 : w.cell? ⟨0, 4, none⟩ = some (.int .i64 23)
  c5 : w.cell? ⟨0, 5, none⟩ = some (.int .i64 4096)
  c6 : w.cell? ⟨0, 6, none⟩ = some (.int .i64 21)
  c7 : w.cell? ⟨0, 7, none⟩ = some (.int .i64 4096)
  c8 : w.cell? ⟨0, 8, none⟩ = some (.int .i64 19)
  c9 : w.cell? ⟨0, 9, none⟩ = some (.int .i64 19)
  c10 : w.cell? ⟨0, 10, none⟩ = some (.int .i64 23)
  c11 : w.cell? ⟨0, 11, none⟩ = some (.int .i64 23)
theorem SzAt.lt {w : World} (h : SzAt w) : 0 < w.heap.size := lt_of_cell h.c2
theorem SzAt.kept {w w' : World} {B : Nat} (h : SzAt w) (hb : Below B w w') (hB : 0 < B) : SzAt w' :=
  ⟨(hb.cell (p := ⟨0, 2, none⟩) hB).trans h.c2, (hb.cell (p := ⟨0, 3, none⟩) hB).trans h.c3, (hb.cell (p := ⟨0, 4, none⟩) hB).trans h.c4, (hb.cell (p := ⟨0, 5, none⟩) hB).trans h.c5, (hb.cell (p := ⟨0, 6, none⟩) hB).trans h.c6, (hb.cell (p := ⟨0, 7, none⟩) hB).trans h.c7, (hb.cell (p := ⟨0, 8, none⟩) hB).trans h.c8, (hb.cell (p := ⟨0, 9, none⟩) hB).trans h.c9, (hb.cell (p := ⟨0, 10, none⟩) hB).trans h.c10, (hb.cell (p := ⟨0, 11, none⟩) hB).trans h.c11⟩
theorem SzAt.below {w w' : World} (h : SzAt w) (hb : Below w.heap.size w w') : SzAt w' := h.kept hb h.lt
theorem SzAt.beside {w w' : World} {p b : Nat} (h : SzAt w) (hb : Beside p b w w') (hp : 0 < p) (hq : 0 < b) : SzAt w' :=
  h.kept (hb.below (B := 1) hp hq h.lt) (by decide)
theorem isKind_any (k : Int) (w : World) : Calls Tryd.prog 25 #[.int .i64 k] w fun e w' => e = .returned (.bool (decide (1 ≤ k) && decide (k ≤ 5))) ∧ w' = w := by
  by_cases h1 : 1 ≤ k
  · by_cases h2 : k ≤ 5
    · have e : (decide (1 ≤ k) && decide (k ≤ 5)) = true := by simp [h1, h2]
      rw [e]
      clear e
      go_enter Tryd.func25, Tryd.ntmps25
      go_wp2
      go_ret
      exact ⟨rfl, rfl⟩
    · have e : (decide (1 ≤ k) && decide (k ≤ 5)) = false := by simp [h2]
      rw [e]
      clear e
      go_enter Tryd.func25, Tryd.ntmps25
      go_wp2
      go_ret
      exact ⟨rfl, rfl⟩
  · have e : (decide (1 ≤ k) && decide (k ≤ 5)) = false := by simp [h1]
    rw [e]
    clear e
    go_enter Tryd.func25, Tryd.ntmps25
    go_wp2
    go_ret
    exact ⟨rfl, rfl⟩
theorem fits_any (k n : Int) (w : World) (hg : SzAt w) (h1 : 1 ≤ k) (h5 : k ≤ 5) : Calls Tryd.prog 26 #[.int .i64 k, .int .i64 n] w fun e w' => e = .returned (.bool (fitI k n)) ∧ w' = w := by
  obtain ⟨c2, c3, c4, c5, c6, c7, c8, c9, c10, c11⟩ := hg
  have h : (k = 1 ∧ leastI k = 29 ∧ mostI k = 4096) ∨ (k = 2 ∧ leastI k = 23 ∧ mostI k = 4096) ∨ (k = 3 ∧ leastI k = 21 ∧ mostI k = 4096) ∨ (k = 4 ∧ leastI k = 19 ∧ mostI k = 19) ∨ (k = 5 ∧ leastI k = 23 ∧ mostI k = 23) := by
    have h : k = 1 ∨ k = 2 ∨ k = 3 ∨ k = 4 ∨ k = 5 := by omega
    rcases h with rfl | rfl | rfl | rfl | rfl <;> decide
  unfold fitI
  clear h1 h5
  rcases h with ⟨rfl, e1, e2⟩ | ⟨rfl, e1, e2⟩ | ⟨rfl, e1, e2⟩ | ⟨rfl, e1, e2⟩ | ⟨rfl, e1, e2⟩
  all_goals
    rw [e1, e2]
    clear e1 e2
  · by_cases a : 29 ≤ n <;> by_cases b : n ≤ 4096
    all_goals try (exfalso; omega)
    all_goals
      simp only [a, b, decide_true, decide_false, Bool.and_true, Bool.and_false]
      go_enter Tryd.func26, Tryd.ntmps26
      go_wp2
      go_ret
      exact ⟨rfl, rfl⟩
  · by_cases a : 23 ≤ n <;> by_cases b : n ≤ 4096
    all_goals try (exfalso; omega)
    all_goals
      simp only [a, b, decide_true, decide_false, Bool.and_true, Bool.and_false]
      go_enter Tryd.func26, Tryd.ntmps26
      go_wp2
      go_ret
      exact ⟨rfl, rfl⟩
  · by_cases a : 21 ≤ n <;> by_cases b : n ≤ 4096
    all_goals try (exfalso; omega)
    all_goals
      simp only [a, b, decide_true, decide_false, Bool.and_true, Bool.and_false]
      go_enter Tryd.func26, Tryd.ntmps26
      go_wp2
      go_ret
      exact ⟨rfl, rfl⟩
  · by_cases a : 19 ≤ n <;> by_cases b : n ≤ 19
    all_goals try (exfalso; omega)
    all_goals
      simp only [a, b, decide_true, decide_false, Bool.and_true, Bool.and_false]
      go_enter Tryd.func26, Tryd.ntmps26
      go_wp2
      go_ret
      exact ⟨rfl, rfl⟩
  · by_cases a : 23 ≤ n <;> by_cases b : n ≤ 23
    all_goals try (exfalso; omega)
    all_goals
      simp only [a, b, decide_true, decide_false, Bool.and_true, Bool.and_false]
      go_enter Tryd.func26, Tryd.ntmps26
      go_wp2
      go_ret
      exact ⟨rfl, rfl⟩
theorem rfits_any (k n : Int) (w : World) (h1 : 1 ≤ k) (h5 : k ≤ 5) (hn : n ≤ 4096) : Calls Tryd.prog 28 #[.int .i64 k, .int .i64 n] w fun e w' => e = .returned (.bool (fitI k n)) ∧ w' = w := by
  have h : (k = 1 ∧ fitI k n = decide (29 ≤ n)) ∨ (k = 2 ∧ fitI k n = decide (23 ≤ n)) ∨ (k = 3 ∧ fitI k n = decide (21 ≤ n)) ∨ (k = 4 ∧ fitI k n = decide (n = 19)) ∨ (k = 5 ∧ fitI k n = decide (n = 23)) := by
    have h : k = 1 ∨ k = 2 ∨ k = 3 ∨ k = 4 ∨ k = 5 := by omega
    rcases h with rfl | rfl | rfl | rfl | rfl
    · left; refine ⟨rfl, ?_⟩; simp only [fitI, leastI, mostI]; simp [hn]
    · right; left; refine ⟨rfl, ?_⟩; simp only [fitI, leastI, mostI]; simp [hn]
    · right; right; left; refine ⟨rfl, ?_⟩; simp only [fitI, leastI, mostI]; simp [hn]
    · right; right; right; left; refine ⟨rfl, ?_⟩; simp only [fitI, leastI, mostI]; rw [Bool.eq_iff_iff]; simp; omega
    · right; right; right; right; refine ⟨rfl, ?_⟩; simp only [fitI, leastI, mostI]; rw [Bool.eq_iff_iff]; simp; omega
  clear h1 h5 hn
  rcases h with ⟨rfl, e⟩ | ⟨rfl, e⟩ | ⟨rfl, e⟩ | ⟨rfl, e⟩ | ⟨rfl, e⟩
  all_goals
    rw [e]
    clear e
  · by_cases a : 29 ≤ n
    all_goals
      simp only [a, decide_true, decide_false]
      go_enter Tryd.func28, Tryd.ntmps28
      go_wp2
      go_ret
      exact ⟨rfl, rfl⟩
  · by_cases a : 23 ≤ n
    all_goals
      simp only [a, decide_true, decide_false]
      go_enter Tryd.func28, Tryd.ntmps28
      go_wp2
      go_ret
      exact ⟨rfl, rfl⟩
  · by_cases a : 21 ≤ n
    all_goals
      simp only [a, decide_true, decide_false]
      go_enter Tryd.func28, Tryd.ntmps28
      go_wp2
      go_ret
      exact ⟨rfl, rfl⟩
  · by_cases a : n = 19
    · subst a
      go_enter Tryd.func28, Tryd.ntmps28
      go_wp2
      go_ret
      exact ⟨rfl, rfl⟩
    · have b : (n == 19) = false := beq_eq_false_iff_ne.2 a
      simp only [a, decide_false]
      clear a
      go_enter Tryd.func28, Tryd.ntmps28
      go_wp2
      go_ret
      exact ⟨rfl, rfl⟩
  · by_cases a : n = 23
    · subst a
      go_enter Tryd.func28, Tryd.ntmps28
      go_wp2
      go_ret
      exact ⟨rfl, rfl⟩
    · have b : (n == 23) = false := beq_eq_false_iff_ne.2 a
      simp only [a, decide_false]
      clear a
      go_enter Tryd.func28, Tryd.ntmps28
      go_wp2
      go_ret
      exact ⟨rfl, rfl⟩
/-- A verdict's numbers, by its subcode. -/
def vaI (s : Nat) : Int := if s = 0 then 0 else 3
def vcI (s : Nat) : Int := if s = 0 then 0 else 1
def verV (s : Nat) : Value := .agg #[.int .i64 (vaI s), .int .u8 (vcI s), .int .u8 (s : Int)]
theorem reset_any (n : Int) (w : World) : Calls Tryd.prog 34 #[.int .u8 n] w fun e w' => e = .returned (.agg #[.int .i64 3, .int .u8 1, .int .u8 n]) ∧ Below w.heap.size w w' := by
  go_enter Tryd.func34, Tryd.ntmps34
  go_wp2
  exact bodyPost_ret (v := .agg #[.int .i64 3, .int .u8 1, .int .u8 n]) (by simp [results, Tryd.results34, go_sem]) rfl ⟨rfl, (Below.refl _ _).alloc (Nat.le_refl _) _⟩
theorem rreset_any (c n : Int) (w : World) : Calls Tryd.prog 33 #[.int .u8 c, .int .u8 n] w fun e w' => e = .returned (.agg #[.int .i64 3, .int .u8 c, .int .u8 n]) ∧ Below w.heap.size w w' := by
  go_enter Tryd.func33, Tryd.ntmps33
  go_wp2
  exact bodyPost_ret (v := .agg #[.int .i64 3, .int .u8 c, .int .u8 n]) (by simp [results, Tryd.results33, go_sem]) rfl ⟨rfl, (Below.refl _ _).alloc (Nat.le_refl _) _⟩
end Go.Proofs.YtlinoklgchfedaaDoor
