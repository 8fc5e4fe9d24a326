/-
  take: bytes of a piece are kept up to the goal.
-/
import Derived.RowKit
import Derived.Laws.BitsAllLaws
import Derived.Test.YtfhapjhkjdifjaaGreatDoorProg
import Derived.WalkKit
import Derived.WalkSpells
import Derived.WalkLawsBesides
import Derived.Laws.IdiomStrings
import Derived.RegionTactic
import Derived.Deep.RegionWith
import Derived.Deep.RegionHeld
import Derived.Deep.AppendLies
import Derived.LoopN
import Derived.Lib.SlBuf
import Derived.BigQuiet
import Derived.Deep.RegionHeld3
namespace Go.Proofs.YtfhapjhkjdifjaaGreatDoor.Fr
/-- The length that a header tells, and its kind. -/
def lenI (a : List UInt8) : Nat := (a.getD 16 0).toNat * 256 + (a.getD 17 0).toNat
def kindI (a : List UInt8) : Nat := (a.getD 18 0).toNat
/-- The sixteen bytes that each message begins with. -/
def mark : List UInt8 := [255, 255, 255, 255, 255, 255, 255, 255, 255, 255, 255, 255, 255, 255, 255, 255]
/-- The least and the most bytes of a kind. -/
def leastI (k : Int) : Int := if k = 1 then 29 else if k = 2 then 23 else if k = 3 then 21 else if k = 4 then 19 else 23
def mostI (k : Int) : Int := if k = 1 then 4096 else if k = 2 then 4096 else if k = 3 then 4096 else if k = 4 then 19 else 23
def fitI (k n : Int) : Bool := decide (leastI k ≤ n) && decide (n ≤ mostI k)
/-- What is wrong with a header: nothing, or a subcode. -/
def wrongI (a : List UInt8) : Nat :=
  if a.take 16 = mark then (if lenI a < 19 ∨ 4096 < lenI a then 2 else if kindI a < 1 ∨ 5 < kindI a then 3 else if fitI (kindI a) (lenI a) = true then 0 else 2) else 1
/-- A message: its kind and body. -/
structure Fm where
  k : Nat
  b : List UInt8
/-- A stream: the bytes that wait, and what is wrong. -/
structure St where
  wait : List UInt8
  sub : Nat
def endI (x : List UInt8) : St × List Fm :=
  if x.length = 19 ∧ wrongI x ≠ 0 then (⟨[], wrongI x⟩, []) else if 19 ≤ x.length ∧ x.length = lenI x then (⟨[], 0⟩, [⟨kindI x, x.drop 19⟩]) else (⟨x, 0⟩, [])
def stepI (s : St) (b : UInt8) : St × List Fm := if s.sub = 0 then endI (s.wait ++ [b]) else (s, [])
def runI : St → List UInt8 → St × List Fm
  | s, [] => (s, [])
  | s, b :: c => ((runI (stepI s b).1 c).1, (stepI s b).2 ++ (runI (stepI s b).1 c).2)
def goalI (a : List UInt8) : Nat := if a.length < 19 then 19 else lenI a
/-- How a stream may stand. -/
def OkS (s : St) : Prop := if s.sub = 0 then s.wait.length < goalI s.wait ∧ (19 ≤ s.wait.length → wrongI s.wait = 0) else s.wait = []
def st0 : St := ⟨[], 0⟩
theorem ok0 : OkS st0 := by unfold OkS st0; simp [goalI]
theorem run_append (c d : List UInt8) : ∀ s, runI s (c ++ d) = ((runI (runI s c).1 d).1, (runI s c).2 ++ (runI (runI s c).1 d).2) := by
  induction c with
  | nil => intro s; simp [runI]
  | cons b c ih => intro s; simp [runI, ih]
theorem run_broken (c : List UInt8) : ∀ s : St, s.sub ≠ 0 → runI s c = (s, []) := by
  induction c with
  | nil => intro s _; rfl
  | cons b c ih =>
    intro s h
    have e : stepI s b = (s, []) := by unfold stepI; rw [if_neg h]
    simp [runI, e, ih s h]
theorem getD_app (a c : List UInt8) (i : Nat) (h : i < a.length) : (a ++ c).getD i 0 = a.getD i 0 := by
  rw [List.getD_eq_getElem?_getD, List.getD_eq_getElem?_getD, List.getElem?_append_left h]
theorem lenI_app (a c : List UInt8) (h : 19 ≤ a.length) : lenI (a ++ c) = lenI a := by unfold lenI; rw [getD_app _ _ _ (by omega), getD_app _ _ _ (by omega)]
theorem kindI_app (a c : List UInt8) (h : 19 ≤ a.length) : kindI (a ++ c) = kindI a := by unfold kindI; rw [getD_app _ _ _ (by omega)]
theorem wrongI_app (a c : List UInt8) (h : 19 ≤ a.length) : wrongI (a ++ c) = wrongI a := by
  unfold wrongI
  rw [lenI_app a c h, kindI_app a c h, List.take_append_of_le_length (by omega)]
theorem goal_app (a c : List UInt8) (h : a.length + c.length < goalI a) : goalI (a ++ c) = goalI a := by
  unfold goalI at *
  rw [List.length_append]
  by_cases e : a.length < 19
  · rw [if_pos e] at h ⊢; rw [if_pos h]
  · rw [if_neg e, if_neg (by omega), lenI_app a c (by omega)]
theorem end_waits (a c : List UInt8) (h : a.length + c.length < goalI a) (hc : c ≠ []) : endI (a ++ c) = (⟨a ++ c, 0⟩, []) := by
  have h1 : 1 ≤ c.length := by cases c with | nil => exact absurd rfl hc | cons => simp
  have e := goal_app a c h
  unfold endI
  have hl : (a ++ c).length = a.length + c.length := List.length_append
  by_cases g : a.length < 19
  · have hg : goalI a = 19 := by unfold goalI; rw [if_pos g]
    rw [if_neg (by omega), if_neg (by omega)]
  · have hg : goalI a = lenI a := by unfold goalI; rw [if_neg g]
    rw [if_neg (by omega), if_neg (by rw [lenI_app a c (by omega)]; omega)]
theorem run_chunk (c : List UInt8) : ∀ a, c ≠ [] → a.length + c.length ≤ goalI a → runI ⟨a, 0⟩ c = endI (a ++ c) := by
  induction c with
  | nil => intro a h _; exact absurd rfl h
  | cons b c ih =>
    intro a _ h
    have e : stepI ⟨a, 0⟩ b = endI (a ++ [b]) := by unfold stepI; rw [if_pos rfl]
    by_cases hc : c = []
    · subst hc; simp [runI, e]
    · have h1 : 1 ≤ c.length := by cases c with | nil => exact absurd rfl hc | cons => simp
      have hw := end_waits a [b] (by simp at h ⊢; omega) (by simp)
      have hg := goal_app a [b] (by simp at h ⊢; omega)
      rw [runI, e, hw, ih (a ++ [b]) hc (by rw [hg]; simp at h ⊢; omega)]
      simp
theorem wrong_fine {a : List UInt8} (h : wrongI a = 0) : a.take 16 = mark ∧ 19 ≤ lenI a ∧ lenI a ≤ 4096 ∧ 1 ≤ kindI a ∧ kindI a ≤ 5 ∧ fitI (kindI a) (lenI a) = true := by
  unfold wrongI at h
  split at h
  · rename_i h0
    split at h
    · exact absurd h (by decide)
    · split at h
      · exact absurd h (by decide)
      · split at h
        · rename_i h1 h2 h3
          exact ⟨h0, by omega, by omega, by omega, by omega, h3⟩
        · exact absurd h (by decide)
  · exact absurd h (by decide)
theorem goal_le {s : St} (h : OkS s) (h0 : s.sub = 0) : s.wait.length < goalI s.wait ∧ goalI s.wait ≤ 4096 := by
  unfold OkS at h
  rw [if_pos h0] at h
  refine ⟨h.1, ?_⟩
  unfold goalI
  by_cases e : s.wait.length < 19
  · rw [if_pos e]; decide
  · rw [if_neg e]; exact (wrong_fine (h.2 (by omega))).2.2.1
theorem end_ok (a c : List UInt8) (h : OkS ⟨a, 0⟩) (hc : c ≠ []) (hl : a.length + c.length ≤ goalI a) : OkS (endI (a ++ c)).1 := by
  have h1 : 1 ≤ c.length := by cases c with | nil => exact absurd rfl hc | cons => simp
  have hs : (a ++ c).length = a.length + c.length := List.length_append
  unfold OkS at h
  rw [if_pos rfl] at h
  unfold endI
  by_cases e1 : (a ++ c).length = 19 ∧ wrongI (a ++ c) ≠ 0
  · rw [if_pos e1]; unfold OkS; rw [if_neg e1.2]
  · rw [if_neg e1]
    by_cases e2 : 19 ≤ (a ++ c).length ∧ (a ++ c).length = lenI (a ++ c)
    · rw [if_pos e2]; exact ok0
    · rw [if_neg e2]
      unfold OkS
      rw [if_pos rfl]
      by_cases g : a.length < 19
      · have hg : goalI a = 19 := by unfold goalI; rw [if_pos g]
        by_cases g2 : (a ++ c).length = 19
        · have hw : wrongI (a ++ c) = 0 := by
            by_cases z : wrongI (a ++ c) = 0
            · exact z
            · exact absurd ⟨g2, z⟩ e1
          have h3 := wrong_fine hw
          refine ⟨?_, fun _ => hw⟩
          show (a ++ c).length < goalI (a ++ c)
          unfold goalI
          rw [if_neg (by omega)]
          omega
        · refine ⟨?_, fun k => absurd k (by show ¬ 19 ≤ (a ++ c).length; omega)⟩
          show (a ++ c).length < goalI (a ++ c)
          unfold goalI
          rw [if_pos (by omega)]
          omega
      · have hg : goalI a = lenI a := by unfold goalI; rw [if_neg g]
        have hw : wrongI (a ++ c) = 0 := by rw [wrongI_app a c (by omega)]; exact h.2 (by show 19 ≤ a.length; omega)
        refine ⟨?_, fun _ => hw⟩
        show (a ++ c).length < goalI (a ++ c)
        unfold goalI
        rw [if_neg (by omega), lenI_app a c (by omega)]
        rw [lenI_app a c (by omega)] at e2
        omega
/-- A piece up to the goal, and what is behind it. -/
theorem run_piece (a c : List UInt8) (h : OkS ⟨a, 0⟩) (hc : c ≠ []) : runI ⟨a, 0⟩ c = ((runI (endI (a ++ c.take (goalI a - a.length))).1 (c.drop (goalI a - a.length))).1, (endI (a ++ c.take (goalI a - a.length))).2 ++ (runI (endI (a ++ c.take (goalI a - a.length))).1 (c.drop (goalI a - a.length))).2) := by
  have h1 : 1 ≤ c.length := by cases c with | nil => exact absurd rfl hc | cons => simp
  have hg := (goal_le h rfl).1
  have hg' : a.length < goalI a := hg
  have e := run_append (c.take (goalI a - a.length)) (c.drop (goalI a - a.length)) ⟨a, 0⟩
  rw [List.take_append_drop] at e
  have hk := run_chunk (c.take (goalI a - a.length)) a (by intro z; have t := congrArg List.length z; rw [List.length_take, List.length_nil] at t; omega) (by rw [List.length_take]; omega)
  rw [hk] at e
  exact e
theorem step_ok (s : St) (b : UInt8) (h : OkS s) : OkS (stepI s b).1 := by
  unfold stepI
  by_cases e : s.sub = 0
  · rw [if_pos e]
    obtain ⟨a, n⟩ := s
    simp only at e
    subst e
    exact end_ok a [b] h (by simp) (by have := (goal_le h rfl).1; simp at this ⊢; omega)
  · rw [if_neg e]; exact h
theorem run_ok (c : List UInt8) : ∀ s, OkS s → OkS (runI s c).1 := by
  induction c with
  | nil => intro s h; exact h
  | cons b c ih => intro s h; exact ih _ (step_ok s b h)
/-- What the whole stream's first message tells. -/
theorem run_short (s : List UInt8) (h : s.length < 19) : runI st0 s = (⟨s, 0⟩, []) := by
  by_cases hs : s = []
  · subst hs; rfl
  · have e := run_chunk s [] hs (by unfold goalI; simp; omega)
    have w := end_waits [] s (by unfold goalI; simp; omega) hs
    exact e.trans (by simpa using w)
theorem take_facts (s : List UInt8) (n : Nat) (h : 19 ≤ n) (hn : n ≤ s.length) : lenI (s.take n) = lenI s ∧ kindI (s.take n) = kindI s ∧ wrongI (s.take n) = wrongI s := by
  have e : s.take n ++ s.drop n = s := List.take_append_drop n s
  have hl : 19 ≤ (s.take n).length := by rw [List.length_take]; omega
  refine ⟨?_, ?_, ?_⟩
  · conv => rhs; rw [← e, lenI_app _ _ hl]
  · conv => rhs; rw [← e, kindI_app _ _ hl]
  · conv => rhs; rw [← e, wrongI_app _ _ hl]
theorem run_head (s : List UInt8) (h : 19 ≤ s.length) : runI st0 (s.take 19) = endI (s.take 19) := by
  have e := run_chunk (s.take 19) [] (by intro z; have t := congrArg List.length z; rw [List.length_take, List.length_nil] at t; omega) (by unfold goalI; simp; omega)
  exact e.trans (by simp)
theorem run_wrong (s : List UInt8) (h : 19 ≤ s.length) (hw : wrongI s ≠ 0) : runI st0 s = (⟨[], wrongI s⟩, []) := by
  have e := run_append (s.take 19) (s.drop 19) st0
  rw [List.take_append_drop, run_head s h] at e
  have f := take_facts s 19 (by omega) h
  have g : endI (s.take 19) = (⟨[], wrongI s⟩, []) := by unfold endI; rw [f.2.2, if_pos ⟨by rw [List.length_take]; omega, hw⟩]
  have k : runI (⟨[], wrongI s⟩ : St) (s.drop 19) = (⟨[], wrongI s⟩, []) := run_broken _ _ hw
  rw [g] at e
  simp only [k] at e
  exact e
theorem run_most (s : List UInt8) (n : Nat) (h : 19 ≤ n) (hn : n ≤ s.length) (hw : wrongI s = 0) (hl : n ≤ lenI s) : runI st0 (s.take n) = endI (s.take n) := by
  by_cases e19 : n = 19
  · subst e19; exact run_head s hn
  · have f := take_facts s 19 (by omega) (by omega)
    have hh := run_head s (by omega)
    have g : endI (s.take 19) = (⟨s.take 19, 0⟩, []) := by
      unfold endI
      rw [f.2.2, f.1, if_neg (by intro z; exact z.2 hw), if_neg (by rw [List.length_take]; omega)]
    have e := run_append (s.take 19) ((s.take n).drop 19) st0
    have t : s.take 19 ++ (s.take n).drop 19 = s.take n := by
      have := List.take_append_drop 19 (s.take n)
      rwa [List.take_take, Nat.min_eq_left h] at this
    rw [t, hh, g] at e
    have k := run_chunk ((s.take n).drop 19) (s.take 19) (by intro z; have := congrArg List.length z; simp at this; omega) (by unfold goalI; rw [f.1]; simp; split <;> omega)
    simp only [List.nil_append] at e
    rw [k, t] at e
    exact e
theorem run_wait (s : List UInt8) (h : 19 ≤ s.length) (hw : wrongI s = 0) (hl : s.length < lenI s) : runI st0 s = (⟨s, 0⟩, []) := by
  have e := run_most s s.length h (Nat.le_refl _) hw (by omega)
  rw [List.take_length] at e
  rw [e]
  unfold endI
  rw [if_neg (by intro z; exact z.2 hw), if_neg (by omega)]
theorem run_frame (s : List UInt8) (hw : wrongI s = 0) (hl : lenI s ≤ s.length) : runI st0 s = ((runI st0 (s.drop (lenI s))).1, ⟨kindI s, (s.take (lenI s)).drop 19⟩ :: (runI st0 (s.drop (lenI s))).2) := by
  have h19 := (wrong_fine hw).2.1
  have e := run_append (s.take (lenI s)) (s.drop (lenI s)) st0
  rw [List.take_append_drop, run_most s (lenI s) h19 hl hw (Nat.le_refl _)] at e
  have f := take_facts s (lenI s) h19 hl
  have g : endI (s.take (lenI s)) = (st0, [⟨kindI s, (s.take (lenI s)).drop 19⟩]) := by
    unfold endI
    rw [f.2.2, f.1, f.2.1, if_neg (by intro z; exact z.2 hw), if_pos (by rw [List.length_take]; omega)]
    rfl
  rw [g] at e
  exact e
end Go.Proofs.YtfhapjhkjdifjaaGreatDoor.Fr
namespace Go.Proofs.YtfhapjhkjdifjaaGreatDoor.Fr
open Go.RowKit
theorem lt_of_cell {w : World} {b i : Nat} {v : Value} (h : w.cell? ⟨b, i, none⟩ = some v) : b < w.heap.size := World.block_lt_of_cell? w _ h
theorem below_drewN {B : Nat} {a w : World} (h : Below B a w) (n : Nat) : Below B a (w.drewN n) := ⟨h.os, h.tape, h.output, h.size, h.block⟩
theorem list_size (l : List UInt8) : (⟨l.toArray⟩ : ByteArray).size = l.length := by simp [ByteArray.size]
theorem hp_new {W : World} {o : Obj} {n : Nat} (hn : n = W.heap.size) : (W.alloc o).heap[n]? = some o := by
  subst hn
  show (W.heap.push o)[W.heap.size]? = some o
  simp
theorem hp_up {W : World} {o x : Obj} {n : Nat} (h : W.heap[n]? = some x) : (W.alloc o).heap[n]? = some x := by rw [Below.heap_alloc _ _ _ (Array.getElem?_eq_some_iff.mp h).1]; exact h
theorem cl_row {w : World} {k i : Nat} {cs : Array Value} {t : TypeId} {v : Value} (hk : w.heap[k]? = some (.cells cs t (0, 0))) (hi : cs[i]? = some v) : w.cell? ⟨k, i, none⟩ = some v := by
  rw [World.cell?, hk]
  exact hi
theorem fz_row {w : World} {k i : Nat} {cs : Array Value} {t : TypeId} (hk : w.heap[k]? = some (.cells cs t (0, 0))) : w.frozen? ⟨k, i, none⟩ = false := by
  simp [World.frozen?, hk]
theorem ret_int {k : IntKind} {a b : Int} (h : a = b) : Ending.returned (.int k a) = .returned (.int k b) := by rw [h]
theorem ret_bool {a b : Bool} (h : a = b) : Ending.returned (.bool a) = .returned (.bool b) := by rw [h]
/-- All blocks but two are as they were. -/
structure Beside (p b : Nat) (w w' : World) : Prop where
  os : w'.os = w.os
  tape : w'.tape = w.tape
  output : w'.output = w.output
  size : w.heap.size ≤ w'.heap.size
  block : ∀ k, k < w.heap.size → k ≠ p → k ≠ b → w'.heap[k]? = w.heap[k]?
theorem Beside.below {p b B : Nat} {w w' : World} (h : Beside p b w w') (hp : B ≤ p) (hb : B ≤ b) (hB : B ≤ w.heap.size) : Below B w w' :=
  ⟨h.os, h.tape, h.output, h.size, fun k hk => h.block k (by omega) (by omega) (by omega)⟩
theorem Beside.of_below {p b B : Nat} {w w' : World} (h : Below B w w') (hB : w.heap.size ≤ B) : Beside p b w w' :=
  ⟨h.os, h.tape, h.output, h.size, fun k hk _ _ => h.block k (by omega)⟩
theorem Beside.refl {p b : Nat} (w : World) : Beside p b w w := Beside.of_below (Below.refl _ _) (Nat.le_refl _)
theorem Beside.trans {p q : Nat} {a b c : World} (h : Beside p q a b) (k : Beside p q b c) : Beside p q a c :=
  ⟨k.os.trans h.os, k.tape.trans h.tape, k.output.trans h.output, Nat.le_trans h.size k.size, fun j hj hp hq => (k.block j (Nat.lt_of_lt_of_le hj h.size) hp hq).trans (h.block j hj hp hq)⟩
theorem Beside.then {p b : Nat} {w w' w'' : World} (h : Beside p b w w') (k : Below w'.heap.size w' w'') : Beside p b w w'' := h.trans (Beside.of_below k (Nat.le_refl _))
/-- The same, where what lies at base and above may be written as well. -/
theorem Beside.over {p b B : Nat} {w w' w'' : World} (h : Beside p b w w') (k : Below B w' w'') (hB : w.heap.size ≤ B) : Beside p b w w'' :=
  ⟨k.os.trans h.os, k.tape.trans h.tape, k.output.trans h.output, Nat.le_trans h.size k.size, fun j hj hp hq => (k.block j (by omega)).trans (h.block j hj hp hq)⟩
theorem Beside.setp {p b : Nat} (w : World) (i : Nat) (v : Value) : Beside p b w (w.setCell ⟨p, i, none⟩ v) := by
  have h := (Below.refl 0 w).setCell (p := ⟨p, i, none⟩) (by simp) v
  exact ⟨h.os, h.tape, h.output, h.size, fun k _ hk _ => Below.heap_setCell w ⟨p, i, none⟩ v k hk⟩
theorem Beside.row {p b : Nat} (w : World) (cs : Array Value) : Beside p b w (w.setRow b cs) :=
  ⟨rfl, rfl, rfl, by simp [World.setRow], fun k _ _ hk => by show (w.heap.modify b _)[k]? = _; rw [Array.getElem?_modify, if_neg (fun e => hk e.symm)]⟩
/-- The table of sizes. -/
structure SzAt (w : World) : Prop where
  c2 : w.cell? ⟨0, 2, none⟩ = some (.int .i64 29)
  c3 : w.cell? ⟨0, 3, none⟩ = some (.int .i64 4096)
  c4 : w.cell? ⟨0, 4, none⟩ = some (.int .i64 23)
  c5 : w.cell? ⟨0, 5, none⟩ = some (.int .i64 4096)
  c6 : w.cell? ⟨0, 6, none⟩ = some (.int .i64 21)
  c7 : w.cell? ⟨0, 7, none⟩ = some (.int .i64 4096)
  c8 : w.cell? ⟨0, 8, none⟩ = some (.int .i64 19)
  c9 : w.cell? ⟨0, 9, none⟩ = some (.int .i64 19)
  c10 : w.cell? ⟨0, 10, none⟩ = some (.int .i64 23)
  c11 : w.cell? ⟨0, 11, none⟩ = some (.int .i64 23)
theorem SzAt.lt {w : World} (h : SzAt w) : 0 < w.heap.size := lt_of_cell h.c2
theorem SzAt.kept {w w' : World} {B : Nat} (h : SzAt w) (hb : Below B w w') (hB : 0 < B) : SzAt w' :=
  ⟨(hb.cell (p := ⟨0, 2, none⟩) hB).trans h.c2, (hb.cell (p := ⟨0, 3, none⟩) hB).trans h.c3, (hb.cell (p := ⟨0, 4, none⟩) hB).trans h.c4, (hb.cell (p := ⟨0, 5, none⟩) hB).trans h.c5, (hb.cell (p := ⟨0, 6, none⟩) hB).trans h.c6, (hb.cell (p := ⟨0, 7, none⟩) hB).trans h.c7, (hb.cell (p := ⟨0, 8, none⟩) hB).trans h.c8, (hb.cell (p := ⟨0, 9, none⟩) hB).trans h.c9, (hb.cell (p := ⟨0, 10, none⟩) hB).trans h.c10, (hb.cell (p := ⟨0, 11, none⟩) hB).trans h.c11⟩
theorem SzAt.below {w w' : World} (h : SzAt w) (hb : Below w.heap.size w w') : SzAt w' := h.kept hb h.lt
theorem SzAt.beside {w w' : World} {p b : Nat} (h : SzAt w) (hb : Beside p b w w') (hp : 0 < p) (hq : 0 < b) : SzAt w' :=
  h.kept (hb.below (B := 1) hp hq h.lt) (by decide)
theorem isKind_any (k : Int) (w : World) : Calls Tryz.prog 18 #[.int .i64 k] w fun e w' => e = .returned (.bool (decide (1 ≤ k) && decide (k ≤ 5))) ∧ w' = w := by
  by_cases h1 : 1 ≤ k
  · by_cases h2 : k ≤ 5
    · have e : (decide (1 ≤ k) && decide (k ≤ 5)) = true := by simp [h1, h2]
      rw [e]
      clear e
      go_enter Tryz.func18, Tryz.ntmps18
      go_wp2
      go_ret
      exact ⟨rfl, rfl⟩
    · have e : (decide (1 ≤ k) && decide (k ≤ 5)) = false := by simp [h2]
      rw [e]
      clear e
      go_enter Tryz.func18, Tryz.ntmps18
      go_wp2
      go_ret
      exact ⟨rfl, rfl⟩
  · have e : (decide (1 ≤ k) && decide (k ≤ 5)) = false := by simp [h1]
    rw [e]
    clear e
    go_enter Tryz.func18, Tryz.ntmps18
    go_wp2
    go_ret
    exact ⟨rfl, rfl⟩
theorem fits_any (k n : Int) (w : World) (hg : SzAt w) (h1 : 1 ≤ k) (h5 : k ≤ 5) : Calls Tryz.prog 19 #[.int .i64 k, .int .i64 n] w fun e w' => e = .returned (.bool (fitI k n)) ∧ w' = w := by
  obtain ⟨c2, c3, c4, c5, c6, c7, c8, c9, c10, c11⟩ := hg
  have h : (k = 1 ∧ leastI k = 29 ∧ mostI k = 4096) ∨ (k = 2 ∧ leastI k = 23 ∧ mostI k = 4096) ∨ (k = 3 ∧ leastI k = 21 ∧ mostI k = 4096) ∨ (k = 4 ∧ leastI k = 19 ∧ mostI k = 19) ∨ (k = 5 ∧ leastI k = 23 ∧ mostI k = 23) := by
    have h : k = 1 ∨ k = 2 ∨ k = 3 ∨ k = 4 ∨ k = 5 := by omega
    rcases h with rfl | rfl | rfl | rfl | rfl <;> decide
  unfold fitI
  clear h1 h5
  rcases h with ⟨rfl, e1, e2⟩ | ⟨rfl, e1, e2⟩ | ⟨rfl, e1, e2⟩ | ⟨rfl, e1, e2⟩ | ⟨rfl, e1, e2⟩
  all_goals
    rw [e1, e2]
    clear e1 e2
  · by_cases a : 29 ≤ n <;> by_cases b : n ≤ 4096
    all_goals try (exfalso; omega)
    all_goals
      simp only [a, b, decide_true, decide_false, Bool.and_true, Bool.and_false]
      go_enter Tryz.func19, Tryz.ntmps19
      go_wp2
      go_ret
      exact ⟨rfl, rfl⟩
  · by_cases a : 23 ≤ n <;> by_cases b : n ≤ 4096
    all_goals try (exfalso; omega)
    all_goals
      simp only [a, b, decide_true, decide_false, Bool.and_true, Bool.and_false]
      go_enter Tryz.func19, Tryz.ntmps19
      go_wp2
      go_ret
      exact ⟨rfl, rfl⟩
  · by_cases a : 21 ≤ n <;> by_cases b : n ≤ 4096
    all_goals try (exfalso; omega)
    all_goals
      simp only [a, b, decide_true, decide_false, Bool.and_true, Bool.and_false]
      go_enter Tryz.func19, Tryz.ntmps19
      go_wp2
      go_ret
      exact ⟨rfl, rfl⟩
  · by_cases a : 19 ≤ n <;> by_cases b : n ≤ 19
    all_goals try (exfalso; omega)
    all_goals
      simp only [a, b, decide_true, decide_false, Bool.and_true, Bool.and_false]
      go_enter Tryz.func19, Tryz.ntmps19
      go_wp2
      go_ret
      exact ⟨rfl, rfl⟩
  · by_cases a : 23 ≤ n <;> by_cases b : n ≤ 23
    all_goals try (exfalso; omega)
    all_goals
      simp only [a, b, decide_true, decide_false, Bool.and_true, Bool.and_false]
      go_enter Tryz.func19, Tryz.ntmps19
      go_wp2
      go_ret
      exact ⟨rfl, rfl⟩
/-- A verdict's numbers, by its subcode. -/
def vaI (s : Nat) : Int := if s = 0 then 0 else 3
def vcI (s : Nat) : Int := if s = 0 then 0 else 1
def verV (s : Nat) : Value := .agg #[.int .i64 (vaI s), .int .u8 (vcI s), .int .u8 (s : Int)]
theorem reset_any (n : Int) (w : World) : Calls Tryz.prog 75 #[.int .u8 n] w fun e w' => e = .returned (.agg #[.int .i64 3, .int .u8 1, .int .u8 n]) ∧ Below w.heap.size w w' := by
  go_enter Tryz.func75, Tryz.ntmps75
  go_wp2
  exact bodyPost_ret (v := .agg #[.int .i64 3, .int .u8 1, .int .u8 n]) (by simp [results, Tryz.results75, go_sem]) rfl ⟨rfl, (Below.refl _ _).alloc (Nat.le_refl _) _⟩
end Go.Proofs.YtfhapjhkjdifjaaGreatDoor.Fr
namespace Go.Proofs.YtfhapjhkjdifjaaGreatDoor.Fr
open Go.RowKit
/-- The bytes l stand at the front of block b, which has room for 4096. -/
structure BufAt (w : World) (b : Nat) (l : List UInt8) : Prop where
  row : ∃ cs : Array Value, w.heap[b]? = some (.cells cs 5 (0, 0)) ∧ cs.size = 4096 ∧ ∀ (j : Nat) x, l[j]? = some x → cs[j]? = some (.int .u8 (x.toNat : Int))
theorem BufAt.cell {w : World} {b : Nat} {l : List UInt8} (h : BufAt w b l) (j : Nat) (hj : j < l.length) : w.cell? ⟨b, j, none⟩ = some (.int .u8 ((l.getD j 0).toNat : Int)) := by
  obtain ⟨cs, h1, _, h3⟩ := h.row
  refine cl_row h1 ?_
  rw [List.getD_eq_getElem?_getD, List.getElem?_eq_getElem hj]
  exact h3 j _ (List.getElem?_eq_getElem hj)
/-- The waiting bytes' slice. -/
def wv (b : Nat) (s : St) : Value := if s.sub = 0 then .slice (some ⟨b, 0, none⟩) s.wait.length 4096 else .slice none 0 0
structure FrAt (w : World) (p b : Nat) (s : St) : Prop where
  row : w.heap[p]? = some (.cells #[.bool true, wv b s, .int .i64 (vaI s.sub), .int .u8 (vcI s.sub), .int .u8 (s.sub : Int)] 70 (0, 0))
  buf : BufAt w b s.wait
  ne : p ≠ b
  ok : OkS s
theorem FrAt.c0 {w : World} {p b : Nat} {s : St} (h : FrAt w p b s) : w.cell? ⟨p, 0, none⟩ = some (.bool true) := cl_row h.row rfl
theorem FrAt.c1 {w : World} {p b : Nat} {s : St} (h : FrAt w p b s) : w.cell? ⟨p, 1, none⟩ = some (wv b s) := cl_row h.row rfl
theorem FrAt.c2 {w : World} {p b : Nat} {s : St} (h : FrAt w p b s) : w.cell? ⟨p, 2, none⟩ = some (.int .i64 (vaI s.sub)) := cl_row h.row rfl
theorem FrAt.c3 {w : World} {p b : Nat} {s : St} (h : FrAt w p b s) : w.cell? ⟨p, 3, none⟩ = some (.int .u8 (vcI s.sub)) := cl_row h.row rfl
theorem FrAt.c4 {w : World} {p b : Nat} {s : St} (h : FrAt w p b s) : w.cell? ⟨p, 4, none⟩ = some (.int .u8 (s.sub : Int)) := cl_row h.row rfl
theorem FrAt.fz {w : World} {p b : Nat} {s : St} (h : FrAt w p b s) (i : Nat) : w.frozen? ⟨p, i, none⟩ = false := fz_row h.row
theorem FrAt.ltp {w : World} {p b : Nat} {s : St} (h : FrAt w p b s) : p < w.heap.size := lt_of_cell h.c0
theorem BufAt.lt {w : World} {b : Nat} {l : List UInt8} (h : BufAt w b l) : b < w.heap.size := by
  obtain ⟨cs, h1, _⟩ := h.row
  exact (Array.getElem?_eq_some_iff.mp h1).1
theorem BufAt.same {w w' : World} {b : Nat} {l : List UInt8} (h : BufAt w b l) (e : w'.heap[b]? = w.heap[b]?) : BufAt w' b l := by
  obtain ⟨cs, h1, h2⟩ := h.row
  exact ⟨cs, e.trans h1, h2⟩
theorem FrAt.below {w w' : World} {p b B : Nat} {s : St} (h : FrAt w p b s) (hb : Below B w w') (hp : p < B) (hq : b < B) : FrAt w' p b s :=
  ⟨(hb.block p hp).trans h.row, h.buf.same (hb.block b hq), h.ne, h.ok⟩
theorem there_yes (p : Nat) (w : World) (h : w.cell? ⟨p, 0, none⟩ = some (.bool true)) : Calls Tryz.prog 24 #[.pointer (some ⟨p, 0, none⟩)] w fun e w' => e = .returned (.bool true) ∧ w' = w := by
  go_enter Tryz.func24, Tryz.ntmps24
  go_wp2
  go_ret
  exact ⟨rfl, rfl⟩
theorem there_not (p : Nat) (w : World) (h : w.cell? ⟨p, 0, none⟩ = some (.bool false)) : Calls Tryz.prog 24 #[.pointer (some ⟨p, 0, none⟩)] w fun e w' => e = .returned (.bool false) ∧ w' = w := by
  go_enter Tryz.func24, Tryz.ntmps24
  go_wp2
  go_ret
  exact ⟨rfl, rfl⟩
theorem there_nil (w : World) : Calls Tryz.prog 24 #[.pointer none] w fun e w' => e = .returned (.bool false) ∧ w' = w := by
  go_enter Tryz.func24, Tryz.ntmps24
  go_wp2
  go_ret
  exact ⟨rfl, rfl⟩
theorem va_ne (s : Nat) : (vaI s == 0) = decide (s = 0) := by
  unfold vaI
  by_cases h : s = 0
  · simp [h]
  · simp [h]
theorem broken_any (p : Nat) (n : Int) (w : World) (h : w.cell? ⟨p, 2, none⟩ = some (.int .i64 n)) : Calls Tryz.prog 25 #[.pointer (some ⟨p, 0, none⟩)] w fun e w' => e = .returned (.bool (!(n == 0))) ∧ w' = w := by
  go_enter Tryz.func25, Tryz.ntmps25
  go_wp2
  go_ret
  exact ⟨rfl, rfl⟩
theorem info5 : (Tryz.prog.info? 5).map (fun i => (i.zero, i.size, i.bytes)) = some (some (.int .u8 0), 1, 1) := by kernel_rfl
theorem mk_buf (w : World) : (Instr.makeSlice 25 (.int .i64 0) (.int .i64 4096)).run Tryz.prog w = .ok (.slice (some ⟨w.heap.size, 0, none⟩) 0 4096) (w.alloc (.cells (madeCells #[.int .u8 0] 4096) 5)) := by
  obtain ⟨i0, hi, hz0, hz1, hz2⟩ := info_parts info5
  have h := run_make w 25 5 i0 (.int .u8 0) Tryz.underlying25 hi hz0 .i64 .i64 0 4096 (by decide) (by decide) (by rw [hz2]; decide) (by decide)
  rw [hz1] at h
  exact h
theorem new_any (w : World) : Calls Tryz.prog 8 #[] w fun e w' => ∃ p b, e = .returned (.pointer (some ⟨p, 0, none⟩)) ∧ FrAt w' p b st0 ∧ Below w.heap.size w w' ∧ w.heap.size ≤ p ∧ w.heap.size ≤ b := by
  have hm := mk_buf w
  have hb1 : Below w.heap.size w (w.alloc (.cells (madeCells #[.int .u8 0] 4096) 5)) := (Below.refl _ _).alloc (Nat.le_refl _) _
  have hr : (w.alloc (.cells (madeCells #[.int .u8 0] 4096) 5)).heap[w.heap.size]? = some (.cells (madeCells #[.int .u8 0] 4096) 5 (0, 0)) := hp_new rfl
  have hs : (w.alloc (.cells (madeCells #[.int .u8 0] 4096) 5)).heap.size = w.heap.size + 1 := by simp
  generalize w.alloc (.cells (madeCells #[.int .u8 0] 4096) 5) = w1 at *
  have HR : Hid (_ ∧ _ ∧ _) := ⟨hb1, hr, hs⟩
  clear hb1 hr hs
  go_enter Tryz.func8, Tryz.ntmps8
  go_wp2
  go_ret
  obtain ⟨hb1, hr, hs⟩ := HR.out
  refine ⟨w1.heap.size, w.heap.size, rfl, ⟨hp_new rfl, ⟨_, hp_up hr, size_madeCells _ _, fun j x hx => by simp [st0] at hx⟩, by omega, ok0⟩, hb1.alloc hb1.size _, by omega, Nat.le_refl _⟩
theorem i64_or_nat (a b : Nat) (ha : a < 65536) (hb : b < 65536) : bits .or .i64 (a : Int) (b : Int) = ((a ||| b : Nat) : Int) := by
  have hx : a ||| b < 2 ^ 16 := Nat.or_lt_two_pow (by omega) (by omega)
  show IntKind.i64.wrap ((BitVec.ofInt 64 (a : Int) ||| BitVec.ofInt 64 (b : Int)).toNat : Int) = _
  have e (n : Nat) (h : n < 65536) : (BitVec.ofInt 64 (n : Int)).toNat = n := by
    rw [BitVec.toNat_ofInt]; omega
  rw [BitVec.toNat_or, e a ha, e b hb, IntKind.wrap_i64]
  omega
theorem or_len (x y : Nat) (hx : x < 256) (hy : y < 256) : bits .or .i64 ((x : Int) * 256) (y : Int) = ((x * 256 + y : Nat) : Int) := by
  have e : ((x : Int) * 256) = ((x * 256 : Nat) : Int) := by omega
  rw [e, i64_or_nat _ _ (by omega) (by omega)]
  have := Nat.two_pow_add_eq_or_of_lt (i := 8) (b := y) (by omega) x
  rw [Nat.mul_comm x 256]
  exact congrArg Int.ofNat this.symm
theorem lengthOf_any (b n c x y : Nat) (w : World) (hn : 18 ≤ n) (h16 : w.cell? ⟨b, 16, none⟩ = some (.int .u8 (x : Int))) (h17 : w.cell? ⟨b, 17, none⟩ = some (.int .u8 (y : Int))) (hx : x < 256) (hy : y < 256) : Calls Tryz.prog 48 #[.slice (some ⟨b, 0, none⟩) n c] w fun e w' => e = .returned (.int .i64 ((x * 256 + y : Nat) : Int)) ∧ ∃ q, w' = w.drewN q := by
  have HL := or_len x y hx hy
  generalize ((x * 256 + y : Nat) : Int) = z at *
  go_enter Tryz.func48, Tryz.ntmps48
  go_wp2
  go_quiet (fail)
  go_wp2
  go_ret
  exact ⟨rfl, _, rfl⟩
theorem lengthOf_buf (b c : Nat) (l : List UInt8) (w : World) (h : BufAt w b l) (n : Nat) (hn : 18 ≤ n) (hl : n ≤ l.length) : Calls Tryz.prog 48 #[.slice (some ⟨b, 0, none⟩) n c] w fun e w' => e = .returned (.int .i64 (lenI l : Int)) ∧ ∃ q, w' = w.drewN q :=
  lengthOf_any b n c _ _ w hn (h.cell 16 (by omega)) (h.cell 17 (by omega)) (UInt8.toNat_lt _) (UInt8.toNat_lt _)
theorem FrAt.w1 {w : World} {p b : Nat} {a : List UInt8} (h : FrAt w p b ⟨a, 0⟩) : w.cell? ⟨p, 1, none⟩ = some (.slice (some ⟨b, 0, none⟩) a.length 4096) := h.c1
theorem goal_any (p b : Nat) (a : List UInt8) (w : World) (h : FrAt w p b ⟨a, 0⟩) : Calls Tryz.prog 46 #[.pointer (some ⟨p, 0, none⟩)] w fun e w' => e = .returned (.int .i64 (goalI a : Int)) ∧ ∃ q, w' = w.drewN q := by
  have c1 := h.w1
  by_cases hl : a.length < 19
  · have hg : goalI a = 19 := by unfold goalI; rw [if_pos hl]
    rw [hg]
    clear hg h
    have hl' : (a.length : Int) < 19 := by omega
    go_enter Tryz.func46, Tryz.ntmps46
    go_wp2
    go_ret
    exact ⟨rfl, 0, rfl⟩
  · have hg : goalI a = lenI a := by unfold goalI; rw [if_neg hl]
    rw [hg]
    have HC : Hid (_ : Prop) := lengthOf_buf b 4096 a w h.buf a.length (by omega) (Nat.le_refl _)
    clear hg h
    have hl' : (19 : Int) ≤ a.length := by omega
    clear hl
    go_enter Tryz.func46, Tryz.ntmps46
    go_wp2_with fail
    refine Calls.mono HC.out ?_
    rintro e w1 ⟨rfl, q, rfl⟩
    go_wp2
    go_ret
    exact ⟨rfl, q, rfl⟩
theorem row_same (w : World) (b : Nat) (old c : Array Value) {t : TypeId} (h : w.heap[b]? = some (.cells old t (0, 0))) : (w.setRow b c).heap[b]? = some (.cells c t (0, 0)) := by
  show (w.heap.modify b _)[b]? = _
  rw [Array.getElem?_modify, if_pos rfl, h]
  rfl
/-- Bytes of a text, laid behind those that wait. -/
theorem copy_str (w : World) (b o d dc : Nat) (c : List UInt8) (cur : Array Value) (hg : w.heap[b]? = some (.cells cur 5 (0, 0))) (hf : o + d ≤ cur.size) :
    (Builtin.copy_ #[25, 9] 3 #[.slice (some ⟨b, o, none⟩) d dc, .string ⟨c.toArray⟩]).run Tryz.prog w = .ok (.int .i64 ((c.take d).length : Int)) (w.setRow b (cur.toList.take o ++ (c.take d).map (fun x => Value.int .u8 (x.toNat : Int)) ++ cur.toList.drop (o + (c.take d).length)).toArray) := by
  have hst := run_storeCells_at Tryz.prog b o 5 ((c.take d).map (fun x => Value.int .u8 (x.toNat : Int))) 0 cur w hg (by simp; omega) (fun v hv => by obtain ⟨x, _, rfl⟩ := List.mem_map.1 hv; rfl)
  obtain ⟨i0, hi, hz0, hz1, hz2⟩ := info_parts info5
  have hn : Nat.min c.length d = min c.length d := rfl
  simp only [List.length_map, Nat.add_zero] at hst
  simp [Builtin.copy_, run_underlying Tryz.underlying25, Builtin.lenOf, Builtin.firstCells, sizeOf, typeInfo, hi, list_size, hn, goInt]
  have e1 : List.take (min c.length d) (c.map (fun x => Value.int .u8 (x.toNat : Int))) = (c.take d).map (fun x => Value.int .u8 (x.toNat : Int)) := by
    rw [List.map_take, List.take_eq_take_iff]
    simp
    omega
  rw [e1, hst]
  simp [Nat.min_comm]
/-- The buffer behind the copy. -/
theorem BufAt.copy {w : World} {b : Nat} {a : List UInt8} (h : BufAt w b a) (c : List UInt8) (d dc : Nat) (hf : a.length + d ≤ 4096) :
    ∃ w', (Builtin.copy_ #[25, 9] 3 #[.slice (some ⟨b, a.length, none⟩) d dc, .string ⟨c.toArray⟩]).run Tryz.prog w = .ok (.int .i64 ((c.take d).length : Int)) w' ∧ BufAt w' b (a ++ c.take d) ∧ (∀ p, Beside p b w w') ∧ (∀ p, p ≠ b → w'.heap[p]? = w.heap[p]?) := by
  obtain ⟨cs, h1, h2, h3⟩ := h.row
  have hc := copy_str w b a.length d dc c cs h1 (by omega)
  have hr := row_same w b cs (cs.toList.take a.length ++ (c.take d).map (fun x => Value.int .u8 (x.toNat : Int)) ++ cs.toList.drop (a.length + (c.take d).length)).toArray h1
  refine ⟨_, hc, ⟨_, hr, ?_, ?_⟩, fun p => Beside.row w _, fun p hp => ?_⟩
  · have hl : (c.take d).length ≤ d := by rw [List.length_take]; omega
    simp only [List.size_toArray, List.length_append, List.length_take, List.length_map, List.length_drop, Array.length_toList] at hl ⊢
    omega
  · intro j x hx
    rw [List.getElem?_toArray]
    have ha : (cs.toList.take a.length).length = a.length := by
      have hcl : cs.toList.length = 4096 := by simpa using h2
      rw [List.length_take, hcl]; omega
    by_cases hj : j < a.length
    · rw [List.getElem?_append_left hj] at hx
      rw [List.append_assoc, List.getElem?_append_left (by omega), List.getElem?_take, if_pos hj, Array.getElem?_toList]
      exact h3 j x hx
    · rw [List.getElem?_append_right (by omega)] at hx
      have hj2 : j - a.length < (c.take d).length := (List.getElem?_eq_some_iff.1 hx).1
      rw [List.append_assoc, List.getElem?_append_right (by omega), ha, List.getElem?_append_left (by rw [List.length_map]; exact hj2), List.getElem?_map, hx]
      rfl
  · show (w.heap.modify b _)[p]? = _
    rw [Array.getElem?_modify, if_neg (fun e => hp e.symm)]
end Go.Proofs.YtfhapjhkjdifjaaGreatDoor.Fr
namespace Go.Proofs.YtfhapjhkjdifjaaGreatDoor.Fr
open Go.RowKit
theorem cut_str (c : List UInt8) (n : Nat) : (⟨c.toArray⟩ : ByteArray).extract n c.length = ⟨(c.drop n).toArray⟩ := by
  apply ByteArray.ext
  rw [ByteArray.data_extract]
  apply Array.toList_inj.1
  simp
  rw [List.take_of_length_le (by simp)]
/-- What lies in memory when a has grown to x, before it is looked at. -/
structure WtAt (w : World) (p b : Nat) (x : List UInt8) : Prop where
  row : w.heap[p]? = some (.cells #[.bool true, .slice (some ⟨b, 0, none⟩) x.length 4096, .int .i64 0, .int .u8 0, .int .u8 0] 70 (0, 0))
  buf : BufAt w b x
  ne : p ≠ b
set_option maxHeartbeats 800000 in
theorem take_any (p b : Nat) (a c : List UInt8) (w : World) (h : FrAt w p b ⟨a, 0⟩) :
    Calls Tryz.prog 26 #[.pointer (some ⟨p, 0, none⟩), .string ⟨c.toArray⟩] w fun e w' => e = .returned (.string ⟨(c.drop (goalI a - a.length)).toArray⟩) ∧ WtAt w' p b (a ++ c.take (goalI a - a.length)) ∧ Beside p b w w' := by
  have hg := goal_le h.ok rfl
  have hg1 : a.length < goalI a := hg.1
  have hg2 : goalI a ≤ 4096 := hg.2
  have c1 := h.w1
  have KG : Hid (∀ q, Calls Tryz.prog 46 #[.pointer (some ⟨p, 0, none⟩)] (w.drewN q) fun e w' => e = .returned (.int .i64 (goalI a : Int)) ∧ ∃ m, w' = (w.drewN q).drewN m) := fun q => goal_any p b a (w.drewN q) ⟨h.row, ⟨h.buf.row⟩, h.ne, h.ok⟩
  have HH : Hid (FrAt w p b ⟨a, 0⟩) := h
  clear hg h
  generalize goalI a = g at *
  have hn1 : (c.take (g - a.length)).length ≤ g - a.length := by rw [List.length_take]; omega
  have hn2 : (c.take (g - a.length)).length ≤ c.length := by rw [List.length_take]; omega
  have HD : Hid (c.drop (g - a.length) = c.drop (c.take (g - a.length)).length) := by
    unfold Hid
    rw [List.length_take]
    by_cases z : g - a.length ≤ c.length
    · rw [Nat.min_eq_left z]
    · rw [Nat.min_eq_right (by omega), List.drop_eq_nil_of_le (by omega), List.drop_eq_nil_of_le (Nat.le_refl _)]
  have HA : Hid ((a ++ c.take (g - a.length)).length = a.length + (c.take (g - a.length)).length) := List.length_append
  have KC : Hid (∀ q, ∃ w2, (Builtin.copy_ #[25, 9] 3 #[.slice (some ⟨b, a.length, none⟩) (g - a.length) (g - a.length), .string ⟨c.toArray⟩]).run Tryz.prog (w.drewN q) = .ok (.int .i64 ((c.take (g - a.length)).length : Int)) w2 ∧ BufAt w2 b (a ++ c.take (g - a.length)) ∧ Beside p b w w2 ∧ w2.heap[p]? = some (.cells #[.bool true, .slice (some ⟨b, 0, none⟩) a.length 4096, .int .i64 0, .int .u8 0, .int .u8 0] 70 (0, 0))) := fun q => by
    obtain ⟨w2, hr, hb2, hbs, hsm⟩ := BufAt.copy (⟨HH.out.buf.row⟩ : BufAt (w.drewN q) b a) c (g - a.length) (g - a.length) (by omega)
    exact ⟨w2, hr, hb2, Beside.trans (Beside.of_below (below_drewN (Below.refl w.heap.size w) q) (Nat.le_refl _)) (hbs p), (hsm p HH.out.ne).trans HH.out.row⟩
  have HNE : Hid (p ≠ b) := HH.out.ne
  rw [HD.out]
  generalize hx : a ++ c.take (g - a.length) = x at *
  generalize (c.take (g - a.length)).length = n at *
  clear hx HD HH
  have hn3 : (a.length : Int) + n ≤ 4096 := by omega
  have hn4 : (n : Int) ≤ c.length := by omega
  have hs : (⟨c.toArray⟩ : ByteArray).size = c.length := list_size c
  have hg3 : (a.length : Int) < g := by omega
  have hg4 : (g : Int) ≤ 4096 := by omega
  go_enter Tryz.func26, Tryz.ntmps26
  go_wp2
  go_quiet ((go_at_call 46; refine Calls.quiet_of (KG.out _)))
  obtain ⟨w2, hr, hb2, hbs, hrow⟩ := KC.out nq
  have HB : Hid (_ ∧ _ ∧ _) := ⟨hb2, hbs, hrow⟩
  have q1 : w2.cell? ⟨p, 1, none⟩ = some (.slice (some ⟨b, 0, none⟩) a.length 4096) := cl_row hrow rfl
  have q2 : w2.frozen? ⟨p, 1, none⟩ = false := fz_row hrow
  clear KC hb2 hbs hrow KG
  go_wp2
  go_ret
  obtain ⟨hb2, hbs, hrow⟩ := HB.out
  refine ⟨by rw [← cut_str]; rfl, ⟨?_, ?_, HNE.out⟩, hbs.trans (Beside.setp w2 1 _)⟩
  · rw [HA.out]
    exact heap_setCell_same w2 p 1 _ 70 _ hrow
  · exact hb2.same (Below.heap_setCell w2 ⟨p, 1, none⟩ _ b (fun e => HNE.out e.symm))
end Go.Proofs.YtfhapjhkjdifjaaGreatDoor.Fr
