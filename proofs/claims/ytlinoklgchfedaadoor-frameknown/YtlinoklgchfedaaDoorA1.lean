/-
  What a stream's bytes are cut into, told plainly: byte by byte.
-/
import Derived.RowKit
namespace Go.Proofs.YtlinoklgchfedaaDoor
/-- The length that a header tells, and its kind. -/
def lenI (a : List UInt8) : Nat := (a.getD 16 0).toNat * 256 + (a.getD 17 0).toNat
def kindI (a : List UInt8) : Nat := (a.getD 18 0).toNat
/-- The sixteen bytes that each message begins with. -/
def mark : List UInt8 := [255, 255, 255, 255, 255, 255, 255, 255, 255, 255, 255, 255, 255, 255, 255, 255]
/-- The least and the most bytes of a kind. -/
def leastI (k : Int) : Int := if k = 1 then 29 else if k = 2 then 23 else if k = 3 then 21 else if k = 4 then 19 else 23
def mostI (k : Int) : Int := if k = 1 then 4096 else if k = 2 then 4096 else if k = 3 then 4096 else if k = 4 then 19 else 23
def fitI (k n : Int) : Bool := decide (leastI k ≤ n) && decide (n ≤ mostI k)
/-- What is wrong with a header: nothing, or a subcode. -/
def wrongI (a : List UInt8) : Nat :=
  if a.take 16 = mark then (if lenI a < 19 ∨ 4096 < lenI a then 2 else if kindI a < 1 ∨ 5 < kindI a then 3 else if fitI (kindI a) (lenI a) = true then 0 else 2) else 1
/-- A message: its kind and body. -/
structure Fm where
  k : Nat
  b : List UInt8
/-- A stream: the bytes that wait, and what is wrong. -/
structure St where
  wait : List UInt8
  sub : Nat
def endI (x : List UInt8) : St × List Fm :=
  if x.length = 19 ∧ wrongI x ≠ 0 then (⟨[], wrongI x⟩, []) else if 19 ≤ x.length ∧ x.length = lenI x then (⟨[], 0⟩, [⟨kindI x, x.drop 19⟩]) else (⟨x, 0⟩, [])
def stepI (s : St) (b : UInt8) : St × List Fm := if s.sub = 0 then endI (s.wait ++ [b]) else (s, [])
def runI : St → List UInt8 → St × List Fm
  | s, [] => (s, [])
  | s, b :: c => ((runI (stepI s b).1 c).1, (stepI s b).2 ++ (runI (stepI s b).1 c).2)
def goalI (a : List UInt8) : Nat := if a.length < 19 then 19 else lenI a
/-- How a stream may stand. -/
def OkS (s : St) : Prop := if s.sub = 0 then s.wait.length < goalI s.wait ∧ (19 ≤ s.wait.length → wrongI s.wait = 0) else s.wait = []
def st0 : St := ⟨[], 0⟩
theorem ok0 : OkS st0 := by unfold OkS st0; simp [goalI]
theorem run_append (c d : List UInt8) : ∀ s, runI s (c ++ d) = ((runI (runI s c).1 d).1, (runI s c).2 ++ (runI (runI s c).1 d).2) := by
  induction c with
  | nil => intro s; simp [runI]
  | cons b c ih => intro s; simp [runI, ih]
theorem run_broken (c : List UInt8) : ∀ s : St, s.sub ≠ 0 → runI s c = (s, []) := by
  induction c with
  | nil => intro s _; rfl
  | cons b c ih =>
    intro s h
    have e : stepI s b = (s, []) := by unfold stepI; rw [if_neg h]
    simp [runI, e, ih s h]
theorem getD_app (a c : List UInt8) (i : Nat) (h : i < a.length) : (a ++ c).getD i 0 = a.getD i 0 := by
  rw [List.getD_eq_getElem?_getD, List.getD_eq_getElem?_getD, List.getElem?_append_left h]
theorem lenI_app (a c : List UInt8) (h : 19 ≤ a.length) : lenI (a ++ c) = lenI a := by unfold lenI; rw [getD_app _ _ _ (by omega), getD_app _ _ _ (by omega)]
theorem kindI_app (a c : List UInt8) (h : 19 ≤ a.length) : kindI (a ++ c) = kindI a := by unfold kindI; rw [getD_app _ _ _ (by omega)]
theorem wrongI_app (a c : List UInt8) (h : 19 ≤ a.length) : wrongI (a ++ c) = wrongI a := by
  unfold wrongI
  rw [lenI_app a c h, kindI_app a c h, List.take_append_of_le_length (by omega)]
theorem goal_app (a c : List UInt8) (h : a.length + c.length < goalI a) : goalI (a ++ c) = goalI a := by
  unfold goalI at *
  rw [List.length_append]
  by_cases e : a.length < 19
  · rw [if_pos e] at h ⊢; rw [if_pos h]
  · rw [if_neg e, if_neg (by omega), lenI_app a c (by omega)]
theorem end_waits (a c : List UInt8) (h : a.length + c.length < goalI a) (hc : c ≠ []) : endI (a ++ c) = (⟨a ++ c, 0⟩, []) := by
  have h1 : 1 ≤ c.length := by cases c with | nil => exact absurd rfl hc | cons => simp
  have e := goal_app a c h
  unfold endI
  have hl : (a ++ c).length = a.length + c.length := List.length_append
  by_cases g : a.length < 19
  · have hg : goalI a = 19 := by unfold goalI; rw [if_pos g]
    rw [if_neg (by omega), if_neg (by omega)]
  · have hg : goalI a = lenI a := by unfold goalI; rw [if_neg g]
    rw [if_neg (by omega), if_neg (by rw [lenI_app a c (by omega)]; omega)]
theorem run_chunk (c : List UInt8) : ∀ a, c ≠ [] → a.length + c.length ≤ goalI a → runI ⟨a, 0⟩ c = endI (a ++ c) := by
  induction c with
  | nil => intro a h _; exact absurd rfl h
  | cons b c ih =>
    intro a _ h
    have e : stepI ⟨a, 0⟩ b = endI (a ++ [b]) := by unfold stepI; rw [if_pos rfl]
    by_cases hc : c = []
    · subst hc; simp [runI, e]
    · have h1 : 1 ≤ c.length := by cases c with | nil => exact absurd rfl hc | cons => simp
      have hw := end_waits a [b] (by simp at h ⊢; omega) (by simp)
      have hg := goal_app a [b] (by simp at h ⊢; omega)
      rw [runI, e, hw, ih (a ++ [b]) hc (by rw [hg]; simp at h ⊢; omega)]
      simp
theorem wrong_fine {a : List UInt8} (h : wrongI a = 0) : a.take 16 = mark ∧ 19 ≤ lenI a ∧ lenI a ≤ 4096 ∧ 1 ≤ kindI a ∧ kindI a ≤ 5 ∧ fitI (kindI a) (lenI a) = true := by
  unfold wrongI at h
  split at h
  · rename_i h0
    split at h
    · exact absurd h (by decide)
    · split at h
      · exact absurd h (by decide)
      · split at h
        · rename_i h1 h2 h3
          exact ⟨h0, by omega, by omega, by omega, by omega, h3⟩
        · exact absurd h (by decide)
  · exact absurd h (by decide)
theorem goal_le {s : St} (h : OkS s) (h0 : s.sub = 0) : s.wait.length < goalI s.wait ∧ goalI s.wait ≤ 4096 := by
  unfold OkS at h
  rw [if_pos h0] at h
  refine ⟨h.1, ?_⟩
  unfold goalI
  by_cases e : s.wait.length < 19
  · rw [if_pos e]; decide
  · rw [if_neg e]; exact (wrong_fine (h.2 (by omega))).2.2.1
theorem end_ok (a c : List UInt8) (h : OkS ⟨a, 0⟩) (hc : c ≠ []) (hl : a.length + c.length ≤ goalI a) : OkS (endI (a ++ c)).1 := by
  have h1 : 1 ≤ c.length := by cases c with | nil => exact absurd rfl hc | cons => simp
  have hs : (a ++ c).length = a.length + c.length := List.length_append
  unfold OkS at h
  rw [if_pos rfl] at h
  unfold endI
  by_cases e1 : (a ++ c).length = 19 ∧ wrongI (a ++ c) ≠ 0
  · rw [if_pos e1]; unfold OkS; rw [if_neg e1.2]
  · rw [if_neg e1]
    by_cases e2 : 19 ≤ (a ++ c).length ∧ (a ++ c).length = lenI (a ++ c)
    · rw [if_pos e2]; exact ok0
    · rw [if_neg e2]
      unfold OkS
      rw [if_pos rfl]
      by_cases g : a.length < 19
      · have hg : goalI a = 19 := by unfold goalI; rw [if_pos g]
        by_cases g2 : (a ++ c).length = 19
        · have hw : wrongI (a ++ c) = 0 := by
            by_cases z : wrongI (a ++ c) = 0
            · exact z
            · exact absurd ⟨g2, z⟩ e1
          have h3 := wrong_fine hw
          refine ⟨?_, fun _ => hw⟩
          show (a ++ c).length < goalI (a ++ c)
          unfold goalI
          rw [if_neg (by omega)]
          omega
        · refine ⟨?_, fun k => absurd k (by show ¬ 19 ≤ (a ++ c).length; omega)⟩
          show (a ++ c).length < goalI (a ++ c)
          unfold goalI
          rw [if_pos (by omega)]
          omega
      · have hg : goalI a = lenI a := by unfold goalI; rw [if_neg g]
        have hw : wrongI (a ++ c) = 0 := by rw [wrongI_app a c (by omega)]; exact h.2 (by show 19 ≤ a.length; omega)
        refine ⟨?_, fun _ => hw⟩
        show (a ++ c).length < goalI (a ++ c)
        unfold goalI
        rw [if_neg (by omega), lenI_app a c (by omega)]
        rw [lenI_app a c (by omega)] at e2
        omega
/-- A piece up to the goal, and what is behind it. -/
theorem run_piece (a c : List UInt8) (h : OkS ⟨a, 0⟩) (hc : c ≠ []) : runI ⟨a, 0⟩ c = ((runI (endI (a ++ c.take (goalI a - a.length))).1 (c.drop (goalI a - a.length))).1, (endI (a ++ c.take (goalI a - a.length))).2 ++ (runI (endI (a ++ c.take (goalI a - a.length))).1 (c.drop (goalI a - a.length))).2) := by
  have h1 : 1 ≤ c.length := by cases c with | nil => exact absurd rfl hc | cons => simp
  have hg := (goal_le h rfl).1
  have hg' : a.length < goalI a := hg
  have e := run_append (c.take (goalI a - a.length)) (c.drop (goalI a - a.length)) ⟨a, 0⟩
  rw [List.take_append_drop] at e
  have hk := run_chunk (c.take (goalI a - a.length)) a (by intro z; have t := congrArg List.length z; rw [List.length_take, List.length_nil] at t; omega) (by rw [List.length_take]; omega)
  rw [hk] at e
  exact e
theorem step_ok (s : St) (b : UInt8) (h : OkS s) : OkS (stepI s b).1 := by
  unfold stepI
  by_cases e : s.sub = 0
  · rw [if_pos e]
    obtain ⟨a, n⟩ := s
    simp only at e
    subst e
    exact end_ok a [b] h (by simp) (by have := (goal_le h rfl).1; simp at this ⊢; omega)
  · rw [if_neg e]; exact h
theorem run_ok (c : List UInt8) : ∀ s, OkS s → OkS (runI s c).1 := by
  induction c with
  | nil => intro s h; exact h
  | cons b c ih => intro s h; exact ih _ (step_ok s b h)
/-- What the whole stream's first message tells. -/
theorem run_short (s : List UInt8) (h : s.length < 19) : runI st0 s = (⟨s, 0⟩, []) := by
  by_cases hs : s = []
  · subst hs; rfl
  · have e := run_chunk s [] hs (by unfold goalI; simp; omega)
    have w := end_waits [] s (by unfold goalI; simp; omega) hs
    exact e.trans (by simpa using w)
theorem take_facts (s : List UInt8) (n : Nat) (h : 19 ≤ n) (hn : n ≤ s.length) : lenI (s.take n) = lenI s ∧ kindI (s.take n) = kindI s ∧ wrongI (s.take n) = wrongI s := by
  have e : s.take n ++ s.drop n = s := List.take_append_drop n s
  have hl : 19 ≤ (s.take n).length := by rw [List.length_take]; omega
  refine ⟨?_, ?_, ?_⟩
  · conv => rhs; rw [← e, lenI_app _ _ hl]
  · conv => rhs; rw [← e, kindI_app _ _ hl]
  · conv => rhs; rw [← e, wrongI_app _ _ hl]
theorem run_head (s : List UInt8) (h : 19 ≤ s.length) : runI st0 (s.take 19) = endI (s.take 19) := by
  have e := run_chunk (s.take 19) [] (by intro z; have t := congrArg List.length z; rw [List.length_take, List.length_nil] at t; omega) (by unfold goalI; simp; omega)
  exact e.trans (by simp)
theorem run_wrong (s : List UInt8) (h : 19 ≤ s.length) (hw : wrongI s ≠ 0) : runI st0 s = (⟨[], wrongI s⟩, []) := by
  have e := run_append (s.take 19) (s.drop 19) st0
  rw [List.take_append_drop, run_head s h] at e
  have f := take_facts s 19 (by omega) h
  have g : endI (s.take 19) = (⟨[], wrongI s⟩, []) := by unfold endI; rw [f.2.2, if_pos ⟨by rw [List.length_take]; omega, hw⟩]
  have k : runI (⟨[], wrongI s⟩ : St) (s.drop 19) = (⟨[], wrongI s⟩, []) := run_broken _ _ hw
  rw [g] at e
  simp only [k] at e
  exact e
theorem run_most (s : List UInt8) (n : Nat) (h : 19 ≤ n) (hn : n ≤ s.length) (hw : wrongI s = 0) (hl : n ≤ lenI s) : runI st0 (s.take n) = endI (s.take n) := by
  by_cases e19 : n = 19
  · subst e19; exact run_head s hn
  · have f := take_facts s 19 (by omega) (by omega)
    have hh := run_head s (by omega)
    have g : endI (s.take 19) = (⟨s.take 19, 0⟩, []) := by
      unfold endI
      rw [f.2.2, f.1, if_neg (by intro z; exact z.2 hw), if_neg (by rw [List.length_take]; omega)]
    have e := run_append (s.take 19) ((s.take n).drop 19) st0
    have t : s.take 19 ++ (s.take n).drop 19 = s.take n := by
      have := List.take_append_drop 19 (s.take n)
      rwa [List.take_take, Nat.min_eq_left h] at this
    rw [t, hh, g] at e
    have k := run_chunk ((s.take n).drop 19) (s.take 19) (by intro z; have := congrArg List.length z; simp at this; omega) (by unfold goalI; rw [f.1]; simp; split <;> omega)
    simp only [List.nil_append] at e
    rw [k, t] at e
    exact e
theorem run_wait (s : List UInt8) (h : 19 ≤ s.length) (hw : wrongI s = 0) (hl : s.length < lenI s) : runI st0 s = (⟨s, 0⟩, []) := by
  have e := run_most s s.length h (Nat.le_refl _) hw (by omega)
  rw [List.take_length] at e
  rw [e]
  unfold endI
  rw [if_neg (by intro z; exact z.2 hw), if_neg (by omega)]
theorem run_frame (s : List UInt8) (hw : wrongI s = 0) (hl : lenI s ≤ s.length) : runI st0 s = ((runI st0 (s.drop (lenI s))).1, ⟨kindI s, (s.take (lenI s)).drop 19⟩ :: (runI st0 (s.drop (lenI s))).2) := by
  have h19 := (wrong_fine hw).2.1
  have e := run_append (s.take (lenI s)) (s.drop (lenI s)) st0
  rw [List.take_append_drop, run_most s (lenI s) h19 hl hw (Nat.le_refl _)] at e
  have f := take_facts s (lenI s) h19 hl
  have g : endI (s.take (lenI s)) = (st0, [⟨kindI s, (s.take (lenI s)).drop 19⟩]) := by
    unfold endI
    rw [f.2.2, f.1, f.2.1, if_neg (by intro z; exact z.2 hw), if_pos (by rw [List.length_take]; omega)]
    rfl
  rw [g] at e
  exact e
end Go.Proofs.YtlinoklgchfedaaDoor
