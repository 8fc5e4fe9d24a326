/-
  A text's bytes read one by one, as the reference does it: of a path's text the path comes out (plain).
-/
import Derived.Test.YtbdfigfjoiefiaaDoorU5
set_option linter.unusedVariables false
set_option linter.unusedSimpArgs false
namespace Go.Proofs.YtbdfigfjoiefiaaDoor
/-- The kind of segments that a byte opens. -/
def kindB (c : UInt8) : Nat := if c = 123 then 1 else if c = 60 then 2 else if c = 40 then 3 else if c = 91 then 4 else 0
/-- A number behind the last segment's. -/
def addLast (v : Nat) : List Sg → List Sg
  | [] => []
  | [s] => [(s.1, s.2 ++ [v])]
  | s :: t :: L => s :: addLast v (t :: L)
theorem addLast_snoc (v : Nat) (s : Sg) : ∀ L : List Sg, addLast v (L ++ [s]) = L ++ [(s.1, s.2 ++ [v])]
  | [] => rfl
  | [t] => rfl
  | t :: u :: L => by
    have := addLast_snoc v s (u :: L)
    simp only [List.cons_append] at this ⊢
    rw [addLast, this]
/-- How many numbers the last segment has. -/
def lastLen : List Sg → Nat
  | [] => 0
  | [s] => s.2.length
  | _ :: t :: L => lastLen (t :: L)
theorem lastLen_snoc (s : Sg) : ∀ L : List Sg, lastLen (L ++ [s]) = s.2.length
  | [] => rfl
  | [t] => rfl
  | t :: u :: L => by
    have := lastLen_snoc s (u :: L)
    simp only [List.cons_append] at this ⊢
    rw [lastLen, this]
/-- What a byte opens. -/
def openB (o : List Sg) (c : UInt8) : List Sg := if 0 < kindB c then o ++ [((kindB c : Int), [])] else o
/-- What a byte does that is no digit. -/
def shutB (o : List Sg) (v n : Nat) : List Sg := if 0 < n ∧ o ≠ [] ∧ v < 4294967296 ∧ lastLen o ≤ 255 then addLast v o else o
/-- One byte. -/
def scanB (o : List Sg) (v n : Nat) (c : UInt8) : List Sg × Nat × Nat :=
  if 48 ≤ c.toNat ∧ c.toNat ≤ 57 then (openB o c, min (v * 10 + (c.toNat - 48)) 8589934592, n + 1) else (shutB (openB o c) v n, 0, 0)
/-- The bytes of a text, one by one, while there are not too many segments. -/
def scanF : List UInt8 → List Sg → Nat → Nat → List Sg
  | [], o, _, _ => o
  | c :: r, o, v, n => if o.length ≤ 16 then scanF r (scanB o v n c).1 (scanB o v n c).2.1 (scanB o v n c).2.2 else o
/-- A piece of text leads from one state to another. -/
def Runs (x : List UInt8) (o : List Sg) (v n : Nat) (o' : List Sg) (v' n' : Nat) : Prop := ∀ r, scanF (x ++ r) o v n = scanF r o' v' n'
theorem Runs.nil (o : List Sg) (v n : Nat) : Runs [] o v n o v n := fun r => rfl
theorem Runs.app {x y : List UInt8} {o o1 o2 : List Sg} {v n v1 n1 v2 n2 : Nat} (h : Runs x o v n o1 v1 n1) (k : Runs y o1 v1 n1 o2 v2 n2) : Runs (x ++ y) o v n o2 v2 n2 := fun r => by
  rw [List.append_assoc, h, k]
theorem Runs.one {o : List Sg} {v n : Nat} {c : UInt8} (ho : o.length ≤ 16) : Runs [c] o v n (scanB o v n c).1 (scanB o v n c).2.1 (scanB o v n c).2.2 := fun r => by
  rw [List.cons_append, List.nil_append, scanF, if_pos ho]
theorem openB_no {o : List Sg} {c : UInt8} (h : kindB c = 0) : openB o c = o := by
  unfold openB
  rw [h]
  rfl
theorem shutB_zero (o : List Sg) (v : Nat) : shutB o v 0 = o := by
  unfold shutB
  rw [if_neg (fun h => absurd h.1 (Nat.lt_irrefl 0))]
theorem kind_dig (d : Nat) (h : d < 10) : kindB (UInt8.ofNat (48 + d)) = 0 := by
  have : ∀ d : Nat, d < 10 → kindB (UInt8.ofNat (48 + d)) = 0 := by decide
  exact this d h
theorem run_dig {o : List Sg} {v n d : Nat} (ho : o.length ≤ 16) (hd : d < 10) (hv : v * 10 + d < 4294967296) : Runs [UInt8.ofNat (48 + d)] o v n o (v * 10 + d) (n + 1) := by
  have h := Runs.one (o := o) (v := v) (n := n) (c := UInt8.ofNat (48 + d)) ho
  have e : scanB o v n (UInt8.ofNat (48 + d)) = (o, v * 10 + d, n + 1) := by
    unfold scanB
    rw [openB_no (kind_dig d hd), dig_nat d hd, if_pos (by omega)]
    congr 1
    congr 1
    omega
  rw [e] at h
  exact h
theorem run_num {o : List Sg} (ho : o.length ≤ 16) (a : Nat) (ha : a < 4294967296) : ∃ n, 0 < n ∧ Runs (Lib.decDigits a) o 0 0 o a n := by
  induction a using Nat.strongRecOn with
  | _ a ih =>
    rw [Lib.decDigits]
    split
    · rename_i h
      have := run_dig (v := 0) (n := 0) (d := a) ho h (by omega)
      exact ⟨1, by omega, by simpa using this⟩
    · rename_i h
      obtain ⟨n, hn, hr⟩ := ih (a / 10) (by omega) (by omega)
      have h2 := run_dig (v := a / 10) (n := n) (d := a % 10) ho (by omega) (by omega)
      refine ⟨n + 1, by omega, ?_⟩
      have := hr.app h2
      rw [show a / 10 * 10 + a % 10 = a by omega] at this
      exact this
/-- A byte that opens nothing and is no digit, behind a number. -/
theorem run_end {o : List Sg} {k : Int} {p : List Nat} {a n : Nat} {c : UInt8} (ho : o.length + 1 ≤ 16) (hk : kindB c = 0) (hc : ¬ (48 ≤ c.toNat ∧ c.toNat ≤ 57)) (hn : 0 < n) (ha : a < 4294967296) (hp : p.length ≤ 255) :
    Runs [c] (o ++ [(k, p)]) a n (o ++ [(k, p ++ [a])]) 0 0 := by
  have h := Runs.one (o := o ++ [(k, p)]) (v := a) (n := n) (c := c) (by simp; omega)
  have e : scanB (o ++ [(k, p)]) a n c = (o ++ [(k, p ++ [a])], 0, 0) := by
    unfold scanB
    rw [if_neg hc, openB_no hk]
    unfold shutB
    rw [if_pos ⟨hn, by simp, ha, by rw [lastLen_snoc]; exact hp⟩, addLast_snoc]
  rw [e] at h
  exact h
/-- A blank where no number stands ahead. -/
theorem run_blank {o : List Sg} (ho : o.length ≤ 16) : Runs [32] o 0 0 o 0 0 := by
  have h := Runs.one (o := o) (v := 0) (n := 0) (c := 32) ho
  have e : scanB o 0 0 32 = (o, 0, 0) := by
    unfold scanB
    rw [if_neg (by decide), openB_no (by decide), shutB_zero]
  rw [e] at h
  exact h
theorem run_open {o : List Sg} {k : Nat} (ho : o.length ≤ 16) (h1 : 1 ≤ k) (h4 : k ≤ 4) : Runs [opn k] o 0 0 (o ++ [((k : Int), [])]) 0 0 := by
  have h := Runs.one (o := o) (v := 0) (n := 0) (c := opn k) ho
  have hk : kindB (opn k) = k ∧ ¬ (48 ≤ (opn k).toNat ∧ (opn k).toNat ≤ 57) := by
    rcases (show k = 1 ∨ k = 2 ∨ k = 3 ∨ k = 4 by omega) with rfl | rfl | rfl | rfl <;> decide
  have e : scanB o 0 0 (opn k) = (o ++ [((k : Int), [])], 0, 0) := by
    unfold scanB
    rw [if_neg hk.2, shutB_zero]
    unfold openB
    rw [hk.1, if_pos (by omega)]
  rw [e] at h
  exact h
theorem shut_kind {k : Nat} (h1 : 1 ≤ k) (h4 : k ≤ 4) : kindB (shut k) = 0 ∧ ¬ (48 ≤ (shut k).toNat ∧ (shut k).toNat ≤ 57) := by
  rcases (show k = 1 ∨ k = 2 ∨ k = 3 ∨ k = 4 by omega) with rfl | rfl | rfl | rfl <;> decide
/-- The numbers of a segment, and what shuts it. -/
theorem run_nums {o : List Sg} {k : Nat} (ho : o.length + 1 ≤ 16) (h1 : 1 ≤ k) (h4 : k ≤ 4) : ∀ (l p : List Nat), l ≠ [] → p.length + l.length ≤ 255 → (∀ a ∈ l, a < 4294967296) → Runs (wd l ++ [shut k]) (o ++ [((k : Int), p)]) 0 0 (o ++ [((k : Int), p ++ l)]) 0 0
  | [], p, h, _, _ => absurd rfl h
  | [a], p, _, hl, hx => by
    obtain ⟨n, hn, hr⟩ := run_num (o := o ++ [((k : Int), p)]) (by simp; omega) a (hx a (by simp))
    have h2 := run_end (o := o) (k := (k : Int)) (p := p) (a := a) (n := n) (c := shut k) ho (shut_kind h1 h4).1 (shut_kind h1 h4).2 hn (hx a (by simp)) (by simp at hl; omega)
    have := hr.app h2
    rw [show wd [a] = Lib.decDigits a by simp [wd, Lib.join_one]]
    exact this
  | a :: b :: l, p, _, hl, hx => by
    obtain ⟨n, hn, hr⟩ := run_num (o := o ++ [((k : Int), p)]) (by simp; omega) a (hx a (by simp))
    have h2 := run_end (o := o) (k := (k : Int)) (p := p) (a := a) (n := n) (c := 32) ho (by decide) (by decide) hn (hx a (by simp)) (by simp at hl; omega)
    have h3 := run_nums ho h1 h4 (b :: l) (p ++ [a]) (by simp) (by simp at hl ⊢; omega) (fun x h => hx x (List.mem_cons_of_mem _ h))
    have := (hr.app h2).app h3
    rw [wd_cons]
    simpa using this
theorem run_seg {o : List Sg} {s : Sg} (ho : o.length + 1 ≤ 16) (hs : okSeg s = true) (hx : ∀ a ∈ s.2, a < 4294967296) : Runs (segT s) o 0 0 (o ++ [s]) 0 0 := by
  obtain ⟨h1, h2, h3, h4, h5⟩ := (okSeg_iff s).1 hs
  obtain ⟨kd, l⟩ := s
  obtain ⟨k, rfl⟩ : ∃ k : Nat, kd = k := ⟨kd.toNat, by simp only at h1; omega⟩
  simp only at h1 h2 h3 h4 hx
  have a := run_open (o := o) (k := k) (by omega) (by omega) (by omega)
  have b := run_nums (o := o) (k := k) ho (by omega) (by omega) l [] (by intro e; rw [e] at h3; simp at h3) (by simpa using h4) hx
  have c := a.app b
  rw [show segT ((k : Int), l) = [opn k] ++ (wd l ++ [shut k]) by simp [segT, wd]]
  simpa using c
theorem run_segs : ∀ (L o : List Sg), o.length + L.length ≤ 16 → (∀ s ∈ L, okSeg s = true ∧ ∀ a ∈ s.2, a < 4294967296) → Runs (tx L) o 0 0 (o ++ L) 0 0
  | [], o, _, _ => by rw [List.append_nil]; exact Runs.nil o 0 0
  | s :: L, o, hl, h => by
    obtain ⟨hs, hx⟩ := h s (by simp)
    simp only [List.length_cons] at hl
    have a := run_seg (o := o) (by omega) hs hx
    have ih := run_segs L (o ++ [s]) (by simp; omega) (fun t ht => h t (List.mem_cons_of_mem _ ht))
    rw [tx]
    by_cases hL : L = []
    · subst hL
      simpa using a
    · rw [if_neg hL]
      have b := (a.app (run_blank (o := o ++ [s]) (by simp; omega))).app ih
      simpa using b
/-- Of a path's text the path comes out. -/
theorem scan_text (L : List Sg) (hok : okPath L = true) (hx : ∀ s ∈ L, ∀ a ∈ s.2, a < 4294967296) : scanF (textOf L) [] 0 0 = L := by
  cases L with
  | nil => decide
  | cons s N =>
    have e : textOf (s :: N) = tx (s :: N) := by
      unfold textOf
      rw [if_neg (by simp), tx_join]
    have hl : (s :: N).length ≤ 16 := by
      unfold okPath at hok
      simp only [Bool.and_eq_true, decide_eq_true_eq] at hok
      exact hok.1
    have ha : ∀ t ∈ s :: N, okSeg t = true := by
      unfold okPath at hok
      simp only [Bool.and_eq_true, List.all_eq_true] at hok
      exact hok.2
    have h := run_segs (s :: N) [] (by simpa using hl) (fun t ht => ⟨ha t ht, hx t ht⟩) []
    rw [e]
    simpa [scanF] using h
end Go.Proofs.YtbdfigfjoiefiaaDoor
