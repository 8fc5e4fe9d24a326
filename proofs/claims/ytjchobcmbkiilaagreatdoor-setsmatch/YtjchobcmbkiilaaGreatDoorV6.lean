/-
  Patterns come back from their texts; stars, dots, ASs alone; pieces of a list.
-/
import Derived.Test.YtjchobcmbkiilaaGreatDoorV5
set_option linter.unusedVariables false
set_option linter.unusedSimpArgs false
set_option maxRecDepth 100000
namespace Go.Proofs.YtjchobcmbkiilaaGreatDoor
open Go.RowKit
theorem blank_no (a : Nat) : (32 : UInt8) ∉ Lib.decDigits a := fun h => by
  have := (digits_are a _ h).1
  revert this; decide
theorem tx_blank (a : Atm) : (32 : UInt8) ∉ txA a := by
  unfold txA
  split
  · decide
  · split
    · decide
    · exact blank_no _
theorem dig_sign (n : Nat) (c : UInt8) (hc : c.toNat < 48) : ¬ Lib.decDigits n = [c] := fun h => by
  have := (digits_are n c (by rw [h]; simp)).1
  omega
theorem pt_tx (a : Atm) (h : okA a = true) (hb : a.2 < 4294967296) : ptA (txA a) = some a := by
  obtain ⟨k, n⟩ := a
  unfold okA at h
  simp only at h hb
  by_cases h1 : k = 1
  · subst h1
    simp at h
    have e : txA (1, n) = Lib.decDigits n := by simp [txA]
    rw [e]
    unfold ptA
    rw [if_neg (dig_sign n 46 (by decide)), if_neg (dig_sign n 42 (by decide)), pu_back n hb]
    simp [h]
  · rw [if_neg h1] at h
    by_cases h2 : k = 2 ∨ k = 3
    · rw [if_pos h2] at h
      simp at h
      subst h
      rcases h2 with rfl | rfl <;> rfl
    · rw [if_neg h2] at h; cases h
theorem spl_no (x : List UInt8) (h : (32 : UInt8) ∉ x) : spl x = [x] := by
  rcases spl_cut x with ⟨y, r, _, e, _⟩ | ⟨_, e⟩
  · exact absurd (by rw [e]; simp) h
  · exact e
theorem spl_app (x r : List UInt8) (h : (32 : UInt8) ∉ x) : spl (x ++ 32 :: r) = x :: spl r := by
  induction x with
  | nil => rw [List.nil_append, spl, if_pos rfl]
  | cons c x ih =>
    have h1 : ¬ c = 32 := fun e => h (by rw [e]; simp)
    have h2 := ih (fun e => h (List.mem_cons_of_mem _ e))
    rw [List.cons_append, spl, if_neg h1, h2]
theorem spl_join (p : List Atm) (hp : p ≠ []) : spl (Lib.join (p.map txA) [32]) = p.map txA := by
  induction p with
  | nil => exact absurd rfl hp
  | cons a p ih =>
    cases p with
    | nil => rw [List.map_cons, List.map_nil, Lib.join_one]; exact spl_no _ (tx_blank a)
    | cons b p =>
      have e : Lib.join ((a :: b :: p).map txA) [32] = txA a ++ 32 :: Lib.join ((b :: p).map txA) [32] := by simp [Lib.join, List.intercalate]
      rw [e, spl_app _ _ (tx_blank a), ih (by simp)]
      rfl
theorem pTo_back (p : List Atm) (hok : ∀ a ∈ p, okA a = true ∧ a.2 < 4294967296) : ∀ n, n + p.length ≤ 64 → pTo n (p.map txA) = some p := by
  induction p with
  | nil => intro n _; rfl
  | cons a p ih =>
    intro n hn
    have h := hok a (by simp)
    simp only [List.length_cons] at hn
    rw [List.map_cons, pTo, pt_tx a h.1 h.2]
    simp only
    rw [if_neg (by omega), ih (fun x hx => hok x (by simp [hx])) (n + 1) (by omega)]
    rfl
theorem prs_back (p : List Atm) (hok : ∀ a ∈ p, okA a = true ∧ a.2 < 4294967296) (hl : p.length ≤ 64) : prs (txP p) = some p := by
  by_cases hp : p = []
  · subst hp; rfl
  · have e : txP p = Lib.join (p.map txA) [32] := by unfold txP; rw [if_neg hp]
    have hs := spl_join p hp
    unfold prs
    rw [e]
    by_cases h45 : Lib.join (p.map txA) [32] = [45]
    · rw [h45] at hs
      have h1 : p.map txA = [[45]] := hs.symm
      cases p with
      | nil => exact absurd rfl hp
      | cons a p =>
        rw [List.map_cons] at h1
        injection h1 with h2 _
        have h3 := pt_tx a (hok a (by simp)).1 (hok a (by simp)).2
        rw [h2] at h3
        exact absurd h3 (by rw [show ptA [45] = none from by decide +kernel]; simp)
    · rw [if_neg h45, hs]
      exact pTo_back p hok 0 (by omega)
/-- A piece of a list. -/
def pc (l : List Nat) (i k : Nat) : List Nat := (l.take k).drop i
theorem pc_len (l : List Nat) (i k : Nat) (hk : k ≤ l.length) : (pc l i k).length = k - i := by unfold pc; rw [List.length_drop, List.length_take]; omega
theorem slice_mU (L : List Nat) (ad : Option Addr) (cap i k : Nat) (hi : i ≤ k) (hk : k ≤ L.length) (hc : L.length ≤ cap) :
    ∃ a c, (∀ W, (Instr.sliceAt 23 (.slice ad L.length cap) (some (.int .i64 (i : Int))) (some (.int .i64 (k : Int))) none).run Tryz.prog W = .ok (.slice a (k - i) c) W) ∧ ∀ W, ASAt W (.slice ad L.length cap) L → ASAt W (.slice a (k - i) c) (pc L i k) := by
  refine ⟨if cap = i then ad else ad.map (·.add (i * 1)), cap - i, fun W => ?_, fun W h => ?_⟩
  · rw [run_sliceAt_slice W 23 _ _ _ _ elem_u, run_slice_lh W 23 ad L.length cap elem_u .i64 .i64 (i : Int) (k : Int) (by omega) (by omega) (by omega), size_u]
    simp [Result.andThen, sliced]
  · obtain ⟨_, h2, b, off, h1, h3⟩ := h.parts
    have hl := pc_len L i k hk
    by_cases hz : k - i = 0
    · refine ⟨_, 0, 0, cap - i, by rw [hl], Or.inr (by omega), by omega, fun j hj => by omega⟩
    · obtain rfl : ad = some ⟨b, off, none⟩ := by
        rcases h1 with h1 | h1
        · exact h1
        · omega
      refine ⟨_, b, off + i, cap - i, by rw [hl], Or.inl ?_, by omega, fun j hj => ?_⟩
      · rw [if_neg (by omega)]
        simp only [Option.map_some]
        rw [add_off, Nat.mul_one]
      · have e : (pc L i k)[j] = L[i + j]'(by omega) := by simp [pc]
        rw [e, Nat.add_assoc]
        exact h3 (i + j) (by omega)
def fI (a : List Atm) (l : List Nat) (i k : Nat) : Bool := (List.range k).any fun j => decide (i ≤ j) && mt a (pc l i j)
def fO (a : List Atm) (l : List Nat) (i : Nat) : Bool := (List.range i).any fun j => fI a l j (l.length + 1)
theorem fI_self (a : List Atm) (l : List Nat) (i : Nat) : fI a l i i = false := by
  unfold fI
  rw [List.any_eq_false]
  intro j hj
  have := List.mem_range.1 hj
  simp
  omega
theorem fI_succ (a : List Atm) (l : List Nat) (i k : Nat) (h : i ≤ k) : fI a l i (k + 1) = (fI a l i k || mt a (pc l i k)) := by
  unfold fI
  rw [List.range_succ, List.any_append]
  simp [h]
theorem fO_succ (a : List Atm) (l : List Nat) (i : Nat) : fO a l (i + 1) = (fO a l i || fI a l i (l.length + 1)) := by
  unfold fO
  rw [List.range_succ, List.any_append]
  simp
abbrev mA : Atm := (3, 0)
abbrev oA : Atm := (2, 0)
theorem mt_star (l : List Nat) : mt [mA] l = true := (mt_many rfl _ _).2 ⟨l.length, Nat.le_refl _, by rw [List.drop_length]; rfl⟩
theorem fO_all (a : List Atm) (l : List Nat) : fO a l (l.length + 1) = mt (mA :: (a ++ [mA])) l := by
  rw [Bool.eq_iff_iff, mt_many rfl]
  unfold fO
  rw [List.any_eq_true]
  constructor
  · rintro ⟨i, hi, h⟩
    unfold fI at h
    rw [List.any_eq_true] at h
    obtain ⟨k, hk, h⟩ := h
    rw [Bool.and_eq_true, decide_eq_true_eq] at h
    have h1 := List.mem_range.1 hi
    have h2 := List.mem_range.1 hk
    refine ⟨i, by omega, (mt_app _ _ _).2 ⟨k - i, by rw [List.length_drop]; omega, ?_, mt_star _⟩⟩
    have h3 := h.2
    unfold pc at h3
    rw [List.drop_take] at h3
    exact h3
  · rintro ⟨i, hi, h⟩
    obtain ⟨k, hk, h1, _⟩ := (mt_app _ _ _).1 h
    rw [List.length_drop] at hk
    refine ⟨i, List.mem_range.2 (by omega), ?_⟩
    unfold fI
    rw [List.any_eq_true]
    refine ⟨i + k, List.mem_range.2 (by omega), ?_⟩
    rw [Bool.and_eq_true, decide_eq_true_eq]
    refine ⟨by omega, ?_⟩
    unfold pc
    rw [List.drop_take, show i + k - i = k by omega]
    exact h1
theorem mt_two (a : List Atm) (l : List Nat) : mt (mA :: mA :: a) l = mt (mA :: a) l := by
  rw [Bool.eq_iff_iff, mt_many rfl, mt_many rfl]
  constructor
  · rintro ⟨k, hk, h⟩
    obtain ⟨j, hj, h2⟩ := (mt_many_at rfl _ _ _ hk).1 h
    exact ⟨j, h2.1, h2.2⟩
  · rintro ⟨k, hk, h⟩
    exact ⟨k, hk, (mt_many_at rfl _ _ _ hk).2 ⟨k, Nat.le_refl _, hk, h⟩⟩
theorem mt_om (l : List Nat) : mt [oA, mA] l = mt [mA, oA] l := by
  rw [Bool.eq_iff_iff]
  cases l with
  | nil => decide
  | cons x t =>
    have h1 : mt [oA, mA] (x :: t) = true := by rw [mt_one (by decide)]; rw [mt_star]; rfl
    have h2 : mt [mA, oA] (x :: t) = true := by
      refine (mt_many rfl _ _).2 ⟨t.length, by simp, ?_⟩
      have hlen : ((x :: t).drop t.length).length = 1 := by rw [List.length_drop]; simp
      generalize (x :: t).drop t.length = y at *
      cases y with
      | nil => simp at hlen
      | cons z y =>
        cases y with
        | nil => rw [mt_one (by decide)]; rfl
        | cons _ _ => simp at hlen
    rw [h1, h2]
theorem mt_turn (a : List Atm) (l : List Nat) : mt (a ++ [oA, mA]) l = mt (a ++ [mA, oA]) l := by
  rw [Bool.eq_iff_iff, mt_app, mt_app]
  constructor
  · rintro ⟨k, h0, h1, h2⟩
    exact ⟨k, h0, h1, by rw [← mt_om]; exact h2⟩
  · rintro ⟨k, h0, h1, h2⟩
    exact ⟨k, h0, h1, by rw [mt_om]; exact h2⟩
/-- A pattern of ASs alone. -/
def asA (n : Nat) : Atm := (1, n)
theorem mt_same (L : List Nat) : ∀ M, mt (L.map asA) M = (L == M) := by
  induction L with
  | nil => intro M; cases M <;> rfl
  | cons a L ih =>
    intro M
    cases M with
    | nil => rw [List.map_cons, mt_one_nil (by simp [asA])]; rfl
    | cons b M =>
      rw [List.map_cons, mt_one (by simp [asA]), ih]
      simp [oneA, asA]
theorem okP_same (L : List Nat) (h : ∀ n ∈ L, 0 < n) (hl : L.length ≤ 64) : okP (L.map asA) = true := by
  unfold okP
  rw [List.length_map, decide_eq_true hl, Bool.true_and, List.all_eq_true]
  intro a ha
  obtain ⟨n, hn, rfl⟩ := List.mem_map.1 ha
  simp [okA, asA, h n hn]
theorem okA_atm (b : Nat) : okA (atmN b) = true := by
  unfold atmN okA
  by_cases h : b % 3 = 0
  · rw [if_pos h]; simp; omega
  · rw [if_neg h]
    have : b % 3 = 1 ∨ b % 3 = 2 := by omega
    rcases this with e | e <;> rw [e] <;> decide
theorem atm_bd (b : Nat) : (atmN b).2 < 4294967296 := by
  unfold atmN
  by_cases h : b % 3 = 0
  · rw [if_pos h]; simp; omega
  · rw [if_neg h]; simp
theorem atL_len (l : List Nat) : (atL l).length ≤ 10 := by unfold atL; rw [List.length_map, List.length_take]; omega
theorem fewL_len (l : List Nat) : (fewL l).length ≤ 12 := by unfold fewL; rw [List.length_map, List.length_take]; omega
theorem fewL_pos (l : List Nat) : ∀ n ∈ fewL l, 0 < n := by
  intro n hn
  obtain ⟨b, _, rfl⟩ := List.mem_map.1 hn
  unfold fewN; omega
theorem atL_ok (l : List Nat) : ∀ a ∈ atL l, okA a = true ∧ a.2 < 4294967296 := by
  intro a ha
  obtain ⟨b, _, rfl⟩ := List.mem_map.1 ha
  exact ⟨okA_atm b, atm_bd b⟩
theorem okP_of {p : List Atm} (h : ∀ a ∈ p, okA a = true) (hl : p.length ≤ 64) : okP p = true := by
  unfold okP
  rw [decide_eq_true hl, Bool.true_and, List.all_eq_true]
  exact h
end Go.Proofs.YtjchobcmbkiilaaGreatDoor
