/-
  No word of a term that may be has a blank in it.
-/
import Derived.Test.YthaebbmekonacaaGreatDoorTZ
import Derived.Test.YthaebbmekonacaaGreatDoorAD
import Derived.Test.YthaebbmekonacaaGreatDoorRL
set_option linter.unusedVariables false
set_option linter.unusedSimpArgs false
set_option maxRecDepth 100000
namespace Go.Proofs.YthaebbmekonacaaGreatDoor
open Go.RowKit
/-- Words, a blank ahead of each. -/
def txt (ws : List (List UInt8)) : List UInt8 := ws.flatMap fun x => 32 :: x
theorem txt_nil : txt [] = [] := rfl
theorem txt_cons (x : List UInt8) (r : List (List UInt8)) : txt (x :: r) = 32 :: (x ++ txt r) := by simp [txt]
theorem txt_app (a b : List (List UInt8)) : txt (a ++ b) = txt a ++ txt b := by simp [txt]
def NoBl (ws : List (List UInt8)) : Prop := ∀ x ∈ ws, (32 : UInt8) ∉ x
theorem NoBl.app {a b : List (List UInt8)} (h : NoBl a) (k : NoBl b) : NoBl (a ++ b) := fun x hx => by
  rcases List.mem_append.1 hx with e | e
  · exact h x e
  · exact k x e
theorem NoBl.cons {x : List UInt8} {b : List (List UInt8)} (h : (32 : UInt8) ∉ x) (k : NoBl b) : NoBl (x :: b) := fun y hy => by
  rcases List.mem_cons.1 hy with e | e
  · rw [e]; exact h
  · exact k y e
theorem NoBl.nil : NoBl [] := fun x hx => by simp at hx
theorem spl_cons (c : UInt8) (l : List UInt8) (h : c ≠ 32) (x : List UInt8) (r : List (List UInt8)) (e : spl l = x :: r) : spl (c :: l) = (c :: x) :: r := by
  rw [spl, if_neg h, e]
theorem spl_word (x l : List UInt8) (h : (32 : UInt8) ∉ x) (y : List UInt8) (r : List (List UInt8)) (e : spl l = y :: r) : spl (x ++ l) = (x ++ y) :: r := by
  induction x with
  | nil => exact e
  | cons c x ih =>
    rw [List.mem_cons, not_or] at h
    exact spl_cons c (x ++ l) (fun k => h.1 k.symm) _ _ (ih h.2)
theorem spl_txt : ∀ (r : List (List UInt8)) (x : List UInt8), (32 : UInt8) ∉ x → NoBl r → spl (x ++ txt r) = x :: r
  | [], x, hx, _ => by
    have := spl_word x [] hx [] [] rfl
    rw [List.append_nil] at this
    rw [txt_nil, List.append_nil]
    exact this
  | y :: r, x, hx, hr => by
    rw [txt_cons]
    have h1 : spl (y ++ txt r) = y :: r := spl_txt r y (hr y (by simp)) fun z hz => hr z (by simp [hz])
    have h2 : spl (32 :: (y ++ txt r)) = [] :: (y :: r) := by rw [spl, if_pos rfl, h1]
    have := spl_word x _ hx [] _ h2
    rw [List.append_nil] at this
    exact this
/-- A text that is told by its words. -/
theorem spl_of (l x : List UInt8) (r : List (List UInt8)) (h : 32 :: l = txt (x :: r)) (hx : (32 : UInt8) ∉ x) (hr : NoBl r) : spl l = x :: r := by
  rw [txt_cons] at h
  injection h with _ h
  rw [h]
  exact spl_txt r x hx hr
def notW : List UInt8 := [110, 111, 116]
/-- The words of a condition, of an action. -/
def wC (c : Cd) : List (List UInt8) := (if c.nt then [notW] else []) ++ [cwL.getD c.k.toNat [], cvT c]
def wA (a : Ac) : List (List UInt8) := awL.getD a.k.toNat [] :: (if avT a = [] then [] else [avT a])
theorem txt_c (c : Cd) : txt (wC c) = 32 :: cT c := by
  unfold wC cT
  cases c.nt
  · simp [txt]
  · simp [txt, notW]
theorem txt_a (a : Ac) : txt (wA a) = 32 :: aT a := by
  unfold wA aT
  by_cases h : avT a = []
  · simp [txt, h]
  · simp [txt, h]
theorem flatW_app : ∀ (W : List (List (List UInt8))) (t : List (List UInt8)), flatW W t = flatW W [] ++ t
  | [], t => rfl
  | [a], t => by simp [flatW]
  | a :: b :: l, t => by
    simp only [flatW]
    rw [flatW_app (b :: l) t]
    simp
theorem txt_join {α : Type} (f : α → List UInt8) (g : α → List (List UInt8)) (h : ∀ a, txt (g a) = 32 :: f a) : ∀ (L : List α), L ≠ [] → txt (flatW (L.map g) []) = 32 :: Lib.join (L.map f) andT
  | [], hn => absurd rfl hn
  | [a], _ => by
    simp only [List.map_cons, List.map_nil, flatW, List.append_nil]
    rw [h a]
    simp [Lib.join]
  | a :: b :: l, _ => by
    have ih := txt_join f g h (b :: l) (by simp)
    simp only [List.map_cons] at ih ⊢
    simp only [flatW]
    rw [txt_app, txt_cons, ih, h a]
    simp [Lib.join, andT, andW]
/-- The words of a term. -/
def ifT : List UInt8 := [105, 102]
def thT : List UInt8 := [116, 104, 101, 110]
def wT (T : Tm) : List (List UInt8) := (if T.cs = [] then [] else ifT :: flatW (T.cs.map wC) []) ++ thT :: flatW (T.acs.map wA) []
theorem txt_t (T : Tm) (h : T.acs ≠ []) : txt (wT T) = 32 :: tT T := by
  unfold wT tT
  rw [txt_app, txt_cons, txt_join aT wA txt_a T.acs h]
  by_cases hc : T.cs = []
  · simp [hc, txt, thT]
  · rw [if_neg hc, if_neg hc, txt_cons, txt_join cT wC txt_c T.cs hc]
    simp [thT, ifT]
end Go.Proofs.YthaebbmekonacaaGreatDoor
set_option linter.unusedVariables false
set_option linter.unusedSimpArgs false
set_option maxRecDepth 100000
namespace Go.Proofs.YthaebbmekonacaaGreatDoor
open Go.RowKit
theorem free_join (sep : UInt8) (h : sep ≠ 32) (L : List (List UInt8)) (hL : ∀ x ∈ L, (32 : UInt8) ∉ x) : (32 : UInt8) ∉ Lib.join L [sep] := by
  cases L with
  | nil => rw [Lib.join_nil]; simp
  | cons x r =>
    rw [Lib.join_cons]
    intro e
    rcases List.mem_append.1 e with e | e
    · exact hL x (by simp) e
    · unfold Lib.joinTail at e
      obtain ⟨y, hy, hm⟩ := List.mem_flatten.1 e
      obtain ⟨z, hz, rfl⟩ := List.mem_map.1 hy
      rcases List.mem_append.1 hm with q | q
      · simp at q; exact h q.symm
      · exact hL z (by simp [hz]) q
theorem dig_free (n : Nat) : (32 : UInt8) ∉ Lib.decDigits n := fun e => by
  have := (digits_are n _ e).1
  revert this; decide
theorem hex_free (n : Nat) : (32 : UInt8) ∉ hexD n := Ad.Digs.free Ad.digs16 (by omega) (by omega) Ad.m32 n
theorem com_free (n : Nat) : (32 : UInt8) ∉ comT n := by
  unfold comT
  split
  · decide
  split
  · decide
  split
  · decide
  · intro e
    rcases List.mem_append.1 e with e | e
    · exact dig_free _ e
    rcases List.mem_append.1 e with e | e
    · revert e; decide
    · exact dig_free _ e
theorem adT_free (b : ByteArray) (h : b.size = 4 ∨ b.size = 16) : (32 : UInt8) ∉ adT b := by
  rcases h with h | h
  · obtain ⟨ns, h1, h2, rfl⟩ := Ad.of_four b h
    rw [Ad.adT_4 ns h1 h2]
    exact free_join 46 (by decide) _ fun x hx => by
      obtain ⟨n, _, rfl⟩ := List.mem_map.1 hx
      exact dig_free n
  · obtain ⟨ns, h1, h2, rfl⟩ := Ad.of_sixteen b h
    rw [Ad.adT_16 ns h1 h2]
    exact free_join 58 (by decide) _ fun x hx => by
      obtain ⟨n, _, rfl⟩ := List.mem_map.1 hx
      exact hex_free n
theorem name_free {s : ByteArray} (h : nameB s = true) : (32 : UInt8) ∉ s.data.toList := fun e => by
  unfold nameB at h
  simp only [Bool.and_eq_true, List.all_eq_true] at h
  have := h.2 _ e
  revert this; decide
theorem tab_free {tab : List (List UInt8)} (h : ∀ x ∈ tab, (32 : UInt8) ∉ x) (k : Nat) : (32 : UInt8) ∉ tab.getD k [] := by
  rw [List.getD_eq_getElem?_getD]
  cases e : tab[k]? with
  | none => simp
  | some x => exact h x (List.mem_of_getElem? e)
theorem cw_free : ∀ x ∈ cwL, (32 : UInt8) ∉ x := by decide
theorem aw_free : ∀ x ∈ awL, (32 : UInt8) ∉ x := by decide
theorem ow_free : ∀ x ∈ owL, (32 : UInt8) ∉ x := by decide
theorem fw_free : ∀ x ∈ fwL, (32 : UInt8) ∉ x := by decide
theorem cv_free (c : Cd) (h : okC c = true) : (32 : UInt8) ∉ cvT c := by
  unfold cvT
  split
  · exact tab_free ow_free _
  split
  · exact dig_free _
  split
  · exact tab_free fw_free _
  · next h5 h6 h7 =>
    rcases ok_kinds h with ⟨_, hn, _⟩ | ⟨hk, _⟩ | ⟨hk, _⟩ | ⟨hk, _⟩
    · exact name_free hn
    · exact absurd hk h5
    · exact absurd hk h6
    · exact absurd hk h7
theorem okA_kinds {a : Ac} (h : okA' a = true) : (a.k = 1 ∨ a.k = 2 ∨ a.k = 5) ∧ a.nm.toList = [] ∧ a.n = 0 ∧ a.ad.toList = [] ∨ (a.k = 3 ∨ a.k = 4 ∨ a.k = 6 ∨ a.k = 8) ∧ a.nm.toList = [] ∧ a.ad.toList = [] ∨ a.k = 7 ∧ a.n = 0 ∧ a.ad.toList = [] ∧ nameB a.nm = true ∨ a.k = 9 ∧ a.nm.toList = [] ∧ a.n = 0 ∧ (a.ad.size = 4 ∨ a.ad.size = 16) ∨ a.k = 10 ∧ a.nm.toList = [] ∧ a.ad.toList = [] ∧ a.n ≤ 2 := by
  unfold okA' at h
  split at h
  · next hk =>
    simp only [Bool.and_eq_true, beq_iff_eq] at h
    exact Or.inl ⟨hk, h.1, h.2.1, h.2.2⟩
  split at h
  · next hk =>
    simp only [Bool.and_eq_true, beq_iff_eq] at h
    exact Or.inr (Or.inl ⟨by omega, h.1, h.2⟩)
  split at h
  · next hk =>
    simp only [Bool.and_eq_true, beq_iff_eq] at h
    exact Or.inr (Or.inr (Or.inl ⟨hk, h.1.1, h.1.2, h.2⟩))
  split at h
  · next hk =>
    simp only [Bool.and_eq_true, beq_iff_eq] at h
    exact Or.inr (Or.inl ⟨by omega, h.1.1, h.1.2⟩)
  split at h
  · next hk =>
    simp only [Bool.and_eq_true, beq_iff_eq] at h
    refine Or.inr (Or.inr (Or.inr (Or.inl ⟨hk, h.1.1, h.1.2, ?_⟩)))
    have := h.2
    unfold isAd at this
    simpa using this
  split at h
  · next hk =>
    simp only [Bool.and_eq_true, beq_iff_eq, decide_eq_true_eq] at h
    exact Or.inr (Or.inr (Or.inr (Or.inr ⟨hk, h.1.1, h.1.2, h.2⟩)))
  · cases h
theorem av_free (a : Ac) (h : okA' a = true) : (32 : UInt8) ∉ avT a := by
  unfold avT
  split
  · exact dig_free _
  split
  · exact com_free _
  split
  · next h9 =>
    unfold okA' at h
    rw [if_neg (by omega), if_neg (by omega), if_neg (by omega), if_neg (by omega), if_pos h9] at h
    simp only [Bool.and_eq_true] at h
    have := h.2
    unfold isAd at this
    exact adT_free _ (by simpa using this)
  split
  · exact tab_free ow_free _
  · next h3 h6 h9 h10 =>
    rcases okA_kinds h with ⟨hk, e1, _⟩ | ⟨hk, _⟩ | ⟨hk, _, _, e1⟩ | ⟨hk, _⟩ | ⟨hk, _⟩
    · rw [ByteArray.toList_eq] at e1
      rw [e1]; simp
    · omega
    · exact name_free e1
    · omega
    · omega
theorem wc_free (c : Cd) (h : okC c = true) : NoBl (wC c) := by
  unfold wC
  refine NoBl.app ?_ (NoBl.cons (tab_free cw_free _) (NoBl.cons (cv_free c h) NoBl.nil))
  split
  · exact NoBl.cons (by decide) NoBl.nil
  · exact NoBl.nil
theorem wa_free (a : Ac) (h : okA' a = true) : NoBl (wA a) := by
  unfold wA
  refine NoBl.cons (tab_free aw_free _) ?_
  split
  · exact NoBl.nil
  · exact NoBl.cons (av_free a h) NoBl.nil
theorem flat_free : ∀ (W : List (List (List UInt8))), (∀ x ∈ W, NoBl x) → NoBl (flatW W [])
  | [], _ => NoBl.nil
  | [a], h => by simp only [flatW, List.append_nil]; exact h a (by simp)
  | a :: b :: l, h => by
    simp only [flatW]
    exact NoBl.app (h a (by simp)) (NoBl.cons (by decide) (flat_free (b :: l) fun x hx => h x (by simp [hx])))
theorem wt_free (T : Tm) (h : okT T = true) : NoBl (wT T) := by
  have o := ok_term h
  unfold wT
  refine NoBl.app ?_ (NoBl.cons (by decide) (flat_free _ fun x hx => ?_))
  · split
    · exact NoBl.nil
    · refine NoBl.cons (by decide) (flat_free _ fun x hx => ?_)
      obtain ⟨c, hc, rfl⟩ := List.mem_map.1 hx
      exact wc_free c (o.2.2.2.1 c hc)
  · obtain ⟨a, ha, rfl⟩ := List.mem_map.1 hx
    exact wa_free a (o.2.2.2.2.1 a ha)
theorem wt_first (T : Tm) : ∃ x r, wT T = x :: r := by
  unfold wT
  split
  · exact ⟨_, _, rfl⟩
  · exact ⟨_, _, rfl⟩
theorem acs_ne {T : Tm} (h : okT T = true) : T.acs ≠ [] := fun e => by
  have o := (ok_term h).2.1
  rw [e] at o
  simp at o
/-- The words of a term's text; with a blank behind; with one ahead. -/
theorem spl_t (T : Tm) (h : okT T = true) : spl (tT T) = wT T := by
  obtain ⟨x, r, e⟩ := wt_first T
  have f := wt_free T h
  rw [e] at f ⊢
  refine spl_of _ x r ?_ (f x (by simp)) fun y hy => f y (by simp [hy])
  rw [← e, txt_t T (acs_ne h)]
theorem spl_tb (T : Tm) (h : okT T = true) : spl (tT T ++ [32]) = wT T ++ [[]] := by
  obtain ⟨x, r, e⟩ := wt_first T
  have f := wt_free T h
  have q : wT T ++ [[]] = x :: (r ++ [[]]) := by rw [e]; rfl
  rw [e] at f
  rw [q]
  refine spl_of _ x _ ?_ (f x (by simp)) (NoBl.app (fun y hy => f y (by simp [hy])) (NoBl.cons (by simp) NoBl.nil))
  rw [← q, txt_app, txt_t T (acs_ne h)]
  simp [txt]
theorem spl_ta (T : Tm) (h : okT T = true) : spl (32 :: tT T) = [] :: wT T := by
  rw [spl, if_pos rfl, spl_t T h]
theorem tT_len (T : Tm) (h : okT T = true) (hn : ∀ a ∈ T.acs, a.n < 4294967296) : (tT T).length ≤ 30000 := by
  have o := ok_term h
  have h1 := join_cs T.cs o.1 o.2.2.2.1
  have h2 := join_as T.acs o.2.2.1 o.2.2.2.2.1 hn
  unfold tT
  split
  · simp; omega
  · simp; omega
end Go.Proofs.YthaebbmekonacaaGreatDoor
