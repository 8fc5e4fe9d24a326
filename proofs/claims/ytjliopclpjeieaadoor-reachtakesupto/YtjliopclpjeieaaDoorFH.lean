/-
  Values come back: plain.
-/
import Derived.Test.YtjliopclpjeieaaDoorQ2
import Derived.Test.YtjliopclpjeieaaDoorFE5
namespace Go.Proofs.YtjliopclpjeieaaDoor
open Go.RowKit
theorem tpF_pair (f : Int) (h : isF f = true) (r : List UInt8) : tpF (pairL f ++ r) = f := by
  have e : (pairL f ++ r).take 3 = pairL f := List.take_left' (pairL_len f)
  unfold tpF
  rw [e]
  rcases isF_cases h with rfl | rfl | rfl | rfl | rfl <;> decide
theorem drop_pair (f : Int) (r : List UInt8) : (pairL f ++ r).drop 3 = r := List.drop_left' (pairL_len f)
theorem worth1 (n : Nat) (h : n < 256) : worth (laid n 1) = n := by rw [worth_laid]; omega
theorem next_back (h : Nat) (B : List UInt8) (t : Bool) (nx E : List UInt8) (hn : nx.length = h) (h0 : 0 < h) (hl : (B ++ nx).length < 256) :
    cntI (laid (B ++ nx).length 1 ++ ((B ++ nx) ++ (0 :: E))) = (B ++ nx).length ∧ okN h B t (laid (B ++ nx).length 1 ++ ((B ++ nx) ++ (0 :: E))) = true ∧ nxI h B t (laid (B ++ nx).length 1 ++ ((B ++ nx) ++ (0 :: E))) = nx ∧ (laid (B ++ nx).length 1 ++ ((B ++ nx) ++ (0 :: E))).drop ((B ++ nx).length + 2) = E := by
  obtain ⟨H, hH⟩ : ∃ H, H = B ++ nx := ⟨_, rfl⟩
  rw [← hH] at hl ⊢
  have h1 : (laid H.length 1 ++ (H ++ (0 :: E))).take 1 = laid H.length 1 := List.take_left' (laid_length _ _)
  have h2 : (laid H.length 1 ++ (H ++ (0 :: E))).drop 1 = H ++ (0 :: E) := List.drop_left' (laid_length _ _)
  have hc : cntI (laid H.length 1 ++ (H ++ (0 :: E))) = H.length := by unfold cntI; rw [h1, worth1 _ hl]
  have hh : hopI (laid H.length 1 ++ (H ++ (0 :: E))) = H := by unfold hopI; rw [hc, h2]; exact List.take_left' rfl
  have hd : H.drop B.length = nx := by rw [hH]; exact List.drop_left' rfl
  have hx : nxI h B t (laid H.length 1 ++ (H ++ (0 :: E))) = nx := by
    unfold nxI
    rw [hh, hd, if_neg]
    simp
    intro _
    omega
  refine ⟨hc, ?_, hx, ?_⟩
  · unfold okN wholeI
    rw [hc, hx, hh]
    have : led H B = true := by
      unfold led
      rw [hH]
      simp
    rw [this]
    simp [laid_length, hn]
    omega
  · rw [show H.length + 2 = 1 + (H.length + 1) by omega, ← List.drop_drop, h2, ← List.drop_drop, List.drop_left' rfl]
    rfl
theorem okE_all {fam : Int} {add : Bool} {R : List Nl} (h : R.all (okE fam add) = true) (hw : ∀ n ∈ R, NlWf n) : ∀ n ∈ R, NlWf n ∧ nchk n.f n.r n.s n.l n.lb = 0 ∧ (n.id = 0 ∨ add = true) ∧ n.f = fam := fun n hn => by
  obtain ⟨h1, h2, h3⟩ := (okE_iff fam add n).1 (List.all_eq_true.mp h n hn)
  exact ⟨hw n hn, h1, h3, h2⟩
theorem enc_ge {fam : Int} {add : Bool} {R : List Nl} (hR : ∀ n ∈ R, NlWf n ∧ nchk n.f n.r n.s n.l n.lb = 0 ∧ (n.id = 0 ∨ add = true) ∧ n.f = fam) : R.length ≤ (encL add R).length := by
  induction R with
  | nil => simp
  | cons n R ih =>
    have h1 := ih fun m hm => hR m (List.mem_cons_of_mem _ hm)
    obtain ⟨_, hc, _, _⟩ := hR n (List.mem_cons_self)
    obtain ⟨hc, _, _⟩ := nchk_zero hc
    obtain ⟨hz, hs, k0, k1, _, _⟩ := chk_zero hc
    have hb := szOf_bd n.f
    have h2 : 1 ≤ (n.enc add).length := by
      rw [enc_length n add (by omega)]
      unfold hdN
      omega
    simp only [encL, List.flatMap_cons, List.length_append, List.length_cons] at *
    omega
theorem lst_back (f : Int) (A : List Int) (add : Bool) (ha : decide (f ∈ A) = add) (R : List Nl) (hw : ∀ n ∈ R, NlWf n) (h : R.all (okE f add) = true) : lstI f A (encL add R) = some R := by
  unfold lstI
  rw [ha]
  have hR := okE_all h hw
  exact decI_back f add R hR _ (enc_ge hR)
theorem putE_zero {hd : List UInt8} {f : Int} {add : Bool} {R : List Nl} (h : putE hd f add R = 0) : R.all (okE f add) = true ∧ hd.length + (encL add R).length ≤ 4077 ∧ putS hd f add R = hd ++ encL add R := by
  have hs : putS hd f add R = hd ++ encL add R := by unfold putS; rw [if_pos h]
  unfold putE at h
  cases ho : R.all (okE f add) with
  | false => rw [ho] at h; simp at h
  | true =>
    rw [ho] at h
    by_cases hl : 4077 < hd.length + (encL add R).length
    · rw [if_pos rfl, if_pos hl] at h; exact absurd h (by decide)
    · exact ⟨rfl, by omega, hs⟩
/-- A gone's value is read as it was laid. -/
theorem gone_back (f : Int) (A : List Int) (add : Bool) (ha : decide (f ∈ A) = add) (hf : isF f = true) (R : List Nl) (hw : ∀ n ∈ R, NlWf n) (h : putE (pairL f) f add R = 0) : tgI A (putS (pairL f) f add R) = .ok (f, R) := by
  obtain ⟨h1, h2, h3⟩ := putE_zero h
  rw [h3]
  unfold tgI
  have hf0 : f ≠ 0 := by rcases isF_cases hf with rfl | rfl | rfl | rfl | rfl <;> decide
  rw [if_neg (by simp [pairL_len]), tpF_pair f hf, if_neg hf0, drop_pair, lst_back f A add ha R hw h1]
theorem headL_eq (f : Int) (nx E : List UInt8) : headL f nx ++ E = pairL f ++ (laid (ahL f ++ nx).length 1 ++ ((ahL f ++ nx) ++ (0 :: E))) := by
  unfold headL
  simp [List.append_assoc]
/-- A reach's value is read as it was laid. -/
theorem reach_back (f : Int) (nx : List UInt8) (A : List Int) (add : Bool) (ha : decide (f ∈ A) = add) (hok : okH f nx = true) (R : List Nl) (hw : ∀ n ∈ R, NlWf n) (h : putE (headL f nx) f add R = 0) : tkI A (putS (headL f nx) f add R) = .ok (f, nx, R) := by
  obtain ⟨h1, h2, h3⟩ := putE_zero h
  obtain ⟨hf, hn⟩ : isF f = true ∧ (nx.length : Int) = szOf f := by unfold okH at hok; simpa using hok
  rw [h3, headL_eq]
  have hf0 : f ≠ 0 := by rcases isF_cases hf with rfl | rfl | rfl | rfl | rfl <;> decide
  have hz := sz_fam hf
  have hah := ah_le f
  obtain ⟨k1, k2, k3, k4⟩ := next_back (szOf f).toNat (ahL f) (twB f) nx (encL add R) (by omega) (by omega) (by simp; omega)
  unfold tkI okF hopF
  rw [if_neg (by simp [pairL_len]), tpF_pair f hf, if_neg hf0, drop_pair, k2, k3, k1, k4, if_pos rfl, lst_back f A add ha R hw h1]
/-- What Put and PutGone answer, whatever they are given. -/
def pE (f : Int) (nx : List UInt8) (add : Bool) (R : List Nl) : Int := if okH f nx then putE (headL f nx) f add R else 2
def pS (f : Int) (nx : List UInt8) (add : Bool) (R : List Nl) : List UInt8 := if okH f nx then putS (headL f nx) f add R else []
def gE (f : Int) (add : Bool) (R : List Nl) : Int := if isF f then putE (pairL f) f add R else 2
def gS (f : Int) (add : Bool) (R : List Nl) : List UInt8 := if isF f then putS (pairL f) f add R else []
theorem putAll (f : Int) (nx : List UInt8) (v : Value) (add : Bool) (R : List Nl) (w : World) (hg : FamSizes w) (hr : FamRds w) (hv : NlsAt w v R) (hwf : ∀ n ∈ R, NlWf n) (hlen : R.length ≤ 30000) :
    Calls Tryd.prog 15 #[.int .i64 f, .string ⟨nx.toArray⟩, v, .bool add] w fun e w' => e = .returned (.tuple #[.string ⟨(pS f nx add R).toArray⟩, .int .i64 (pE f nx add R)]) ∧ Below w.heap.size w w' := by
  unfold pS pE
  cases h : okH f nx with
  | true => exact put_any' f nx v add R w h hg hr hv hwf hlen
  | false => exact put_no f nx v add w hg h
theorem goneAll (f : Int) (v : Value) (add : Bool) (R : List Nl) (w : World) (hg : FamSizes w) (hr : FamRds w) (hv : NlsAt w v R) (hwf : ∀ n ∈ R, NlWf n) (hlen : R.length ≤ 30000) :
    Calls Tryd.prog 17 #[.int .i64 f, v, .bool add] w fun e w' => e = .returned (.tuple #[.string ⟨(gS f add R).toArray⟩, .int .i64 (gE f add R)]) ∧ Below w.heap.size w w' := by
  unfold gS gE
  cases h : isF f with
  | true => exact putGone_yes f v add R w h hg hr hv hwf hlen
  | false => exact putGone_no f v add w h
theorem p_zero {f : Int} {nx : List UInt8} {A : List Int} {add : Bool} (ha : decide (f ∈ A) = add) {R : List Nl} (hw : ∀ n ∈ R, NlWf n) (h : pE f nx add R = 0) : tkI A (pS f nx add R) = .ok (f, nx, R) ∧ gE f add R = 0 ∧ (pS f nx add R).length ≤ 4077 := by
  unfold pE at h
  cases hok : okH f nx with
  | false => rw [hok] at h; simp at h
  | true =>
    rw [hok, if_pos rfl] at h
    obtain ⟨hf, hn⟩ : isF f = true ∧ (nx.length : Int) = szOf f := by unfold okH at hok; simpa using hok
    obtain ⟨h1, h2, h3⟩ := putE_zero h
    refine ⟨by unfold pS; rw [hok, if_pos rfl]; exact reach_back f nx A add ha hok R hw h, ?_, by unfold pS; rw [hok, if_pos rfl, h3, List.length_append]; exact h2⟩
    unfold gE putE
    rw [hf, if_pos rfl, h1, if_pos rfl, if_neg]
    have : (pairL f).length ≤ (headL f nx).length := by unfold headL; simp
    omega
theorem g_zero {f : Int} {A : List Int} {add : Bool} (ha : decide (f ∈ A) = add) {R : List Nl} (hw : ∀ n ∈ R, NlWf n) (h : gE f add R = 0) : tgI A (gS f add R) = .ok (f, R) ∧ (gS f add R).length ≤ 4077 := by
  unfold gE at h
  cases hf : isF f with
  | false => rw [hf] at h; simp at h
  | true =>
    rw [hf, if_pos rfl] at h
    obtain ⟨h1, h2, h3⟩ := putE_zero h
    unfold gS
    rw [hf, if_pos rfl]
    exact ⟨gone_back f A add ha hf R hw h, by rw [h3, List.length_append]; exact h2⟩
theorem p_not {f : Int} {nx : List UInt8} {add : Bool} {R : List Nl} (h : pE f nx add R ≠ 0) : pS f nx add R = [] := by
  unfold pE at h
  unfold pS
  cases hok : okH f nx with
  | false => rfl
  | true => rw [hok, if_pos rfl] at h; rw [if_pos rfl]; unfold putS; rw [if_neg h]
theorem g_not {f : Int} {add : Bool} {R : List Nl} (h : gE f add R ≠ 0) : gS f add R = [] := by
  unfold gE at h
  unfold gS
  cases hok : isF f with
  | false => rfl
  | true => rw [hok, if_pos rfl] at h; rw [if_pos rfl]; unfold putS; rw [if_neg h]
end Go.Proofs.YtjliopclpjeieaaDoor
