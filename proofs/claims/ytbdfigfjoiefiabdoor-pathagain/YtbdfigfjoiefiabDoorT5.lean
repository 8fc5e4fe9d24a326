/-
  The bytes of a path, read back.
-/
import Derived.Test.YtbdfigfjoiefiabDoorT4
namespace Go.Proofs.YtbdfigfjoiefiabDoor
/-- A segment as it comes back. -/
def fitS (four : Bool) (s : Sg) : Sg := (s.1, s.2.map (fitN four))
theorem asI_back (four : Bool) (l : List Nat) (h : ∀ a ∈ l, a < 4294967296) (rest : List UInt8) : asI (szN four) l.length (asE four l ++ rest) = l.map (fitN four) := by
  induction l with
  | nil => simp [asI]
  | cons a l ih =>
    have e : asE four (a :: l) ++ rest = laid (fitN four a) (szN four) ++ (asE four l ++ rest) := by simp [asE]
    rw [List.length_cons, asI, e, List.take_left' (laid_length _ _), List.drop_left' (laid_length _ _), worth_laid, Nat.mod_eq_of_lt (fitN_lt four a (h a (by simp))), ih fun x hx => h x (List.mem_cons_of_mem _ hx)]
    rfl
theorem segI_back (four : Bool) (s : Sg) (hs : okSeg s = true) (h : ∀ a ∈ s.2, a < 4294967296) (rest : List UInt8) : segI (szN four) (segE four s ++ rest) = some (fitS four s, rest) := by
  obtain ⟨h1, h2, h3, h4, h5⟩ := (okSeg_iff s).mp hs
  have l1 : (laid s.1.toNat 1).length = 1 := laid_length _ _
  have l2 : (laid s.2.length 1).length = 1 := laid_length _ _
  have e1 : segE four s ++ rest = laid s.1.toNat 1 ++ (laid s.2.length 1 ++ (asE four s.2 ++ rest)) := by simp [segE]
  have d2 : (segE four s ++ rest).drop 2 = asE four s.2 ++ rest := by
    rw [e1, ← List.append_assoc]
    exact List.drop_left' (by simp [l1, l2])
  have hl : (segE four s ++ rest).length = 2 + s.2.length * szN four + rest.length := by rw [List.length_append, segE_length]
  have w0 : worth ((segE four s ++ rest).take 1) = s.1.toNat := by
    rw [e1, List.take_left' l1, worth_laid, Nat.mod_eq_of_lt (by omega)]
  have w1 : worth (((segE four s ++ rest).drop 1).take 1) = s.2.length := by
    rw [e1, List.drop_left' l1, List.take_left' l2, worth_laid, Nat.mod_eq_of_lt (by omega)]
  unfold segI
  rw [if_neg (by omega), w0, w1, d2, if_neg (by rw [List.length_append, asE_length]; omega), asI_back four s.2 h, List.drop_left' (asE_length four s.2)]
  have : ((s.1.toNat : Nat) : Int) = s.1 := by omega
  rw [this]
  rfl
theorem fit_ok (four : Bool) (s : Sg) (hs : okSeg s = true) : okSeg (fitS four s) = true := by
  obtain ⟨h1, h2, h3, h4, h5⟩ := (okSeg_iff s).mp hs
  refine (okSeg_iff _).mpr ⟨h1, h2, by simpa [fitS] using h3, by simpa [fitS] using h4, ?_⟩
  simp only [fitS, List.mem_map]
  rintro ⟨a, ha, e⟩
  have : a ≠ 0 := fun h => h5 (h ▸ ha)
  unfold fitN at e
  split at e <;> omega
theorem decI_back (four : Bool) (L : List Sg) (h : ∀ s ∈ L, okSeg s = true ∧ ∀ a ∈ s.2, a < 4294967296) (m : Nat) (hm : L.length ≤ m) : decI (szN four) m (encOf four L) = some (L.map (fitS four)) := by
  induction L generalizing m with
  | nil => simp [encOf, decI_nil]
  | cons s L ih =>
    obtain ⟨hs, ha⟩ := h s (by simp)
    rw [List.length_cons] at hm
    obtain ⟨k, rfl⟩ : ∃ k, m = k + 1 := ⟨m - 1, by omega⟩
    have e : encOf four (s :: L) = segE four s ++ encOf four L := by simp [encOf]
    have hb := segI_back four s hs ha (encOf four L)
    have hne := segI_ne hb
    rw [e, decI, if_neg hne, hb]
    simp only [fit_ok four s hs, if_true, ih (fun t ht => h t (List.mem_cons_of_mem _ ht)) k (by omega)]
    rfl
theorem fit_four (s : Sg) : fitS true s = s := by
  obtain ⟨k, l⟩ := s
  have : fitN true = id := by funext a; simp [fitN]
  simp [fitS, this]
end Go.Proofs.YtbdfigfjoiefiabDoor
