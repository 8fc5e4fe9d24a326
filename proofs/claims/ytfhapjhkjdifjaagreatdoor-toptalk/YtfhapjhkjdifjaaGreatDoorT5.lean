/-
  What is meant may be framed; what lies in memory goes on lying there.
-/
import Derived.Test.YtfhapjhkjdifjaaGreatDoorT3
import Derived.Test.YtfhapjhkjdifjaaGreatDoorT4
import Derived.Test.YtfhapjhkjdifjaaGreatDoorQ2
import Derived.Test.YtfhapjhkjdifjaaGreatDoorN1
import Derived.Test.YtfhapjhkjdifjaaGreatDoormY
namespace Go.Proofs.YtfhapjhkjdifjaaGreatDoor
open Go.RowKit
open Fr (Fm OwnF cellsF)
theorem OpensAt.below {w w' : World} {v : Value} {L : List Opn} (h : OpensAt w v L) (hb : Below w.heap.size w w') : OpensAt w' v L := by
  obtain ⟨ad, b, off, cap, h1, h2, h3⟩ := h
  refine ⟨ad, b, off, cap, h1, h2, fun j hj => ?_⟩
  obtain ⟨a, vf, va, vk, c, d⟩ := h3 j hj
  exact ⟨a, vf, va, vk, range_below hb c, d.below hb⟩
theorem NotesAt.below {w w' : World} {v : Value} {L : List Nt} (h : NotesAt w v L) (hb : Below w.heap.size w w') : NotesAt w' v L := by
  obtain ⟨ad, b, off, cap, h1, h2, h3⟩ := h
  refine ⟨ad, b, off, cap, h1, h2, fun j hj => ?_⟩
  obtain ⟨a, c, d, e⟩ := h3 j hj
  exact ⟨a, below_cell hb c, below_cell hb d, below_cell hb e⟩
theorem U8sAt.below {w w' : World} {v : Value} {L : List Nat} (h : Fr.U8sAt w v L) (hb : Below w.heap.size w w') : Fr.U8sAt w' v L := by
  obtain ⟨ad, b, off, cap, h1, h2, h3, h4⟩ := h
  exact ⟨ad, b, off, cap, h1, h2, h3, fun j hj => below_cell hb (h4 j hj)⟩
theorem encL_length (o : Opn) : (encL o).length = (capsL o).length + 12 := by
  unfold encL pcL
  simp only [List.length_append, laid_length]
  omega
theorem rfL_length (x : Int) : (Ms.rfL x).length = 4 := by rw [Ms.rf_four]; rfl
theorem ntL_length (c s : Nat) (d : List UInt8) : (Ms.ntL c s d).length = d.length + 2 := by
  unfold Ms.ntL
  simp only [List.length_append, laid_length]
  omega
theorem sz_fine (k : Nat) (n : Nat) (h : (k = 1 ∧ 10 ≤ n ∧ n ≤ 4077) ∨ (k = 3 ∧ 2 ≤ n ∧ n ≤ 4077) ∨ (k = 4 ∧ n = 0) ∨ (k = 5 ∧ n = 4)) : Ms.vdV (Ms.szW (k : Int) (n : Int)) = .agg #[.int .i64 0, .int .u8 0, .int .u8 0] := by
  have e : Ms.szW (k : Int) (n : Int) = 0 := by
    unfold Ms.szW
    rcases h with ⟨rfl, h1, h2⟩ | ⟨rfl, h1, h2⟩ | ⟨rfl, rfl⟩ | ⟨rfl, rfl⟩
    · rw [if_neg (by decide), if_neg]
      have a : Ms.lN ((1 : Nat) : Int) = 10 := rfl
      have f : Ms.fxK ((1 : Nat) : Int) = false := rfl
      rw [a, f]; simp; omega
    · rw [if_neg (by decide), if_neg]
      have a : Ms.lN ((3 : Nat) : Int) = 2 := rfl
      have f : Ms.fxK ((3 : Nat) : Int) = false := rfl
      rw [a, f]; simp; omega
    · decide
    · decide
  rw [e]; rfl
theorem fit_fine (k : Nat) (n : Nat) (h : (k = 1 ∧ 10 ≤ n ∧ n ≤ 4077) ∨ (k = 3 ∧ 2 ≤ n ∧ n ≤ 4077) ∨ (k = 4 ∧ n = 0) ∨ (k = 5 ∧ n = 4)) : Fr.fitI (k : Int) ((19 + n : Nat) : Int) = true := by
  unfold Fr.fitI Fr.leastI Fr.mostI
  rcases h with ⟨rfl, h1, h2⟩ | ⟨rfl, h1, h2⟩ | ⟨rfl, rfl⟩ | ⟨rfl, rfl⟩
  all_goals simp
  all_goals omega
theorem Meant.sizes {f : Fm} (h : Meant f) : (f.k = 1 ∧ 10 ≤ f.b.length ∧ f.b.length ≤ 4077) ∨ (f.k = 3 ∧ 2 ≤ f.b.length ∧ f.b.length ≤ 4077) ∨ (f.k = 4 ∧ f.b.length = 0) ∨ (f.k = 5 ∧ f.b.length = 4) := by
  rcases h with ⟨hk, o, hm, hw, hb⟩ | ⟨hk, c, s, d, h1, h2, h3, h4, hb⟩ | ⟨hk, hb⟩ | ⟨hk, x, hx, hb⟩
  · have hM := mayF_of hm
    have := capsL_length o hM.fl hM.al hM.kt.1
    exact Or.inl ⟨hk, by rw [hb, encL_length]; omega, by rw [hb, encL_length]; omega⟩
  · exact Or.inr (Or.inl ⟨hk, by rw [hb, ntL_length]; omega, by rw [hb, ntL_length]; omega⟩)
  · exact Or.inr (Or.inr (Or.inl ⟨hk, by rw [hb]; rfl⟩))
  · exact Or.inr (Or.inr (Or.inr ⟨hk, by rw [hb, rfL_length]⟩))
theorem Meant.ok {f : Fm} (h : Meant f) : Fr.FmOk f := by
  have hs := h.sizes
  exact ⟨by omega, by omega, by omega, fit_fine _ _ hs⟩
theorem Meant.fine {f : Fm} (h : Meant f) : Ms.vdV (Ms.szW (f.k : Int) (f.b.length : Int)) = .agg #[.int .i64 0, .int .u8 0, .int .u8 0] := sz_fine _ _ h.sizes
theorem lists_of_owns {w : World} {base : Nat} {o : Opn} {vf va vk : Value} (h1 : w.ownsRow base 3 1 vf o.fams.length (intsC o.fams)) (h2 : w.ownsRow base 108 3 va o.adds.length (addsC o.adds)) (h3 : w.ownsRow base 129 2 vk o.kept.length (keptC o.kept)) : ListsAt w o vf va vk := ⟨ints_of_owns h1, adds_of_owns h2, kept_of_owns h3⟩
theorem rd_ntT (c s : Nat) (d : List UInt8) (hc : c < 256) (hs : s < 256) (hz : c ≠ 0) (hd : d.length ≤ 4075) : Ms.rdA (Ms.ntL c s d) = .tuple #[.agg (Ms.ntC c s d), .int .i64 0] := by
  have e1 : (UInt8.ofNat c).toNat = c := by rw [UInt8.toNat_ofNat']; omega
  have e2 : (UInt8.ofNat s).toNat = s := by rw [UInt8.toNat_ofNat']; omega
  have e3 : Ms.ntL c s d = UInt8.ofNat c :: UInt8.ofNat s :: d := by unfold Ms.ntL; rw [Ms.laid1, Ms.laid1]; rfl
  rw [e3]
  unfold Ms.rdA
  rw [if_neg (by simp; omega)]
  show (if (UInt8.ofNat c).toNat = 0 then _ else _) = _
  rw [e1, e2, if_neg hz]
theorem rr_rfT (f : Int) (h : isF f = true) : Ms.rrA (Ms.rfL f) = .tuple #[.int .i64 f, .int .i64 0] := by
  rcases isF_cases h with rfl | rfl | rfl | rfl | rfl
  all_goals kernel_rfl
/-- Each piece is no longer than the whole. -/
theorem piece_le' (P : List (List UInt8)) : ∀ (j : Nat) (hj : j < P.length), P[j].length ≤ P.flatten.length := by
  induction P with
  | nil => intro j hj; simp at hj
  | cons a P ih =>
    intro j hj
    cases j with
    | zero => simp
    | succ j =>
      have := ih j (by simpa using hj)
      simp only [List.getElem_cons_succ, List.flatten_cons, List.length_append]
      omega
theorem piece_le {P : List (List UInt8)} {s : List UInt8} (h : P.flatten = s) (j : Nat) (hj : j < P.length) : P[j].length ≤ s.length := by
  subst h
  exact piece_le' P j hj
theorem drop_flat (P : List (List UInt8)) (j : Nat) (hj : j < P.length) : P[j] ++ (P.drop (j + 1)).flatten = (P.drop j).flatten := by
  rw [List.drop_eq_getElem_cons hj]
  rfl
end Go.Proofs.YtfhapjhkjdifjaaGreatDoor
