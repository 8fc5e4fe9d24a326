/-
  ReachBack's walk.
-/
import Derived.Test.YtjliopclpjeieaaDoorFH
import Derived.Test.YtjliopclpjeieaaDoorFF
import Derived.Test.YtjliopclpjeieaaDoorH5
import Derived.Deep.QuietTactic
namespace Go.Proofs.YtjliopclpjeieaaDoor
open Go.RowKit
/-- Whole numbers in a row of their own. -/
def OwnI (w : World) (base : Nat) (v : Value) (A : List Int) : Prop := w.ownsRow base 3 1 v A.length (A.map fun a => Value.int .i64 a)
theorem OwnI.at {w : World} {base : Nat} {v : Value} {A : List Int} (h : OwnI w base v A) : IntsAt w v A := by
  obtain ⟨hn, hv⟩ := h
  rcases hv with ⟨rfl, h0⟩ | ⟨g, cap, cur, rfl, hg, hh, hc, hm, hs, ht⟩
  · obtain rfl : A = [] := List.length_eq_zero_iff.mp h0
    exact ints_nil w
  · refine ⟨some ⟨g, 0, none⟩, g, 0, cap, rfl, Or.inl rfl, hc, fun j hj => ?_⟩
    have e : (cur.toList.take (A.length * 1))[j]? = (A.map fun a => Value.int .i64 a)[j]? := by rw [ht]
    rw [List.getElem?_take, if_pos (by omega)] at e
    rw [Nat.zero_add]
    exact cell_of_row hh _ _ (by rw [e]; simp [hj])
theorem info3 : (Tryd.prog.info? 3).map (fun i => (i.zero, i.size, i.bytes)) = some (some (.int .i64 0), 1, 8) := by kernel_rfl
theorem news1 (w : World) (a : Value) (t : TypeId) : ∀ (j : Nat) (u : Value), [a][j]? = some u → (w.alloc (.cells #[a] t)).cell? (Addr.add ⟨w.heap.size, 0, none⟩ j) = some u := by
  intro j u hj
  rcases j with _ | j
  · simp at hj; subst hj; simp [Addr.add]
  · simp at hj
theorem one_int (a : Int) : ∀ u ∈ [Value.int .i64 a], u.oneCell' = true := by
  intro u hu
  simp at hu
  subst hu
  rfl
/-- The families with ids that the law makes. -/
def addsL (F : Int) (add : Bool) (L : List Int) (n : Nat) : List Int := (if add then [F] else []) ++ (L.take n).filter (fun x => x != F)
theorem adds_has (F : Int) (add : Bool) (L : List Int) (n : Nat) : decide (F ∈ addsL F add L n) = add := by
  unfold addsL
  cases add <;> simp
theorem adds_len (F : Int) (add : Bool) (L : List Int) (n : Nat) : (addsL F add L n).length ≤ n + 1 := by
  unfold addsL
  have h1 := List.length_filter_le (fun x => x != F) (L.take n)
  have h2 : (L.take n).length ≤ n := by simp; omega
  cases add <;> simp at * <;> omega
theorem adds_in (F : Int) (add : Bool) (L : List Int) (n : Nat) (h : n < L.length) (hne : L[n] ≠ F) : addsL F add L (n + 1) = addsL F add L n ++ [L[n]] := by
  unfold addsL
  rw [List.take_succ_eq_append_getElem h, List.filter_append, List.append_assoc]
  simp [hne]
theorem adds_out (F : Int) (add : Bool) (L : List Int) (n : Nat) (h : n < L.length) (he : L[n] = F) : addsL F add L (n + 1) = addsL F add L n := by
  unfold addsL
  rw [List.take_succ_eq_append_getElem h, List.filter_append]
  simp [he]
theorem sameL_self (A : List Nl) : sameL A A = true := sameL_yes rfl fun _ _ _ => (eqN_iff _ _).2 rfl
theorem NlsAt.cut {w : World} {ad : Option Addr} {b off cap : Nat} {R : List Nl} (had : ad = some ⟨b, off, none⟩ ∨ R.length = 0) (hcap : R.length ≤ cap) (hrow : RowN w b off R) (n : Nat) : NlsAt w (.slice ad (R.take n).length cap) (R.take n) := by
  refine ⟨ad, b, off, cap, rfl, ?_, ?_, ?_⟩
  · rcases had with h | h
    · exact Or.inl h
    · right; simp [h]
  · simp; omega
  · intro j hj
    have hj' : j < R.length := by simp at hj; omega
    have := hrow j hj'
    simp only [List.getElem_take]
    exact this
end Go.Proofs.YtjliopclpjeieaaDoor
