/-
  Write: attributes that may be, as raw ones.
-/
import Derived.Test.YtpahnebhcfpplabGreatDoorF1
namespace Go.Proofs.YtpahnebhcfpplabGreatDoor
open Go.RowKit
/-- May these attributes be? (what Write leans on) -/
structure AMay (m : Am) : Prop where
  o0 : 0 ≤ m.o
  o2 : m.o ≤ 2
  path : okPath m.L = true
  comm : mayL ltN m.C = true
  exts : mayL ltN m.X = true
  larg : mayL ltL m.G = true
  clus : m.K.length ≤ 32
def bsL (l : List UInt8) : ByteArray := ⟨l.toArray⟩
/-- The raw attributes, type by type. -/
def rowsOf (four : Bool) (m : Am) : List (List Rw) :=
  [[(64, 1, bsL (laid m.o.toNat 1))], [(64, 2, bsL (encOf four m.L))],
   if m.nx.size = 4 then [(64, 3, m.nx)] else [],
   if m.hm then [(128, 4, bsL (laid m.md 4))] else [],
   if m.hp then [(64, 5, bsL (laid m.pf 4))] else [],
   if m.at_ then [(64, 6, ⟨#[]⟩)] else [],
   if 0 < m.ga then [(192, 7, bsL (laid (fitN four m.ga) (szN four) ++ laid m.ai 4))] else [],
   if m.C = [] then [] else [(192, 8, bytesN 4 m.C)],
   if m.ho then [(128, 9, bsL (laid m.og 4))] else [],
   if m.K = [] then [] else [(128, 10, bytesN 4 m.K)],
   if m.X = [] then [] else [(192, 16, bytesN 8 m.X)],
   if m.G = [] then [] else [(192, 32, bytesL m.G)]]
def writeTo (four : Bool) (m : Am) (k : Nat) : List Rw := ((rowsOf four m).take k).flatten
theorem writeTo_succ (four : Bool) (m : Am) (k : Nat) (h : k < (rowsOf four m).length) : writeTo four m (k + 1) = writeTo four m k ++ (rowsOf four m)[k] := by
  unfold writeTo
  rw [List.take_succ_eq_append_getElem h, List.flatten_append]
  simp
theorem writeTo_le (four : Bool) (m : Am) : ∀ k, (writeTo four m k).length ≤ 12 := by
  intro k
  have h : ∀ L : List (List Rw), (∀ l ∈ L, l.length ≤ 1) → L.flatten.length ≤ L.length := by
    intro L
    induction L with
    | nil => intro _; simp
    | cons a L ih =>
      intro h
      have h1 := h a (by simp)
      have h2 := ih (fun l hl => h l (by simp [hl]))
      simp only [List.flatten_cons, List.length_append, List.length_cons]
      omega
  have h1 : ∀ l ∈ rowsOf four m, l.length ≤ 1 := by
    intro l hl
    simp only [rowsOf, List.mem_cons, List.not_mem_nil, or_false] at hl
    rcases hl with rfl | rfl | rfl | rfl | rfl | rfl | rfl | rfl | rfl | rfl | rfl | rfl <;> first | exact Nat.le_refl 1 | (split <;> simp)
  have h2 := h ((rowsOf four m).take k) (fun l hl => h1 l (List.mem_of_mem_take hl))
  have h3 : ((rowsOf four m).take k).length ≤ 12 := by rw [List.length_take]; exact Nat.min_le_right k 12
  unfold writeTo
  omega
theorem bytes_empty (n : Nat) (l : List Nat) (h : l = []) : (bytesN n l).toList.isEmpty = !false := by subst h; simp [bytesN]
theorem bytesL_empty (l : List Lg) (h : l = []) : (bytesL l).toList.isEmpty = !false := by subst h; simp [bytesL]
theorem laid_ne (v n : Nat) (hn : 0 < n) (l : List UInt8) : ∃ a t, laid v n ++ l = a :: t := by
  cases h : laid v n ++ l with
  | nil =>
    have := congrArg List.length h
    simp [laid_length] at this
    omega
  | cons a t => exact ⟨a, t, rfl⟩
theorem empty_of (l : List UInt8) (a : UInt8) (t : List UInt8) (h : l = a :: t) : (⟨l.toArray⟩ : ByteArray).toList.isEmpty = !true := by
  subst h
  have : (⟨(a :: t).toArray⟩ : ByteArray).toList = a :: t := by simp
  rw [this]; rfl
end Go.Proofs.YtpahnebhcfpplabGreatDoor
