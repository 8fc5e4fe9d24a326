/-
  inBytes: the raw attribute that a call tells.
-/
import Derived.Test.YtpahnebhcfpplabGreatDoorF1
import Derived.Laws.Bits64b
namespace Go.Proofs.YtpahnebhcfpplabGreatDoor
open Go.RowKit
/-- The number of the first n bytes, and what stands behind them; 0 and all, if there are too few. -/
def gotN (n : Nat) (l : List UInt8) : Nat := if n ≤ l.length then worth (l.take n) else 0
def restN (n : Nat) (l : List UInt8) : List UInt8 := if n ≤ l.length then l.drop n else l
def zOf (F : Nat) : Nat := if F &&& 16 = 0 then 1 else 2
/-- The first raw attribute of bytes, and what stands behind it. -/
def rawI (l : List UInt8) : Option (Rw × List UInt8) :=
  if zOf (gotN 1 l) ≤ (restN 1 (restN 1 l)).length ∧ gotN (zOf (gotN 1 l)) (restN 1 (restN 1 l)) ≤ (restN (zOf (gotN 1 l)) (restN 1 (restN 1 l))).length then
    some ((gotN 1 l, gotN 1 (restN 1 l), ⟨((restN (zOf (gotN 1 l)) (restN 1 (restN 1 l))).take (gotN (zOf (gotN 1 l)) (restN 1 (restN 1 l)))).toArray⟩), (restN (zOf (gotN 1 l)) (restN 1 (restN 1 l))).drop (gotN (zOf (gotN 1 l)) (restN 1 (restN 1 l))))
  else none
theorem rawI_eq (l : List UInt8) : rawI l = if zOf (gotN 1 l) ≤ (restN 1 (restN 1 l)).length ∧ gotN (zOf (gotN 1 l)) (restN 1 (restN 1 l)) ≤ (restN (zOf (gotN 1 l)) (restN 1 (restN 1 l))).length then
    some ((gotN 1 l, gotN 1 (restN 1 l), ⟨((restN (zOf (gotN 1 l)) (restN 1 (restN 1 l))).take (gotN (zOf (gotN 1 l)) (restN 1 (restN 1 l)))).toArray⟩), (restN (zOf (gotN 1 l)) (restN 1 (restN 1 l))).drop (gotN (zOf (gotN 1 l)) (restN 1 (restN 1 l))))
  else none := rfl
theorem gotN_lt (n : Nat) (l : List UInt8) : gotN n l < 256 ^ n := by
  unfold gotN
  split
  · have := worth_lt (l.take n)
    rw [show (l.take n).length = n by simp; omega] at this
    exact this
  · exact Nat.pow_pos (by decide)
theorem numT (p : Nat) (l : List UInt8) (n : Nat) (w : World) (h : RdrAt w p ⟨l.toArray⟩) (h0 : 1 ≤ n) (h1 : n ≤ 8) :
    Calls Tryz.prog 34 #[.pointer (some ⟨p, 0, none⟩), .int .i64 (n : Int)] w fun e w' =>
      e = .returned (.tuple #[.int .u64 (gotN n l : Int), .bool (decide (n ≤ l.length))]) ∧ RdrAt w' p ⟨(restN n l).toArray⟩ ∧ Beside p w w' := by
  by_cases hn : n ≤ l.length
  · refine (numL_yes p l n w h h0 h1 hn).mono ?_
    rintro e w' ⟨rfl, h2, h3⟩
    simp only [gotN, restN, if_pos hn, decide_eq_true hn]
    exact ⟨trivial, h2, h3⟩
  · refine (num_no p _ n w h h0 h1 (by rw [list_size]; omega)).mono ?_
    rintro e w' ⟨rfl, h2, h3⟩
    simp only [gotN, restN, if_neg hn, decide_eq_false hn]
    exact ⟨rfl, h2, h3⟩
theorem takeT (p : Nat) (l : List UInt8) (n : Nat) (w : World) (h : RdrAt w p ⟨l.toArray⟩) :
    Calls Tryz.prog 35 #[.pointer (some ⟨p, 0, none⟩), .int .i64 (n : Int)] w fun e w' =>
      e = .returned (.tuple #[.string (if n ≤ l.length then ⟨(l.take n).toArray⟩ else ⟨#[]⟩), .bool (decide (n ≤ l.length))]) ∧ RdrAt w' p ⟨(restN n l).toArray⟩ ∧ Beside p w w' := by
  by_cases hn : n ≤ l.length
  · refine (take_yes p _ n w h (by rw [list_size]; exact hn)).mono ?_
    rintro e w' ⟨rfl, rfl⟩
    simp only [restN, if_pos hn, decide_eq_true hn]
    have e1 : (⟨l.toArray⟩ : ByteArray).extract 0 n = ⟨(l.take n).toArray⟩ := by
      apply ByteArray.ext
      simp
    rw [e1, drop_list]
    exact ⟨rfl, h.set _, Beside.set _ _ _⟩
  · refine (take_no p _ n w h (Or.inr (by rw [list_size]; omega))).mono ?_
    rintro e w' ⟨rfl, rfl⟩
    simp only [restN, if_neg hn, decide_eq_false hn]
    exact ⟨trivial, h, Beside.of_below (Below.refl _ _) (Nat.le_refl _)⟩
def zeroR : Value := .agg #[.int .u8 0, .int .u8 0, .string ⟨#[]⟩]
/-- What a call of the closure tells. -/
def NextR (p : Nat) (l : List UInt8) (w : World) (e : Ending) (w' : World) : Prop :=
  Beside p w w' ∧ ((l = [] ∧ e = .returned (.tuple #[zeroR, .int .i64 5])) ∨
    (l ≠ [] ∧ rawI l = none ∧ e = .returned (.tuple #[zeroR, .int .i64 4])) ∨
    ∃ r rest, l ≠ [] ∧ rawI l = some (r, rest) ∧ e = .returned (.tuple #[.agg #[.int .u8 (r.1 : Int), .int .u8 (r.2.1 : Int), .string r.2.2], .int .i64 0]) ∧ RdrAt w' p ⟨rest.toArray⟩)
structure Z3 (w w1 : World) : Prop where
  z0 : w1.cell? ⟨w.heap.size, 0, none⟩ = some (.int .u8 0)
  z1 : w1.cell? ⟨w.heap.size, 1, none⟩ = some (.int .u8 0)
  z2 : w1.cell? ⟨w.heap.size, 2, none⟩ = some (.string ⟨#[]⟩)
  g0 : w1.frozen? ⟨w.heap.size, 0, none⟩ = false
  g1 : w1.frozen? ⟨w.heap.size, 1, none⟩ = false
  g2 : w1.frozen? ⟨w.heap.size, 2, none⟩ = false
  hs : w.heap.size < w1.heap.size
theorem Z3.start (w : World) : Z3 w (w.alloc (.cells #[.int .u8 0, .int .u8 0, .string ⟨#[]⟩] 30)) := ⟨by simp, by simp, by simp, by simp, by simp, by simp, by simp⟩
theorem Z3.beside {w w1 w2 : World} {p : Nat} (h : Z3 w w1) (hb : Beside p w1 w2) (hp : p < w.heap.size) : Z3 w w2 :=
  ⟨hb.cell h.z0 (by omega), hb.cell h.z1 (by omega), hb.cell h.z2 (by omega), (hb.frozen h.hs (by omega)).trans h.g0, (hb.frozen h.hs (by omega)).trans h.g1, (hb.frozen h.hs (by omega)).trans h.g2, Nat.lt_of_lt_of_le h.hs hb.size⟩
def put3 (w2 : World) (p : Nat) (a b c : Value) : World := ((w2.setCell ⟨p, 0, none⟩ a).setCell ⟨p, 1, none⟩ b).setCell ⟨p, 2, none⟩ c
theorem Z3.got {w w2 : World} (h : Z3 w w2) (a b c : Value) : (put3 w2 w.heap.size a b c).cell? ⟨w.heap.size, 0, none⟩ = some a ∧ (put3 w2 w.heap.size a b c).cell? ⟨w.heap.size, 1, none⟩ = some b ∧ (put3 w2 w.heap.size a b c).cell? ⟨w.heap.size, 2, none⟩ = some c := by
  unfold put3
  refine ⟨?_, ?_, ?_⟩
  · rw [World.cell?_setCell_other _ _ _ _ (by simp), World.cell?_setCell_other _ _ _ _ (by simp)]; exact World.cell?_setCell_same _ _ _ h.z0
  · rw [World.cell?_setCell_other _ _ _ _ (by simp)]; exact World.cell?_setCell_same _ _ _ (by rw [World.cell?_setCell_other _ _ _ _ (by simp)]; exact h.z1)
  · exact World.cell?_setCell_same _ _ _ (by rw [World.cell?_setCell_other _ _ _ _ (by simp), World.cell?_setCell_other _ _ _ _ (by simp)]; exact h.z2)
theorem put3_beside {p : Nat} {w w1 : World} (h : Beside p w w1) (a b c : Value) : Beside p w (put3 w1 w.heap.size a b c) := ((h.put (Nat.le_refl _) _ _).put (Nat.le_refl _) _ _).put (Nat.le_refl _) _ _
theorem put3_rdr {p : Nat} {w w1 : World} {s : ByteArray} (h : RdrAt w1 p s) (hp : p < w.heap.size) (a b c : Value) : RdrAt (put3 w1 w.heap.size a b c) p s :=
  ((h.set_other _ _ (by show w.heap.size ≠ p; omega)).set_other _ _ (by show w.heap.size ≠ p; omega)).set_other _ _ (by show w.heap.size ≠ p; omega)
end Go.Proofs.YtpahnebhcfpplabGreatDoor
