/-
  A segment of bytes: plain, and what stands in memory while it is read.
-/
import Derived.Test.YtbdfigfjoiefiaaDoorW7
import Derived.Test.YtbdfigfjoiefiaaDoorN1
namespace Go.Proofs.YtbdfigfjoiefiaaDoor
open Go.RowKit
/-- n numbers of sz bytes each. -/
def asI (sz : Nat) : Nat → List UInt8 → List Nat
  | 0, _ => []
  | n + 1, l => worth (l.take sz) :: asI sz n (l.drop sz)
/-- The first segment of bytes, and the bytes behind it. -/
def segI (sz : Nat) (l : List UInt8) : Option (Sg × List UInt8) :=
  if l.length < 2 then none
  else if (l.drop 2).length < worth ((l.drop 1).take 1) * sz then none
  else some (((worth (l.take 1) : Int), asI sz (worth ((l.drop 1).take 1)) (l.drop 2)), (l.drop 2).drop (worth ((l.drop 1).take 1) * sz))
theorem asI_snoc (sz n : Nat) (l : List UInt8) : asI sz (n + 1) l = asI sz n l ++ [worth ((l.drop (n * sz)).take sz)] := by
  induction n generalizing l with
  | zero => simp [asI]
  | succ n ih =>
    rw [asI, ih (l.drop sz), asI, List.drop_drop, List.cons_append]
    rw [show sz + n * sz = (n + 1) * sz by rw [Nat.succ_mul, Nat.add_comm]]
theorem asI_length (sz n : Nat) (l : List UInt8) : (asI sz n l).length = n := by
  induction n generalizing l with
  | zero => rfl
  | succ n ih => simp [asI, ih]
theorem drop_list (l : List UInt8) (n : Nat) : (⟨l.toArray⟩ : ByteArray).extract n (⟨l.toArray⟩ : ByteArray).size = ⟨(l.drop n).toArray⟩ := by
  apply ByteArray.ext
  apply Array.ext'
  simp [ByteArray.size]
  exact List.take_of_length_le (by simp)
theorem numL_yes (p : Nat) (l : List UInt8) (n : Nat) (w : World) (h : RdrAt w p ⟨l.toArray⟩) (h0 : 1 ≤ n) (h1 : n ≤ 8) (hn : n ≤ l.length) :
    Calls Tryd.prog 77 #[.pointer (some ⟨p, 0, none⟩), .int .i64 (n : Int)] w fun e w' =>
      e = .returned (.tuple #[.int .u64 (worth (l.take n) : Int), .bool true]) ∧ RdrAt w' p ⟨(l.drop n).toArray⟩ ∧ Beside p w w' := by
  refine (num_yes p ⟨l.toArray⟩ n w h h0 h1 (by simpa [ByteArray.size] using hn)).mono ?_
  rintro e w' ⟨rfl, h2, h3⟩
  exact ⟨rfl, drop_list l n ▸ h2, h3⟩
theorem Beside.cell {p : Nat} {w w' : World} (h : Beside p w w') {b i : Nat} {v : Value} (hc : w.cell? ⟨b, i, none⟩ = some v) (hb : b ≠ p) : w'.cell? ⟨b, i, none⟩ = some v := by
  have hlt : b < w.heap.size := by
    by_cases e : b < w.heap.size
    · exact e
    · rw [World.cell?] at hc
      simp [Array.getElem?_eq_none (Nat.le_of_not_lt e)] at hc
  have := h.block b hlt hb
  rw [World.cell?] at hc ⊢
  rw [this]; exact hc
theorem Beside.frozen {p : Nat} {w w' : World} (h : Beside p w w') {b i : Nat} (hlt : b < w.heap.size) (hb : b ≠ p) : w'.frozen? ⟨b, i, none⟩ = w.frozen? ⟨b, i, none⟩ :=
  World.frozen?_of_block (h.block b hlt hb)
theorem Beside.put {p : Nat} {w w1 : World} (h : Beside p w w1) {b : Nat} (hb : w.heap.size ≤ b) (i : Nat) (v : Value) : Beside p w (w1.setCell ⟨b, i, none⟩ v) := by
  have hs := (Below.refl 0 w1).setCell (p := ⟨b, i, none⟩) (by simp) v
  refine ⟨hs.os.trans h.os, hs.tape.trans h.tape, hs.output.trans h.output, Nat.le_trans h.size hs.size, fun k hk hp => ?_⟩
  rw [Below.heap_setCell w1 ⟨b, i, none⟩ v k (by simp; omega)]
  exact h.block k hk hp
theorem Beside.then {p : Nat} {w w1 w2 : World} (h : Beside p w w1) (hb : Below w.heap.size w1 w2) : Beside p w w2 :=
  ⟨hb.os.trans h.os, hb.tape.trans h.tape, hb.output.trans h.output, Nat.le_trans h.size hb.size, fun k hk hp => (hb.block k hk).trans (h.block k hk hp)⟩
theorem owns_heap' {w w' : World} {base : Nat} {e : TypeId} {size : Nat} {v : Value} {n : Nat} {xs : List Value} (h : w.ownsRow base e size v n xs) (hh : ∀ g, v.ownBlock = some g → w'.heap[g]? = w.heap[g]?) : w'.ownsRow base e size v n xs := by
  obtain ⟨h0, h | ⟨g, cap, cur, rfl, hg, hk, r⟩⟩ := h
  · exact ⟨h0, Or.inl h⟩
  · exact ⟨h0, Or.inr ⟨g, cap, cur, rfl, hg, (hh g rfl).trans hk, r⟩⟩
theorem OwnU.beside {w w' : World} {base p : Nat} {v : Value} {l : List Nat} (h : OwnU w base v l) (hb : Beside p w w') (hp : p < base) : OwnU w' base v l :=
  ⟨owns_heap' h.1 fun g e => hb.block g (h.1.lt g e).2 (by have := (h.1.lt g e).1; omega), h.2⟩
/-- What a closure over a reader and a size finds. -/
structure ClAt (w : World) (p pr ps sz : Nat) : Prop where
  b0 : w.cell? ⟨pr, 0, none⟩ = some (.pointer (some ⟨p, 0, none⟩))
  b1 : w.cell? ⟨ps, 0, none⟩ = some (.int .i64 (sz : Int))
  n0 : pr ≠ p
  n1 : ps ≠ p
theorem ClAt.beside {w w' : World} {p pr ps sz : Nat} (h : ClAt w p pr ps sz) (hb : Beside p w w') : ClAt w' p pr ps sz := ⟨hb.cell h.b0 h.n0, hb.cell h.b1 h.n1, h.n0, h.n1⟩
/-- What stands in memory while a segment is read into block q. -/
structure ReadAt (w wr : World) (p q : Nat) (K : Int) (ad : Option Addr) (c : Nat) (lst : List Nat) (rest : List UInt8) : Prop where
  z0 : wr.cell? ⟨w.heap.size, 0, none⟩ = some (.int .i64 0)
  z1 : wr.cell? ⟨w.heap.size, 1, none⟩ = some (.slice none 0 0)
  g0 : wr.frozen? ⟨w.heap.size, 0, none⟩ = false
  g1 : wr.frozen? ⟨w.heap.size, 1, none⟩ = false
  c0 : wr.cell? ⟨q, 0, none⟩ = some (.int .i64 K)
  c1 : wr.cell? ⟨q, 1, none⟩ = some (.slice ad lst.length c)
  f1 : wr.frozen? ⟨q, 1, none⟩ = false
  own : OwnU wr (q + 1) (.slice ad lst.length c) lst
  rdr : RdrAt wr p ⟨rest.toArray⟩
  bes : Beside p w wr
  siz : q + 1 ≤ wr.heap.size
  abv : w.heap.size < q
  low : p < w.heap.size
theorem ReadAt.read {w wr w' : World} {p q : Nat} {K : Int} {ad : Option Addr} {c : Nat} {lst : List Nat} {rest rest' : List UInt8} (h : ReadAt w wr p q K ad c lst rest) (hb : Beside p wr w') (hr : RdrAt w' p ⟨rest'.toArray⟩) : ReadAt w w' p q K ad c lst rest' := by
  have h1 := h.siz
  have h2 := h.abv
  have h3 := h.low
  exact ⟨hb.cell h.z0 (by omega), hb.cell h.z1 (by omega), (hb.frozen (by omega) (by omega)).trans h.g0, (hb.frozen (by omega) (by omega)).trans h.g1, hb.cell h.c0 (by omega), hb.cell h.c1 (by omega), (hb.frozen (by omega) (by omega)).trans h.f1,
    h.own.beside hb (by omega), hr, h.bes.trans hb, Nat.le_trans h.siz hb.size, h2, h3⟩
theorem ReadAt.next {w wr w3 : World} {p q cap1 c3 y n : Nat} {K : Int} {ad3 ad1 : Option Addr} {lst : List Nat} {rest : List UInt8} {o : Obj} (h : ReadAt w wr p q K ad3 c3 lst rest) (hn : lst.length = n)
    (hown3 : w3.ownsRow (q + 1) 23 1 (.slice ad1 (n + 1) cap1) (n + 1) (cellsU lst ++ [.int .u32 (y : Int)])) (hg : (wr.alloc o).grownBy w3 (Value.slice ad3 n c3).ownBlock)
    (hy : y < 4294967296) (h3 : n < 1000000) :
    ReadAt w (w3.setCell ⟨q, 1, none⟩ (.slice ad1 (n + 1) cap1)) p q K ad1 cap1 (lst ++ [y]) rest := by
  subst hn
  have hl : (lst ++ [y]).length = lst.length + 1 := by simp
  have hsz := h.siz
  have hab := h.abv
  have hlo := h.low
  have hbel : Below (q + 1) wr w3 := Below.grown (Below.alloc (Below.refl _ _) (by omega) o) hg (by show q + 1 ≤ (wr.alloc o).heap.size; simp; omega) (fun k e => (h.own.1.lt k e).1)
  have cel : ∀ (b i : Nat), b ≤ q → (b ≠ q ∨ i ≠ 1) → (w3.setCell ⟨q, 1, none⟩ (.slice ad1 (lst.length + 1) cap1)).cell? ⟨b, i, none⟩ = wr.cell? ⟨b, i, none⟩ := fun b i hb hne => by
    rw [World.cell?_setCell_other _ _ _ _ (by simp; omega)]
    exact hbel.cell (p := ⟨b, i, none⟩) (by show b < q + 1; omega)
  have fro : ∀ (b i : Nat), b ≤ q → (w3.setCell ⟨q, 1, none⟩ (.slice ad1 (lst.length + 1) cap1)).frozen? ⟨b, i, none⟩ = wr.frozen? ⟨b, i, none⟩ := fun b i hb => by
    rw [World.frozen?_setCell]
    exact hbel.frozen (p := ⟨b, i, none⟩) (by show b < q + 1; omega)
  refine ⟨(cel _ _ (by omega) (by omega)).trans h.z0, (cel _ _ (by omega) (by omega)).trans h.z1, (fro _ _ (by omega)).trans h.g0, (fro _ _ (by omega)).trans h.g1, (cel _ _ (by omega) (by omega)).trans h.c0, ?_, (fro _ _ (by omega)).trans h.f1, ⟨?_, ?_, by simp; omega⟩,
    ⟨(cel _ _ (by omega) (by omega)).trans h.rdr.c0, (cel _ _ (by omega) (by omega)).trans h.rdr.c1, (fro _ _ (by omega)).trans h.rdr.f0, (fro _ _ (by omega)).trans h.rdr.f1⟩, ?_, ?_, hab, hlo⟩
  · rw [hl]
    have := hbel.cell (p := ⟨q, 1, none⟩) (by show q < q + 1; omega)
    exact World.cell?_setCell_same _ _ _ (this.trans h.c1)
  · rw [hl, cellsU_snoc]
    exact owns_set hown3 (b := q) (fun g' e => by have := (hown3.lt g' e).1; omega) 1 _
  · intro x hx
    rcases List.mem_append.mp hx with hx | hx
    · exact h.own.2.1 x hx
    · rw [List.mem_singleton.mp hx]; exact hy
  · exact (h.bes.then (hbel.mono (by omega))).put (by omega) _ _
  · have h4 := hbel.size
    have h5 : (w3.setCell ⟨q, 1, none⟩ (.slice ad1 (lst.length + 1) cap1)).heap.size = w3.heap.size := by simp
    omega
theorem ReadAt.start {w w1 : World} {p : Nat} {K : Int} {rest : List UInt8} (z0 : w1.cell? ⟨w.heap.size, 0, none⟩ = some (.int .i64 0)) (z1 : w1.cell? ⟨w.heap.size, 1, none⟩ = some (.slice none 0 0)) (g0 : w1.frozen? ⟨w.heap.size, 0, none⟩ = false) (g1 : w1.frozen? ⟨w.heap.size, 1, none⟩ = false)
    (hr : RdrAt w1 p ⟨rest.toArray⟩) (hb : Beside p w w1) (hs : w.heap.size < w1.heap.size) (hp : p < w.heap.size) : ReadAt w (w1.alloc (.cells #[.int .i64 K, .slice none 0 0] 48)) p w1.heap.size K none 0 [] rest := by
  have bl : Below w1.heap.size w1 (w1.alloc (.cells #[.int .i64 K, .slice none 0 0] 48)) := (Below.refl _ _).alloc (Nat.le_refl _) _
  exact ⟨below_cell bl z0, below_cell bl z1, (bl.frozen (p := ⟨w.heap.size, 0, none⟩) hs).trans g0, (bl.frozen (p := ⟨w.heap.size, 1, none⟩) hs).trans g1, by simp, by simp, by simp, ⟨World.ownsRow_nil _ _ _ _, by simp, by simp⟩, hr.kept bl hr.lt, hb.then (bl.mono hb.size), by simp, hs, hp⟩
end Go.Proofs.YtbdfigfjoiefiaaDoor
