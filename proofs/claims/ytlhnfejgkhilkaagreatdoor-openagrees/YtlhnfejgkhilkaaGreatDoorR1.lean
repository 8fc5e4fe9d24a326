/-
  An open that is being read, in memory; what may turn while it is.
-/
import Derived.Test.YtlhnfejgkhilkaaGreatDoorP1
import Derived.Laws.AppendOwn
set_option linter.unusedVariables false
set_option linter.unusedSimpArgs false
namespace Go.Proofs.YtlhnfejgkhilkaaGreatDoor
open Go.RowKit
/-- No row of an open's lists. -/
def NoRow (o : Option Obj) : Prop := ∀ C t fz, o = some (.cells C t fz) → t ≠ 3 ∧ t ≠ 52 ∧ t ≠ 40
theorem NoRow.of {C : Array Value} {t : TypeId} {fz : Nat × Nat} (h : t ≠ 3 ∧ t ≠ 52 ∧ t ≠ 40) : NoRow (some (.cells C t fz)) := by
  intro C' t' fz' e
  simp at e
  obtain ⟨rfl, rfl, rfl⟩ := e
  exact h
/-- All but block p and rows at base and above is as it was. -/
structure Fr (base p : Nat) (w w' : World) : Prop where
  os : w'.os = w.os
  tape : w'.tape = w.tape
  output : w'.output = w.output
  size : w.heap.size ≤ w'.heap.size
  block : ∀ k, k < w.heap.size → k ≠ p → (k < base ∨ NoRow w.heap[k]?) → w'.heap[k]? = w.heap[k]?
theorem Fr.refl (base p : Nat) (w : World) : Fr base p w w := ⟨rfl, rfl, rfl, Nat.le_refl _, fun _ _ _ _ => rfl⟩
theorem Fr.trans {base p : Nat} {a b c : World} (h : Fr base p a b) (k : Fr base p b c) : Fr base p a c :=
  ⟨k.os.trans h.os, k.tape.trans h.tape, k.output.trans h.output, Nat.le_trans h.size k.size, fun j hj hp hn => by
    have h1 := h.block j hj hp hn
    have h2 := k.block j (Nat.lt_of_lt_of_le hj h.size) hp (by rw [h1]; exact hn)
    exact h2.trans h1⟩
theorem Fr.of_below {base p B : Nat} {w w' : World} (h : Below B w w') (hB : w.heap.size ≤ B) : Fr base p w w' :=
  ⟨h.os, h.tape, h.output, h.size, fun k hk _ _ => h.block k (by omega)⟩
/-- What is made and turned above the first world's memory does not count. -/
theorem Fr.later {base p : Nat} {w x x' : World} (h : Fr base p w x) (hb : Below w.heap.size x x') : Fr base p w x' :=
  ⟨hb.os.trans h.os, hb.tape.trans h.tape, hb.output.trans h.output, Nat.le_trans h.size hb.size, fun k hk hp hn => (hb.block k hk).trans (h.block k hk hp hn)⟩
theorem Fr.below {base p : Nat} {w w' : World} (h : Fr base p w w') (hp : base ≤ p) (hB : base ≤ w.heap.size) : Below base w w' :=
  ⟨h.os, h.tape, h.output, h.size, fun k hk => h.block k (by omega) (by omega) (Or.inl hk)⟩
theorem Fr.keep {base p k : Nat} {w w' : World} {C : Array Value} {t : TypeId} {fz : Nat × Nat} (h : Fr base p w w') (hk : w.heap[k]? = some (.cells C t fz)) (hp : k ≠ p) (ht : t ≠ 3 ∧ t ≠ 52 ∧ t ≠ 40) : w'.heap[k]? = some (.cells C t fz) :=
  (h.block k (lt_of_heap hk) hp (Or.inr (by rw [hk]; exact NoRow.of ht))).trans hk
theorem Fr.set {base p : Nat} (w : World) (i : Nat) (v : Value) : Fr base p w (w.setCell ⟨p, i, none⟩ v) := by
  have h := (Below.refl 0 w).setCell (p := ⟨p, i, none⟩) (by simp) v
  exact ⟨h.os, h.tape, h.output, h.size, fun k _ hk _ => Below.heap_setCell w ⟨p, i, none⟩ v k hk⟩
theorem slice_of_owns {w : World} {base : Nat} {e : TypeId} {size : Nat} {v : Value} {n : Nat} {xs : List Value} (h : w.ownsRow base e size v n xs) : ∃ ad c, v = .slice ad n c := by
  obtain ⟨_, h | ⟨g, cap, cur, h, _⟩⟩ := h
  · exact ⟨none, 0, by rw [h.1, h.2]⟩
  · exact ⟨_, _, h⟩
theorem owns_heap' {w w' : World} {base : Nat} {e : TypeId} {size : Nat} {v : Value} {n : Nat} {xs : List Value} (h : w.ownsRow base e size v n xs) (hh : ∀ g C, v.ownBlock = some g → w.heap[g]? = some (.cells C e (0, 0)) → w'.heap[g]? = w.heap[g]?) : w'.ownsRow base e size v n xs := by
  obtain ⟨h0, h | ⟨g, cap, cur, rfl, hg, hk, r⟩⟩ := h
  · exact ⟨h0, Or.inl h⟩
  · exact ⟨h0, Or.inr ⟨g, cap, cur, rfl, hg, (hh g cur rfl hk).trans hk, r⟩⟩
theorem owns_below {w w' : World} {base : Nat} {e : TypeId} {size : Nat} {v : Value} {n : Nat} {xs : List Value} (h : w.ownsRow base e size v n xs) (hb : Below w.heap.size w w') : w'.ownsRow base e size v n xs :=
  owns_heap' h fun g C _ hg => hb.block g (lt_of_heap hg)
/-- A block of another kind may turn. -/
theorem owns_beside {w w' : World} {base r : Nat} {e : TypeId} {size : Nat} {v : Value} {n : Nat} {xs : List Value} (h : w.ownsRow base e size v n xs) (hb : Beside r w w') {C : Array Value} {t : TypeId} (hr : w.heap[r]? = some (.cells C t (0, 0))) (ht : t ≠ e) : w'.ownsRow base e size v n xs :=
  owns_heap' h fun g C' _ hg => hb.block g (lt_of_heap hg) (by
    intro e'
    subst e'
    rw [hr] at hg
    simp at hg
    exact ht hg.2)
def intsC (L : List Int) : List Value := L.map (Value.int .i64 ·)
def addsC (L : List Ad) : List Value := L.flatMap fun a => [.int .i64 a.f, .bool a.s, .bool a.t]
def keptC (L : List Kp) : List Value := L.flatMap fun a => [.int .i64 a.f, .bool a.k]
/-- An open's lists rise by families. -/
structure OpOk (o : Opn) : Prop where
  f : risF 0 o.fams = true
  a : risF 0 (o.adds.map (·.f)) = true
  k : risF 0 (o.kept.map (·.f)) = true
/-- An open that is being read lies in block p, its lists in rows of their own. -/
def OAt (base : Nat) (w : World) (p : Nat) (o : Opn) : Prop :=
  ∃ vf va vk, w.heap[p]? = some (.cells (opC o vf va vk) 27 (0, 0)) ∧ w.ownsRow base 3 1 vf o.fams.length (intsC o.fams) ∧ w.ownsRow base 52 3 va o.adds.length (addsC o.adds) ∧ w.ownsRow base 40 2 vk o.kept.length (keptC o.kept) ∧ OpOk o
theorem OAt.below {base p : Nat} {w w' : World} {o : Opn} (h : OAt base w p o) (hb : Below w.heap.size w w') : OAt base w' p o := by
  obtain ⟨vf, va, vk, h1, h2, h3, h4, h5⟩ := h
  exact ⟨vf, va, vk, (hb.block p (lt_of_heap h1)).trans h1, owns_below h2 hb, owns_below h3 hb, owns_below h4 hb, h5⟩
theorem OAt.beside {base p r : Nat} {w w' : World} {o : Opn} (h : OAt base w p o) (hb : Beside r w w') {C : Array Value} {t : TypeId} (hr : w.heap[r]? = some (.cells C t (0, 0))) (ht : t ≠ 3 ∧ t ≠ 52 ∧ t ≠ 40 ∧ t ≠ 27) : OAt base w' p o := by
  obtain ⟨vf, va, vk, h1, h2, h3, h4, h5⟩ := h
  refine ⟨vf, va, vk, (hb.block p (lt_of_heap h1) ?_).trans h1, owns_beside h2 hb hr ht.1, owns_beside h3 hb hr ht.2.1, owns_beside h4 hb hr ht.2.2.1, h5⟩
  intro e
  subst e
  rw [hr] at h1
  simp at h1
  exact ht.2.2.2 h1.2
theorem OAt.ne {base p r : Nat} {w : World} {o : Opn} (h : OAt base w p o) {C : Array Value} {t : TypeId} (hr : w.heap[r]? = some (.cells C t (0, 0))) (ht : t ≠ 27) : r ≠ p := by
  obtain ⟨vf, va, vk, h1, h2, h3, h4, h5⟩ := h
  intro e
  subst e
  rw [hr] at h1
  simp at h1
  exact ht h1.2
/-- A reader in its block: these bytes are left. -/
structure Rd (w : World) (r : Nat) (l : List UInt8) : Prop where
  at_ : RdrAt w r ⟨l.toArray⟩
  ty : ∃ C, w.heap[r]? = some (.cells C 101 (0, 0))
theorem Rd.below {w w' : World} {r : Nat} {l : List UInt8} (h : Rd w r l) (hb : Below w.heap.size w w') : Rd w' r l := by
  obtain ⟨C, hC⟩ := h.ty
  exact ⟨h.at_.kept hb (lt_of_heap hC), C, (hb.block r (lt_of_heap hC)).trans hC⟩
theorem Rd.lt {w : World} {r : Nat} {l : List UInt8} (h : Rd w r l) : r < w.heap.size := by
  obtain ⟨C, hC⟩ := h.ty
  exact lt_of_heap hC
theorem rdr_heap {w w' : World} {r : Nat} {l : List UInt8} (h : RdrAt w r ⟨l.toArray⟩) (e : w'.heap[r]? = w.heap[r]?) : RdrAt w' r ⟨l.toArray⟩ := by
  obtain ⟨a, b, c, d⟩ := h
  constructor
  · rw [World.cell?, e]; exact a
  · rw [World.cell?, e]; exact b
  · rw [World.frozen?, e]; exact c
  · rw [World.frozen?, e]; exact d
theorem Rd.fr {base p : Nat} {w w' : World} {r : Nat} {l : List UInt8} (h : Rd w r l) (hf : Fr base p w w') (hp : r ≠ p) : Rd w' r l := by
  obtain ⟨C, hC⟩ := h.ty
  have e := hf.keep hC hp (by decide)
  exact ⟨rdr_heap h.at_ (e.trans hC.symm), C, e⟩
theorem ext_l (l : List UInt8) (n : Nat) : (⟨l.toArray⟩ : ByteArray).extract n (⟨l.toArray⟩ : ByteArray).size = ⟨(l.drop n).toArray⟩ := by
  apply ByteArray.ext
  simp [list_size]
  exact List.take_of_length_le (by simp)
theorem ext_0 (l : List UInt8) (n : Nat) : (⟨l.toArray⟩ : ByteArray).extract 0 n = ⟨(l.take n).toArray⟩ := by
  apply ByteArray.ext
  simp
theorem newR_any (l : List UInt8) (w : World) :
    Calls Tryz.prog 53 #[.string ⟨l.toArray⟩] w fun e w' => e = .returned (.pointer (some ⟨w.heap.size, 0, none⟩)) ∧ Rd w' w.heap.size l ∧ w' = w.alloc (.cells #[.bool true, .string ⟨l.toArray⟩] 101) := by
  go_enter Tryz.func53, Tryz.ntmps53
  go_wp2
  go_ret
  refine ⟨rfl, ⟨?_, _, hp_new rfl⟩, rfl⟩
  constructor <;> simp
theorem leftR_any (r : Nat) (l : List UInt8) (w : World) (h : Rd w r l) :
    Calls Tryz.prog 55 #[.pointer (some ⟨r, 0, none⟩)] w fun e w' => e = .returned (.int .i64 (l.length : Int)) ∧ w' = w := left_any r _ w h.at_
theorem numR_yes (r : Nat) (l : List UInt8) (n : Nat) (w : World) (h : Rd w r l) (h0 : 1 ≤ n) (h1 : n ≤ 8) (hn : n ≤ l.length) :
    Calls Tryz.prog 54 #[.pointer (some ⟨r, 0, none⟩), .int .i64 (n : Int)] w fun e w' => e = .returned (.tuple #[.int .u64 (worth (l.take n) : Int), .bool true]) ∧ Rd w' r (l.drop n) ∧ Beside r w w' := by
  refine (num_yes r _ n w h.at_ h0 h1 hn).mono ?_
  rintro e w' ⟨rfl, h2, h3⟩
  obtain ⟨C, hC⟩ := h.ty
  rw [ext_l] at h2
  exact ⟨by simp, ⟨h2, h3.typ C 101 hC⟩, h3⟩
theorem numR_no (r : Nat) (l : List UInt8) (n : Nat) (w : World) (h : Rd w r l) (h0 : 1 ≤ n) (h1 : n ≤ 8) (hn : l.length < n) :
    Calls Tryz.prog 54 #[.pointer (some ⟨r, 0, none⟩), .int .i64 (n : Int)] w fun e w' => e = .returned (.tuple #[.int .u64 0, .bool false]) ∧ Rd w' r l ∧ Beside r w w' := by
  refine (num_no r _ n w h.at_ h0 h1 hn).mono ?_
  rintro e w' ⟨rfl, h2, h3⟩
  obtain ⟨C, hC⟩ := h.ty
  exact ⟨rfl, ⟨h2, h3.typ C 101 hC⟩, h3⟩
theorem takeR_yes (r : Nat) (l : List UInt8) (n : Nat) (w : World) (h : Rd w r l) (hn : n ≤ l.length) :
    Calls Tryz.prog 69 #[.pointer (some ⟨r, 0, none⟩), .int .i64 (n : Int)] w fun e w' => e = .returned (.tuple #[.string ⟨(l.take n).toArray⟩, .bool true]) ∧ Rd w' r (l.drop n) ∧ Beside r w w' := by
  refine (take_yes r _ n w h.at_ hn).mono ?_
  rintro e w' ⟨rfl, rfl⟩
  obtain ⟨C, hC⟩ := h.ty
  rw [ext_l, ext_0]
  exact ⟨rfl, ⟨h.at_.set _, _, heap_setCell_same w r 1 C 101 _ hC⟩, Beside.set _ _ _⟩
theorem takeR_no (r : Nat) (l : List UInt8) (n : Nat) (w : World) (h : Rd w r l) (hn : l.length < n) :
    Calls Tryz.prog 69 #[.pointer (some ⟨r, 0, none⟩), .int .i64 (n : Int)] w fun e w' => e = .returned (.tuple #[.string ⟨#[]⟩, .bool false]) ∧ w' = w :=
  take_no r _ n w h.at_ (Or.inr (by rw [list_size]; omega))
/-- How many bytes a reader has left. -/
def leftAt (w : World) (r : Nat) : Nat := match w.cell? ⟨r, 1, none⟩ with | some (.string s) => s.size | _ => 0
theorem Rd.left {w : World} {r : Nat} {l : List UInt8} (h : Rd w r l) : leftAt w r = l.length := by unfold leftAt; rw [h.at_.c1]; rfl
def vdt (a c s : Int) : Value := .agg #[.int .i64 a, .int .u8 c, .int .u8 s]
theorem reset_any (s : Int) (w : World) : Calls Tryz.prog 23 #[.int .u8 s] w fun e w' => e = .returned (vdt 3 2 s) ∧ Below w.heap.size w w' := by
  go_enter Tryz.func23, Tryz.ntmps23
  go_wp2
  refine bodyPost_ret (v := vdt 3 2 s) (by simp [results, Tryz.results23, go_sem, vdt]) rfl ⟨rfl, ?_⟩
  first | exact (Below.refl _ _).alloc (Nat.le_refl _) _ | (simp; exact (Below.refl _ _).alloc (Nat.le_refl _) _)
theorem Beside.setRow {w : World} {z : Nat} {C C' : Array Value} {t : TypeId} (h : w.heap[z]? = some (.cells C t (0, 0))) : Beside z w (w.setRow z C') := by
  have hb := below_setRow (Below.refl 0 w) (Nat.zero_le z) C'
  exact ⟨hb.os, hb.tape, hb.output, hb.size, fun k _ hk => row_other w z k C' hk, fun C1 t1 h1 => by
    rw [h] at h1
    simp at h1
    obtain ⟨rfl, rfl⟩ := h1
    exact ⟨C', row_same w z C C' h⟩⟩
end Go.Proofs.YtlhnfejgkhilkaaGreatDoor
