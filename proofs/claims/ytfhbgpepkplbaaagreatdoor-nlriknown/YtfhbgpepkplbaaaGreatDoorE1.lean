/-
  A builder; what lays a piece.
-/
import Derived.Test.YtfhbgpepkplbaaaGreatDoorN2
import Derived.Test.YtfhbgpepkplbaaaGreatDoorWA
import Derived.Test.YtfhbgpepkplbaaaGreatDoorShelfA
namespace Go.Proofs.YtfhbgpepkplbaaaGreatDoor
open Go.RowKit
/-- A builder that this call has made holds these bytes. -/
def Bld (w : World) (B b : Nat) (l : List UInt8) : Prop := Lib.IsBuilderF 62 5 B b (Lib.byteCells l) w
theorem strCells_eq (l : List UInt8) : Lib.strCells ⟨l.toArray⟩ = Lib.byteCells l := by
  simp [Lib.strCells, Lib.byteCells]
theorem byteCells_append (l m : List UInt8) : Lib.byteCells l ++ Lib.byteCells m = Lib.byteCells (l ++ m) := by simp [Lib.byteCells]
theorem empty_append (l : List UInt8) : (⟨#[]⟩ : ByteArray) ++ ⟨l.toArray⟩ = ⟨l.toArray⟩ := by apply ByteArray.ext; simp
theorem Bld.alloc {w : World} {B b : Nat} {l : List UInt8} (h : Bld w B b l) (o : Obj) : Bld (w.alloc o) B b l := Lib.IsBuilderF.alloc h o
theorem Bld.below {w w' : World} {B b : Nat} {l : List UInt8} (h : Bld w B b l) (hb : Below w.heap.size w w') : Bld w' B b l := by
  have key : ∀ p, Lib.BuilderAtF 62 5 B b p (Lib.byteCells l) w → Lib.BuilderAtF 62 5 B b p (Lib.byteCells l) w' := by
    intro p h
    obtain ⟨h1, v, h2, h3, h4⟩ := h
    have hlt := (Array.getElem?_eq_some_iff.mp h2).1
    exact ⟨h1, v, (hb.block b hlt).trans h2, h3.kept (row := none) ⟨hb.os, hb.tape, hb.output, hb.size, fun k hk _ => hb.block k hk⟩ (by cases hv : v.ownBlock with | none => exact Or.inl rfl | some g => exact Or.inr (by simp)), h4⟩
  rcases h with h | h
  · exact Or.inl (key _ h)
  · exact Or.inr (key _ h)
theorem Bld.lt {w : World} {B b : Nat} {l : List UInt8} (h : Bld w B b l) : b < w.heap.size := by
  rcases h with ⟨_, _, h, _⟩ | ⟨_, _, h, _⟩ <;> exact (Array.getElem?_eq_some_iff.mp h).1
theorem heap_new (w : World) (o : Obj) : (w.alloc o).heap[w.heap.size]? = some o := by
  show (w.heap.push o)[w.heap.size]? = _
  simp
theorem kept_of_below {w w' : World} (h : Below w.heap.size w w') (e : TypeId) (b : Option Nat) : Lib.OthersKept e b w w' := by
  intro k o hk _ _
  exact (h.block k (Array.getElem?_eq_some_iff.mp hk).1).trans hk
theorem put_none (v : Int) (w : World) : Calls Tryz.prog 65 #[.string ⟨#[]⟩, .int .u64 v, .int .i64 0] w fun e w' => e = .returned (.tuple #[.string ⟨#[]⟩, .int .i64 2]) ∧ Below w.heap.size w w' := by
  go_enter Tryz.func65, Tryz.ntmps65
  go_wp2_with (go_at_call 84; refine (isSize_no 0 (by omega) _).mono ?_; rintro e w' ⟨rfl, rfl⟩)
  go_ret2
  exact ⟨rfl, ((Below.refl _ _).alloc (by simp) _).alloc (by simp) _⟩
theorem put_all (v n : Nat) (w : World) (h1 : n ≤ 8) (hv : n = 0 ∨ v < 256 ^ n) : ∃ x, Calls Tryz.prog 65 #[.string ⟨#[]⟩, .int .u64 (v : Int), .int .i64 (n : Int)] w fun e w' => e = .returned (.tuple #[.string ⟨(laid v n).toArray⟩, x]) ∧ Below w.heap.size w w' := by
  by_cases h0 : n = 0
  · subst h0
    exact ⟨_, put_none v w⟩
  · refine ⟨.int .i64 0, (put_yes ⟨#[]⟩ v n w (by omega) h1 (by omega) (by decide)).mono ?_⟩
    rintro e w' ⟨rfl, hb⟩
    rw [empty_append]
    exact ⟨rfl, hb⟩
theorem kept_cell {w w' : World} {b k i : Nat} {cs : Array Value} {t : TypeId} {v : Value} (h : Lib.OthersKept 5 (some b) w w') (hk : w.heap[k]? = some (.cells cs t (0, 0))) (hb : k ≠ b) (ht : t ≠ 5) (hi : cs[i]? = some v) : w'.cell? ⟨k, i, none⟩ = some v := by
  have := h k _ hk (by simpa using hb) (by intro c fz e; injection e with _ e2; exact ht e2)
  rw [World.cell?, this]
  exact hi
theorem kept_heap {w w' : World} {b k : Nat} {cs : Array Value} {t : TypeId} (h : Lib.OthersKept 5 (some b) w w') (hk : w.heap[k]? = some (.cells cs t (0, 0))) (hb : k ≠ b) (ht : t ≠ 5) : w'.heap[k]? = some (.cells cs t (0, 0)) :=
  h k _ hk (by simpa using hb) (by intro c fz e; injection e with _ e2; exact ht e2)
/-- A piece is laid behind what the builder holds. -/
theorem putc_any (B b pb v n : Nat) (l : List UInt8) (w : World) (hB : Bld w B b l) (hbw : B ≤ w.heap.size) (hc : w.heap[pb]? = some (.cells #[.pointer (some ⟨b, 0, none⟩)] 59 (0, 0))) (h1 : n ≤ 8) (hv : n = 0 ∨ v < 256 ^ n) (hl : l.length ≤ 100000000) :
    Calls Tryz.prog 64 #[.int .u64 (v : Int), .int .i64 (n : Int), .pointer (some ⟨pb, 0, none⟩)] w fun e w' => e = .returned (.tuple #[]) ∧ Bld w' B b (l ++ laid v n) ∧ Below B w w' ∧ Lib.OthersKept 5 (some b) w w' := by
  have HB : Hid (Bld _ _ _ _) := hB
  obtain ⟨x, hx⟩ := put_all v n w h1 hv
  have HP : Hid (_ : Prop) := hx
  have HC : Hid (_ = _) := hc
  clear hB hx hv hc
  go_enter Tryz.func64, Tryz.ntmps64
  go_wp2_with fail
  refine Calls.mono HP.out ?_
  rintro e w1 ⟨rfl, hb1⟩
  have hB1 := HB.out.below hb1
  have hz := hb1.size
  have hll := laid_length v n
  have c0 : w1.cell? ⟨pb, 0, none⟩ = some (.pointer (some ⟨b, 0, none⟩)) := by
    rw [World.cell?, hb1.block pb (Array.getElem?_eq_some_iff.mp HC.out).1, HC.out]; rfl
  go_wp2_with fail
  refine (Tryz.Builder_WriteString_k B b (Lib.byteCells l) ⟨(laid v n).toArray⟩ w1 hB1 (by rw [Lib.byteCells_length]; show _ + (laid v n).length ≤ _; omega) (by omega)).mono ?_
  rintro e w2 ⟨rfl, hB2, hb2, hk2⟩
  rw [strCells_eq, byteCells_append] at hB2
  go_wp2
  go_end0
  exact ⟨rfl, Or.inr hB2, (hb1.mono hbw).trans hb2, (kept_of_below hb1 5 (some b)).trans hk2⟩
end Go.Proofs.YtfhbgpepkplbaaaGreatDoor
