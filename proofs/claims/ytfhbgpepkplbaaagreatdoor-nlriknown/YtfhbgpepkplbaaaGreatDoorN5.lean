/-
  A told prefix of bytes: plain; the worlds in which it is taken.
-/
import Derived.Test.YtfhbgpepkplbaaaGreatDoorN4
namespace Go.Proofs.YtfhbgpepkplbaaaGreatDoor
open Go.RowKit
@[go_sem] theorem run_store_fn {P : Program} {w : World} {a : Addr} {m : Mode} (fn : Fn) (first captured : Array Value) : (store a (.func fn first captured) m).run P w = stored P w a (.func fn first captured) m := run_store P w a _ m rfl
theorem tk_len {n : Nat} {bad : Bool} {l m l' : List UInt8} {bad' : Bool} (h : tk n bad l = (m, bad', l')) : m.length ≤ n := by
  unfold tk at h
  split at h
  · obtain ⟨rfl, _⟩ := Prod.mk.inj h; simp; omega
  · obtain ⟨rfl, _⟩ := Prod.mk.inj h; simp
theorem tk_sticky {n : Int} {l m l' : List UInt8} {bad' : Bool} (h : tk n true l = (m, bad', l')) : bad' = true := by
  unfold tk at h
  split at h
  · exact ((Prod.mk.inj (Prod.mk.inj h).2).1).symm
  · exact ((Prod.mk.inj (Prod.mk.inj h).2).1).symm
theorem worth_le (m : List UInt8) (n : Nat) (h : m.length ≤ n) : worth m < 256 ^ n := Nat.lt_of_lt_of_le (worth_lt m) (Nat.pow_le_pow_right (by decide) h)
/-- What take answers: w is the world ahead. -/
def TakeOk (p : Nat) (ma mc md me le : List UInt8) (f : Int) (be : Bool) (bits : Int) (w : World) (e : Ending) (w' : World) : Prop :=
  Beside p w w' ∧ (if be then e = .returned (.tuple #[.agg #[.int .i64 0, .int .u64 0, .string ⟨#[]⟩, .int .i64 0, .int .u32 0, .int .u32 0], .int .i64 4])
    else e = .returned (.tuple #[.agg #[.int .i64 0, .int .u64 (worth md : Nat), .string ⟨(adr me bits.toNat (szOf f).toNat).toArray⟩, .int .i64 bits, .int .u32 (worth ma : Nat), .int .u32 ((labI (worth mc)).1 : Nat)], .int .i64 0]) ∧ RdrAt w' p ⟨le.toArray⟩)
theorem al_heap (w : World) (o : Obj) : (w.alloc o).heap = w.heap.push o := rfl
theorem push6_0 (h : Array Obj) (a b c d e f : Obj) : ((((((h.push a).push b).push c).push d).push e).push f)[h.size + 0]? = some a := by
  simp only [Array.getElem?_push, Array.size_push]
  repeat' split
  all_goals first | rfl | (exfalso; omega)
theorem push6_0' (h : Array Obj) (a b c d e f : Obj) : ((((((h.push a).push b).push c).push d).push e).push f)[h.size]? = some a := push6_0 h a b c d e f
theorem push6_1 (h : Array Obj) (a b c d e f : Obj) : ((((((h.push a).push b).push c).push d).push e).push f)[h.size + 1]? = some b := by
  rw [Array.getElem?_push, if_neg (by simp), Array.getElem?_push, if_neg (by simp), Array.getElem?_push, if_neg (by simp), Array.getElem?_push, if_neg (by simp), Array.getElem?_push, if_pos (by simp)]
theorem push6_2 (h : Array Obj) (a b c d e f : Obj) : ((((((h.push a).push b).push c).push d).push e).push f)[h.size + 2]? = some c := by
  rw [Array.getElem?_push, if_neg (by simp), Array.getElem?_push, if_neg (by simp), Array.getElem?_push, if_neg (by simp), Array.getElem?_push, if_pos (by simp)]
theorem push6_3 (h : Array Obj) (a b c d e f : Obj) : ((((((h.push a).push b).push c).push d).push e).push f)[h.size + 3]? = some d := by
  rw [Array.getElem?_push, if_neg (by simp), Array.getElem?_push, if_neg (by simp), Array.getElem?_push, if_pos (by simp)]
theorem push6_4 (h : Array Obj) (a b c d e f : Obj) : ((((((h.push a).push b).push c).push d).push e).push f)[h.size + 4]? = some e := by
  rw [Array.getElem?_push, if_neg (by simp), Array.getElem?_push, if_pos (by simp)]
theorem push6_5 (h : Array Obj) (a b c d e f : Obj) : ((((((h.push a).push b).push c).push d).push e).push f)[h.size + 5]? = some f := by
  rw [Array.getElem?_push, if_pos (by simp)]
theorem TkAt.start {w : World} {p : Nat} {f : Int} {add : Bool} {l : List UInt8} (hr : RdrAt w p ⟨l.toArray⟩) (W : World)
    (hW : W = (((((w.alloc (.cells #[.int .i64 (idN add), .int .i64 (lbN f), .int .i64 (rdN f), .int .i64 (szOf f)] 49)).alloc (.cells #[.pointer (some ⟨p, 0, none⟩)] 67)).alloc (.cells #[.int .i64 0, .int .u64 0, .string ⟨#[]⟩, .int .i64 0, .int .u32 0, .int .u32 0] 27)).alloc (.cells #[.int .i64 0] 28)).alloc (.cells #[.func (.func 70) #[] #[.pointer (some ⟨w.heap.size + 3, 0, none⟩)]] 100)).alloc (.cells #[.func (.func 71) #[] #[.pointer (some ⟨w.heap.size + 1, 0, none⟩), .pointer (some ⟨w.heap.size + 4, 0, none⟩)]] 103)) : TkAt w W w.heap.size p f add false l := by
  have hp := hr.lt
  have hb : Below w.heap.size w W := by
    subst hW
    exact ((((((Below.refl _ _).alloc (by simp) _).alloc (by simp) _).alloc (by simp [Nat.add_assoc]) _).alloc (by simp [Nat.add_assoc]) _).alloc (by simp [Nat.add_assoc]) _).alloc (by simp [Nat.add_assoc]) _
  refine ⟨?_, ?_, ?_, ?_, ?_, ?_, ?_, ?_, ?_, ?_, ?_, ?_, ?_, ?_, ?_, ?_, hr.kept hb hp, Beside.of_below hb (Nat.le_refl _), ?_, rfl, hp⟩
  all_goals subst hW
  all_goals (try intro i hi)
  all_goals (try simp only [al_heap, World.cell?, World.frozen?, push6_0', push6_1, push6_2, push6_3, push6_4, push6_5, Array.size_push])
  all_goals (first | rfl | (simp; done) | omega)
def set6 (w : World) (b : Nat) (v0 v1 v2 v3 v4 v5 : Value) : World := (((((w.setCell ⟨b, 0, none⟩ v0).setCell ⟨b, 1, none⟩ v1).setCell ⟨b, 2, none⟩ v2).setCell ⟨b, 3, none⟩ v3).setCell ⟨b, 4, none⟩ v4).setCell ⟨b, 5, none⟩ v5
theorem TkAt.put6 {w wr : World} {B p : Nat} {f : Int} {add bad : Bool} {l : List UInt8} (h : TkAt w wr B p f add bad l) (v0 v1 v2 v3 v4 v5 : Value) : Beside p w (set6 wr (B + 2) v0 v1 v2 v3 v4 v5) := by
  have hB := h.hB
  exact (((((h.bes.put (by omega) _ _).put (by omega) _ _).put (by omega) _ _).put (by omega) _ _).put (by omega) _ _).put (by omega) _ _
theorem TkAt.rdr6 {w wr : World} {B p : Nat} {f : Int} {add bad : Bool} {l : List UInt8} (h : TkAt w wr B p f add bad l) (v0 v1 v2 v3 v4 v5 : Value) : RdrAt (set6 wr (B + 2) v0 v1 v2 v3 v4 v5) p ⟨l.toArray⟩ := by
  have hp := h.hp
  have q : ∀ i, (⟨B + 2, i, none⟩ : Addr).block ≠ p := fun i => by simp; omega
  exact (((((h.rdr.set_other _ _ (q 0)).set_other _ _ (q 1)).set_other _ _ (q 2)).set_other _ _ (q 3)).set_other _ _ (q 4)).set_other _ _ (q 5)
end Go.Proofs.YtfhbgpepkplbaaaGreatDoor
