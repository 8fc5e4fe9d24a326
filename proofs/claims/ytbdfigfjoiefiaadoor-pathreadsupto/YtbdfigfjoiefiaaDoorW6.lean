/-
  The contracts of number, Number and Rest.
-/
import Derived.Test.YtbdfigfjoiefiaaDoorW5
import Derived.Laws.Bits64b
namespace Go.Proofs.YtbdfigfjoiefiaaDoor
open Go.RowKit
theorem or_low (v c : Nat) (h1 : v < 72057594037927936) (h3 : c < 256) : bits .or .u64 ((v : Int) * 256) (c : Int) = ((v * 256 + c : Nat) : Int) := by
  have h := bits_or_u64_nat (v * 256) c (by omega) (by omega)
  rw [show ((v * 256 : Nat) : Int) = (v : Int) * 256 from by simp] at h
  rw [h, Nat.mul_comm v 256, Nat.two_pow_add_eq_or_of_lt (i := 8) h3 v]
theorem push_any (a : Nat) (v : Nat) (c : UInt8) (w : World) (hc : w.cell? ⟨a, 0, none⟩ = some (.int .u64 (v : Int))) (hf : w.frozen? ⟨a, 0, none⟩ = false) (h1 : v < 72057594037927936) :
    Calls Tryd.prog 99 #[.int .u8 (c.toNat : Int), .pointer (some ⟨a, 0, none⟩)] w fun e w' => e = .returned (.tuple #[]) ∧ w' = w.setCell ⟨a, 0, none⟩ (.int .u64 ((v * 256 + c.toNat : Nat) : Int)) := by
  have h3 := c.toNat_lt
  have HO : Hid (_ = _) := or_low v c.toNat h1 h3
  go_enter Tryd.func99, Tryd.ntmps99
  go_wp2
  go_end0
  exact ⟨rfl, by rw [HO.out]⟩
/-- All but block p is as it was. -/
structure Beside (p : Nat) (w w' : World) : Prop where
  os : w'.os = w.os
  tape : w'.tape = w.tape
  output : w'.output = w.output
  size : w.heap.size ≤ w'.heap.size
  block : ∀ k, k < w.heap.size → k ≠ p → w'.heap[k]? = w.heap[k]?
theorem Beside.below {p B : Nat} {w w' : World} (h : Beside p w w') (hp : B ≤ p) (hB : B ≤ w.heap.size) : Below B w w' :=
  ⟨h.os, h.tape, h.output, h.size, fun k hk => h.block k (by omega) (by omega)⟩
theorem Beside.of_below {p B : Nat} {w w' : World} (h : Below B w w') (hB : w.heap.size ≤ B) : Beside p w w' :=
  ⟨h.os, h.tape, h.output, h.size, fun k hk _ => h.block k (by omega)⟩
theorem Beside.set {p : Nat} (w : World) (i : Nat) (v : Value) : Beside p w (w.setCell ⟨p, i, none⟩ v) := by
  have h := (Below.refl 0 w).setCell (p := ⟨p, i, none⟩) (by simp) v
  exact ⟨h.os, h.tape, h.output, h.size, fun k _ hk => Below.heap_setCell w ⟨p, i, none⟩ v k hk⟩
theorem Beside.trans {p : Nat} {a b c : World} (h : Beside p a b) (k : Beside p b c) : Beside p a c :=
  ⟨k.os.trans h.os, k.tape.trans h.tape, k.output.trans h.output, Nat.le_trans h.size k.size, fun j hj hp => (k.block j (Nat.lt_of_lt_of_le hj h.size) hp).trans (h.block j hj hp)⟩
/-- What stands in memory while a number is read: the first k bytes of s are in. -/
structure NumAt (w wr : World) (p : Nat) (s rest : ByteArray) (k : Nat) : Prop where
  cv : wr.cell? ⟨w.heap.size, 0, none⟩ = some (.int .u64 (worth (s.data.toList.take k) : Int))
  fv : wr.frozen? ⟨w.heap.size, 0, none⟩ = false
  rdr : RdrAt wr p rest
  bes : Beside p w wr
theorem NumAt.next {w wr : World} {p : Nat} {s rest : ByteArray} {k : Nat} (h : NumAt w wr p s rest k) (hp : p < w.heap.size) (hk : k < s.size) :
    NumAt w (wr.setCell ⟨w.heap.size, 0, none⟩ (.int .u64 ((worth (s.data.toList.take k) * 256 + s[k].toNat : Nat) : Int))) p s rest (k + 1) := by
  have hk' : k < s.data.toList.length := by simpa using hk
  refine ⟨?_, by rw [World.frozen?_setCell]; exact h.fv, h.rdr.set_other _ _ (by simp; omega), ?_⟩
  · rw [World.cell?_setCell_same _ _ _ h.cv, ← worth_snoc, List.take_succ_eq_append_getElem hk']; rfl
  · have hs := (Below.refl 0 wr).setCell (p := ⟨w.heap.size, 0, none⟩) (by simp) (.int .u64 ((worth (s.data.toList.take k) * 256 + s[k].toNat : Nat) : Int))
    refine ⟨hs.os.trans h.bes.os, hs.tape.trans h.bes.tape, hs.output.trans h.bes.output, Nat.le_trans h.bes.size hs.size, fun j hj hjp => ?_⟩
    rw [Below.heap_setCell wr ⟨w.heap.size, 0, none⟩ _ j (by simp; omega)]
    exact h.bes.block j hj hjp
end Go.Proofs.YtbdfigfjoiefiaaDoor
