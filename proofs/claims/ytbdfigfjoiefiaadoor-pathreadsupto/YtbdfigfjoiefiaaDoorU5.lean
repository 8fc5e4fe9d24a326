/-
  The text of segments, one behind the other; what the two boxes of its reader hold.
-/
import Derived.Test.YtbdfigfjoiefiaaDoorU4
import Derived.Test.YtbdfigfjoiefiaaDoorT3
import Derived.Test.YtbdfigfjoiefiaaDoorF3
import Derived.Test.YtbdfigfjoiefiaaDoorT4
namespace Go.Proofs.YtbdfigfjoiefiaaDoor
open Go.RowKit
/-- The text of segments, with a blank between two. -/
def tx : List Sg → List UInt8
  | [] => []
  | s :: L => segT s ++ (if L = [] then [] else 32 :: tx L)
theorem tx_join : ∀ (L : List Sg), tx L = Lib.join (L.map segT) [32]
  | [] => rfl
  | [s] => by simp [tx, Lib.join]
  | s :: t :: L => by
    have := tx_join (t :: L)
    rw [tx, if_neg (by simp), this]
    simp [Lib.join]
theorem tx_len (L : List Sg) (h : okPath L = true) (hx : ∀ s ∈ L, ∀ x ∈ s.2, x < 4294967296) : (tx L).length ≤ 85728 := by
  rw [tx_join]
  exact texts_le h hx
/-- All but two blocks is as it was. -/
structure Bes (p q : Nat) (w w' : World) : Prop where
  os : w'.os = w.os
  tape : w'.tape = w.tape
  output : w'.output = w.output
  size : w.heap.size ≤ w'.heap.size
  block : ∀ k, k < w.heap.size → k ≠ p → k ≠ q → w'.heap[k]? = w.heap[k]?
theorem Bes.refl (p q : Nat) (w : World) : Bes p q w w := ⟨rfl, rfl, rfl, Nat.le_refl _, fun _ _ _ _ => rfl⟩
theorem Bes.trans {p q : Nat} {a b c : World} (h : Bes p q a b) (k : Bes p q b c) : Bes p q a c :=
  ⟨k.os.trans h.os, k.tape.trans h.tape, k.output.trans h.output, Nat.le_trans h.size k.size, fun j hj h1 h2 => (k.block j (Nat.lt_of_lt_of_le hj h.size) h1 h2).trans (h.block j hj h1 h2)⟩
theorem Bes.then {p q : Nat} {w w1 w2 : World} (h : Bes p q w w1) (hb : Below w.heap.size w1 w2) : Bes p q w w2 :=
  ⟨hb.os.trans h.os, hb.tape.trans h.tape, hb.output.trans h.output, Nat.le_trans h.size hb.size, fun j hj h1 h2 => (hb.block j hj).trans (h.block j hj h1 h2)⟩
theorem Bes.of_below {p q : Nat} {w w' : World} (h : Below w.heap.size w w') : Bes p q w w' := (Bes.refl p q w).then h
theorem Bes.below {p q B : Nat} {w w' : World} (h : Bes p q w w') (hp : B ≤ p) (hq : B ≤ q) (hB : B ≤ w.heap.size) : Below B w w' :=
  ⟨h.os, h.tape, h.output, h.size, fun k hk => h.block k (by omega) (by omega) (by omega)⟩
theorem OwnU.bes {w w' : World} {base p q : Nat} {v : Value} {l : List Nat} (h : OwnU w base v l) (hb : Bes p q w w') (hp : p < base) (hq : q < base) : OwnU w' base v l :=
  ⟨owns_heap' h.1 fun g e => hb.block g (h.1.lt g e).2 (by have := (h.1.lt g e).1; omega) (by have := (h.1.lt g e).1; omega), h.2⟩
theorem OwnS.bes {w w' : World} {base p q : Nat} {v : Value} {R : List Sv} (h : OwnS w base v R) (hb : Bes p q w w') (hp : p < base) (hq : q < base) : OwnS w' base v R :=
  ⟨owns_heap' h.1 fun g e => hb.block g (h.1.lt g e).2 (by have := (h.1.lt g e).1; omega) (by have := (h.1.lt g e).1; omega), fun r hr => (h.2.1 r hr).bes hb hp hq, h.2.2⟩
theorem Tabs.bes {w w' : World} {p q : Nat} (h : Tabs w) (hb : Bes p q w w') (hp : 2 ≤ p) (hq : 2 ≤ q) : Tabs w' := by
  have hz := h.size
  obtain ⟨⟨t, fz, h1⟩, ⟨t', fz', h2⟩⟩ := h
  exact ⟨⟨t, fz, (hb.block 0 (by omega) (by omega) (by omega)).trans h1⟩, ⟨t', fz', (hb.block 1 (by omega) (by omega) (by omega)).trans h2⟩⟩
end Go.Proofs.YtbdfigfjoiefiaaDoor
