/-
  The plain mathematics of a tree of bits: nothing of the program is named here.
-/
import Derived.Test.YtjjhimdjhfdmiaaDoorP0
import Derived.Deep.Trees
namespace Go.Proofs.YtjjhimdjhfdmiaaDoor
open Go.Deep (BT)

/-- The bit n of a row of bytes. -/
def bt (s : ByteArray) (n : Nat) : Nat := bitAt s.data.toList n
theorem bt_01 (s : ByteArray) (n : Nat) : bt s n = 0 ∨ bt s n = 1 := by unfold bt bitAt; omega
/-- How many of the first n bits of two rows are the same, till the first one that is not. -/
def com (a b : ByteArray) : Nat → Nat
  | 0 => 0
  | n + 1 => if com a b n = n ∧ bt a n = bt b n then n + 1 else com a b n
theorem com_le (a b : ByteArray) (n : Nat) : com a b n ≤ n := by
  induction n with
  | zero => simp [com]
  | succ n ih => unfold com; split <;> omega
theorem com_agree (a b : ByteArray) (n : Nat) : ∀ i, i < com a b n → bt a i = bt b i := by
  induction n with
  | zero => intro i h; simp [com] at h
  | succ n ih =>
    intro i h
    unfold com at h
    split at h
    · rename_i c
      by_cases e : i = n
      · subst e; exact c.2
      · exact ih i (by omega)
    · exact ih i h
theorem com_diff (a b : ByteArray) (n : Nat) : com a b n < n → bt a (com a b n) ≠ bt b (com a b n) := by
  induction n with
  | zero => intro h; omega
  | succ n ih =>
    intro h
    unfold com at h ⊢
    split at h
    · omega
    · rename_i c
      rw [if_neg c]
      have l := com_le a b n
      by_cases e : com a b n = n
      · rw [e]; intro g; exact c ⟨e, g⟩
      · exact ih (by omega)
theorem com_eq (a b : ByteArray) (n m : Nat) (h : m ≤ n) (ha : ∀ i, i < m → bt a i = bt b i) (hd : m < n → bt a m ≠ bt b m) : com a b n = m := by
  have l := com_le a b n
  have g := com_agree a b n
  have d := com_diff a b n
  by_cases x : com a b n < m
  · exact absurd (ha _ x) (d (by omega))
  · by_cases y : m < com a b n
    · exact absurd (g _ y) (hd (by omega))
    · omega

/-- A node's row, whether it has a value, and the value. -/
structure ND where
  row : ByteArray
  has : Bool
  val : Int
/-- A tree of bits: a node has a row of which the first bits count (the number of these is the node's first number; its second number says nothing), may have a value, and has two kids. -/
abbrev T := BT ND
/-- A value that is there. -/
structure Ent where
  row : ByteArray
  len : Nat
  val : Int
/-- Goes the second key on behind the first one, with the bit b? -/
def Ext (row : ByteArray) (len : Nat) (b : Nat) (row' : ByteArray) (len' : Nat) : Prop := len < len' ∧ (∀ i, i < len → bt row i = bt row' i) ∧ bt row' len = b
end Go.Proofs.YtjjhimdjhfdmiaaDoor

namespace Go.Deep
open Go.Proofs.YtjjhimdjhfdmiaaDoor
/-- A node whose kid of the bit b is x, the other one y. -/
def BT.mk2 (row : ByteArray) (len : Nat) (has : Bool) (val : Int) (b : Nat) (x y : T) : T := if b = 0 then .node len 0 ⟨row, has, val⟩ x y else .node len 0 ⟨row, has, val⟩ y x

/-- The tree with one more value. -/
def BT.set (k : ByteArray) (n : Nat) (v : Int) : T → T
  | .nil => .node n 0 ⟨k, true, v⟩ .nil .nil
  | .node len oo ⟨row, has, val⟩ l r =>
    if com row k (min len n) < len then
      if com row k (min len n) = n then BT.mk2 k n true v (bt row (com row k (min len n))) (.node len oo ⟨row, has, val⟩ l r) .nil
      else BT.mk2 k (com row k (min len n)) false 0 (bt row (com row k (min len n))) (.node len oo ⟨row, has, val⟩ l r) (.node n 0 ⟨k, true, v⟩ .nil .nil)
    else if com row k (min len n) = n then .node n 0 ⟨k, true, v⟩ l r
    else if bt k (com row k (min len n)) = 0 then .node len oo ⟨row, has, val⟩ (l.set k n v) r else .node len oo ⟨row, has, val⟩ l (r.set k n v)

/-- All values, in the order in which they are told. -/
def BT.ents : T → List Ent
  | .nil => []
  | .node len _ ⟨row, has, val⟩ l r => (if has then [⟨row, len, val⟩] else []) ++ l.ents ++ r.ents

def BT.All (P : ByteArray → Nat → Prop) : T → Prop
  | .nil => True
  | .node len _ ⟨row, _, _⟩ l r => P row len ∧ l.All P ∧ r.All P
/-- The tree is as it must be; C: what is so of each key with a value. -/
def BT.WF (C : ByteArray → Nat → Prop) : T → Prop
  | .nil => True
  | .node len _ ⟨row, has, _⟩ l r => len ≤ 8 * row.size ∧ row.size ≤ 25 ∧ (has = true → C row len) ∧ l.All (Ext row len 0) ∧ r.All (Ext row len 1) ∧ l.WF C ∧ r.WF C

theorem BT.All.mono {P Q : ByteArray → Nat → Prop} (h : ∀ r n, P r n → Q r n) : ∀ (t : T), t.All P → t.All Q
  | .nil, _ => trivial
  | .node _ _ _ l r, ⟨a, b, c⟩ => ⟨h _ _ a, BT.All.mono h l b, BT.All.mono h r c⟩
theorem BT.All.ent {P : ByteArray → Nat → Prop} : ∀ (t : T), t.All P → ∀ e ∈ t.ents, P e.row e.len
  | .nil, _, e, he => by simp [BT.ents] at he
  | .node len _ ⟨row, has, val⟩ l r, ⟨a, b, c⟩, e, he => by
    simp only [BT.ents, List.mem_append] at he
    rcases he with (he | he) | he
    · cases has
      · simp at he
      · simp at he; subst he; exact a
    · exact BT.All.ent l b e he
    · exact BT.All.ent r c e he
theorem BT.WF.ent {C : ByteArray → Nat → Prop} : ∀ (t : T), t.WF C → ∀ e ∈ t.ents, C e.row e.len
  | .nil, _, e, he => by simp [BT.ents] at he
  | .node len _ ⟨row, has, val⟩ l r, ⟨_, _, a, _, _, b, c⟩, e, he => by
    simp only [BT.ents, List.mem_append] at he
    rcases he with (he | he) | he
    · cases has
      · simp at he
      · simp at he; subst he; exact a rfl
    · exact BT.WF.ent l b e he
    · exact BT.WF.ent r c e he

end Go.Deep

namespace Go.Proofs.YtjjhimdjhfdmiaaDoor
open Go.Deep (BT)
variable {oo : Nat}
theorem all_mk2 {P : ByteArray → Nat → Prop} {row : ByteArray} {len : Nat} {has : Bool} {val : Int} {b : Nat} {x y : T} (h : P row len) (hx : x.All P) (hy : y.All P) : (BT.mk2 row len has val b x y).All P := by
  unfold BT.mk2; split
  · exact ⟨h, hx, hy⟩
  · exact ⟨h, hy, hx⟩
theorem com_ext {r0 : ByteArray} {n0 b : Nat} {row k : ByteArray} {len n : Nat} (h1 : Ext r0 n0 b row len) (h2 : Ext r0 n0 b k n) : n0 < com row k (min len n) := by
  have d := com_diff row k (min len n)
  by_cases x : n0 < com row k (min len n)
  · exact x
  · have hlt : com row k (min len n) < min len n := by have := h1.1; have := h2.1; omega
    exfalso
    apply d hlt
    by_cases y : com row k (min len n) = n0
    · rw [y, h1.2.2, h2.2.2]
    · rw [← h1.2.1 _ (by omega), ← h2.2.1 _ (by omega)]
theorem ext_short {r0 : ByteArray} {n0 b : Nat} {k : ByteArray} {n m : Nat} (h2 : Ext r0 n0 b k n) (h : n0 < m) : Ext r0 n0 b k m := ⟨h, h2.2.1, h2.2.2⟩
theorem set_ext {r0 : ByteArray} {n0 b : Nat} {k : ByteArray} {n : Nat} (v : Int) (hk : Ext r0 n0 b k n) : ∀ (t : T), t.All (Ext r0 n0 b) → (t.set k n v).All (Ext r0 n0 b)
  | .nil, _ => ⟨hk, trivial, trivial⟩
  | .node len _ ⟨row, has, val⟩ l r, ⟨h1, h2, h3⟩ => by
    have hc := com_ext h1 hk
    unfold BT.set
    split
    · split
      · exact all_mk2 hk ⟨h1, h2, h3⟩ trivial
      · exact all_mk2 (ext_short hk hc) ⟨h1, h2, h3⟩ ⟨hk, trivial, trivial⟩
    · split
      · exact ⟨hk, h2, h3⟩
      · split
        · exact ⟨h1, set_ext v hk l h2, h3⟩
        · exact ⟨h1, h2, set_ext v hk r h3⟩
/-- What goes on behind a key that begins as another one goes on behind that one, too. -/
theorem ext_trans {k row : ByteArray} {m len : Nat} (hm : m < len) (ha : ∀ i, i < m → bt k i = bt row i) : ∀ b (row' : ByteArray) (len' : Nat), Ext row len b row' len' → Ext k m (bt row m) row' len' := by
  intro b row' len' ⟨h1, h2, _⟩
  exact ⟨by omega, fun i hi => (ha i hi).trans (h2 i (by omega)), (h2 m hm).symm⟩
theorem all_ext_trans {k row : ByteArray} {m len : Nat} {has : Bool} {val : Int} {l r : T} (hm : m < len) (ha : ∀ i, i < m → bt k i = bt row i) (hl : l.All (Ext row len 0)) (hr : r.All (Ext row len 1)) :
    (BT.node len oo ⟨row, has, val⟩ l r).All (Ext k m (bt row m)) :=
  ⟨⟨hm, ha, rfl⟩, BT.All.mono (fun _ _ h => ext_trans hm ha _ _ _ h) l hl, BT.All.mono (fun _ _ h => ext_trans hm ha _ _ _ h) r hr⟩
theorem wf_mk2 {C : ByteArray → Nat → Prop} {row : ByteArray} {len : Nat} {has : Bool} {val : Int} {b : Nat} {x y : T} (hs : len ≤ 8 * row.size) (hz : row.size ≤ 25) (hC : has = true → C row len) (hb : b = 0 ∨ b = 1)
    (hx : x.All (Ext row len b)) (hy : y.All (Ext row len (1 - b))) (wx : x.WF C) (wy : y.WF C) : (BT.mk2 row len has val b x y).WF C := by
  unfold BT.mk2
  rcases hb with rfl | rfl
  · rw [if_pos rfl]; exact ⟨hs, hz, hC, hx, hy, wx, wy⟩
  · rw [if_neg (by decide)]; exact ⟨hs, hz, hC, hy, hx, wy, wx⟩
theorem set_wf {C : ByteArray → Nat → Prop} {k : ByteArray} {n : Nat} (v : Int) (hC : C k n) (hn : n ≤ 8 * k.size) (hz : k.size ≤ 25) : ∀ (t : T), t.WF C → (t.set k n v).WF C
  | .nil, _ => ⟨hn, hz, fun _ => hC, trivial, trivial, trivial, trivial⟩
  | .node len _ ⟨row, has, val⟩ l r, ⟨s1, z1, c1, al, ar, wl, wr⟩ => by
    have hc1 := com_le row k (min len n)
    have hc2 := com_agree row k (min len n)
    have hc3 := com_diff row k (min len n)
    unfold BT.set
    generalize com row k (min len n) = m at *
    have ha : ∀ i, i < m → bt k i = bt row i := fun i hi => (hc2 i hi).symm
    split
    · rename_i lt
      split
      · rename_i e
        subst e
        exact wf_mk2 hn hz (fun _ => hC) (bt_01 _ _) (all_ext_trans lt ha al ar) trivial ⟨s1, z1, c1, al, ar, wl, wr⟩ trivial
      · rename_i ne
        have d := hc3 (by omega)
        refine wf_mk2 (by omega) hz (fun h => by cases h) (bt_01 _ _) (all_ext_trans lt ha al ar) ⟨⟨by omega, fun _ _ => rfl, ?_⟩, trivial, trivial⟩ ⟨s1, z1, c1, al, ar, wl, wr⟩ ⟨hn, hz, fun _ => hC, trivial, trivial, trivial, trivial⟩
        have b1 := bt_01 row m
        have b2 := bt_01 k m
        omega
    · rename_i nl
      have em : m = len := by omega
      split
      · rename_i e
        subst e
        subst em
        refine ⟨hn, hz, fun _ => hC, BT.All.mono (fun _ _ h => ?_) l al, BT.All.mono (fun _ _ h => ?_) r ar, wl, wr⟩
        · exact ⟨h.1, fun i hi => (ha i hi).trans (h.2.1 i hi), h.2.2⟩
        · exact ⟨h.1, fun i hi => (ha i hi).trans (h.2.1 i hi), h.2.2⟩
      · rename_i ne
        subst em
        split
        · rename_i b0
          exact ⟨s1, z1, c1, set_ext v ⟨by omega, fun i hi => hc2 i hi, b0⟩ l al, ar, set_wf v hC hn hz l wl, wr⟩
        · rename_i b0
          exact ⟨s1, z1, c1, al, set_ext v ⟨by omega, fun i hi => hc2 i hi, by have := bt_01 k m; omega⟩ r ar, wl, set_wf v hC hn hz r wr⟩
end Go.Proofs.YtjjhimdjhfdmiaaDoor
