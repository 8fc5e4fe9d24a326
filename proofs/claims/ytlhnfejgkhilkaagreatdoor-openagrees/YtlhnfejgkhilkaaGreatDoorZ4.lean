/-
  The session of the reference's Agree, as it grows.
-/
import Derived.Test.YtlhnfejgkhilkaaGreatDoorZ3
import Derived.Test.YtlhnfejgkhilkaaGreatDoorOa
import Derived.Deep.AppendLies
set_option linter.unusedVariables false
set_option linter.unusedSimpArgs false
namespace Go.Proofs.YtlhnfejgkhilkaaGreatDoor
open Go.RowKit
/-- Two lists that lie in different blocks. -/
def apart (v u : Value) : Prop := ∀ g, v.ownBlock = some g → u.ownBlock ≠ some g
theorem apart.symm {v u : Value} (h : apart v u) : apart u v := fun g hu hv => h g hv hu
theorem apart_nil (u : Value) : apart (.slice none 0 0) u := fun g h => by cases h
theorem apart_row {v u : Value} (h : apart v u) : u.ownBlock = none ∨ u.ownBlock ≠ v.ownBlock := by
  cases e : u.ownBlock with
  | none => exact Or.inl rfl
  | some g => exact Or.inr fun e2 => h g e2.symm e
theorem apart_new {X : World} {v u : Value} {g base n cap size : Nat} {e : TypeId} {xs : List Value} (h : apart v u) (hu : X.ownsRow base e size u n xs) (ho : v.ownBlock = some g ∨ g = X.heap.size) (m : Nat) : apart (.slice (some ⟨g, 0, none⟩) m cap) u := fun k hk hu2 => by
  have hk' : g = k := by
    have : some g = some k := hk
    exact Option.some.inj this
  subst hk'
  rcases ho with ho | ho
  · exact h g ho hu2
  · have := (hu.lt g hu2).2
    omega
theorem own_other {w w' : World} {base : Nat} {e : TypeId} {size : Nat} {v : Value} {n : Nat} {xs : List Value} (h : w.ownsRow base e size v n xs) (hh : ∀ g, base ≤ g → w'.heap[g]? = w.heap[g]?) : w'.ownsRow base e size v n xs := by
  obtain ⟨h0, h1 | ⟨g, cap, cur, hv, hg, hk, r⟩⟩ := h
  · exact ⟨h0, Or.inl h1⟩
  · exact ⟨h0, Or.inr ⟨g, cap, cur, hv, hg, (hh g hg).trans hk, r⟩⟩
/-- The two opens' boxes, the answer's, the session that grows. -/
structure RgAt (w wr : World) (a b : Opn) (A B : Array Value) (q : Nat) (vf vs vt vk : Value) (F S T : List Int) (K : List Kp) : Prop where
  ra : wr.heap[w.heap.size]? = some (.cells A 27 (0, 0))
  rb : wr.heap[w.heap.size + 1]? = some (.cells B 27 (0, 0))
  rr : wr.heap[w.heap.size + 1 + 1]? = some (.cells zeroS 31 (0, 0))
  rs : wr.heap[q]? = some (.cells (sesC a b vf vs vt vk) 31 (0, 0))
  hq : w.heap.size + 1 + 1 < q
  f : OwnI wr (q + 1) vf F
  s : OwnI wr (q + 1) vs S
  t : OwnI wr (q + 1) vt T
  k : OwnK wr (q + 1) vk K
  fs : apart vf vs
  ft : apart vf vt
  fk : apart vf vk
  st : apart vs vt
  sk : apart vs vk
  tk : apart vt vk
  bel : Below w.heap.size w wr
variable {w wr : World} {a b : Opn} {A B : Array Value} {q : Nat} {vf vs vt vk : Value} {F S T : List Int} {K : List Kp}
theorem RgAt.later (h : RgAt w wr a b A B q vf vs vt vk F S T K) {w' : World} (hb : Below wr.heap.size wr w') : RgAt w w' a b A B q vf vs vt vk F S T K :=
  ⟨(hb.block _ (lt_of_heap h.ra)).trans h.ra, (hb.block _ (lt_of_heap h.rb)).trans h.rb, (hb.block _ (lt_of_heap h.rr)).trans h.rr, (hb.block _ (lt_of_heap h.rs)).trans h.rs, h.hq, owns_below h.f hb, owns_below h.s hb, owns_below h.t hb, owns_below h.k hb, h.fs, h.ft, h.fk, h.st, h.sk, h.tk, h.bel.trans (hb.mono h.bel.size)⟩
theorem RgAt.alloc (h : RgAt w wr a b A B q vf vs vt vk F S T K) (o : Obj) : RgAt w (wr.alloc o) a b A B q vf vs vt vk F S T K := h.later ((Below.refl _ _).alloc (Nat.le_refl _) o)
theorem RgAt.drew (h : RgAt w wr a b A B q vf vs vt vk F S T K) : RgAt w wr.drew a b A B q vf vs vt vk F S T K := h.later ((Below.refl _ _).drew)
theorem RgAt.start {W : World} (h : Three w A B zeroS W) {C : Array Value} (e : C = sesC a b (.slice none 0 0) (.slice none 0 0) (.slice none 0 0) (.slice none 0 0)) : RgAt w (W.alloc (.cells C 31)) a b A B W.heap.size (.slice none 0 0) (.slice none 0 0) (.slice none 0 0) (.slice none 0 0) [] [] [] [] := by
  subst e
  have hn := h.below ((Below.refl W.heap.size W).alloc (Nat.le_refl _) (.cells (sesC a b (.slice none 0 0) (.slice none 0 0) (.slice none 0 0) (.slice none 0 0)) 31))
  have hl := lt_of_heap h.r4
  exact ⟨hn.r2, hn.r3, hn.r4, hp_new rfl, hl, World.ownsRow_nil _ _ _ _, World.ownsRow_nil _ _ _ _, World.ownsRow_nil _ _ _ _, World.ownsRow_nil _ _ _ _, apart_nil _, apart_nil _, apart_nil _, apart_nil _, apart_nil _, apart_nil _, hn.b⟩
theorem RgAt.next_f (h : RgAt w wr a b A B q vf vs vt vk F S T K) {x : Int} {g cap : Nat} {w3 : World} (h3 : w3.ownsRow (q + 1) 3 1 (.slice (some ⟨g, 0, none⟩) (F.length + 1) cap) (F.length + 1) (intsC F ++ [.int .i64 x])) (hg : wr.grownBy w3 vf.ownBlock) (ho : vf.ownBlock = some g ∨ g = wr.heap.size) :
    RgAt w (w3.setCell ⟨q, 1, none⟩ (.slice (some ⟨g, 0, none⟩) (F.length + 1) cap)) a b A B q (.slice (some ⟨g, 0, none⟩) (F.length + 1) cap) vs vt vk (F ++ [x]) S T K := by
  have hb : ∀ k, k < q + 1 → w3.heap[k]? = wr.heap[k]? := fun k hk => hg.block k (by have := lt_of_heap h.rs; omega) fun e => by
    have := (h.f.lt k e.symm).1
    omega
  have hq := h.hq
  have hl := lt_of_heap h.rs
  have hot : ∀ k, k ≠ q → (w3.setCell ⟨q, 1, none⟩ (.slice (some ⟨g, 0, none⟩) (F.length + 1) cap)).heap[k]? = w3.heap[k]? := fun k hk => heap_setCell_other w3 ⟨q, 1, none⟩ k _ (by show k ≠ q; exact hk)
  refine ⟨?_, ?_, ?_, ?_, h.hq, ?_, ?_, ?_, ?_, ?_, ?_, ?_, ?_, ?_, ?_, ?_⟩
  · rw [hot _ (by omega), hb _ (by omega)]; exact h.ra
  · rw [hot _ (by omega), hb _ (by omega)]; exact h.rb
  · rw [hot _ (by omega), hb _ (by omega)]; exact h.rr
  · exact heap_setCell_same w3 q 1 _ 31 _ ((hb q (by omega)).trans h.rs)
  · unfold OwnI
    rw [List.length_append, intsC_snoc]
    exact own_other h3 fun k hk => hot k (by omega)
  · exact own_other (h.s.kept hg (apart_row h.fs)) fun k hk => hot k (by omega)
  · exact own_other (h.t.kept hg (apart_row h.ft)) fun k hk => hot k (by omega)
  · exact own_other (h.k.kept hg (apart_row h.fk)) fun k hk => hot k (by omega)
  · exact apart_new h.fs h.s ho _
  · exact apart_new h.ft h.t ho _
  · exact apart_new h.fk h.k ho _
  · exact h.st
  · exact h.sk
  · exact h.tk
  · have h1 : Below w.heap.size w w3 := h.bel.grown hg h.bel.size (fun j e => by have := (h.f.lt j e).1; omega)
    exact below_setT h1 _ _ _ (by omega) (Nat.le_refl _)
theorem RgAt.next_s (h : RgAt w wr a b A B q vf vs vt vk F S T K) {x : Int} {g cap : Nat} {w3 : World} (h3 : w3.ownsRow (q + 1) 3 1 (.slice (some ⟨g, 0, none⟩) (S.length + 1) cap) (S.length + 1) (intsC S ++ [.int .i64 x])) (hg : wr.grownBy w3 vs.ownBlock) (ho : vs.ownBlock = some g ∨ g = wr.heap.size) :
    RgAt w (w3.setCell ⟨q, 4, none⟩ (.slice (some ⟨g, 0, none⟩) (S.length + 1) cap)) a b A B q vf (.slice (some ⟨g, 0, none⟩) (S.length + 1) cap) vt vk F (S ++ [x]) T K := by
  have hb : ∀ k, k < q + 1 → w3.heap[k]? = wr.heap[k]? := fun k hk => hg.block k (by have := lt_of_heap h.rs; omega) fun e => by
    have := (h.s.lt k e.symm).1
    omega
  have hq := h.hq
  have hl := lt_of_heap h.rs
  have hot : ∀ k, k ≠ q → (w3.setCell ⟨q, 4, none⟩ (.slice (some ⟨g, 0, none⟩) (S.length + 1) cap)).heap[k]? = w3.heap[k]? := fun k hk => heap_setCell_other w3 ⟨q, 4, none⟩ k _ (by show k ≠ q; exact hk)
  refine ⟨?_, ?_, ?_, ?_, h.hq, ?_, ?_, ?_, ?_, ?_, ?_, ?_, ?_, ?_, ?_, ?_⟩
  · rw [hot _ (by omega), hb _ (by omega)]; exact h.ra
  · rw [hot _ (by omega), hb _ (by omega)]; exact h.rb
  · rw [hot _ (by omega), hb _ (by omega)]; exact h.rr
  · exact heap_setCell_same w3 q 4 _ 31 _ ((hb q (by omega)).trans h.rs)
  · exact own_other (h.f.kept hg (apart_row h.fs.symm)) fun k hk => hot k (by omega)
  · unfold OwnI
    rw [List.length_append, intsC_snoc]
    exact own_other h3 fun k hk => hot k (by omega)
  · exact own_other (h.t.kept hg (apart_row h.st)) fun k hk => hot k (by omega)
  · exact own_other (h.k.kept hg (apart_row h.sk)) fun k hk => hot k (by omega)
  · exact (apart_new h.fs.symm h.f ho _).symm
  · exact h.ft
  · exact h.fk
  · exact apart_new h.st h.t ho _
  · exact apart_new h.sk h.k ho _
  · exact h.tk
  · have h1 : Below w.heap.size w w3 := h.bel.grown hg h.bel.size (fun j e => by have := (h.s.lt j e).1; omega)
    exact below_setT h1 _ _ _ (by omega) (Nat.le_refl _)
theorem RgAt.next_t (h : RgAt w wr a b A B q vf vs vt vk F S T K) {x : Int} {g cap : Nat} {w3 : World} (h3 : w3.ownsRow (q + 1) 3 1 (.slice (some ⟨g, 0, none⟩) (T.length + 1) cap) (T.length + 1) (intsC T ++ [.int .i64 x])) (hg : wr.grownBy w3 vt.ownBlock) (ho : vt.ownBlock = some g ∨ g = wr.heap.size) :
    RgAt w (w3.setCell ⟨q, 5, none⟩ (.slice (some ⟨g, 0, none⟩) (T.length + 1) cap)) a b A B q vf vs (.slice (some ⟨g, 0, none⟩) (T.length + 1) cap) vk F S (T ++ [x]) K := by
  have hb : ∀ k, k < q + 1 → w3.heap[k]? = wr.heap[k]? := fun k hk => hg.block k (by have := lt_of_heap h.rs; omega) fun e => by
    have := (h.t.lt k e.symm).1
    omega
  have hq := h.hq
  have hl := lt_of_heap h.rs
  have hot : ∀ k, k ≠ q → (w3.setCell ⟨q, 5, none⟩ (.slice (some ⟨g, 0, none⟩) (T.length + 1) cap)).heap[k]? = w3.heap[k]? := fun k hk => heap_setCell_other w3 ⟨q, 5, none⟩ k _ (by show k ≠ q; exact hk)
  refine ⟨?_, ?_, ?_, ?_, h.hq, ?_, ?_, ?_, ?_, ?_, ?_, ?_, ?_, ?_, ?_, ?_⟩
  · rw [hot _ (by omega), hb _ (by omega)]; exact h.ra
  · rw [hot _ (by omega), hb _ (by omega)]; exact h.rb
  · rw [hot _ (by omega), hb _ (by omega)]; exact h.rr
  · exact heap_setCell_same w3 q 5 _ 31 _ ((hb q (by omega)).trans h.rs)
  · exact own_other (h.f.kept hg (apart_row h.ft.symm)) fun k hk => hot k (by omega)
  · exact own_other (h.s.kept hg (apart_row h.st.symm)) fun k hk => hot k (by omega)
  · unfold OwnI
    rw [List.length_append, intsC_snoc]
    exact own_other h3 fun k hk => hot k (by omega)
  · exact own_other (h.k.kept hg (apart_row h.tk)) fun k hk => hot k (by omega)
  · exact h.fs
  · exact (apart_new h.ft.symm h.f ho _).symm
  · exact h.fk
  · exact (apart_new h.st.symm h.s ho _).symm
  · exact h.sk
  · exact apart_new h.tk h.k ho _
  · have h1 : Below w.heap.size w w3 := h.bel.grown hg h.bel.size (fun j e => by have := (h.t.lt j e).1; omega)
    exact below_setT h1 _ _ _ (by omega) (Nat.le_refl _)
theorem RgAt.next_k (h : RgAt w wr a b A B q vf vs vt vk F S T K) {x : Kp} {g cap : Nat} {w3 : World} (h3 : w3.ownsRow (q + 1) 40 2 (.slice (some ⟨g, 0, none⟩) (K.length + 1) cap) (K.length + 1) (keptC K ++ [.int .i64 x.f, .bool x.k])) (hg : wr.grownBy w3 vk.ownBlock) (ho : vk.ownBlock = some g ∨ g = wr.heap.size) :
    RgAt w (w3.setCell ⟨q, 9, none⟩ (.slice (some ⟨g, 0, none⟩) (K.length + 1) cap)) a b A B q vf vs vt (.slice (some ⟨g, 0, none⟩) (K.length + 1) cap) F S T (K ++ [x]) := by
  have hb : ∀ k, k < q + 1 → w3.heap[k]? = wr.heap[k]? := fun k hk => hg.block k (by have := lt_of_heap h.rs; omega) fun e => by
    have := (h.k.lt k e.symm).1
    omega
  have hq := h.hq
  have hl := lt_of_heap h.rs
  have hot : ∀ k, k ≠ q → (w3.setCell ⟨q, 9, none⟩ (.slice (some ⟨g, 0, none⟩) (K.length + 1) cap)).heap[k]? = w3.heap[k]? := fun k hk => heap_setCell_other w3 ⟨q, 9, none⟩ k _ (by show k ≠ q; exact hk)
  refine ⟨?_, ?_, ?_, ?_, h.hq, ?_, ?_, ?_, ?_, ?_, ?_, ?_, ?_, ?_, ?_, ?_⟩
  · rw [hot _ (by omega), hb _ (by omega)]; exact h.ra
  · rw [hot _ (by omega), hb _ (by omega)]; exact h.rb
  · rw [hot _ (by omega), hb _ (by omega)]; exact h.rr
  · exact heap_setCell_same w3 q 9 _ 31 _ ((hb q (by omega)).trans h.rs)
  · exact own_other (h.f.kept hg (apart_row h.fk.symm)) fun k hk => hot k (by omega)
  · exact own_other (h.s.kept hg (apart_row h.sk.symm)) fun k hk => hot k (by omega)
  · exact own_other (h.t.kept hg (apart_row h.tk.symm)) fun k hk => hot k (by omega)
  · unfold OwnK
    rw [List.length_append, keptC_snoc]
    exact own_other h3 fun k hk => hot k (by omega)
  · exact h.fs
  · exact h.ft
  · exact (apart_new h.fk.symm h.f ho _).symm
  · exact h.st
  · exact (apart_new h.sk.symm h.s ho _).symm
  · exact (apart_new h.tk.symm h.t ho _).symm
  · have h1 : Below w.heap.size w w3 := h.bel.grown hg h.bel.size (fun j e => by have := (h.k.lt j e).1; omega)
    exact below_setT h1 _ _ _ (by omega) (Nat.le_refl _)
end Go.Proofs.YtlhnfejgkhilkaaGreatDoor
