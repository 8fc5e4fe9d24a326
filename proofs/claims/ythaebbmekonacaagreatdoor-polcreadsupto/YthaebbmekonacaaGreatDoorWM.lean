/-
  A fault is no ErrArg; the law's own look at what Term answers.
-/
import Derived.Test.YthaebbmekonacaaGreatDoorET
import Derived.WalkKit
import Derived.LaidEql
import Derived.Stop.Asserts
import Derived.RowKitTokens
import Derived.Test.YthaebbmekonacaaGreatDoorS34
set_option linter.unusedVariables false
set_option linter.unusedSimpArgs false
set_option maxRecDepth 100000
namespace Go.Proofs.YthaebbmekonacaaGreatDoor
open Go.RowKit Go.Extern.Stop Go.Stop Go.Extern
theorem ei_cmp2 (w : World) : ((Extern.ReflectliteType.method fun t => do Go.Extern.Rtype.noPackHeld "Comparable" t; Functor.map (fun a => Value.bool a.comparable) (typeInfo t)) #[.agg #[.pointer (some ⟨12, 31, none⟩)]]).run Tryz.prog w = .ok (.bool true) w := by kernel_rfl
theorem ei_eqx (v x : Value) (w : World) : (binOp .eql 70 (.iface 97 v) (.iface 31 x)).run Tryz.prog w = .ok (.bool false) w := run_eql_iface_types 97 31 v _ Tryz.underlying70 (by decide) w
theorem ei_eq3 (w : World) : (binOp .eql 70 (.iface 31 (.int .i64 9)) (.iface 31 (.int .i64 2))).run Tryz.prog w = .ok (.bool false) w := by kernel_rfl
theorem ei_noIs31 (v : Value) (xT : TypeId) (w : World) : (Instr.typeAssert (.iface 31 v) xT 166 true).run Tryz.prog w = .ok (.tuple #[.nilIface, .bool false]) w := run_typeAssert_lacksB Tryz.underlying166 (by kernel_rfl) (by kernel_rfl) v xT w
theorem ei_noUn31 (v : Value) (xT : TypeId) (w : World) : (Instr.typeAssert (.iface 31 v) xT 169 true).run Tryz.prog w = .ok (.tuple #[.nilIface, .bool false]) w := run_typeAssert_lacksB Tryz.underlying169 (by kernel_rfl) (by kernel_rfl) v xT w
theorem ei_noUs31 (v : Value) (xT : TypeId) (w : World) : (Instr.typeAssert (.iface 31 v) xT 171 true).run Tryz.prog w = .ok (.tuple #[.nilIface, .bool false]) w := run_typeAssert_lacksB Tryz.underlying171 (by kernel_rfl) (by kernel_rfl) v xT w
theorem is_not (b : Nat) (w : World) (h0 : w.cell? ⟨b, 0, none⟩ = some (.int .i64 9)) :
    Calls Tryz.prog 28 #[.iface 97 (.pointer (some ⟨b, 0, none⟩)), .iface 31 (.int .i64 2)] w fun e w' => e = .returned (.bool false) ∧ w' = w := by
  have h8 := @run_callFunc_extern Tryz.prog 58 _ Extern.ReflectliteType.typeOf Tryz.func58 (by kernel_rfl) (by kernel_rfl) (by kernel_rfl) (by kernel_rfl)
  have h32 := ei_h245
  have tT : ∀ (v : Value) (w : World), (Extern.ReflectliteType.typeOf #[.iface 31 v]).run Tryz.prog w = .ok (.iface 164 (.agg #[.pointer (some ⟨12, 31, none⟩)])) w := ei_typeOf
  have cT := ei_cmp2
  have nI := ei_noIs
  have uW := ei_un
  have nI3 := ei_noIs31
  have nU3 := ei_noUn31
  have nV3 := ei_noUs31
  have q1 := ei_eqx
  have q2 := ei_eq3
  have mC := ei_mC
  have mU := ei_mU
  unfold cmpFn at h32
  go_enter Tryz.func28, Tryz.ntmps28
  go_wp2
  refine wp_loop_rounds 2 ?_
  rw [rounds_succ]
  go_wp2
  rw [rounds_succ]
  go_wp2
  go_ret
  exact ⟨rfl, rfl⟩
/-- Where errors.errorType stands. -/
def ETAt (w : World) : Prop := w.cell? ⟨0, 0, none⟩ = some (.iface 164 (.agg #[.pointer (some ⟨12, 70, none⟩)]))
theorem ETAt.below {w w' : World} (h : ETAt w) (hb : Below w.heap.size w w') : ETAt w' := below_cell hb h
theorem wrong_yes (w : World) : Calls Tryz.prog 25 #[.nilIface, .bool true] w fun e w' => e = .returned (.bool true) ∧ w' = w := by
  go_enter Tryz.func25, Tryz.ntmps25
  go_wp2
  go_ret
  exact ⟨rfl, rfl⟩
theorem as_flt (b t : Nat) (w : World) (he : ETAt w) (ht : w.cell? ⟨t, 0, none⟩ = some (.pointer none)) (hf : w.frozen? ⟨t, 0, none⟩ = false) (hb : FltAt w b) (ne : t ≠ b) (B : Nat) (hB : B ≤ t) (hs : B ≤ w.heap.size) :
    Calls Tryz.prog 55 #[.iface 97 (.pointer (some ⟨b, 0, none⟩)), .iface 113 (.pointer (some ⟨t, 0, none⟩))] w fun e w' => e = .returned (.bool true) ∧ w'.cell? ⟨t, 0, none⟩ = some (.pointer (some ⟨b, 0, none⟩)) ∧ FltAt w' b ∧ Below B w w' := by
  refine Calls.mono (as_hit ⟨b, 0, none⟩ ⟨t, 0, none⟩ (.pointer none) w he ht hf) ?_
  rintro e W2 ⟨rfl, hW2⟩
  obtain ⟨WX, hWX⟩ : ∃ WX, (((w.alloc (.cells #[.pointer (some ⟨t, 0, none⟩)] 113)).alloc (.cells #[.pointer (some ⟨12, 113, none⟩), .pointer (some ⟨w.heap.size, 0, none⟩), .int .u64 150] 154)).alloc (.cells #[.pointer (some ⟨12, 113, none⟩), .pointer (some ⟨w.heap.size, 0, none⟩), .int .u64 150] 154)).alloc (.cells #[.pointer (some ⟨b, 0, none⟩)] 97) = WX := ⟨_, rfl⟩
  have hbA : Below w.heap.size w WX := by rw [← hWX]; exact ((((Below.refl _ _).alloc (Nat.le_refl _) _).alloc (by simp) _).alloc (by simp; omega) _).alloc (by simp; omega) _
  rw [hWX] at hW2
  clear hWX
  subst hW2
  have hFX : FltAt WX b := hb.below hbA
  have hCX : WX.cell? ⟨t, 0, none⟩ = some (.pointer none) := below_cell hbA ht
  refine ⟨rfl, World.cell?_setCell_same _ _ _ hCX, ⟨?_, ?_⟩, bset (hbA.mono hs) hB⟩
  · rw [World.cell?_setCell_other _ _ _ _ (by intro e; injection e with e; exact ne e)]; exact hFX.1
  · rw [World.cell?_setCell_other _ _ _ _ (by intro e; injection e with e; exact ne e)]; exact hFX.2
set_option maxHeartbeats 1000000 in
theorem wrong_no (b : Nat) (w : World) (hf : FltAt w b) (he : ETAt w) : Calls Tryz.prog 25 #[.iface 97 (.pointer (some ⟨b, 0, none⟩)), .bool false] w fun e w' => e = .returned (.bool true) ∧ Below w.heap.size w w' := by
  have hbl : b < w.heap.size := lt_of_cell hf.1
  have HB1 : Hid (∀ o, Below w.heap.size w (w.alloc o)) := fun o => (Below.refl _ _).alloc (Nat.le_refl _) _
  have HA : Hid (∀ W1 W, W1 = w.alloc (.cells #[.pointer none] 97) → W = W1 → Calls Tryz.prog 55 #[.iface 97 (.pointer (some ⟨b, 0, none⟩)), .iface 113 (.pointer (some ⟨w.heap.size, 0, none⟩))] W fun e w' => e = .returned (.bool true) ∧ w'.cell? ⟨w.heap.size, 0, none⟩ = some (.pointer (some ⟨b, 0, none⟩)) ∧ FltAt w' b ∧ Below w.heap.size W1 w') := fun W1 W h1 h2 => by
    subst h2; subst h1
    exact as_flt b w.heap.size _ (he.below (HB1.out _)) (by rw [World.cell?_alloc_new]; rfl) (World.frozen?_alloc_new _ _ _ _) (hf.below (HB1.out _)) (by omega) w.heap.size (Nat.le_refl _) (HB1.out _).size
  clear hf he hbl
  go_enter Tryz.func25, Tryz.ntmps25
  go_wp2_with fail
  refine Calls.mono (HA.out _ _ rfl rfl) ?_
  rintro e W2 ⟨rfl, p0, ⟨p1, p2⟩, hb2⟩
  have HP1 : Hid (W2.cell? ⟨b, 0, none⟩ = some (.int .i64 9)) := p1
  have HB2 : Hid (Below w.heap.size w W2) := (HB1.out _).trans hb2
  clear hb2 HB1 HA
  go_wp2_with fail
  clear p0 p1 p2
  refine Calls.mono (is_flt b _ HP1.out) ?_
  rintro e Wq ⟨rfl, hq⟩
  subst Wq
  go_wp2_with fail
  refine Calls.mono (is_not b _ HP1.out) ?_
  rintro e Wq ⟨rfl, hq⟩
  subst Wq
  go_wp2
  go_ret
  exact ⟨rfl, HB2.out⟩
end Go.Proofs.YthaebbmekonacaaGreatDoor

set_option linter.unusedVariables false
set_option linter.unusedSimpArgs false
set_option maxRecDepth 100000
namespace Go.Proofs.YthaebbmekonacaaGreatDoor
open Go.RowKit
theorem nilCd (w : World) : CdAt w (.slice none 0 0) [] := ⟨none, 0, 0, 0, rfl, Or.inr rfl, Nat.le_refl _, fun j h => by simp at h⟩
theorem nilAc (w : World) : AcAt w (.slice none 0 0) [] := ⟨none, 0, 0, 0, rfl, Or.inr rfl, Nat.le_refl _, fun j h => by simp at h⟩
/-- All is as it was outside a stretch of blocks. -/
structure Mid (lo hi : Nat) (w w' : World) : Prop where
  os : w'.os = w.os
  tape : w'.tape = w.tape
  output : w'.output = w.output
  size : w'.heap.size = w.heap.size
  block : ∀ j, (j < lo ∨ hi ≤ j) → w'.heap[j]? = w.heap[j]?
theorem Mid.refl (lo hi : Nat) (w : World) : Mid lo hi w w := ⟨rfl, rfl, rfl, rfl, fun _ _ => rfl⟩
theorem Mid.trans {lo hi : Nat} {a b c : World} (h : Mid lo hi a b) (k : Mid lo hi b c) : Mid lo hi a c :=
  ⟨k.os.trans h.os, k.tape.trans h.tape, k.output.trans h.output, k.size.trans h.size, fun j hj => (k.block j hj).trans (h.block j hj)⟩
theorem Mid.set {lo hi : Nat} {w w1 : World} (h : Mid lo hi w w1) {b i : Nat} {v : Value} (h1 : lo ≤ b) (h2 : b < hi) : Mid lo hi w (w1.setCell ⟨b, i, none⟩ v) :=
  ⟨h.os, h.tape, h.output, by simpa using h.size, fun j hj => by
    rw [← h.block j hj]
    simp only [World.setCell, Array.getElem?_modify]
    rw [if_neg (by omega)]⟩
theorem Mid.cell {lo hi b i : Nat} {v : Value} {w w' : World} (h : Mid lo hi w w') (hc : w.cell? ⟨b, i, none⟩ = some v) (hb : b < lo ∨ hi ≤ b) : w'.cell? ⟨b, i, none⟩ = some v := by
  unfold World.cell? at hc ⊢
  rw [h.block b hb]
  exact hc
theorem Mid.c2 {lo hi b : Nat} {v0 v1 : Value} {w w' : World} (h : Mid lo hi w w') (hc : C2 w b v0 v1) (hb : b < lo ∨ hi ≤ b) : C2 w' b v0 v1 :=
  ⟨h.cell hc.c0 hb, h.cell hc.c1 hb, fun i => by have := hc.f i; unfold World.frozen? at this ⊢; rw [h.block b hb]; exact this⟩
theorem Mid.ownC {lo hi base : Nat} {v : Value} {l : List Cd} {w w' : World} (h : Mid lo hi w w') (ho : OwnCd w base v l) (hb : hi ≤ base) : OwnCd w' base v l :=
  owns_heap' ho fun g hg => by rw [h.block g (Or.inr (by have := owns_lt ho g hg; omega))]
theorem Mid.ownA {lo hi base : Nat} {v : Value} {l : List Ac} {w w' : World} (h : Mid lo hi w w') (ho : OwnAc w base v l) (hb : hi ≤ base) : OwnAc w' base v l :=
  owns_heap' ho fun g hg => by rw [h.block g (Or.inr (by have := owns_lt ho g hg; omega))]
theorem Mid.below {lo hi : Nat} {w w' : World} (h : Mid lo hi w w') : Below lo w w' := ⟨h.os, h.tape, h.output, by rw [h.size]; exact Nat.le_refl _, fun j hj => h.block j (Or.inl hj)⟩
/-- A slice's cells may be written. -/
def Wr (w : World) (lo hi : Nat) (ad : Option Addr) (n : Nat) : Prop := n = 0 ∨ ∃ p, ad = some ⟨p, 0, none⟩ ∧ lo ≤ p ∧ p < hi ∧ ∀ i, i < n * 4 → (∃ u, w.cell? ⟨p, i, none⟩ = some u) ∧ w.frozen? ⟨p, i, none⟩ = false
theorem Wr.set {w : World} {lo hi n b i : Nat} {ad : Option Addr} {v : Value} (h : Wr w lo hi ad n) : Wr (w.setCell ⟨b, i, none⟩ v) lo hi ad n := by
  rcases h with h | ⟨p, h1, h2, h3, h4⟩
  · exact Or.inl h
  · refine Or.inr ⟨p, h1, h2, h3, fun j hj => ?_⟩
    obtain ⟨⟨u, hu⟩, hf⟩ := h4 j hj
    refine ⟨?_, by rw [World.frozen?_setCell]; exact hf⟩
    by_cases e : (⟨b, i, none⟩ : Addr) = ⟨p, j, none⟩
    · rw [e]; exact ⟨v, World.cell?_setCell_same _ _ _ hu⟩
    · exact ⟨u, by rw [World.cell?_setCell_other _ _ _ _ e]; exact hu⟩
theorem Wr.of {w : World} {base hi : Nat} {e : TypeId} {ad : Option Addr} {n c : Nat} {xs : List Value} (h : w.ownsRow base e 4 (.slice ad n c) n xs) (hh : w.heap.size ≤ hi) : Wr w base hi ad n := by
  have hlt := owns_lt h
  obtain ⟨hl, h2 | ⟨g, cap, cur, hv, hg, hp, hn, hm, hs, ht⟩⟩ := h
  · exact Or.inl h2.2
  · have ea : ad = some ⟨g, 0, none⟩ := by injection hv
    have h3 := hlt g (by rw [ea]; rfl)
    refine Or.inr ⟨g, ea, hg, by omega, fun i hi => ?_⟩
    have hi2 : i < cur.size := by rw [hs]; exact Nat.lt_of_lt_of_le hi (Nat.mul_le_mul_right _ hn)
    refine ⟨⟨cur[i], by unfold World.cell?; simp [hp, hi2]⟩, by unfold World.frozen?; simp [hp]⟩
theorem Wr.at {w : World} {lo hi k n : Nat} {ad : Option Addr} (h : Wr w lo hi ad n) (hk : k < n) : ∃ p u0 u1 u2 u3, ad = some ⟨p, 0, none⟩ ∧ lo ≤ p ∧ p < hi ∧ (w.cell? ⟨p, k * 4, none⟩ = some u0 ∧ w.cell? ⟨p, k * 4 + 1, none⟩ = some u1 ∧ w.cell? ⟨p, k * 4 + 2, none⟩ = some u2 ∧ w.cell? ⟨p, k * 4 + 3, none⟩ = some u3) ∧ w.frozen? ⟨p, k * 4, none⟩ = false ∧ w.frozen? ⟨p, k * 4 + 1, none⟩ = false ∧ w.frozen? ⟨p, k * 4 + 2, none⟩ = false ∧ w.frozen? ⟨p, k * 4 + 3, none⟩ = false := by
  rcases h with h | ⟨p, h1, h2, h3, h4⟩
  · omega
  · obtain ⟨⟨u0, a0⟩, b0⟩ := h4 (k * 4) (by omega)
    obtain ⟨⟨u1, a1⟩, b1⟩ := h4 (k * 4 + 1) (by omega)
    obtain ⟨⟨u2, a2⟩, b2⟩ := h4 (k * 4 + 2) (by omega)
    obtain ⟨⟨u3, a3⟩, b3⟩ := h4 (k * 4 + 3) (by omega)
    exact ⟨p, u0, u1, u2, u3, h1, h2, h3, ⟨a0, a1, a2, a3⟩, b0, b1, b2, b3⟩
set_option maxHeartbeats 4000000 in
theorem reads_bad (s : ByteArray) (w : World)
    (K18 : ∀ X, Below w.heap.size w X → Calls Tryz.prog 18 #[] X fun e w' => e = .returned (.bool true) ∧ Below X.heap.size X w')
    (K23 : ∀ X, Below w.heap.size w X → Calls Tryz.prog 23 #[.string s] X fun e w' => BadT X w' e)
    (K24 : ∀ X, Below w.heap.size w X → Calls Tryz.prog 24 #[.string s] X fun e w' => e = .returned (.tuple #[.agg #[.slice none 0 0, .slice none 0 0], .bool false]) ∧ Below X.heap.size X w')
    (K22 : ∀ X, Below w.heap.size w X → Calls Tryz.prog 22 #[.agg #[.slice none 0 0, .slice none 0 0], .agg #[.slice none 0 0, .slice none 0 0]] X fun e w' => e = .returned (.bool true) ∧ Below X.heap.size X w')
    (K25 : ∀ X b, Below w.heap.size w X → FltAt X b → Calls Tryz.prog 25 #[.iface 97 (.pointer (some ⟨b, 0, none⟩)), .bool false] X fun e w' => e = .returned (.bool true) ∧ Below X.heap.size X w') :
    Calls Tryz.prog 5 #[.string s] w fun e w' => e = .returned (.bool true) ∧ Below w.heap.size w w' := by
  have H18 : Hid (∀ X, _) := K18
  have H23 : Hid (∀ X, _) := K23
  have H24 : Hid (∀ X, _) := K24
  have H22 : Hid (∀ X, _) := K22
  have H25 : Hid (∀ X b, _) := K25
  clear K18 K23 K24 K22 K25
  go_enter Tryz.func5, Tryz.ntmps5
  go_wp2_with fail
  refine Calls.mono (H23.out w (Below.refl _ _)) ?_
  rintro e W1 ⟨⟨b, rfl, hf⟩, hb1⟩
  have HZ2 : Hid (∀ W2, W1.alloc (.cells #[.slice none 0 0, .slice none 0 0] 63) = W2 → Below w.heap.size w W2 ∧ FltAt W2 b ∧ C2 W2 W1.heap.size (.slice none 0 0) (.slice none 0 0) ∧ w.heap.size ≤ W1.heap.size ∧ W1.heap.size < W2.heap.size) := fun W2 h => by
    subst h
    have hb2 : Below W1.heap.size W1 (W1.alloc (.cells #[.slice none 0 0, .slice none 0 0] 63)) := (Below.refl _ _).alloc (Nat.le_refl _) _
    exact ⟨hb1.trans (hb2.mono hb1.size), hf.below hb2, C2.new _ 63 _ _, hb1.size, by simp⟩
  clear hf hb1
  go_wp2_with fail
  generalize hW2 : W1.alloc (.cells #[.slice none 0 0, .slice none 0 0] 63) = W2
  obtain ⟨q1, q2, q3, q4⟩ := HZ2.out W2 hW2
  have HB2 : Hid (Below w.heap.size w W2) := q1
  have HF2 : Hid (FltAt W2 b) := q2
  have HA2 : Hid (C2 W2 W1.heap.size (.slice none 0 0) (.slice none 0 0)) := q3
  have HPz : Hid (w.heap.size ≤ W1.heap.size ∧ W1.heap.size < W2.heap.size) := q4
  clear q1 q2 q3 q4 HZ2 hW2
  generalize W1.heap.size = pa at *
  refine Calls.mono (H24.out W2 HB2.out) ?_
  rintro e W3 ⟨rfl, hb3⟩
  have HZ4 : Hid (∀ W4, W3.alloc (.cells #[.slice none 0 0, .slice none 0 0] 63) = W4 → Below w.heap.size w W4 ∧ FltAt W4 b ∧ C2 W4 pa (.slice none 0 0) (.slice none 0 0) ∧ C2 W4 W3.heap.size (.slice none 0 0) (.slice none 0 0)) := fun W4 h => by
    subst h
    have hb4 : Below W3.heap.size W3 (W3.alloc (.cells #[.slice none 0 0, .slice none 0 0] 63)) := (Below.refl _ _).alloc (Nat.le_refl _) _
    have h3 := HB2.out.trans (hb3.mono HB2.out.size)
    exact ⟨h3.trans (hb4.mono h3.size), (HF2.out.below hb3).below hb4, (HA2.out.below hb3).below hb4, C2.new _ 63 _ _⟩
  have HPa : Hid (w.heap.size ≤ pa ∧ pa ≠ W3.heap.size) := ⟨HPz.out.1, by have := HPz.out.2; have := hb3.size; omega⟩
  have a0 := (HZ4.out _ rfl).2.2.1.c0
  have a1 := (HZ4.out _ rfl).2.2.1.c1
  have b0 := (HZ4.out _ rfl).2.2.2.c0
  have b1 := (HZ4.out _ rfl).2.2.2.c1
  clear hb3 HB2 HF2 HA2 HPz
  go_wp2_with fail
  clear a0 a1 b0 b1
  generalize hW4 : W3.alloc (.cells #[.slice none 0 0, .slice none 0 0] 63) = W4
  obtain ⟨q1, q2, q3, q4⟩ := HZ4.out W4 hW4
  have HB4 : Hid (Below w.heap.size w W4) := q1
  have HF4 : Hid (FltAt W4 b) := q2
  have HA4 : Hid (C2 W4 pa (.slice none 0 0) (.slice none 0 0)) := q3
  have HE4 : Hid (C2 W4 W3.heap.size (.slice none 0 0) (.slice none 0 0)) := q4
  clear q1 q2 q3 q4 HZ4 hW4
  generalize W3.heap.size = pb at *
  refine Calls.mono (H22.out W4 HB4.out) ?_
  rintro e W5 ⟨rfl, hb5⟩
  have HB5 : Hid (Below w.heap.size w W5) := HB4.out.trans (hb5.mono HB4.out.size)
  have HF5 : Hid (FltAt W5 b) := HF4.out.below hb5
  have HA5 : Hid (_ : Prop) := HA4.out.below hb5
  have HE5 : Hid (_ : Prop) := HE4.out.below hb5
  clear hb5 HB4 HF4 HA4 HE4
  go_wp2_with fail
  refine Calls.mono (H25.out W5 b HB5.out HF5.out) ?_
  rintro e W6 ⟨rfl, hb6⟩
  have HB6 : Hid (Below w.heap.size w W6) := HB5.out.trans (hb6.mono HB5.out.size)
  have HA6 : Hid (_ : Prop) := HA5.out.below hb6
  have HE6 : Hid (_ : Prop) := HE5.out.below hb6
  clear hb6 HB5 HF5 HA5 HE5
  have a0 := HA6.out.c0
  have a1 := HA6.out.c1
  go_wp2
  refine wp_loop_rounds 1 ?_
  rw [rounds_succ]
  go_wp2
  refine wp_loop_rounds 1 ?_
  rw [rounds_succ]
  go_wp2_with fail
  clear a0 a1
  refine Calls.mono (H23.out W6 HB6.out) ?_
  rintro e W7 ⟨⟨b', rfl, hf7⟩, hb7⟩
  have HB7 : Hid (Below w.heap.size w W7) := HB6.out.trans (hb7.mono HB6.out.size)
  have HA7 : Hid (C2 W7 pa _ _) := HA6.out.below hb7
  have HE7 : Hid (C2 W7 pb _ _) := HE6.out.below hb7
  have hne : b' ≠ pa := fun e => by have h1 := hf7.1; rw [e, HA7.out.c0] at h1; cases h1
  obtain ⟨W8, hW8⟩ : ∃ W8, (W7.setCell ⟨pa, 0, none⟩ (.slice none 0 0)).setCell ⟨pa, 1, none⟩ (.slice none 0 0) = W8 := ⟨_, rfl⟩
  have HB8 : Hid (Below w.heap.size w W8) := by unfold Hid; rw [← hW8]; exact bset (bset HB7.out HPa.out.1) HPa.out.1
  have HA8 : Hid (C2 W8 pa (.slice none 0 0) (.slice none 0 0)) := by unfold Hid; rw [← hW8]; exact HA7.out.set0.set1
  have HE8 : Hid (C2 W8 pb (.slice none 0 0) (.slice none 0 0)) := by unfold Hid; rw [← hW8]; exact (HE7.out.other HPa.out.2).other HPa.out.2
  have HF8 : Hid (FltAt W8 b') := by
    unfold Hid
    rw [← hW8]
    refine ⟨?_, ?_⟩
    · rw [World.cell?_setCell_other _ _ _ _ (by intro e; injection e with e; exact hne e.symm), World.cell?_setCell_other _ _ _ _ (by intro e; injection e with e; exact hne e.symm)]; exact hf7.1
    · rw [World.cell?_setCell_other _ _ _ _ (by intro e; injection e with e; exact hne e.symm), World.cell?_setCell_other _ _ _ _ (by intro e; injection e with e; exact hne e.symm)]; exact hf7.2
  have x0 := HA7.out.c0
  have x1 := HA7.out.c1
  have g0 := HA7.out.f 0
  have g1 := HA7.out.f 1
  have a0 := HA8.out.c0
  have a1 := HA8.out.c1
  have b0 := HE8.out.c0
  have b1 := HE8.out.c1
  clear hf7 hb7 hne HB6 HA6 HE6 HB7 HA7 HE7
  go_wp2_with fail
  clear x0 x1 g0 g1 a0 a1 b0 b1
  refine Calls.mono (H22.out W8 HB8.out) ?_
  rintro e W9 ⟨rfl, hb9⟩
  have HB9 : Hid (Below w.heap.size w W9) := HB8.out.trans (hb9.mono HB8.out.size)
  have HF9 : Hid (FltAt W9 b') := HF8.out.below hb9
  clear hb9 HB8 HF8 HA8 HE8
  go_wp2_with fail
  refine Calls.mono (H25.out W9 b' HB9.out HF9.out) ?_
  rintro e W10 ⟨rfl, hb10⟩
  have HB10 : Hid (Below w.heap.size w W10) := HB9.out.trans (hb10.mono HB9.out.size)
  clear hb10 HB9 HF9
  go_wp2_with fail
  refine Calls.mono (H18.out W10 HB10.out) ?_
  rintro e W11 ⟨rfl, hb11⟩
  have HB11 : Hid (Below w.heap.size w W11) := HB10.out.trans (hb11.mono HB10.out.size)
  clear hb11 HB10
  go_wp2
  go_ret
  exact ⟨rfl, HB11.out⟩
theorem Wr.below {w w' : World} {lo hi n : Nat} {ad : Option Addr} (h : Wr w lo hi ad n) (hb : Below w.heap.size w w') : Wr w' lo hi ad n := by
  rcases h with h | ⟨p, h1, h2, h3, h4⟩
  · exact Or.inl h
  · refine Or.inr ⟨p, h1, h2, h3, fun j hj => ?_⟩
    obtain ⟨⟨u, hu⟩, hf⟩ := h4 j hj
    refine ⟨⟨u, below_cell hb hu⟩, ?_⟩
    unfold World.frozen? at hf ⊢
    rw [hb.block p (lt_of_cell hu)]
    exact hf
set_option maxHeartbeats 4000000 in
theorem reads_good (s : ByteArray) (T : Tm) (hl : LenT T) (w : World)
    (K18 : ∀ X, Below w.heap.size w X → Calls Tryz.prog 18 #[] X fun e w' => e = .returned (.bool true) ∧ Below X.heap.size X w')
    (K23 : ∀ X, Below w.heap.size w X → Calls Tryz.prog 23 #[.string s] X fun e w' => (∃ vc va, e = .returned (.tuple #[.agg #[vc, va], .nilIface]) ∧ OwnCd w' X.heap.size vc T.cs ∧ OwnAc w' X.heap.size va T.acs) ∧ Below X.heap.size X w')
    (K24 : ∀ X, Below w.heap.size w X → Calls Tryz.prog 24 #[.string s] X fun e w' => (∃ vc va, e = .returned (.tuple #[.agg #[vc, va], .bool true]) ∧ OwnCd w' X.heap.size vc T.cs ∧ OwnAc w' X.heap.size va T.acs) ∧ Below X.heap.size X w')
    (K22 : ∀ X u v, TmAt X u T → TmAt X v T → Calls Tryz.prog 22 #[u, v] X fun e w' => e = .returned (.bool true) ∧ Below X.heap.size X w')
    (K25 : ∀ X, Calls Tryz.prog 25 #[.nilIface, .bool true] X fun e w' => e = .returned (.bool true) ∧ w' = X) :
    Calls Tryz.prog 5 #[.string s] w fun e w' => e = .returned (.bool true) ∧ Below w.heap.size w w' := by
  have H18 : Hid (∀ X, _) := K18
  have H23 : Hid (∀ X, _) := K23
  have H24 : Hid (∀ X, _) := K24
  have H22 : Hid (∀ X u v, _) := K22
  have H25 : Hid (∀ X, _) := K25
  have HLt : Hid (LenT T) := hl
  clear K18 K23 K24 K22 K25 hl
  go_enter Tryz.func5, Tryz.ntmps5
  go_wp2_with fail
  refine Calls.mono (H23.out w (Below.refl _ _)) ?_
  rintro e W1 ⟨⟨vc, va, rfl, hc, ha⟩, hb1⟩
  obtain ⟨av, cv, rfl, hcv⟩ := own_len hc
  obtain ⟨aw, cw, rfl, hcw⟩ := own_len ha
  obtain ⟨W2, hW2⟩ : ∃ W2, W1.alloc (.cells #[.slice av T.cs.length cv, .slice aw T.acs.length cw] 63) = W2 := ⟨_, rfl⟩
  have hb2 : Below W1.heap.size W1 W2 := by rw [← hW2]; exact (Below.refl _ _).alloc (Nat.le_refl _) _
  have HB2 : Hid (Below w.heap.size w W2) := hb1.trans (hb2.mono hb1.size)
  have HA2 : Hid (C2 W2 W1.heap.size (.slice av T.cs.length cv) (.slice aw T.acs.length cw)) := by unfold Hid; rw [← hW2]; exact C2.new _ 63 _ _
  have HT2 : Hid (TmAt W2 (.agg #[.slice av T.cs.length cv, .slice aw T.acs.length cw]) T) := ⟨_, _, rfl, hc.at.below hb2, ha.at.below hb2⟩
  have HWc : Hid (Wr W2 w.heap.size W1.heap.size av T.cs.length) := (Wr.of hc (Nat.le_refl _)).below hb2
  have HWa : Hid (Wr W2 w.heap.size W1.heap.size aw T.acs.length) := (Wr.of ha (Nat.le_refl _)).below hb2
  have HPz : Hid (w.heap.size ≤ W1.heap.size ∧ W1.heap.size < W2.heap.size) := ⟨hb1.size, by rw [← hW2]; simp⟩
  clear hc ha hb1 hb2 hcv hcw
  go_wp2_with fail
  clear hW2
  generalize W1.heap.size = pa at *
  refine Calls.mono (H24.out W2 HB2.out) ?_
  rintro e W3 ⟨⟨xc, xa, rfl, hxc, hxa⟩, hb3⟩
  obtain ⟨bv, dv, rfl, hdv⟩ := own_len hxc
  obtain ⟨bw, dw, rfl, hdw⟩ := own_len hxa
  obtain ⟨W4, hW4⟩ : ∃ W4, W3.alloc (.cells #[.slice bv T.cs.length dv, .slice bw T.acs.length dw] 63) = W4 := ⟨_, rfl⟩
  have hb4 : Below W3.heap.size W3 W4 := by rw [← hW4]; exact (Below.refl _ _).alloc (Nat.le_refl _) _
  have hb34 : Below W2.heap.size W2 W4 := hb3.trans (hb4.mono hb3.size)
  have HB4 : Hid (Below w.heap.size w W4) := HB2.out.trans (hb34.mono HB2.out.size)
  have HA4 : Hid (C2 W4 pa (.slice av T.cs.length cv) (.slice aw T.acs.length cw)) := HA2.out.below hb34
  have HE4 : Hid (C2 W4 W3.heap.size (.slice bv T.cs.length dv) (.slice bw T.acs.length dw)) := by unfold Hid; rw [← hW4]; exact C2.new _ 63 _ _
  have HT4 : Hid (TmAt W4 (.agg #[.slice av T.cs.length cv, .slice aw T.acs.length cw]) T) := HT2.out.below hb34
  have HU4 : Hid (OwnCd W4 W2.heap.size (.slice bv T.cs.length dv) T.cs) := hxc.below hb4
  have HV4 : Hid (OwnAc W4 W2.heap.size (.slice bw T.acs.length dw) T.acs) := hxa.below hb4
  have HWc4 : Hid (Wr W4 w.heap.size pa av T.cs.length) := HWc.out.below hb34
  have HWa4 : Hid (Wr W4 w.heap.size pa aw T.acs.length) := HWa.out.below hb34
  have HPa : Hid (w.heap.size ≤ pa ∧ pa < W2.heap.size ∧ pa < W3.heap.size) := ⟨HPz.out.1, HPz.out.2, by have := HPz.out.2; have := hb3.size; omega⟩
  clear hxc hxa hb3 hb4 hb34 hdv hdw HB2 HA2 HT2 HWc HWa HPz
  have a0 := HA4.out.c0
  have a1 := HA4.out.c1
  have b0 := HE4.out.c0
  have b1 := HE4.out.c1
  go_wp2_with fail
  clear a0 a1 b0 b1 hW4
  generalize W3.heap.size = pb at *
  generalize W2.heap.size = bs at *
  refine Calls.mono (H22.out W4 _ _ HT4.out ⟨_, _, rfl, HU4.out.at, HV4.out.at⟩) ?_
  rintro e W5 ⟨rfl, hb5⟩
  have HB5 : Hid (Below w.heap.size w W5) := HB4.out.trans (hb5.mono HB4.out.size)
  have HA5 : Hid (C2 W5 pa _ _) := HA4.out.below hb5
  have HE5 : Hid (C2 W5 pb _ _) := HE4.out.below hb5
  have HU5 : Hid (OwnCd W5 bs (.slice bv T.cs.length dv) T.cs) := HU4.out.below hb5
  have HV5 : Hid (OwnAc W5 bs (.slice bw T.acs.length dw) T.acs) := HV4.out.below hb5
  have HWc5 : Hid (Wr W5 w.heap.size pa av T.cs.length) := HWc4.out.below hb5
  have HWa5 : Hid (Wr W5 w.heap.size pa aw T.acs.length) := HWa4.out.below hb5
  clear hb5 HB4 HA4 HE4 HT4 HU4 HV4 HWc4 HWa4
  go_wp2_with fail
  refine Calls.mono (H25.out W5) ?_
  rintro e Wq ⟨rfl, hq⟩
  subst Wq
  obtain ⟨n, hn⟩ : ∃ n, T.cs.length = n := ⟨_, rfl⟩
  obtain ⟨m, hm⟩ : ∃ m, T.acs.length = m := ⟨_, rfl⟩
  have HNn : Hid (T.cs.length = n ∧ T.acs.length = m ∧ n ≤ 1152921504606846976 ∧ m ≤ 1152921504606846976) := ⟨hn, hm, by have := HLt.out.1; omega, by have := HLt.out.2; omega⟩
  rw [hn] at HA5 HE5 HU5 HWc5 ⊢
  rw [hm] at HA5 HE5 HV5 HWa5 ⊢
  clear hn hm
  have a0 := HA5.out.c0
  go_wp2
  clear a0
  go_loopw [7] (fun x7 wr => ∃ k : Nat, k ≤ n ∧ x7 = .int .i64 (k : Int) ∧ Mid w.heap.size pa W5 wr ∧ Wr wr w.heap.size pa av n ∧ Wr wr w.heap.size pa aw m) (fun x7 _ => n - (intOf x7).toNat)
  case atStart => exact ⟨0, Nat.zero_le _, rfl, Mid.refl _ _ _, HWc5.out, HWa5.out⟩
  case round =>
    obtain ⟨wo, rfl⟩ : ∃ x, x = wr := ⟨_, rfl⟩
    obtain ⟨k, hk, rfl, hmid, hwc, hwa⟩ := hrel
    have HM : Hid (Mid w.heap.size pa W5 wo) := hmid
    have HX : Hid (Wr wo w.heap.size pa av n) := hwc
    have HY : Hid (Wr wo w.heap.size pa aw m) := hwa
    have HAo : Hid (C2 wo pa (.slice av n cv) (.slice aw m cw)) := hmid.c2 HA5.out (Or.inr (Nat.le_refl _))
    have a0 := HAo.out.c0
    have a1 := HAo.out.c1
    clear hmid hwc hwa
    by_cases hlt : k < n
    · have hlti : (k : Int) < (n : Int) := by omega
      have hk0 : (0 : Int) ≤ (k : Int) := by omega
      have hk1 : (k : Int) < 1152921504606846976 := by have := HNn.out.2.2.1; omega
      obtain ⟨p, u0, u1, u2, u3, rfl, hp1, hp2, ⟨c0, c1, c2, c3⟩, f0, f1, f2, f3⟩ := HX.out.at hlt
      have HP : Hid (w.heap.size ≤ p ∧ p < pa) := ⟨hp1, hp2⟩
      have HKn : Hid (k < n) := hlt
      clear hp1 hp2 hlt hk
      go_wp2
      refine ⟨⟨k + 1, HKn.out, by go_num, (((HM.out.set HP.out.1 HP.out.2).set HP.out.1 HP.out.2).set HP.out.1 HP.out.2).set HP.out.1 HP.out.2, HX.out.set.set.set.set, HY.out.set.set.set.set⟩, ?_⟩
      have := HKn.out
      simp [intOf]; omega
    · obtain rfl : k = n := by omega
      have hlti : ¬ (k : Int) < (k : Int) := by omega
      clear hlt hk
      go_wp2
      go_loopw [8] (fun x8 wr => ∃ i : Nat, i ≤ m ∧ x8 = .int .i64 (i : Int) ∧ Mid w.heap.size pa W5 wr ∧ Wr wr w.heap.size pa aw m) (fun x8 _ => m - (intOf x8).toNat)
      case atStart => exact ⟨0, Nat.zero_le _, rfl, HM.out, HY.out⟩
      case round =>
        obtain ⟨i, hi, rfl, hmid, hwa⟩ := hrel
        have GM : Hid (Mid w.heap.size pa W5 wr) := hmid
        have GY : Hid (Wr wr w.heap.size pa aw m) := hwa
        have GAo : Hid (C2 wr pa (.slice av k cv) (.slice aw m cw)) := hmid.c2 HA5.out (Or.inr (Nat.le_refl _))
        clear a0 a1
        have a0 := GAo.out.c0
        have a1 := GAo.out.c1
        clear hmid hwa
        by_cases hlt : i < m
        · have hlti2 : (i : Int) < (m : Int) := by omega
          have hi0 : (0 : Int) ≤ (i : Int) := by omega
          have hi1 : (i : Int) < 1152921504606846976 := by have := HNn.out.2.2.2; omega
          obtain ⟨p, u0, u1, u2, u3, rfl, hp1, hp2, ⟨c0, c1, c2, c3⟩, f0, f1, f2, f3⟩ := GY.out.at hlt
          have HP : Hid (w.heap.size ≤ p ∧ p < pa) := ⟨hp1, hp2⟩
          have HKn : Hid (i < m) := hlt
          clear hp1 hp2 hlt hi
          go_wp2
          refine ⟨⟨i + 1, HKn.out, by go_num, (((GM.out.set HP.out.1 HP.out.2).set HP.out.1 HP.out.2).set HP.out.1 HP.out.2).set HP.out.1 HP.out.2, GY.out.set.set.set.set⟩, ?_⟩
          have := HKn.out
          simp [intOf]; omega
        · have hlti2 : ¬ (i : Int) < (m : Int) := by omega
          have HBr : Hid (Below w.heap.size w wr) := HB5.out.trans GM.out.below
          have HEr : Hid (C2 wr pb (.slice bv k dv) (.slice bw m dw)) := GM.out.c2 HE5.out (Or.inr (by have := HPa.out; omega))
          have HUr : Hid (OwnCd wr bs (.slice bv k dv) T.cs) := GM.out.ownC HU5.out (by have := HPa.out; omega)
          have HVr : Hid (OwnAc wr bs (.slice bw m dw) T.acs) := GM.out.ownA HV5.out (by have := HPa.out; omega)
          clear hlt hi a1 HM HX HY HAo GM GY HB5 HA5 HE5 HU5 HV5 HWc5 HWa5
          have a1 := GAo.out.c1
          go_wp2_with fail
          clear a0 a1
          refine Calls.mono (H23.out wr HBr.out) ?_
          rintro e W7 ⟨⟨yc, ya, rfl, hyc, hya⟩, hb7⟩
          obtain ⟨ev, gv, rfl, hgv⟩ := own_len hyc
          obtain ⟨ew, gw, rfl, hgw⟩ := own_len hya
          have HA7 : Hid (C2 W7 pa (.slice av k cv) (.slice aw m cw)) := GAo.out.below hb7
          have hpw : pa < wr.heap.size := lt_of_cell GAo.out.c0
          obtain ⟨W8, hW8⟩ : ∃ W8, (W7.setCell ⟨pa, 0, none⟩ (.slice ev T.cs.length gv)).setCell ⟨pa, 1, none⟩ (.slice ew T.acs.length gw) = W8 := ⟨_, rfl⟩
          have HB8 : Hid (Below w.heap.size w W8) := by unfold Hid; rw [← hW8]; exact bset (bset (HBr.out.trans (hb7.mono HBr.out.size)) HPa.out.1) HPa.out.1
          have HA8 : Hid (C2 W8 pa (.slice ev T.cs.length gv) (.slice ew T.acs.length gw)) := by unfold Hid; rw [← hW8]; exact HA7.out.set0.set1
          have HE8 : Hid (C2 W8 pb (.slice bv k dv) (.slice bw m dw)) := by unfold Hid; rw [← hW8]; exact ((HEr.out.below hb7).other (by have := HPa.out; omega)).other (by have := HPa.out; omega)
          have HT8 : Hid (TmAt W8 (.agg #[.slice ev T.cs.length gv, .slice ew T.acs.length gw]) T) := by
            unfold Hid; rw [← hW8]
            exact ⟨_, _, rfl, ((hyc.set hpw).set hpw).at, ((hya.set hpw).set hpw).at⟩
          have HS8 : Hid (TmAt W8 (.agg #[.slice bv k dv, .slice bw m dw]) T) := by
            unfold Hid; rw [← hW8]
            exact ⟨_, _, rfl, (((HUr.out.below hb7).set HPa.out.2.1).set HPa.out.2.1).at, (((HVr.out.below hb7).set HPa.out.2.1).set HPa.out.2.1).at⟩
          have x0 := HA7.out.c0
          have x1 := HA7.out.c1
          have g0 := HA7.out.f 0
          have g1 := HA7.out.f 1
          have a0 := HA8.out.c0
          have a1 := HA8.out.c1
          have b0 := HE8.out.c0
          have b1 := HE8.out.c1
          clear hyc hya hb7 hgv hgw hpw HBr HEr HUr HVr GAo HA7
          go_wp2_with fail
          clear x0 x1 g0 g1 a0 a1 b0 b1
          refine Calls.mono (H22.out W8 _ _ HT8.out HS8.out) ?_
          rintro e W9 ⟨rfl, hb9⟩
          have HB9 : Hid (Below w.heap.size w W9) := HB8.out.trans (hb9.mono HB8.out.size)
          clear hb9 HB8 HT8 HS8 HA8 HE8
          go_wp2_with fail
          refine Calls.mono (H25.out W9) ?_
          rintro e Wq ⟨rfl, hq⟩
          subst Wq
          go_wp2_with fail
          refine Calls.mono (H18.out W9 HB9.out) ?_
          rintro e W11 ⟨rfl, hb11⟩
          have HB11 : Hid (Below w.heap.size w W11) := HB9.out.trans (hb11.mono HB9.out.size)
          clear hb11 HB9
          go_wp2
          go_ret
          exact ⟨rfl, HB11.out⟩
theorem reads_walk (s : ByteArray) (hs : s.size ≤ 4294967296) (w : World) (he : EnvX w) (hE : ErrsAt w) (hT : ETAt w) : Calls Tryz.prog 5 #[.string s] w fun e w' => e = .returned (.bool true) ∧ Below w.heap.size w w' := by
  obtain ⟨cm, ad, K⟩ := knows_ex
  have es : (⟨s.data.toList.toArray⟩ : ByteArray) = s := bytes_eta s
  have hl : s.data.toList.length ≤ 4294967296 := by rw [Array.length_toList]; exact hs
  have K18 : ∀ X, Below w.heap.size w X → Calls Tryz.prog 18 #[] X fun e w' => e = .returned (.bool true) ∧ Below X.heap.size X w' := fun X hX => works_any X (he.below hX)
  have K23 : ∀ X, Below w.heap.size w X → Calls Tryz.prog 23 #[.string s] X fun e w' => TrO (rdT cm ad (spl s.data.toList)) X w' e := fun X hX => by
    have := term_anyO cm ad K s.data.toList (by omega) X (he.below hX) (hE.below hX)
    rw [es] at this
    exact this
  have K24 : ∀ X, Below w.heap.size w X → Calls Tryz.prog 24 #[.string s] X fun e w' => RtR (rdT cm ad (spl s.data.toList)) X w' e := fun X hX => rterm_any cm ad K s hs X (he.below hX)
  have K22 : ∀ T X u v, LenT T → TmAt X u T → TmAt X v T → Calls Tryz.prog 22 #[u, v] X fun e w' => e = .returned (.bool true) ∧ Below X.heap.size X w' := fun T X u v hl hu hv => by
    have := rsameTerm_any u v T T X hu hv hl hl
    rw [eqT_refl] at this
    exact this
  cases ho : rdT cm ad (spl s.data.toList) with
  | none =>
    rw [ho] at K23 K24
    exact reads_bad s w K18 K23 K24 (fun X hX => K22 ⟨[], []⟩ X _ _ ⟨Nat.zero_le _, Nat.zero_le _⟩ ⟨_, _, rfl, nilCd X, nilAc X⟩ ⟨_, _, rfl, nilCd X, nilAc X⟩) fun X b hX hf => wrong_no b X hf (hT.below hX)
  | some T =>
    rw [ho] at K23 K24
    obtain ⟨hok, _⟩ := rdT_back K ho
    have hln : LenT T := by obtain ⟨h1, h2, h3, _⟩ := ok_term hok; exact ⟨by omega, by omega⟩
    exact reads_good s T hln w K18 K23 K24 (fun X u v => K22 T X u v hln) wrong_yes
end Go.Proofs.YthaebbmekonacaaGreatDoor
