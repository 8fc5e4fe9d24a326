/-
  The words of a text, told one by one.
-/
import Derived.Test.YthaebbmekonacaaGreatDoorTX
import Derived.Test.YthaebbmekonacaaGreatDoorAD
import Derived.LoopN
set_option linter.unusedVariables false
set_option linter.unusedSimpArgs false
set_option maxRecDepth 100000
namespace Go.Proofs.YthaebbmekonacaaGreatDoor
open Go.RowKit
/-- All but two blocks is as it was. -/
structure Bs2 (p q : Nat) (w w' : World) : Prop where
  os : w'.os = w.os
  tape : w'.tape = w.tape
  output : w'.output = w.output
  size : w.heap.size ≤ w'.heap.size
  block : ∀ j, j < w.heap.size → j ≠ p → j ≠ q → w'.heap[j]? = w.heap[j]?
theorem Bs2.of_below {p q : Nat} {w w' : World} (h : Below w.heap.size w w') : Bs2 p q w w' := ⟨h.os, h.tape, h.output, h.size, fun j hj _ _ => h.block j hj⟩
theorem Bs2.refl (p q : Nat) (w : World) : Bs2 p q w w := ⟨rfl, rfl, rfl, Nat.le_refl _, fun _ _ _ _ => rfl⟩
theorem Bs2.trans {p q : Nat} {x y z : World} (h : Bs2 p q x y) (k : Bs2 p q y z) : Bs2 p q x z :=
  ⟨k.os.trans h.os, k.tape.trans h.tape, k.output.trans h.output, Nat.le_trans h.size k.size, fun j hj hp hq => (k.block j (Nat.lt_of_lt_of_le hj h.size) hp hq).trans (h.block j hj hp hq)⟩
theorem Bs2.below {p q B : Nat} {w w' : World} (h : Bs2 p q w w') (hp : B ≤ p) (hq : B ≤ q) (hs : B ≤ w.heap.size) : Below B w w' :=
  ⟨h.os, h.tape, h.output, h.size, fun k hk => h.block k (by omega) (by omega) (by omega)⟩
theorem Bs2.cell {p q b i : Nat} {v : Value} {w w' : World} (h : Bs2 p q w w') (hc : w.cell? ⟨b, i, none⟩ = some v) (hp : b ≠ p) (hq : b ≠ q) : w'.cell? ⟨b, i, none⟩ = some v := by
  have hlt := lt_of_cell hc
  unfold World.cell? at hc ⊢
  rw [h.block b hlt hp hq]
  exact hc
theorem Bs2.frozen {p q b i : Nat} {w w' : World} (h : Bs2 p q w w') (hb : b < w.heap.size) (hc : w.frozen? ⟨b, i, none⟩ = false) (hp : b ≠ p) (hq : b ≠ q) : w'.frozen? ⟨b, i, none⟩ = false := by
  unfold World.frozen? at hc ⊢
  rw [h.block b hb hp hq]
  exact hc
/-- What a reader holds: the words that are left. -/
structure Rd (w : World) (pl ps : Nat) (ws : List (List UInt8)) : Prop where
  ne : pl ≠ ps
  st : ∃ (b : Bool) (s : List UInt8), w.cell? ⟨pl, 0, none⟩ = some (.bool b) ∧ w.cell? ⟨ps, 0, none⟩ = some (.string ⟨s.toArray⟩) ∧ w.frozen? ⟨pl, 0, none⟩ = false ∧ w.frozen? ⟨ps, 0, none⟩ = false ∧ s.length < 140737488351233 ∧ (b = true ∧ spl s = ws ∨ b = false ∧ ws = [])
theorem Rd.below {w w' : World} {pl ps : Nat} {ws : List (List UInt8)} (h : Rd w pl ps ws) (hb : Below w.heap.size w w') : Rd w' pl ps ws := by
  obtain ⟨ne, b, s, h1, h2, h3, h4, h5, h6⟩ := h
  refine ⟨ne, b, s, below_cell hb h1, below_cell hb h2, ?_, ?_, h5, h6⟩
  · unfold World.frozen? at h3 ⊢; rw [hb.block _ (lt_of_cell h1)]; exact h3
  · unfold World.frozen? at h4 ⊢; rw [hb.block _ (lt_of_cell h2)]; exact h4
def MaxAt (w : World) : Prop := ∃ m, w.cell? ⟨5, 0, none⟩ = some (.int .i64 m)
theorem set_two {w : World} {pl ps n : Nat} {b0 : Bool} {s0 : ByteArray} (ne : pl ≠ ps) (h1 : w.cell? ⟨pl, 0, none⟩ = some (.bool b0)) (h2 : w.cell? ⟨ps, 0, none⟩ = some (.string s0)) (h3 : w.frozen? ⟨pl, 0, none⟩ = false) (h4 : w.frozen? ⟨ps, 0, none⟩ = false) (b : Bool) (s : List UInt8) (hs : s.length < 140737488351233) (ws : List (List UInt8)) (h6 : b = true ∧ spl s = ws ∨ b = false ∧ ws = []) {W : World} (hW : W = ((w.drewN n).setCell ⟨ps, 0, none⟩ (.string ⟨s.toArray⟩)).setCell ⟨pl, 0, none⟩ (.bool b)) : Rd W pl ps ws ∧ Bs2 pl ps w W := by
  subst hW
  refine ⟨⟨ne, b, s, ?_, ?_, ?_, ?_, hs, h6⟩, rfl, rfl, rfl, by simp, fun j hj hp hq => ?_⟩
  · exact World.cell?_setCell_same _ _ _ (by rw [World.cell?_setCell_other _ _ _ _ (by intro e; injection e with e; exact ne e.symm), World.cell?_drewN]; exact h1)
  · rw [World.cell?_setCell_other _ _ _ _ (by intro e; injection e with e; exact ne e)]
    exact World.cell?_setCell_same _ _ _ (by rw [World.cell?_drewN]; exact h2)
  · rw [World.frozen?_setCell, World.frozen?_setCell]; exact h3
  · rw [World.frozen?_setCell, World.frozen?_setCell]; exact h4
  · simp only [World.setCell, Array.getElem?_modify]
    rw [if_neg (by omega), if_neg (by omega)]
    rfl
set_option maxHeartbeats 1000000 in
theorem next_yes (pl ps : Nat) (x : List UInt8) (r : List (List UInt8)) (w : World) (h : Rd w pl ps (x :: r)) (hm : MaxAt w) : Calls Tryz.prog 92 #[.pointer (some ⟨pl, 0, none⟩), .pointer (some ⟨ps, 0, none⟩)] w fun e w' => e = .returned (.string ⟨x.toArray⟩) ∧ Rd w' pl ps r ∧ Bs2 pl ps w w' := by
  obtain ⟨ne, b, s, h1, h2, h3, h4, h5, h6⟩ := h
  obtain ⟨m, hm⟩ := hm
  rcases h6 with ⟨rfl, h6⟩ | ⟨_, h6⟩
  · obtain ⟨x', s', l', hc, hs, hl, hx⟩ := cut_spl s
    rw [h6] at hs
    injection hs with e1 e2
    subst e1
    have HK : Hid (∀ X, X.cell? ⟨5, 0, none⟩ = some (.int .i64 m) → Calls Tryz.prog 93 #[.string ⟨s.toArray⟩, .string ⟨#[32]⟩] X fun e w' => e = .returned (.tuple #[.string ⟨x.toArray⟩, .string ⟨s'.toArray⟩, .bool l']) ∧ ∃ n, w' = X.drewN n) := fun X hX => by
      have := Ad.scut_c ⟨s.toArray⟩ 32 (by rw [show (⟨s.toArray⟩ : ByteArray).size = s.length from List.size_toArray ..]; exact h5) X
      rw [show (⟨s.toArray⟩ : ByteArray).data.toList = s by simp, hc] at this
      exact this
    have HM : Hid (_ = _) := hm
    have HSet : Hid (∀ n W, W = ((w.drewN n).setCell ⟨ps, 0, none⟩ (.string ⟨s'.toArray⟩)).setCell ⟨pl, 0, none⟩ (.bool l') → Rd W pl ps r ∧ Bs2 pl ps w W) := fun n W hW => set_two ne h1 h2 h3 h4 l' s' (by omega) r (by rw [e2]; cases l' <;> simp) hW
    have ne2 : ps ≠ pl := fun e => ne e.symm
    clear hc hl hx h5 h6 hm e2
    go_enter Tryz.func92, Tryz.ntmps92
    go_wp2_with fail
    refine Calls.mono (HK.out _ HM.out) ?_
    rintro e w1 ⟨rfl, n, rfl⟩
    go_wp2
    go_ret
    exact ⟨rfl, HSet.out n _ rfl⟩
  · cases h6
theorem next_end (pl ps : Nat) (w : World) (h : Rd w pl ps []) : Calls Tryz.prog 92 #[.pointer (some ⟨pl, 0, none⟩), .pointer (some ⟨ps, 0, none⟩)] w fun e w' => e = .returned (.string ⟨#[32]⟩) ∧ w' = w := by
  obtain ⟨ne, b, s, h1, h2, h3, h4, h5, h6⟩ := h
  rcases h6 with ⟨_, h6⟩ | ⟨rfl, _⟩
  · exact absurd h6 (spl_ne s)
  · clear h5 h2 h4
    go_enter Tryz.func92, Tryz.ntmps92
    go_wp2
    go_ret
    exact ⟨rfl, rfl⟩
theorem need_yes (w : World) : Calls Tryz.prog 89 #[.bool true] w fun e w' => e = .returned (.tuple #[]) ∧ w' = w := by
  go_enter Tryz.func89, Tryz.ntmps89
  go_wp2
  go_end0
  exact ⟨rfl, rfl⟩
/-- A word's place in a table. -/
theorem place_yes (b n : Nat) (xs : List (List UInt8)) (x : List UInt8) (k : Nat) (w : World) (hn : xs.length = n) (hn8 : n ≤ 100) (hx : x ≠ []) (hk : Lib.idxOfS ((xs.map fun l => (⟨l.toArray⟩ : ByteArray)).take n) ⟨x.toArray⟩ = (k : Int))
    (hc : ∀ j, j < xs.length → w.cell? ⟨b, j, none⟩ = some (.string ⟨(xs.getD j []).toArray⟩)) : Calls Tryz.prog 132 #[.slice (some ⟨b, 0, none⟩) n n, .string ⟨x.toArray⟩] w fun e w' => e = .returned (.int .i64 (k : Int)) ∧ w' = w := by
  have HI : Hid (Calls Tryz.prog 167 #[.slice (some ⟨b, 0, none⟩) n n, .string ⟨x.toArray⟩] w fun e w' => e = .returned (.int .i64 (k : Int)) ∧ w' = w) := by
    have := Tryz.slices_Index_string b 0 n n (xs.map fun l => (⟨l.toArray⟩ : ByteArray)) ⟨x.toArray⟩ w (by rw [List.length_map]; omega) (by omega) (fun j hj => by
      rw [Nat.zero_add]
      rw [List.length_map] at hj
      rw [hc j hj, List.getD_eq_getElem?_getD, List.getD_eq_getElem?_getD, List.getElem?_map, List.getElem?_eq_getElem hj]
      rfl)
    rw [hk] at this
    exact this
  have hne : ((⟨x.toArray⟩ : ByteArray).toList == ([] : List UInt8)) = false := by rw [ByteArray.toList_eq]; simpa using hx
  have hne2 : ¬ (⟨x.toArray⟩ : ByteArray).toList = ([] : List UInt8) := by rw [ByteArray.toList_eq]; simpa using hx
  have hve : x.isEmpty = false := by cases x with
    | nil => exact absurd rfl hx
    | cons a b => rfl
  have k0 : (0 : Int) ≤ (k : Int) := by omega
  clear hc hk hx hn hn8
  go_enter Tryz.func132, Tryz.ntmps132
  go_wp2_with (first | (go_at_call 167; refine Calls.mono HI.out ?_; rintro e w2 ⟨rfl, rfl⟩) | (go_at_call 89; refine Calls.mono (need_yes _) ?_; rintro e w3 ⟨rfl, rfl⟩))
  go_ret
  exact ⟨rfl, rfl⟩
end Go.Proofs.YthaebbmekonacaaGreatDoor
