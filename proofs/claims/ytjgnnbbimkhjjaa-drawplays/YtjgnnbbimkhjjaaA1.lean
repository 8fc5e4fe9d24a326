/-
  Draws in memory: a ring of sixty-four numbers, which is the first, how many wait.
-/
import Derived.Test.YtjgnnbbimkhjjaaA0
set_option linter.unusedSimpArgs false
set_option maxRecDepth 100000
namespace Go.Proofs.Ytjgnnbbimkhjjaa
open Go.RowKit
/-- A row of cells that holds these draws, the first of them at place f of the ring. -/
structure Ring (cs : List Value) (f : Nat) (L : List Nat) : Prop where
  len : cs.length = 67
  made : cs[0]? = some (.bool true)
  few : L.length ≤ 64
  small : ∀ x ∈ L, x < 4294967296
  lt : f < 64
  fst : cs[65]? = some (.int .i64 (f : Int))
  left : cs[66]? = some (.int .i64 (L.length : Int))
  ring : ∀ (i : Nat) x, L[i]? = some x → cs[1 + (f + i) % 64]? = some (.int .u32 (x : Int))
  one : ∀ v ∈ cs, v.oneCell' = true
/-- Draws in block p. -/
structure DAt (w : World) (p : Nat) (L : List Nat) : Prop where
  ok : ∃ cs f, Ring cs f L ∧ w.rangeAt p 0 cs
  hot : ∀ i, w.frozen? ⟨p, i, none⟩ = false
theorem rangeAt_set {w : World} {p : Nat} {cs : List Value} (h : w.rangeAt p 0 cs) {j : Nat} (hj : j < cs.length) (v : Value) : (w.setCell ⟨p, j, none⟩ v).rangeAt p 0 (cs.set j v) := by
  intro i u hu
  by_cases e : j = i
  · subst e
    rw [List.getElem?_set_self hj] at hu
    injection hu with hu
    subst hu
    have := h j cs[j] (List.getElem?_eq_getElem hj)
    rw [Nat.zero_add] at this ⊢
    exact World.cell?_setCell_same w _ _ this
  · rw [List.getElem?_set_ne e] at hu
    have := h i u hu
    rw [Nat.zero_add] at this ⊢
    rw [World.cell?_setCell_other _ _ _ _ (fun h => e (by injection h))]
    exact this
theorem grown_set (w : World) (p j : Nat) (v : Value) : w.grownBy (w.setCell ⟨p, j, none⟩ v) (some p) :=
  ⟨rfl, rfl, rfl, by simp [World.setCell], fun k _ hk => Below.heap_setCell _ _ _ k (fun e => hk (by rw [e]))⟩
theorem grown_drew {w w' : World} {row : Option Nat} (h : w.grownBy w' row) : w.grownBy w'.drew row := ⟨h.os, h.tape, h.output, h.size, h.block⟩
theorem grown_trans {a b c : World} {row : Option Nat} (h : a.grownBy b row) (k : b.grownBy c row) : a.grownBy c row :=
  ⟨k.os.trans h.os, k.tape.trans h.tape, k.output.trans h.output, Nat.le_trans h.size k.size, fun i hi hne => (k.block i (Nat.lt_of_lt_of_le hi h.size) hne).trans (h.block i hi hne)⟩
theorem grown_of_below {w w' : World} (h : Below w.heap.size w w') (row : Option Nat) : w.grownBy w' row := ⟨h.os, h.tape, h.output, h.size, fun k hk _ => h.block k hk⟩
theorem grown_refl (w : World) (row : Option Nat) : w.grownBy w row := ⟨rfl, rfl, rfl, Nat.le_refl _, fun _ _ _ => rfl⟩
/-- Cells of draws, as a walk asks for them. -/
theorem DAt.cell {w : World} {p : Nat} {cs : List Value} (hr : w.rangeAt p 0 cs) {i : Nat} {v : Value} (h : cs[i]? = some v) : w.cell? ⟨p, i, none⟩ = some v := by
  have := hr i v h
  rwa [Nat.zero_add] at this
theorem DAt.lt {w : World} {p : Nat} {L : List Nat} (h : DAt w p L) : p < w.heap.size := by
  obtain ⟨⟨cs, f, hR, hr⟩, _⟩ := h
  exact World.block_lt_of_cell? w _ (DAt.cell hr hR.made)
theorem DAt.kept {w w' : World} {p : Nat} {L : List Nat} {row : Option Nat} (h : DAt w p L) (hg : w.grownBy w' row) (hne : some p ≠ row) : DAt w' p L := by
  have hl := h.lt
  obtain ⟨⟨cs, f, hR, hr⟩, hh⟩ := h
  have hb := hg.block p hl hne
  exact ⟨⟨cs, f, hR, fun j v hj => (World.cell?_of_block (w := w) (a := ⟨p, 0 + j, none⟩) hb).trans (hr j v hj)⟩, fun i => (World.frozen?_of_block (w := w) (a := ⟨p, i, none⟩) hb).trans (hh i)⟩
theorem DAt.below {w w' : World} {p : Nat} {L : List Nat} (h : DAt w p L) (hb : Below w.heap.size w w') : DAt w' p L := h.kept (grown_of_below hb none) (by simp)
theorem DAt.drew {w : World} {p : Nat} {L : List Nat} (h : DAt w p L) : DAt w.drew p L := ⟨h.ok, h.hot⟩
/-- One more waits. -/
theorem Ring.push {cs : List Value} {f : Nat} {L : List Nat} (h : Ring cs f L) (hl : L.length < 64) {n : Nat} (hn : n < 4294967296) :
    Ring ((cs.set (1 + (f + L.length) % 64) (.int .u32 (n : Int))).set 66 (.int .i64 ((L.length : Int) + 1))) f (L ++ [n]) := by
  obtain ⟨hlen, hm, hfew, hs, hf, hfst, hleft, hring, hone⟩ := h
  have hk : (f + L.length) % 64 < 64 := Nat.mod_lt _ (by decide)
  refine ⟨by simp [hlen], ?_, by simp; omega, ?_, hf, ?_, ?_, ?_, ?_⟩
  · rw [List.getElem?_set_ne (by omega), List.getElem?_set_ne (by omega)]; exact hm
  · intro x hx
    rcases List.mem_append.1 hx with hx | hx
    · exact hs x hx
    · rw [List.mem_singleton.1 hx]; exact hn
  · rw [List.getElem?_set_ne (by omega), List.getElem?_set_ne (by omega)]; exact hfst
  · rw [List.getElem?_set_self (by simp [hlen])]; simp
  · intro i x hx
    have hi : i < (L ++ [n]).length := (List.getElem?_eq_some_iff.1 hx).1
    have hik : (f + i) % 64 < 64 := Nat.mod_lt _ (by decide)
    simp at hi
    rw [List.getElem?_set_ne (by omega)]
    by_cases e : i = L.length
    · subst e
      rw [List.getElem?_append_right (Nat.le_refl _), Nat.sub_self] at hx
      injection hx with hx
      subst hx
      rw [List.getElem?_set_self (by omega)]
    · rw [List.getElem?_append_left (by omega)] at hx
      rw [List.getElem?_set_ne (by omega)]
      exact hring i x hx
  · intro v hv
    rcases List.mem_or_eq_of_mem_set hv with hv | rfl
    · rcases List.mem_or_eq_of_mem_set hv with hv | rfl
      · exact hone v hv
      · rfl
    · rfl
/-- The first one waits no more. -/
theorem Ring.take {cs : List Value} {f x : Nat} {L : List Nat} (h : Ring cs f (x :: L)) :
    Ring ((cs.set 65 (.int .i64 (((f : Int) + 1) % 64))).set 66 (.int .i64 (((x :: L).length : Int) - 1))) ((f + 1) % 64) L := by
  obtain ⟨hlen, hm, hfew, hs, hf, hfst, hleft, hring, hone⟩ := h
  have hk : (f + 1) % 64 < 64 := Nat.mod_lt _ (by decide)
  simp at hfew
  refine ⟨by simp [hlen], ?_, by omega, fun y hy => hs y (List.mem_cons_of_mem _ hy), hk, ?_, ?_, ?_, ?_⟩
  · rw [List.getElem?_set_ne (by omega), List.getElem?_set_ne (by omega)]; exact hm
  · rw [List.getElem?_set_ne (by omega), List.getElem?_set_self (by omega)]; simp
  · rw [List.getElem?_set_self (by simp [hlen])]; simp
  · intro i y hy
    have hik : ((f + 1) % 64 + i) % 64 < 64 := Nat.mod_lt _ (by decide)
    rw [List.getElem?_set_ne (by omega), List.getElem?_set_ne (by omega)]
    have := hring (i + 1) y (by simpa using hy)
    rw [show ((f + 1) % 64 + i) % 64 = (f + (i + 1)) % 64 by omega]
    exact this
  · intro v hv
    rcases List.mem_or_eq_of_mem_set hv with hv | rfl
    · rcases List.mem_or_eq_of_mem_set hv with hv | rfl
      · exact hone v hv
      · rfl
    · rfl
/-- A zero one's cells. -/
def zer : List Value := .bool false :: (List.replicate 64 (.int .u32 0) ++ [.int .i64 0, .int .i64 0])
theorem zero42 (w : World) : (zeroValue 42).run Try.prog w = .ok (.agg zer.toArray) w := by kernel_rfl
theorem ring_new : Ring (zer.set 0 (.bool true)) 0 [] := by
  refine ⟨by rfl, by rfl, by decide, by simp, by decide, by rfl, by rfl, by simp, ?_⟩
  decide
theorem new_any (w : World) : Calls Try.prog 8 #[] w fun e w' => e = .returned (.pointer (some ⟨w.heap.size, 0, none⟩)) ∧ DAt w' w.heap.size [] ∧ Below w.heap.size w w' := by
  obtain ⟨Z, hZ⟩ : ∃ Z, Z = zer.toArray := ⟨_, rfl⟩
  have hz := zero42 w
  have hne : Z ≠ #[] := by rw [hZ]; intro h; exact absurd (congrArg Array.size h) (by decide)
  rw [← hZ] at hz
  have HZ : Hid (Z.setIfInBounds 0 (.bool true) = (zer.set 0 (.bool true)).toArray) := by unfold Hid; rw [hZ]; simp
  clear hZ
  go_enter Try.func8, Try.ntmps8
  go_wp2
  go_ret
  refine ⟨rfl, ⟨⟨_, 0, ring_new, fun j v hj => ?_⟩, fun i => ?_⟩, (Below.refl _ _).alloc (Nat.le_refl _) _⟩
  · rw [HZ.out, Nat.zero_add]
    simp only [World.cell?, heap_alloc_new]
    simpa using hj
  · simp only [World.frozen?, heap_alloc_new]
    simp
theorem there_yes {w : World} {p : Nat} {L : List Nat} (h : DAt w p L) : Calls Try.prog 17 #[.pointer (some ⟨p, 0, none⟩)] w fun e w' => e = .returned (.bool true) ∧ w' = w := by
  obtain ⟨⟨cs, f, hR, hr⟩, _⟩ := h
  have hc := DAt.cell hr hR.made
  clear hR hr
  go_enter Try.func17, Try.ntmps17
  go_wp2
  go_ret
  exact ⟨rfl, rfl⟩
theorem there_nil (w : World) : Calls Try.prog 17 #[.pointer none] w fun e w' => e = .returned (.bool false) ∧ w' = w := by
  go_enter Try.func17, Try.ntmps17
  go_wp2
  go_ret
  exact ⟨rfl, rfl⟩
theorem there_none {w : World} {p : Nat} (hc : w.cell? ⟨p, 0, none⟩ = some (.bool false)) : Calls Try.prog 17 #[.pointer (some ⟨p, 0, none⟩)] w fun e w' => e = .returned (.bool false) ∧ w' = w := by
  go_enter Try.func17, Try.ntmps17
  go_wp2
  go_ret
  exact ⟨rfl, rfl⟩
theorem left_any {w : World} {p : Nat} {L : List Nat} (h : DAt w p L) : Calls Try.prog 13 #[.pointer (some ⟨p, 0, none⟩)] w fun e w' => e = .returned (.int .i64 (L.length : Int)) ∧ w' = w := by
  have HT : Hid (_ : Prop) := there_yes h
  obtain ⟨⟨cs, f, hR, hr⟩, _⟩ := h
  have hc := DAt.cell hr hR.left
  clear hR hr
  go_enter Try.func13, Try.ntmps13
  go_wp2_with (go_at_call 17; refine Calls.mono HT.out ?_; rintro e w' ⟨rfl, rfl⟩)
  go_ret
  exact ⟨rfl, rfl⟩
/-- Draws that are none: no pointer, or a zero one. -/
def NoD (w : World) (a : Option Addr) : Prop := a = none ∨ ∃ p, a = some ⟨p, 0, none⟩ ∧ w.cell? ⟨p, 0, none⟩ = some (.bool false)
theorem there_no {w : World} {a : Option Addr} (h : NoD w a) : Calls Try.prog 17 #[.pointer a] w fun e w' => e = .returned (.bool false) ∧ w' = w := by
  rcases h with rfl | ⟨p, rfl, hc⟩
  · exact there_nil w
  · exact there_none hc
theorem left_no {w : World} {a : Option Addr} (h : NoD w a) : Calls Try.prog 13 #[.pointer a] w fun e w' => e = .returned (.int .i64 0) ∧ w' = w := by
  have HT : Hid (_ : Prop) := there_no h
  clear h
  go_enter Try.func13, Try.ntmps13
  go_wp2_with (go_at_call 17; refine Calls.mono HT.out ?_; rintro e w' ⟨rfl, rfl⟩)
  go_ret
  exact ⟨rfl, rfl⟩
theorem push_no {w : World} {a : Option Addr} (h : NoD w a) (n : Int) : Calls Try.prog 9 #[.pointer a, .int .u32 n] w fun e w' => e = .returned (.int .i64 1) ∧ w' = w := by
  have HT : Hid (_ : Prop) := there_no h
  clear h
  go_enter Try.func9, Try.ntmps9
  go_wp2_with (go_at_call 17; refine Calls.mono HT.out ?_; rintro e w' ⟨rfl, rfl⟩)
  go_ret
  exact ⟨rfl, rfl⟩
theorem copy_no {w : World} {a : Option Addr} (h : NoD w a) : Calls Try.prog 12 #[.pointer a] w fun e w' => e = .returned (.pointer none) ∧ w' = w := by
  have HT : Hid (_ : Prop) := there_no h
  clear h
  go_enter Try.func12, Try.ntmps12
  go_wp2_with (go_at_call 17; refine Calls.mono HT.out ?_; rintro e w' ⟨rfl, rfl⟩)
  go_ret
  exact ⟨rfl, rfl⟩
theorem take_no {w : World} {a : Option Addr} (h : NoD w a) : Calls Try.prog 19 #[.pointer a] w fun e w' => e = .returned (.tuple #[.int .u32 0, .bool false]) ∧ w' = w := by
  have HT : Hid (_ : Prop) := left_no h
  clear h
  go_enter Try.func19, Try.ntmps19
  go_wp2_with (go_at_call 13; refine Calls.mono HT.out ?_; rintro e w' ⟨rfl, rfl⟩)
  go_ret2
  exact ⟨rfl, rfl⟩
theorem take_nil {w : World} {p : Nat} (h : DAt w p []) : Calls Try.prog 19 #[.pointer (some ⟨p, 0, none⟩)] w fun e w' => e = .returned (.tuple #[.int .u32 0, .bool false]) ∧ w' = w := by
  have HT : Hid (_ : Prop) := left_any h
  clear h
  go_enter Try.func19, Try.ntmps19
  go_wp2_with (go_at_call 13; refine Calls.mono HT.out ?_; rintro e w' ⟨rfl, rfl⟩)
  go_ret2
  exact ⟨rfl, rfl⟩
theorem take_cons {w : World} {p x : Nat} {L : List Nat} (h : DAt w p (x :: L)) : Calls Try.prog 19 #[.pointer (some ⟨p, 0, none⟩)] w fun e w' => e = .returned (.tuple #[.int .u32 (x : Int), .bool true]) ∧ DAt w' p L ∧ w.grownBy w' (some p) := by
  have HT : Hid (_ : Prop) := left_any h
  obtain ⟨⟨cs, f, hR, hr⟩, hh⟩ := h
  have h1 := DAt.cell hr hR.fst
  have h2 := DAt.cell hr hR.left
  have hf := hR.lt
  have h3 : w.cell? ⟨p, 1 + f, none⟩ = some (.int .u32 (x : Int)) := DAt.cell hr (by have := hR.ring 0 x rfl; rwa [Nat.add_zero, Nat.mod_eq_of_lt hf] at this)
  have HH : Hid (DAt (((w.setCell ⟨p, 65, none⟩ (.int .i64 (((f : Int) + 1) % 64))).setCell ⟨p, 66, none⟩ (.int .i64 (((x :: L).length : Int) - 1))).drew) p L) :=
    ⟨⟨_, _, hR.take, rangeAt_set (rangeAt_set hr (by have := hR.len; omega) _) (by simp [hR.len]) _⟩, fun i => by simpa using hh i⟩
  have hl0 : ¬ (((x :: L).length : Nat) : Int) = 0 := by simp; omega
  have hl : (((x :: L).length : Nat) : Int) ≤ 64 := by have := hR.few; omega
  generalize (x :: L).length = l at *
  clear hR hr
  go_enter Try.func19, Try.ntmps19
  go_wp2_with (go_at_call 13; refine Calls.mono HT.out ?_; rintro e w' ⟨rfl, rfl⟩)
  go_region_held (fun w' => w'.cell? ⟨p, 65, none⟩ = some (.int .i64 (f : Int)) ∧ w'.cell? ⟨p, 1 + f, none⟩ = some (.int .u32 (x : Int))) (go_keep) (fail)
  go_wp2
  go_ret2
  exact ⟨rfl, HH.out, grown_drew (grown_trans (grown_set _ _ _ _) (grown_set _ _ _ _))⟩
theorem push_full {w : World} {p : Nat} {L : List Nat} (h : DAt w p L) (hl : 64 ≤ L.length) (n : Int) : Calls Try.prog 9 #[.pointer (some ⟨p, 0, none⟩), .int .u32 n] w fun e w' => e = .returned (.int .i64 7) ∧ w' = w := by
  have HT : Hid (_ : Prop) := there_yes h
  obtain ⟨⟨cs, f, hR, hr⟩, hh⟩ := h
  have h2 := DAt.cell hr hR.left
  have hl' : (64 : Int) ≤ (L.length : Int) := by omega
  clear hR hr
  generalize L.length = l at *
  go_enter Try.func9, Try.ntmps9
  go_wp2_with (go_at_call 17; refine Calls.mono HT.out ?_; rintro e w' ⟨rfl, rfl⟩)
  go_ret
  exact ⟨rfl, rfl⟩
theorem push_ok {w : World} {p : Nat} {L : List Nat} (h : DAt w p L) (hl : L.length < 64) {n : Nat} (hn : n < 4294967296) : Calls Try.prog 9 #[.pointer (some ⟨p, 0, none⟩), .int .u32 (n : Int)] w fun e w' => e = .returned (.int .i64 0) ∧ DAt w' p (L ++ [n]) ∧ w.grownBy w' (some p) := by
  have HT : Hid (_ : Prop) := there_yes h
  obtain ⟨⟨cs, f, hR, hr⟩, hh⟩ := h
  have h1 := DAt.cell hr hR.fst
  have h2 := DAt.cell hr hR.left
  have hf := hR.lt
  have hlen := hR.len
  have HH : Hid (DAt (((w.setCell ⟨p, 1 + (f + L.length) % 64, none⟩ (.int .u32 (n : Int))).setCell ⟨p, 66, none⟩ (.int .i64 ((L.length : Int) + 1))).drew) p (L ++ [n])) :=
    ⟨⟨_, _, hR.push hl hn, rangeAt_set (rangeAt_set hr (by omega) _) (by simp [hR.len]) _⟩, fun i => by simpa using hh i⟩
  have hl' : ¬ (64 : Int) ≤ (L.length : Int) := by omega
  obtain ⟨u, h3⟩ : ∃ u, w.cell? ⟨p, 1 + (f + L.length) % 64, none⟩ = some u := ⟨_, DAt.cell hr (List.getElem?_eq_getElem (by omega))⟩
  clear hR hr
  generalize L.length = l at *
  have hs : IntKind.i64.wrap ((f : Int) + (l : Int)) = ((f + l : Nat) : Int) := wrap_small _ (by omega) (by omega)
  have hk : ((f + l : Nat) : Int).tmod 64 = (((f + l) % 64 : Nat) : Int) := by rw [Int.tmod_eq_emod_of_nonneg (by omega)]; push_cast; rfl
  have hkk : (((f + l) % 64 : Nat) : Int) < 64 := by omega
  have hkn : (f + l) % 64 < 64 := by omega
  generalize (f + l) % 64 = k at *
  generalize f + l = s at *
  have g1 : ∀ v, (w.setCell ⟨p, 1 + k, none⟩ v).cell? ⟨p, 65, none⟩ = some (.int .i64 (f : Int)) := fun v => by rw [World.cell?_setCell_other _ _ _ _ (by intro e; injection e; omega)]; exact h1
  have g2 : ∀ v, (w.setCell ⟨p, 1 + k, none⟩ v).cell? ⟨p, 66, none⟩ = some (.int .i64 (l : Int)) := fun v => by rw [World.cell?_setCell_other _ _ _ _ (by intro e; injection e; omega)]; exact h2
  go_enter Try.func9, Try.ntmps9
  go_wp2_with (go_at_call 17; refine Calls.mono HT.out ?_; rintro e w' ⟨rfl, rfl⟩)
  go_region_held (fun w' => w'.cell? ⟨p, 65, none⟩ = some (.int .i64 (f : Int)) ∧ w'.cell? ⟨p, 66, none⟩ = some (.int .i64 (l : Int))) (first | go_keep | simp [g1, g2]) (fail)
  go_wp2
  go_ret
  exact ⟨rfl, HH.out, grown_drew (grown_trans (grown_set _ _ _ _) (grown_set _ _ _ _))⟩
end Go.Proofs.Ytjgnnbbimkhjjaa
