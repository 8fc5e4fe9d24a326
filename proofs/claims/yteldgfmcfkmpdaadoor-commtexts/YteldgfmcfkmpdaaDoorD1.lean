/-
  What Decode is made of: take, the closure that reads one, the closure that tells what is new.
-/
import Derived.Test.YteldgfmcfkmpdaaDoorA2
import Derived.Test.YteldgfmcfkmpdaaDoorW7
import Derived.Maps.OwnSet
import Derived.Laws.AppendOwn
namespace Go.Proofs.YteldgfmcfkmpdaaDoor
open Go.RowKit Go.Maps
theorem take_num (p : Nat) (s : ByteArray) (n : Nat) (w : World) (h : RdrAt w p s) (h0 : 1 ≤ n) (h1 : n ≤ 8) (hn : n ≤ s.size) :
    Calls Tryd.prog 67 #[.pointer (some ⟨p, 0, none⟩), .int .i64 (n : Int)] w fun e w' =>
      e = .returned (.int .u64 (worth (s.data.toList.take n) : Int)) ∧ RdrAt w' p (s.extract n s.size) ∧ Beside p w w' := by
  go_enter Tryd.func67, Tryd.ntmps67
  go_wp2_with fail
  refine (num_yes p s n w h h0 h1 hn).mono ?_
  rintro e w' ⟨rfl, h2, h3⟩
  go_wp2
  go_ret
  exact ⟨rfl, h2, h3⟩
theorem read4 (p : Nat) (s : ByteArray) (w : World) (h : RdrAt w p s) (hn : 4 ≤ s.size) :
    Calls Tryd.prog 66 #[.pointer (some ⟨p, 0, none⟩)] w fun e w' =>
      e = .returned (.int .u32 (worth (s.data.toList.take 4) : Int)) ∧ RdrAt w' p (s.extract 4 s.size) ∧ Beside p w w' := by
  have hx : worth (s.data.toList.take 4) < 4294967296 := by
    have := worth_lt (s.data.toList.take 4)
    have hl : (s.data.toList.take 4).length ≤ 4 := by simp; omega
    exact Nat.lt_of_lt_of_le this (Nat.le_trans (Nat.pow_le_pow_right (by omega) hl) (by decide))
  have hT := take_num p s 4 w h (by omega) (by omega) hn
  generalize worth (s.data.toList.take 4) = x at *
  go_enter Tryd.func66, Tryd.ntmps66
  go_wp2_with fail
  refine hT.mono ?_
  rintro e w' ⟨rfl, h2, h3⟩
  go_wp2
  go_ret
  exact ⟨rfl, h2, h3⟩
theorem keyU : Keyed Tryd.prog 23 := int_keyed Tryd.underlying23
theorem zero90 (w : World) : (zeroValue 90).run Tryd.prog w = .ok (.agg #[]) w := by kernel_rfl
theorem wfU (x : Nat) (h : x < 4294967296) : (Lit.int .u32 (x : Int)).wf = true := by
  have h0 : IntKind.u32.min = 0 := rfl
  have h1 : IntKind.u32.max = 4294967295 := rfl
  simp [Lit.wf, h0, h1]; omega
/-- The numbers that were met stand in a map in block m. -/
def SetAt (w : World) (m n : Nat) (l : List Nat) : Prop := ∃ D : DataW Unit, w.ownsMap Tryd.prog 23 unitElem m n D ∧ ∀ x : Nat, x < 4294967296 → Maps.has D (.int .u32 (x : Int)) = decide (x ∈ l)
theorem SetAt.kept {w w' : World} {m n : Nat} {l : List Nat} {row : Option Nat} (h : SetAt w m n l) (hg : w.grownBy w' row) (hne : some m ≠ row) : SetAt w' m n l := by
  obtain ⟨D, h1, h2⟩ := h
  exact ⟨D, h1.kept hg hne, h2⟩
/-- What the closure that tells what is new has: its variable in block b, the map in block m. -/
structure MetAt (w : World) (b m n : Nat) (l : List Nat) : Prop where
  c : w.cell? ⟨b, 0, none⟩ = some (.map (some m))
  set : SetAt w m n l
  ne : b ≠ m
theorem MetAt.kept {w w' : World} {b m n : Nat} {l : List Nat} {row : Option Nat} (h : MetAt w b m n l) (hg : w.grownBy w' row) (hb : some b ≠ row) (hm : some m ≠ row) : MetAt w' b m n l :=
  ⟨hg.cell h.c hb, h.set.kept hg hm, h.ne⟩
theorem mark_nil (w : World) : Calls Tryd.prog 60 #[.slice none 0 0] w fun e w' => e = .returned (.map (some w.heap.size)) ∧ w' = w.alloc (.map #[] 0) := by
  have hmm : ∀ W, (Instr.makeMap 88 (some (.int .i64 0))).run Tryd.prog W = .ok (.map (some W.heap.size)) (W.alloc (.map #[] 0)) := fun W => by kernel_rfl
  go_enter Tryd.func60, Tryd.ntmps60
  go_wp2
  refine wp_loop_rounds 1 ?_
  rw [rounds_succ]
  go_wp2
  go_ret
  exact ⟨rfl, rfl⟩
theorem first_nil (w : World) : Calls Tryd.prog 35 #[.slice none 0 0] w fun e w' => e = .returned (.func (.func 61) #[] #[.pointer (some ⟨w.heap.size + 1, 0, none⟩)]) ∧ MetAt w' (w.heap.size + 1) w.heap.size 0 [] ∧ Below w.heap.size w w' ∧ w'.heap.size = w.heap.size + 2 := by
  have hS : SetAt (w.alloc (.map #[] 0)) w.heap.size 0 [] := ⟨.map [], World.ownsMap_made _ _ _ _, fun x _ => by simp [Maps.has]⟩
  go_enter Tryd.func35, Tryd.ntmps35
  go_wp2_with (go_at_call 60; refine (mark_nil _).mono ?_; rintro e w' ⟨rfl, rfl⟩)
  go_ret
  have hg : (w.alloc (.map #[] 0)).grownBy ((w.alloc (.map #[] 0)).alloc (.cells #[.map (some w.heap.size)] 88)) none := World.grownBy_alloc _ _ _
  refine ⟨rfl, ⟨?_, hS.kept hg (by simp), by omega⟩, ((Below.refl _ _).alloc (Nat.le_refl _) _).alloc (by simp) _, by simp⟩
  rw [World.cell?_alloc_at _ _ _ _ (by simp)]; rfl
theorem met_yes (x b m n : Nat) (l : List Nat) (w : World) (h : MetAt w b m n l) (hx : x < 4294967296) (hl : x ∈ l) :
    Calls Tryd.prog 61 #[.int .u32 (x : Int), .pointer (some ⟨b, 0, none⟩)] w fun e w' => e = .returned (.bool false) ∧ MetAt w' b m n l ∧ w.grownBy w' none := by
  obtain ⟨c, ⟨D, hown, hD⟩, hne⟩ := id h
  have hh : Maps.has D (.int .u32 (x : Int)) = true := by rw [hD x hx]; simpa using hl
  have HM : Hid (MetAt _ _ _ _ _) := h
  clear h hD hl
  go_enter Tryd.func61, Tryd.ntmps61
  go_wp2_with (at_lookup; refine wpList_lookup_own_unit _ rfl _ _ 88 rfl 23 90 keyU Tryd.underlying88 (zero90 _) m n D rfl hown _ _ rfl (keyOf_int_mk Tryd.underlying23 (wfU x hx)) ?_; rw [hh])
  go_ret
  exact ⟨rfl, HM.out.kept (World.grownBy_alloc _ _ none) (by simp) (by simp), World.grownBy_alloc _ _ none⟩
theorem met_no (x b m n : Nat) (l : List Nat) (w : World) (h : MetAt w b m n l) (hx : x < 4294967296) (hl : x ∉ l) (hn : n < 1000000000) :
    Calls Tryd.prog 61 #[.int .u32 (x : Int), .pointer (some ⟨b, 0, none⟩)] w fun e w' => e = .returned (.bool true) ∧ MetAt w' b m (n + 1) (l ++ [x]) ∧ w.grownBy w' (some m) := by
  obtain ⟨c, ⟨D, hown, hD⟩, hne⟩ := id h
  have hh : Maps.has D (.int .u32 (x : Int)) = false := by rw [hD x hx]; simpa using hl
  have HM : Hid (MetAt _ _ _ _ _) := h
  have HD : Hid (_ : Prop) := hD
  clear h hD hl
  have hb := lt_of_cell c
  have hcc : ∀ o, (w.alloc o).cell? ⟨b, 0, none⟩ = some (.map (some m)) := fun o => by rw [World.cell?_alloc_lt _ _ _ hb]; exact c
  go_enter Tryd.func61, Tryd.ntmps61
  go_wp2_with (first
    | (at_lookup; refine wpList_lookup_own_unit _ rfl _ _ 88 rfl 23 90 keyU Tryd.underlying88 (zero90 _) m n D rfl hown _ _ rfl (keyOf_int_mk Tryd.underlying23 (wfU x hx)) ?_; rw [hh])
    | (at_mapUpdate; refine wpList_mapUpdate_own _ rfl _ _ _ 88 rfl 23 90 keyU Tryd.underlying88 _ m n D rfl (hown.alloc _) (by unfold maxLen; omega) _ _ _ rfl rfl (keyOf_int_mk Tryd.underlying23 (wfU x hx)) _ [] unitElem_mk ?_; intro w1 hown1 hgrow1))
  go_ret
  refine ⟨rfl, ⟨hgrow1.cell (hcc _) (by simpa using hne), ⟨_, hown1, ?_⟩, hne⟩, (World.grownBy_alloc _ _ _).trans hgrow1⟩
  intro y hy
  by_cases e : y = x
  · subst e
    rw [Maps.has_put_same hown.isMap (by simp [WideAt.IsKeyLit])]
    simp
  · rw [Maps.has_put_other (by intro he; injection he with _ he; omega), HD.out y hy]
    simp [e]
end Go.Proofs.YteldgfmcfkmpdaaDoor
