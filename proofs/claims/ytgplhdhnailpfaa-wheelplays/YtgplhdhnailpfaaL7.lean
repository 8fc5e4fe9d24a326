/-
  The wheel's Copy.
-/
import Derived.Test.YtgplhdhnailpfaaC1
import Derived.Test.YtgplhdhnailpfaaB3
import Derived.Shelf.SlMaps.Clone
set_option linter.unusedSimpArgs false
set_option maxRecDepth 100000
namespace Go.Proofs.Ytgplhdhnailpfaa
open Go.RowKit Go.Maps Go.Shelf
set_option maxHeartbeats 1000000 in
theorem clone_any (b : Nat) (es : Array MapEntry) (clock : Nat) (w : World) (hb : w.heap[b]? = some (.map es clock)) :
    Calls Try.prog 38 #[.map (some b)] w fun e w' => e = .returned (.map (some w.heap.size)) ∧ w' = w.alloc (.map es clock) := by
  have hq := map_eql b
  go_enter Try.func38, Try.ntmps38
  go_wp2
  rw [run_callFunc_extern Try.func48 (by kernel_rfl) (by kernel_rfl) (by kernel_rfl) (e := Extern.MapsClone.clone) (by kernel_rfl), run_maps_clone_sl w 60 hb]
  simp only [Result.andThen]
  rw [Oper.upon_value]
  go_wp2
  rw [run_typeAssert_map_sl _ 60 20 _ _ _ Try.underlying60]
  simp only [Result.andThen]
  rw [Oper.upon_value]
  go_wp2
  go_ret
  exact ⟨rfl, rfl⟩
theorem cloneM_any {w : World} {b : Nat} {L : List Fd} (h : MpAt w b L) : Calls Try.prog 38 #[.map (some b)] w fun e w' => e = .returned (.map (some w.heap.size)) ∧ MpAt w' w.heap.size L ∧ Below w.heap.size w w' := by
  obtain ⟨hw, D, hown, hr⟩ := h
  obtain ⟨es, clock, hb, F, hs, hD⟩ := hown
  refine (clone_any b es clock w hb).mono ?_
  rintro e w' ⟨he, rfl⟩
  exact ⟨he, ⟨hw, D, ⟨es, clock, (MapKept.heap_alloc w _).1, F, hs, hD⟩, hr⟩, (Below.refl _ w).alloc (Nat.le_refl _) _⟩
theorem copy_any {p b : Nat} {L : List Fd} {w : World} (h : WhAt w p b L) : Calls Try.prog 21 #[.pointer (some ⟨p, 0, none⟩)] w fun e w' => ∃ c, e = .returned (.pointer (some ⟨c, 0, none⟩)) ∧ WhAt w' c w.heap.size L ∧ c ≠ b ∧ Below w.heap.size w w' := by
  have hq := map_eql b
  have HC : Hid (_ : Prop) := cloneM_any h.m
  have HB : Hid (b < w.heap.size) := h.m.lt
  go_enter Try.func21, Try.ntmps21
  go_wp2_with (first | (go_at_call 26; refine (timers_yes h).mono ?_; rintro e w' ⟨rfl, rfl⟩) | (go_at_call 38; refine Calls.mono HC.out ?_; rintro e w2 ⟨rfl, hm2, hb2⟩))
  go_ret
  refine ⟨_, rfl, ⟨by simp, hm2.alloc _⟩, ?_, hb2.alloc hb2.size _⟩
  have := HB.out
  have := hb2.size
  omega
end Go.Proofs.Ytgplhdhnailpfaa
