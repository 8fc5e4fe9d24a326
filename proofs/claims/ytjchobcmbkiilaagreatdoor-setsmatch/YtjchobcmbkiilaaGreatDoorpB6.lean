/-
  The contract of Cut, for every prefix and number: what it cuts, and what it refuses.
-/
import Derived.Test.YtjchobcmbkiilaaGreatDoorpB5
namespace Go.Proofs.YtjchobcmbkiilaaGreatDoor.Pr
open Go.RowKit

theorem chk_zero {f r : Int} {s : ByteArray} {l : Int} (h : chk f r s l = 0) : szOf f ≠ 0 ∧ (s.size : Int) = szOf f ∧ 0 ≤ l ∧ l ≤ 8 * szOf f ∧ (r = 0 ∨ 4 ≤ f) ∧ msk s.data.toList l = s.data.toList := by
  unfold chk at h
  split at h
  · assumption
  · omega
theorem chk_two {f r : Int} {s : ByteArray} {l : Int} (h : chk f r s l ≠ 0) : chk f r s l = 2 := by
  unfold chk at *
  by_cases c : szOf f ≠ 0 ∧ (s.size : Int) = szOf f ∧ 0 ≤ l ∧ l ≤ 8 * szOf f ∧ (r = 0 ∨ 4 ≤ f) ∧ msk s.data.toList l = s.data.toList
  · rw [if_pos c] at h; exact absurd rfl h
  · rw [if_neg c]

set_option maxRecDepth 100000 in
set_option maxHeartbeats 400000 in
theorem cut_yes (f r : Int) (s : ByteArray) (l n : Int) (w : World) (hg : FamSizes w) (hr : FamRds w) (h : chk f r s l = 0) (h0 : 0 ≤ n) (h1 : n ≤ l) :
    Calls Tryz.prog 73 #[.agg #[.int .i64 f, .int .u64 r, .string s, .int .i64 l], .int .i64 n] w fun e w' =>
      e = .returned (.tuple #[.agg #[.int .i64 f, .int .u64 r, .string ⟨(msk s.data.toList n).toArray⟩, .int .i64 n], .int .i64 0]) ∧ Below w.heap.size w w' := by
  have hz := chk_zero h
  have hzb := szOf_bd f
  have hsz : s.size ≤ 16 := by omega
  have hn : n ≤ 128 := by omega
  clear hz hzb
  have H : Hid (chk f r s l = 0) := h
  clear h
  have hg1 : FamSizes ((w.alloc (.cells #[.int .i64 f, .int .u64 r, .string s, .int .i64 l] 29)).alloc (.cells #[.int .i64 0, .int .u64 0, .string ⟨#[]⟩, .int .i64 0] 29)) := hg.below (((Below.refl _ _).alloc (Nat.le_refl _) _).alloc (by simp) _)
  have hr1 : FamRds ((w.alloc (.cells #[.int .i64 f, .int .u64 r, .string s, .int .i64 l] 29)).alloc (.cells #[.int .i64 0, .int .u64 0, .string ⟨#[]⟩, .int .i64 0] 29)) := hr.below (((Below.refl _ _).alloc (Nat.le_refl _) _).alloc (by simp) _)
  have p0 : PfxAt ((w.alloc (.cells #[.int .i64 f, .int .u64 r, .string s, .int .i64 l] 29)).alloc (.cells #[.int .i64 0, .int .u64 0, .string ⟨#[]⟩, .int .i64 0] 29)) w.heap.size f r s l :=
    (PfxAt.of_alloc w _ f r s l rfl).kept (B := w.heap.size + 1) ((Below.refl _ _).alloc (by simp) _) (by simp)
  have p1 : PfxAt ((w.alloc (.cells #[.int .i64 f, .int .u64 r, .string s, .int .i64 l] 29)).alloc (.cells #[.int .i64 0, .int .u64 0, .string ⟨#[]⟩, .int .i64 0] 29)) (w.heap.size + 1) 0 0 ⟨#[]⟩ 0 :=
    PfxAt.of_alloc (w.alloc _) _ 0 0 ⟨#[]⟩ 0 (by simp)
  go_enter Tryz.func73, Tryz.ntmps73
  go_wp2_with fail
  refine (check_any f r s l _ hg1 hr1).mono ?_
  rintro e w1 ⟨rfl, hb1⟩
  rw [H.out]
  have q0 := p0.kept hb1 (by simp; omega)
  have q1 := p1.kept hb1 (by simp)
  have hs1 : w.heap.size + 1 + 1 ≤ w1.heap.size := by have := hb1.size; simpa using this
  obtain ⟨c0, c1, c2, c3, f0, f1, f2, f3⟩ := q0
  clear hg1 hr1 p0 p1
  go_wp2_with fail
  refine (head_any f r s l n _ hsz h0 hn).mono ?_
  rintro e w2 ⟨rfl, hb2⟩
  obtain ⟨d0, d1, d2, d3, g0, g1, g2, g3⟩ := q1.kept hb2 (by omega)
  clear q1 c0 c1 c2 c3 f0 f1 f2 f3
  go_wp2
  refine bodyPost_ret (v := .tuple #[.agg #[.int .i64 f, .int .u64 r, .string ⟨(msk s.data.toList n).toArray⟩, .int .i64 n], .int .i64 0]) (by simp [results, Tryz.results73, go_sem, d0, d1, d2, d3]) rfl ⟨rfl, ?_⟩
  have hb : Below w.heap.size w w2 := ((((Below.refl _ _).alloc (Nat.le_refl _) _).alloc (by simp) _).trans (hb1.mono (by simp; omega))).trans (hb2.mono (by omega))
  exact (((hb.setCell (by simp) _).setCell (by simp) _).setCell (by simp) _).setCell (by simp) _

set_option maxRecDepth 100000 in
set_option maxHeartbeats 400000 in
theorem cut_no (f r : Int) (s : ByteArray) (l n : Int) (w : World) (hg : FamSizes w) (hr : FamRds w) (h : ¬ (chk f r s l = 0 ∧ 0 ≤ n ∧ n ≤ l)) :
    Calls Tryz.prog 73 #[.agg #[.int .i64 f, .int .u64 r, .string s, .int .i64 l], .int .i64 n] w fun e w' =>
      e = .returned (.tuple #[.agg #[.int .i64 0, .int .u64 0, .string ⟨#[]⟩, .int .i64 0], .int .i64 2]) ∧ Below w.heap.size w w' := by
  have hg1 : FamSizes ((w.alloc (.cells #[.int .i64 f, .int .u64 r, .string s, .int .i64 l] 29)).alloc (.cells #[.int .i64 0, .int .u64 0, .string ⟨#[]⟩, .int .i64 0] 29)) := hg.below (((Below.refl _ _).alloc (Nat.le_refl _) _).alloc (by simp) _)
  have hr1 : FamRds ((w.alloc (.cells #[.int .i64 f, .int .u64 r, .string s, .int .i64 l] 29)).alloc (.cells #[.int .i64 0, .int .u64 0, .string ⟨#[]⟩, .int .i64 0] 29)) := hr.below (((Below.refl _ _).alloc (Nat.le_refl _) _).alloc (by simp) _)
  have p0 : PfxAt ((w.alloc (.cells #[.int .i64 f, .int .u64 r, .string s, .int .i64 l] 29)).alloc (.cells #[.int .i64 0, .int .u64 0, .string ⟨#[]⟩, .int .i64 0] 29)) w.heap.size f r s l :=
    (PfxAt.of_alloc w _ f r s l rfl).kept (B := w.heap.size + 1) ((Below.refl _ _).alloc (by simp) _) (by simp)
  have p1 : PfxAt ((w.alloc (.cells #[.int .i64 f, .int .u64 r, .string s, .int .i64 l] 29)).alloc (.cells #[.int .i64 0, .int .u64 0, .string ⟨#[]⟩, .int .i64 0] 29)) (w.heap.size + 1) 0 0 ⟨#[]⟩ 0 :=
    PfxAt.of_alloc (w.alloc _) _ 0 0 ⟨#[]⟩ 0 (by simp)
  have H : Hid (¬ (chk f r s l = 0 ∧ 0 ≤ n ∧ n ≤ l)) := h
  clear h
  go_enter Tryz.func73, Tryz.ntmps73
  go_wp2_with fail
  refine (check_any f r s l _ hg1 hr1).mono ?_
  rintro e w1 ⟨rfl, hb1⟩
  have q0 := p0.kept hb1 (by simp; omega)
  have q1 := p1.kept hb1 (by simp)
  have hs1 : w.heap.size + 1 + 1 ≤ w1.heap.size := by have := hb1.size; simpa using this
  obtain ⟨c0, c1, c2, c3, f0, f1, f2, f3⟩ := q0
  obtain ⟨d0, d1, d2, d3, g0, g1, g2, g3⟩ := q1
  clear hg1 hr1 p0 p1 hg hr
  have hb : Below w.heap.size w w1 := (((Below.refl _ _).alloc (Nat.le_refl _) _).alloc (by simp) _).trans (hb1.mono (by simp; omega))
  by_cases hc : chk f r s l = 0
  · rw [hc]
    by_cases hn : n < 0
    · go_wp2
      refine bodyPost_ret (v := .tuple #[.agg #[.int .i64 0, .int .u64 0, .string ⟨#[]⟩, .int .i64 0], .int .i64 2]) (by simp [results, Tryz.results73, go_sem, d0, d1, d2, d3]) rfl ⟨rfl, ?_⟩
      exact (((hb.setCell (by simp) _).setCell (by simp) _).setCell (by simp) _).setCell (by simp) _
    · have hn2 : l < n := by have := H.out; omega
      go_wp2
      refine bodyPost_ret (v := .tuple #[.agg #[.int .i64 0, .int .u64 0, .string ⟨#[]⟩, .int .i64 0], .int .i64 2]) (by simp [results, Tryz.results73, go_sem, d0, d1, d2, d3]) rfl ⟨rfl, ?_⟩
      exact (((hb.setCell (by simp) _).setCell (by simp) _).setCell (by simp) _).setCell (by simp) _
  · rw [chk_two hc]
    clear hc
    go_wp2
    refine bodyPost_ret (v := .tuple #[.agg #[.int .i64 0, .int .u64 0, .string ⟨#[]⟩, .int .i64 0], .int .i64 2]) (by simp [results, Tryz.results73, go_sem, d0, d1, d2, d3]) rfl ⟨rfl, ?_⟩
    exact (((hb.setCell (by simp) _).setCell (by simp) _).setCell (by simp) _).setCell (by simp) _
end Go.Proofs.YtjchobcmbkiilaaGreatDoor.Pr
