/-
  The contract of Covers, for every two prefixes.
-/
import Derived.Test.YtjchobcmbkiilaaGreatDoorpB6
namespace Go.Proofs.YtjchobcmbkiilaaGreatDoor.Pr
open Go.RowKit
/-- Does the first prefix cover the second one? -/
def covB (fa ra : Int) (sa : ByteArray) (la : Int) (fb rb : Int) (sb : ByteArray) (lb : Int) : Bool :=
  decide (chk fb rb sb lb = 0 ∧ 0 ≤ la ∧ la ≤ lb ∧ fb = fa ∧ rb = ra ∧ msk sb.data.toList la = sa.data.toList)
theorem ret_bool {a b : Bool} (h : a = b) : Ending.returned (.bool a) = .returned (.bool b) := by rw [h]
set_option maxRecDepth 100000 in
set_option maxHeartbeats 400000 in
theorem covers_no (fa ra : Int) (sa : ByteArray) (la : Int) (fb rb : Int) (sb : ByteArray) (lb : Int) (w : World) (hg : FamSizes w) (hr : FamRds w) (h : ¬ (chk fb rb sb lb = 0 ∧ 0 ≤ la ∧ la ≤ lb)) :
    Calls Tryz.prog 39 #[.agg #[.int .i64 fa, .int .u64 ra, .string sa, .int .i64 la], .agg #[.int .i64 fb, .int .u64 rb, .string sb, .int .i64 lb]] w fun e w' => e = .returned (.bool false) ∧ Below w.heap.size w w' := by
  have hB : Below w.heap.size w ((w.alloc (.cells #[.int .i64 fa, .int .u64 ra, .string sa, .int .i64 la] 29)).alloc (.cells #[.int .i64 fb, .int .u64 rb, .string sb, .int .i64 lb] 29)) := ((Below.refl _ _).alloc (Nat.le_refl _) _).alloc (by simp) _
  have H : Hid (¬ (chk fb rb sb lb = 0 ∧ 0 ≤ la ∧ la ≤ lb)) := h
  clear h
  go_enter Tryz.func39, Tryz.ntmps39
  go_wp2_with fail
  refine (cut_no fb rb sb lb la _ (hg.below hB) (hr.below hB) H.out).mono ?_
  rintro e w1 ⟨rfl, hb1⟩
  have hs1 : w.heap.size + 1 + 1 ≤ w1.heap.size := by have := hb1.size; simpa using this
  clear hg hr
  go_wp2
  go_ret
  exact ⟨rfl, (hB.trans (hb1.mono (by simp; omega))).alloc (by omega) _⟩
set_option maxRecDepth 100000 in
set_option maxHeartbeats 400000 in
theorem covers_yes (fa ra : Int) (sa : ByteArray) (la : Int) (fb rb : Int) (sb : ByteArray) (lb : Int) (w : World) (hg : FamSizes w) (hr : FamRds w) (h : chk fb rb sb lb = 0) (h0 : 0 ≤ la) (h1 : la ≤ lb) :
    Calls Tryz.prog 39 #[.agg #[.int .i64 fa, .int .u64 ra, .string sa, .int .i64 la], .agg #[.int .i64 fb, .int .u64 rb, .string sb, .int .i64 lb]] w fun e w' => e = .returned (.bool (decide (fb = fa ∧ rb = ra ∧ msk sb.data.toList la = sa.toList))) ∧ Below w.heap.size w w' := by
  have hB : Below w.heap.size w ((w.alloc (.cells #[.int .i64 fa, .int .u64 ra, .string sa, .int .i64 la] 29)).alloc (.cells #[.int .i64 fb, .int .u64 rb, .string sb, .int .i64 lb] 29)) := ((Below.refl _ _).alloc (Nat.le_refl _) _).alloc (by simp) _
  have p0 : PfxAt ((w.alloc (.cells #[.int .i64 fa, .int .u64 ra, .string sa, .int .i64 la] 29)).alloc (.cells #[.int .i64 fb, .int .u64 rb, .string sb, .int .i64 lb] 29)) w.heap.size fa ra sa la :=
    (PfxAt.of_alloc w _ fa ra sa la rfl).kept (B := w.heap.size + 1) ((Below.refl _ _).alloc (by simp) _) (by simp)
  have H : Hid (chk fb rb sb lb = 0) := h
  clear h
  go_enter Tryz.func39, Tryz.ntmps39
  go_wp2_with fail
  refine (cut_yes fb rb sb lb la _ (hg.below hB) (hr.below hB) H.out h0 h1).mono ?_
  rintro e w1 ⟨rfl, hb1⟩
  have hs1 : w.heap.size + 1 + 1 ≤ w1.heap.size := by have := hb1.size; simpa using this
  have hs2 : w.heap.size < w1.heap.size := by omega
  obtain ⟨c0, c1, c2, c3, f0, f1, f2, f3⟩ := p0.kept hb1 (by simp; omega)
  clear hg hr p0
  have hbb : Below w.heap.size w w1 := hB.trans (hb1.mono (by simp; omega))
  have hsz : w.heap.size ≤ w1.heap.size := by omega
  go_wp2
  all_goals go_ret
  all_goals exact ⟨ret_bool (by simp [*]), hbb.alloc hsz _⟩
theorem covers_any (fa ra : Int) (sa : ByteArray) (la : Int) (fb rb : Int) (sb : ByteArray) (lb : Int) (w : World) (hg : FamSizes w) (hr : FamRds w) :
    Calls Tryz.prog 39 #[.agg #[.int .i64 fa, .int .u64 ra, .string sa, .int .i64 la], .agg #[.int .i64 fb, .int .u64 rb, .string sb, .int .i64 lb]] w fun e w' => e = .returned (.bool (covB fa ra sa la fb rb sb lb)) ∧ Below w.heap.size w w' := by
  by_cases h : chk fb rb sb lb = 0 ∧ 0 ≤ la ∧ la ≤ lb
  · have := covers_yes fa ra sa la fb rb sb lb w hg hr h.1 h.2.1 h.2.2
    have e : decide (fb = fa ∧ rb = ra ∧ msk sb.data.toList la = sa.toList) = covB fa ra sa la fb rb sb lb := by
      unfold covB
      rw [ByteArray.toList_eq]
      simp [h.1, h.2.1, h.2.2]
    rw [e] at this
    exact this
  · have := covers_no fa ra sa la fb rb sb lb w hg hr h
    have e : covB fa ra sa la fb rb sb lb = false := by
      unfold covB
      exact decide_eq_false (fun g => h ⟨g.1, g.2.1, g.2.2.1⟩)
    rw [e]
    exact this
end Go.Proofs.YtjchobcmbkiilaaGreatDoor.Pr
