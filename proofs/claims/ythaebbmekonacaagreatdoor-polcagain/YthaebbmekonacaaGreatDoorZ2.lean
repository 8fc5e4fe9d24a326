/-
  Items that may be.
-/
import Derived.Test.YthaebbmekonacaaGreatDoorY1
import Derived.Test.YthaebbmekonacaaGreatDoorRF
import Derived.Test.YthaebbmekonacaaGreatDoorpB16
set_option linter.unusedVariables false
set_option linter.unusedSimpArgs false
set_option maxRecDepth 100000
namespace Go.Proofs.YthaebbmekonacaaGreatDoor
open Go.RowKit
/-- An item: its prefix, from which to which length. -/
structure Itm where
  f : Int
  r : Int
  s : ByteArray
  l : Int
  lo : Int
  hi : Int
def itC (x : Itm) : Array Value := #[.int .i64 x.f, .int .u64 x.r, .string x.s, .int .i64 x.l, .int .i64 x.lo, .int .i64 x.hi]
def itV (x : Itm) : Value := .agg #[.int .i64 x.f, .int .u64 x.r, .string x.s, .int .i64 x.l, .int .i64 x.lo, .int .i64 x.hi]
def okI (x : Itm) : Bool := decide (Pr.chk x.f x.r x.s x.l = 0) && decide (x.l ≤ x.lo) && decide (x.lo ≤ x.hi) && decide (x.hi ≤ 8 * Pr.szOf x.f)
/-- The two boxes of mayItem. -/
theorem two_box (f r : Int) (s : ByteArray) (l lo hi : Int) (w : World) {W : World} (hW : W = ((w.alloc (.cells #[.int .i64 f, .int .u64 r, .string s, .int .i64 l, .int .i64 lo, .int .i64 hi] 52)).alloc (.cells #[.int .i64 f, .int .u64 r, .string s, .int .i64 l] 50))) :
    Below w.heap.size w W ∧ (W.cell? ⟨w.heap.size, 4, none⟩ = some (.int .i64 lo) ∧ W.cell? ⟨w.heap.size, 5, none⟩ = some (.int .i64 hi)) ∧ W.cell? ⟨w.heap.size + 1, 0, none⟩ = some (.int .i64 f) ∧ W.cell? ⟨w.heap.size + 1, 1, none⟩ = some (.int .u64 r) ∧ W.cell? ⟨w.heap.size + 1, 2, none⟩ = some (.string s) ∧ W.cell? ⟨w.heap.size + 1, 3, none⟩ = some (.int .i64 l) := by
  obtain ⟨W1, e1⟩ : ∃ X, X = w.alloc (.cells #[.int .i64 f, .int .u64 r, .string s, .int .i64 l, .int .i64 lo, .int .i64 hi] 52) := ⟨_, rfl⟩
  rw [← e1] at hW
  have z1 : W1.heap.size = w.heap.size + 1 := by rw [e1]; simp
  have b1 : Below w.heap.size w W1 := by rw [e1]; exact below_box _ _
  have b2 : Below W1.heap.size W1 W := by rw [hW]; exact below_box _ _
  refine ⟨b1.trans (b2.mono (by omega)), ⟨below_cell b2 ?_, below_cell b2 ?_⟩, ?_, ?_, ?_, ?_⟩
  · rw [e1, World.cell?_alloc_new]; rfl
  · rw [e1, World.cell?_alloc_new]; rfl
  all_goals (rw [hW, ← z1, World.cell?_alloc_new]; rfl)
set_option maxHeartbeats 4000000 in
theorem mayItem_any (x : Itm) (w : World) (ht : Pr.Tabs w) (hl : -9223372036854775808 ≤ x.l ∧ x.l ≤ 9223372036854775807) :
    Calls Tryz.prog 149 #[itV x] w fun e w' => e = .returned (.bool (okI x)) ∧ Below w.heap.size w w' := by
  obtain ⟨f, r, s, l, lo, hi⟩ := x
  have HREF : Hid (okI ⟨f, r, s, l, lo, hi⟩ = (decide (Pr.chk f r s l = 0) && decide (l ≤ lo) && decide (lo ≤ hi) && decide (hi ≤ 8 * Pr.szOf f))) := rfl
  obtain ⟨hb, hc, hq⟩ := two_box f r s l lo hi w rfl
  have hdw := (Below.refl ((w.alloc (.cells #[.int .i64 f, .int .u64 r, .string s, .int .i64 l, .int .i64 lo, .int .i64 hi] 52)).alloc (.cells #[.int .i64 f, .int .u64 r, .string s, .int .i64 l] 50)).heap.size ((w.alloc (.cells #[.int .i64 f, .int .u64 r, .string s, .int .i64 l, .int .i64 lo, .int .i64 hi] 52)).alloc (.cells #[.int .i64 f, .int .u64 r, .string s, .int .i64 l] 50))).drew
  have hc0 := below_cell hb (b := 1) (i := 0) (v := .int .i64 0)
  clear hc0
  generalize hR : okI ⟨f, r, s, l, lo, hi⟩ = d at *
  have hzb := Pr.szOf_bd f
  unfold itV
  dsimp only
  have HB : Hid (Below w.heap.size w ((w.alloc (.cells #[.int .i64 f, .int .u64 r, .string s, .int .i64 l, .int .i64 lo, .int .i64 hi] 52)).alloc (.cells #[.int .i64 f, .int .u64 r, .string s, .int .i64 l] 50))) := hb
  have HT : Hid (Pr.Tabs ((w.alloc (.cells #[.int .i64 f, .int .u64 r, .string s, .int .i64 l, .int .i64 lo, .int .i64 hi] 52)).alloc (.cells #[.int .i64 f, .int .u64 r, .string s, .int .i64 l] 50))) := ht.below hb
  have HC0 : Hid (_ ∧ _) := hc
  have HQ0 : Hid (_ ∧ _) := hq
  clear hb hc hq ht
  generalize hcc : Pr.chk f r s l = c at *
  generalize hzz : Pr.szOf f = z at *
  by_cases hz0 : c = 0
  · by_cases h1 : l ≤ lo
    · by_cases h2 : lo ≤ hi
      · obtain rfl := hz0
        have hd : decide (hi ≤ 8 * z) = d := by rw [HREF.out, decide_eq_true h1, decide_eq_true h2, decide_eq_true (rfl : (0 : Int) = 0)]; simp
        generalize hW0 : (w.alloc (.cells #[.int .i64 f, .int .u64 r, .string s, .int .i64 l, .int .i64 lo, .int .i64 hi] 52)).alloc (.cells #[.int .i64 f, .int .u64 r, .string s, .int .i64 l] 50) = W0 at *
        let Ev : World → World → Prop := fun x y => Below x.heap.size x y
        have hr0 : Ev W0.drew W0.drew := Below.refl _ _
        have HQ : Hid (∀ X, Ev W0.drew X → X.cell? ⟨w.heap.size + 1, 0, none⟩ = some (.int .i64 f) ∧ X.cell? ⟨w.heap.size + 1, 1, none⟩ = some (.int .u64 r) ∧ X.cell? ⟨w.heap.size + 1, 2, none⟩ = some (.string s) ∧ X.cell? ⟨w.heap.size + 1, 3, none⟩ = some (.int .i64 l)) := fun X hX => ⟨below_cell hX (below_cell hdw HQ0.out.1), below_cell hX (below_cell hdw HQ0.out.2.1), below_cell hX (below_cell hdw HQ0.out.2.2.1), below_cell hX (below_cell hdw HQ0.out.2.2.2)⟩
        have HC : Hid (∀ X, Ev W0.drew X → X.cell? ⟨w.heap.size, 4, none⟩ = some (.int .i64 lo) ∧ X.cell? ⟨w.heap.size, 5, none⟩ = some (.int .i64 hi)) := fun X hX => ⟨below_cell hX (below_cell hdw HC0.out.1), below_cell hX (below_cell hdw HC0.out.2)⟩
        have HTX : Hid (∀ X, Ev W0.drew X → Pr.Tabs X) := fun X hX => (HT.out.below hdw).below hX
        have HK : Hid (∀ X, Ev W0.drew X → Calls Tryz.prog 173 #[.agg #[.int .i64 f, .int .u64 r, .string s, .int .i64 l]] X fun e w' => e = .returned (.int .i64 0) ∧ Below X.heap.size X w') := fun X hX => by
          have := Pr.check_any f r s l X (HTX.out X hX).sizes (HTX.out X hX).rds
          rw [hcc] at this
          exact this
        have HS : Hid (∀ X, Ev W0.drew X → Calls Tryz.prog 117 #[.int .i64 f] X fun e w' => e = .returned (.int .i64 z) ∧ w' = X) := fun X hX => by
          have := Pr.size_any f X (HTX.out X hX).sizes
          rw [hzz] at this
          exact this
        go_enter Tryz.func149, Tryz.ntmps149
        go_wp2_with fail
        refine with_act (fun ax => ax.tmps.size = 32 ∧ ax.defers = [] ∧ ax.eval (.tmp 1) = .pointer (some ⟨w.heap.size, 0, none⟩) ∧ ax.eval (.tmp 3) = .pointer (some ⟨w.heap.size + 1, 0, none⟩)) ⟨rfl, rfl, rfl, rfl⟩ ?_
        rintro a0 ⟨F0s, FD, F1, F3⟩
        refine region_list (by kernel_rfl) Ev [(fun v _ => v = .agg #[.int .i64 f, .int .u64 r, .string s, .int .i64 l]),
              (fun v _ => v = .int .i64 0),
              (fun v _ => v = .bool true),
              (fun v _ => v = .bool true),
              (fun v _ => v = .pointer (some ⟨w.heap.size + 1, 3, none⟩)),
              (fun v _ => v = .int .i64 l),
              (fun v _ => v = .pointer (some ⟨w.heap.size, 4, none⟩)),
              (fun v _ => v = .int .i64 lo),
              (fun v _ => v = .bool true),
              (fun v _ => v = .bool true),
              (fun v _ => v = .bool true),
              (fun v _ => v = .pointer (some ⟨w.heap.size, 4, none⟩)),
              (fun v _ => v = .int .i64 lo),
              (fun v _ => v = .pointer (some ⟨w.heap.size, 5, none⟩)),
              (fun v _ => v = .int .i64 hi),
              (fun v _ => v = .bool true),
              (fun v _ => v = .bool true),
              (fun v _ => v = .bool true),
              (fun v _ => v = .pointer (some ⟨w.heap.size, 5, none⟩)),
              (fun v _ => v = .int .i64 hi),
              (fun v _ => v = .pointer (some ⟨w.heap.size + 1, 0, none⟩)),
              (fun v _ => v = .int .i64 f),
              (fun v _ => v = .int .i64 z),
              (fun v _ => v = .int .i64 (8 * z)),
              (fun v _ => v = .bool d),
              (fun v _ => v = .bool d),
              (fun v _ => v = .bool d)] [some 6, some 7, some 8, some 9, some 10, some 11, some 12, some 13, some 14, some 15, some 16, some 17, some 18, some 19, some 20, some 21, some 22, some 23, some 24, some 25, some 26, some 27, some 28, some 29, some 30, some 31, some 2] (by kernel_rfl) (fun x y z h k => h.trans (k.mono h.size)) hr0 ?keep (by kernel_rfl) (by rw [F0s]; kernel_rfl) ?steps ?done
        case keep => repeat (first | exact kept_nil | refine kept_cons (kept_eq _) ?_ | refine kept_cons (fun _ _ _ _ _ h => h) ?_)
        case done =>
          intro a1 X hsz hdf hfix hev hE
          have q2 : a1.eval (.tmp 2) = .bool d := hE 26 (by decide)
          go_wp2
          refine bodyPost_ret (v := a1.eval (.tmp 2)) (results_tmp rfl _ _ _) (hdf.trans FD) ?_
          rw [q2]
          exact ⟨rfl, HB.out.trans ((hdw.mono HB.out.size).trans (hev.mono (Nat.le_trans HB.out.size hdw.size)))⟩
        case steps =>
          refine ⟨?_, ?_, ?_, ?_, ?_, ?_, ?_, ?_, ?_, ?_, ?_, ?_, ?_, ?_, ?_, ?_, ?_, ?_, ?_, ?_, ?_, ?_, ?_, ?_, ?_, ?_, ?_, trivial⟩
          · intro a1 X hfix hev hdep
            have q3 : a1.eval (.tmp 3) = _ := (hfix 3 (by decide)).trans F3
            obtain ⟨c0, c1, c2, c3⟩ := HQ.out X hev
            refine Or.inl ⟨rfl, ?_⟩
            refine ow_value (v := .agg #[.int .i64 f, .int .u64 r, .string s, .int .i64 l]) (w' := X) ?_ ⟨_, rfl, Below.refl _ _, rfl⟩
            clear hfix hev hdep; generalize a1.eval = ev at *; unfold execOp; simp only; go_simp
          · intro a1 X hfix hev hdep
            have q6 : a1.eval (.tmp 6) = .agg #[.int .i64 f, .int .u64 r, .string s, .int .i64 l] := hdep 0 (by decide)
            refine Or.inl ⟨rfl, ?_⟩
            refine ow_enter (f := 173) (args := #[.agg #[.int .i64 f, .int .u64 r, .string s, .int .i64 l]]) (w' := X) ?_ ?_
            · have hf0 : a1.eval (.func 173) = .func (.func 173) #[] #[] := rfl; clear hfix hev hdep; generalize a1.eval = ev at *; unfold execOp; simp only; go_simp
            · refine Calls.mono (HK.out X hev) ?_
              rintro e Y ⟨rfl, hb⟩
              exact ⟨_, rfl, _, rfl, hb, rfl⟩
          · intro a1 X hfix hev hdep
            have q7 : a1.eval (.tmp 7) = .int .i64 0 := hdep 1 (by decide)
            refine Or.inl ⟨rfl, ?_⟩
            refine ow_value (v := .bool true) (w' := X) ?_ ⟨_, rfl, Below.refl _ _, rfl⟩
            have hk0 : a1.eval (.const (.int .i64 0)) = .int .i64 0 := rfl; clear hfix hev hdep; generalize a1.eval = ev at *; unfold execOp; simp only; go_simp
          · intro a1 X hfix hev hdep
            have q8 : a1.eval (.tmp 8) = .bool true := hdep 2 (by decide)
            refine Or.inl ⟨rfl, ?_⟩
            refine ow_value (v := .bool true) (w' := X) ?_ ⟨_, rfl, Below.refl _ _, rfl⟩
            clear hfix hev hdep; generalize a1.eval = ev at *; unfold execOp; simp only; go_simp
          · intro a1 X hfix hev hdep
            have g0 : a1.eval (.tmp 9) = .bool true := hdep 3 (by decide)
            have q3 : a1.eval (.tmp 3) = _ := (hfix 3 (by decide)).trans F3
            refine Or.inr (Or.inl ⟨_, _, rfl, g0, ?_⟩)
            refine ow_value (v := .pointer (some ⟨w.heap.size + 1, 3, none⟩)) (w' := X) ?_ ⟨_, rfl, Below.refl _ _, rfl⟩
            clear g0; clear hfix hev hdep; generalize a1.eval = ev at *; unfold execOp; simp only; go_simp
          · intro a1 X hfix hev hdep
            have g0 : a1.eval (.tmp 9) = .bool true := hdep 3 (by decide)
            have q10 : a1.eval (.tmp 10) = .pointer (some ⟨w.heap.size + 1, 3, none⟩) := hdep 4 (by decide)
            obtain ⟨c0, c1, c2, c3⟩ := HQ.out X hev
            refine Or.inr (Or.inl ⟨_, _, rfl, g0, ?_⟩)
            refine ow_value (v := .int .i64 l) (w' := X) ?_ ⟨_, rfl, Below.refl _ _, rfl⟩
            clear g0; clear hfix hev hdep; generalize a1.eval = ev at *; unfold execOp; simp only; go_simp
          · intro a1 X hfix hev hdep
            have g0 : a1.eval (.tmp 9) = .bool true := hdep 3 (by decide)
            have q1 : a1.eval (.tmp 1) = _ := (hfix 1 (by decide)).trans F1
            refine Or.inr (Or.inl ⟨_, _, rfl, g0, ?_⟩)
            refine ow_value (v := .pointer (some ⟨w.heap.size, 4, none⟩)) (w' := X) ?_ ⟨_, rfl, Below.refl _ _, rfl⟩
            clear g0; clear hfix hev hdep; generalize a1.eval = ev at *; unfold execOp; simp only; go_simp
          · intro a1 X hfix hev hdep
            have g0 : a1.eval (.tmp 9) = .bool true := hdep 3 (by decide)
            have q12 : a1.eval (.tmp 12) = .pointer (some ⟨w.heap.size, 4, none⟩) := hdep 6 (by decide)
            obtain ⟨c4, c5⟩ := HC.out X hev
            refine Or.inr (Or.inl ⟨_, _, rfl, g0, ?_⟩)
            refine ow_value (v := .int .i64 lo) (w' := X) ?_ ⟨_, rfl, Below.refl _ _, rfl⟩
            clear g0; clear hfix hev hdep; generalize a1.eval = ev at *; unfold execOp; simp only; go_simp
          · intro a1 X hfix hev hdep
            have g0 : a1.eval (.tmp 9) = .bool true := hdep 3 (by decide)
            have q11 : a1.eval (.tmp 11) = .int .i64 l := hdep 5 (by decide)
            have q13 : a1.eval (.tmp 13) = .int .i64 lo := hdep 7 (by decide)
            refine Or.inr (Or.inl ⟨_, _, rfl, g0, ?_⟩)
            refine ow_value (v := .bool true) (w' := X) ?_ ⟨_, rfl, Below.refl _ _, rfl⟩
            clear g0; clear hfix hev hdep; generalize a1.eval = ev at *; unfold execOp; simp only; go_simp
          · intro a1 X hfix hev hdep
            have q9 : a1.eval (.tmp 9) = .bool true := hdep 3 (by decide)
            have q14 : a1.eval (.tmp 14) = .bool true := hdep 8 (by decide)
            refine Or.inl ⟨rfl, ?_⟩
            refine ow_value (v := .bool true) (w' := X) ?_ ⟨_, rfl, Below.refl _ _, rfl⟩
            have hk0 : a1.eval (.const (.bool false)) = .bool false := rfl; clear hfix hev hdep; generalize a1.eval = ev at *; unfold execOp; simp only; go_simp
          · intro a1 X hfix hev hdep
            have q15 : a1.eval (.tmp 15) = .bool true := hdep 9 (by decide)
            refine Or.inl ⟨rfl, ?_⟩
            refine ow_value (v := .bool true) (w' := X) ?_ ⟨_, rfl, Below.refl _ _, rfl⟩
            clear hfix hev hdep; generalize a1.eval = ev at *; unfold execOp; simp only; go_simp
          · intro a1 X hfix hev hdep
            have g0 : a1.eval (.tmp 16) = .bool true := hdep 10 (by decide)
            have q1 : a1.eval (.tmp 1) = _ := (hfix 1 (by decide)).trans F1
            refine Or.inr (Or.inl ⟨_, _, rfl, g0, ?_⟩)
            refine ow_value (v := .pointer (some ⟨w.heap.size, 4, none⟩)) (w' := X) ?_ ⟨_, rfl, Below.refl _ _, rfl⟩
            clear g0; clear hfix hev hdep; generalize a1.eval = ev at *; unfold execOp; simp only; go_simp
          · intro a1 X hfix hev hdep
            have g0 : a1.eval (.tmp 16) = .bool true := hdep 10 (by decide)
            have q17 : a1.eval (.tmp 17) = .pointer (some ⟨w.heap.size, 4, none⟩) := hdep 11 (by decide)
            obtain ⟨c4, c5⟩ := HC.out X hev
            refine Or.inr (Or.inl ⟨_, _, rfl, g0, ?_⟩)
            refine ow_value (v := .int .i64 lo) (w' := X) ?_ ⟨_, rfl, Below.refl _ _, rfl⟩
            clear g0; clear hfix hev hdep; generalize a1.eval = ev at *; unfold execOp; simp only; go_simp
          · intro a1 X hfix hev hdep
            have g0 : a1.eval (.tmp 16) = .bool true := hdep 10 (by decide)
            have q1 : a1.eval (.tmp 1) = _ := (hfix 1 (by decide)).trans F1
            refine Or.inr (Or.inl ⟨_, _, rfl, g0, ?_⟩)
            refine ow_value (v := .pointer (some ⟨w.heap.size, 5, none⟩)) (w' := X) ?_ ⟨_, rfl, Below.refl _ _, rfl⟩
            clear g0; clear hfix hev hdep; generalize a1.eval = ev at *; unfold execOp; simp only; go_simp
          · intro a1 X hfix hev hdep
            have g0 : a1.eval (.tmp 16) = .bool true := hdep 10 (by decide)
            have q19 : a1.eval (.tmp 19) = .pointer (some ⟨w.heap.size, 5, none⟩) := hdep 13 (by decide)
            obtain ⟨c4, c5⟩ := HC.out X hev
            refine Or.inr (Or.inl ⟨_, _, rfl, g0, ?_⟩)
            refine ow_value (v := .int .i64 hi) (w' := X) ?_ ⟨_, rfl, Below.refl _ _, rfl⟩
            clear g0; clear hfix hev hdep; generalize a1.eval = ev at *; unfold execOp; simp only; go_simp
          · intro a1 X hfix hev hdep
            have g0 : a1.eval (.tmp 16) = .bool true := hdep 10 (by decide)
            have q18 : a1.eval (.tmp 18) = .int .i64 lo := hdep 12 (by decide)
            have q20 : a1.eval (.tmp 20) = .int .i64 hi := hdep 14 (by decide)
            refine Or.inr (Or.inl ⟨_, _, rfl, g0, ?_⟩)
            refine ow_value (v := .bool true) (w' := X) ?_ ⟨_, rfl, Below.refl _ _, rfl⟩
            clear g0; clear hfix hev hdep; generalize a1.eval = ev at *; unfold execOp; simp only; go_simp
          · intro a1 X hfix hev hdep
            have q16 : a1.eval (.tmp 16) = .bool true := hdep 10 (by decide)
            have q21 : a1.eval (.tmp 21) = .bool true := hdep 15 (by decide)
            refine Or.inl ⟨rfl, ?_⟩
            refine ow_value (v := .bool true) (w' := X) ?_ ⟨_, rfl, Below.refl _ _, rfl⟩
            have hk0 : a1.eval (.const (.bool false)) = .bool false := rfl; clear hfix hev hdep; generalize a1.eval = ev at *; unfold execOp; simp only; go_simp
          · intro a1 X hfix hev hdep
            have q22 : a1.eval (.tmp 22) = .bool true := hdep 16 (by decide)
            refine Or.inl ⟨rfl, ?_⟩
            refine ow_value (v := .bool true) (w' := X) ?_ ⟨_, rfl, Below.refl _ _, rfl⟩
            clear hfix hev hdep; generalize a1.eval = ev at *; unfold execOp; simp only; go_simp
          · intro a1 X hfix hev hdep
            have g0 : a1.eval (.tmp 23) = .bool true := hdep 17 (by decide)
            have q1 : a1.eval (.tmp 1) = _ := (hfix 1 (by decide)).trans F1
            refine Or.inr (Or.inl ⟨_, _, rfl, g0, ?_⟩)
            refine ow_value (v := .pointer (some ⟨w.heap.size, 5, none⟩)) (w' := X) ?_ ⟨_, rfl, Below.refl _ _, rfl⟩
            clear g0; clear hfix hev hdep; generalize a1.eval = ev at *; unfold execOp; simp only; go_simp
          · intro a1 X hfix hev hdep
            have g0 : a1.eval (.tmp 23) = .bool true := hdep 17 (by decide)
            have q24 : a1.eval (.tmp 24) = .pointer (some ⟨w.heap.size, 5, none⟩) := hdep 18 (by decide)
            obtain ⟨c4, c5⟩ := HC.out X hev
            refine Or.inr (Or.inl ⟨_, _, rfl, g0, ?_⟩)
            refine ow_value (v := .int .i64 hi) (w' := X) ?_ ⟨_, rfl, Below.refl _ _, rfl⟩
            clear g0; clear hfix hev hdep; generalize a1.eval = ev at *; unfold execOp; simp only; go_simp
          · intro a1 X hfix hev hdep
            have g0 : a1.eval (.tmp 23) = .bool true := hdep 17 (by decide)
            have q3 : a1.eval (.tmp 3) = _ := (hfix 3 (by decide)).trans F3
            refine Or.inr (Or.inl ⟨_, _, rfl, g0, ?_⟩)
            refine ow_value (v := .pointer (some ⟨w.heap.size + 1, 0, none⟩)) (w' := X) ?_ ⟨_, rfl, Below.refl _ _, rfl⟩
            clear g0; clear hfix hev hdep; generalize a1.eval = ev at *; unfold execOp; simp only; go_simp
          · intro a1 X hfix hev hdep
            have g0 : a1.eval (.tmp 23) = .bool true := hdep 17 (by decide)
            have q26 : a1.eval (.tmp 26) = .pointer (some ⟨w.heap.size + 1, 0, none⟩) := hdep 20 (by decide)
            obtain ⟨c0, c1, c2, c3⟩ := HQ.out X hev
            refine Or.inr (Or.inl ⟨_, _, rfl, g0, ?_⟩)
            refine ow_value (v := .int .i64 f) (w' := X) ?_ ⟨_, rfl, Below.refl _ _, rfl⟩
            clear g0; clear hfix hev hdep; generalize a1.eval = ev at *; unfold execOp; simp only; go_simp
          · intro a1 X hfix hev hdep
            have g0 : a1.eval (.tmp 23) = .bool true := hdep 17 (by decide)
            have q27 : a1.eval (.tmp 27) = .int .i64 f := hdep 21 (by decide)
            refine Or.inr (Or.inl ⟨_, _, rfl, g0, ?_⟩)
            refine ow_enter (f := 117) (args := #[.int .i64 f]) (w' := X) ?_ ?_
            · have hf0 : a1.eval (.func 117) = .func (.func 117) #[] #[] := rfl; clear g0; clear hfix hev hdep; generalize a1.eval = ev at *; unfold execOp; simp only; go_simp
            · refine Calls.mono (HS.out X hev) ?_
              rintro e Y ⟨rfl, rfl⟩
              exact ⟨_, rfl, _, rfl, Below.refl _ _, rfl⟩
          · intro a1 X hfix hev hdep
            have g0 : a1.eval (.tmp 23) = .bool true := hdep 17 (by decide)
            have q28 : a1.eval (.tmp 28) = .int .i64 z := hdep 22 (by decide)
            refine Or.inr (Or.inl ⟨_, _, rfl, g0, ?_⟩)
            refine ow_value (v := .int .i64 (8 * z)) (w' := X) ?_ ⟨_, rfl, Below.refl _ _, rfl⟩
            have hk0 : a1.eval (.const (.int .i64 8)) = .int .i64 8 := rfl; clear g0; clear hfix hev hdep; generalize a1.eval = ev at *; unfold execOp; simp only; go_simp; rw [IntKind.wrap_i64]; omega
          · intro a1 X hfix hev hdep
            have g0 : a1.eval (.tmp 23) = .bool true := hdep 17 (by decide)
            have q25 : a1.eval (.tmp 25) = .int .i64 hi := hdep 19 (by decide)
            have q29 : a1.eval (.tmp 29) = .int .i64 (8 * z) := hdep 23 (by decide)
            refine Or.inr (Or.inl ⟨_, _, rfl, g0, ?_⟩)
            refine ow_value (v := .bool d) (w' := X) ?_ ⟨_, rfl, Below.refl _ _, rfl⟩
            clear g0; clear hfix hev hdep; generalize a1.eval = ev at *; unfold execOp; simp only; go_simp
          · intro a1 X hfix hev hdep
            have q23 : a1.eval (.tmp 23) = .bool true := hdep 17 (by decide)
            have q30 : a1.eval (.tmp 30) = .bool d := hdep 24 (by decide)
            refine Or.inl ⟨rfl, ?_⟩
            refine ow_value (v := .bool d) (w' := X) ?_ ⟨_, rfl, Below.refl _ _, rfl⟩
            have hk0 : a1.eval (.const (.bool false)) = .bool false := rfl; clear hfix hev hdep; generalize a1.eval = ev at *; unfold execOp; simp only; go_simp
          · intro a1 X hfix hev hdep
            have q31 : a1.eval (.tmp 31) = .bool d := hdep 25 (by decide)
            refine Or.inl ⟨rfl, ?_⟩
            refine ow_value (v := .bool d) (w' := X) ?_ ⟨_, rfl, Below.refl _ _, rfl⟩
            clear hfix hev hdep; generalize a1.eval = ev at *; unfold execOp; simp only; go_simp
      · obtain rfl := hz0
        have HR : Hid (d = false) := by unfold Hid; rw [HREF.out, decide_eq_false h2]; simp
        generalize hW0 : (w.alloc (.cells #[.int .i64 f, .int .u64 r, .string s, .int .i64 l, .int .i64 lo, .int .i64 hi] 52)).alloc (.cells #[.int .i64 f, .int .u64 r, .string s, .int .i64 l] 50) = W0 at *
        let Ev : World → World → Prop := fun x y => Below x.heap.size x y
        have hr0 : Ev W0.drew W0.drew := Below.refl _ _
        have HQ : Hid (∀ X, Ev W0.drew X → X.cell? ⟨w.heap.size + 1, 0, none⟩ = some (.int .i64 f) ∧ X.cell? ⟨w.heap.size + 1, 1, none⟩ = some (.int .u64 r) ∧ X.cell? ⟨w.heap.size + 1, 2, none⟩ = some (.string s) ∧ X.cell? ⟨w.heap.size + 1, 3, none⟩ = some (.int .i64 l)) := fun X hX => ⟨below_cell hX (below_cell hdw HQ0.out.1), below_cell hX (below_cell hdw HQ0.out.2.1), below_cell hX (below_cell hdw HQ0.out.2.2.1), below_cell hX (below_cell hdw HQ0.out.2.2.2)⟩
        have HC : Hid (∀ X, Ev W0.drew X → X.cell? ⟨w.heap.size, 4, none⟩ = some (.int .i64 lo) ∧ X.cell? ⟨w.heap.size, 5, none⟩ = some (.int .i64 hi)) := fun X hX => ⟨below_cell hX (below_cell hdw HC0.out.1), below_cell hX (below_cell hdw HC0.out.2)⟩
        have HTX : Hid (∀ X, Ev W0.drew X → Pr.Tabs X) := fun X hX => (HT.out.below hdw).below hX
        have HK : Hid (∀ X, Ev W0.drew X → Calls Tryz.prog 173 #[.agg #[.int .i64 f, .int .u64 r, .string s, .int .i64 l]] X fun e w' => e = .returned (.int .i64 0) ∧ Below X.heap.size X w') := fun X hX => by
          have := Pr.check_any f r s l X (HTX.out X hX).sizes (HTX.out X hX).rds
          rw [hcc] at this
          exact this
        have HS : Hid (∀ X, Ev W0.drew X → Calls Tryz.prog 117 #[.int .i64 f] X fun e w' => e = .returned (.int .i64 z) ∧ w' = X) := fun X hX => by
          have := Pr.size_any f X (HTX.out X hX).sizes
          rw [hzz] at this
          exact this
        go_enter Tryz.func149, Tryz.ntmps149
        go_wp2_with fail
        refine with_act (fun ax => ax.tmps.size = 32 ∧ ax.defers = [] ∧ ax.eval (.tmp 1) = .pointer (some ⟨w.heap.size, 0, none⟩) ∧ ax.eval (.tmp 3) = .pointer (some ⟨w.heap.size + 1, 0, none⟩)) ⟨rfl, rfl, rfl, rfl⟩ ?_
        rintro a0 ⟨F0s, FD, F1, F3⟩
        refine region_list (by kernel_rfl) Ev [(fun v _ => v = .agg #[.int .i64 f, .int .u64 r, .string s, .int .i64 l]),
              (fun v _ => v = .int .i64 0),
              (fun v _ => v = .bool true),
              (fun v _ => v = .bool true),
              (fun v _ => v = .pointer (some ⟨w.heap.size + 1, 3, none⟩)),
              (fun v _ => v = .int .i64 l),
              (fun v _ => v = .pointer (some ⟨w.heap.size, 4, none⟩)),
              (fun v _ => v = .int .i64 lo),
              (fun v _ => v = .bool true),
              (fun v _ => v = .bool true),
              (fun v _ => v = .bool true),
              (fun v _ => v = .pointer (some ⟨w.heap.size, 4, none⟩)),
              (fun v _ => v = .int .i64 lo),
              (fun v _ => v = .pointer (some ⟨w.heap.size, 5, none⟩)),
              (fun v _ => v = .int .i64 hi),
              (fun v _ => v = .bool false),
              (fun v _ => v = .bool false),
              (fun v _ => v = .bool false),
              (fun _ _ => True),
              (fun _ _ => True),
              (fun _ _ => True),
              (fun _ _ => True),
              (fun _ _ => True),
              (fun _ _ => True),
              (fun _ _ => True),
              (fun v _ => v = .bool false),
              (fun v _ => v = .bool false)] [some 6, some 7, some 8, some 9, some 10, some 11, some 12, some 13, some 14, some 15, some 16, some 17, some 18, some 19, some 20, some 21, some 22, some 23, some 24, some 25, some 26, some 27, some 28, some 29, some 30, some 31, some 2] (by kernel_rfl) (fun x y z h k => h.trans (k.mono h.size)) hr0 ?keep (by kernel_rfl) (by rw [F0s]; kernel_rfl) ?steps ?done
        case keep => repeat (first | exact kept_nil | refine kept_cons (kept_eq _) ?_ | refine kept_cons (fun _ _ _ _ _ h => h) ?_)
        case done =>
          intro a1 X hsz hdf hfix hev hE
          have q2 : a1.eval (.tmp 2) = .bool false := hE 26 (by decide)
          go_wp2
          refine bodyPost_ret (v := a1.eval (.tmp 2)) (results_tmp rfl _ _ _) (hdf.trans FD) ?_
          rw [q2]
          exact ⟨ret_bool HR.out.symm, HB.out.trans ((hdw.mono HB.out.size).trans (hev.mono (Nat.le_trans HB.out.size hdw.size)))⟩
        case steps =>
          refine ⟨?_, ?_, ?_, ?_, ?_, ?_, ?_, ?_, ?_, ?_, ?_, ?_, ?_, ?_, ?_, ?_, ?_, ?_, ?_, ?_, ?_, ?_, ?_, ?_, ?_, ?_, ?_, trivial⟩
          · intro a1 X hfix hev hdep
            have q3 : a1.eval (.tmp 3) = _ := (hfix 3 (by decide)).trans F3
            obtain ⟨c0, c1, c2, c3⟩ := HQ.out X hev
            refine Or.inl ⟨rfl, ?_⟩
            refine ow_value (v := .agg #[.int .i64 f, .int .u64 r, .string s, .int .i64 l]) (w' := X) ?_ ⟨_, rfl, Below.refl _ _, rfl⟩
            clear hfix hev hdep; generalize a1.eval = ev at *; unfold execOp; simp only; go_simp
          · intro a1 X hfix hev hdep
            have q6 : a1.eval (.tmp 6) = .agg #[.int .i64 f, .int .u64 r, .string s, .int .i64 l] := hdep 0 (by decide)
            refine Or.inl ⟨rfl, ?_⟩
            refine ow_enter (f := 173) (args := #[.agg #[.int .i64 f, .int .u64 r, .string s, .int .i64 l]]) (w' := X) ?_ ?_
            · have hf0 : a1.eval (.func 173) = .func (.func 173) #[] #[] := rfl; clear hfix hev hdep; generalize a1.eval = ev at *; unfold execOp; simp only; go_simp
            · refine Calls.mono (HK.out X hev) ?_
              rintro e Y ⟨rfl, hb⟩
              exact ⟨_, rfl, _, rfl, hb, rfl⟩
          · intro a1 X hfix hev hdep
            have q7 : a1.eval (.tmp 7) = .int .i64 0 := hdep 1 (by decide)
            refine Or.inl ⟨rfl, ?_⟩
            refine ow_value (v := .bool true) (w' := X) ?_ ⟨_, rfl, Below.refl _ _, rfl⟩
            have hk0 : a1.eval (.const (.int .i64 0)) = .int .i64 0 := rfl; clear hfix hev hdep; generalize a1.eval = ev at *; unfold execOp; simp only; go_simp
          · intro a1 X hfix hev hdep
            have q8 : a1.eval (.tmp 8) = .bool true := hdep 2 (by decide)
            refine Or.inl ⟨rfl, ?_⟩
            refine ow_value (v := .bool true) (w' := X) ?_ ⟨_, rfl, Below.refl _ _, rfl⟩
            clear hfix hev hdep; generalize a1.eval = ev at *; unfold execOp; simp only; go_simp
          · intro a1 X hfix hev hdep
            have g0 : a1.eval (.tmp 9) = .bool true := hdep 3 (by decide)
            have q3 : a1.eval (.tmp 3) = _ := (hfix 3 (by decide)).trans F3
            refine Or.inr (Or.inl ⟨_, _, rfl, g0, ?_⟩)
            refine ow_value (v := .pointer (some ⟨w.heap.size + 1, 3, none⟩)) (w' := X) ?_ ⟨_, rfl, Below.refl _ _, rfl⟩
            clear g0; clear hfix hev hdep; generalize a1.eval = ev at *; unfold execOp; simp only; go_simp
          · intro a1 X hfix hev hdep
            have g0 : a1.eval (.tmp 9) = .bool true := hdep 3 (by decide)
            have q10 : a1.eval (.tmp 10) = .pointer (some ⟨w.heap.size + 1, 3, none⟩) := hdep 4 (by decide)
            obtain ⟨c0, c1, c2, c3⟩ := HQ.out X hev
            refine Or.inr (Or.inl ⟨_, _, rfl, g0, ?_⟩)
            refine ow_value (v := .int .i64 l) (w' := X) ?_ ⟨_, rfl, Below.refl _ _, rfl⟩
            clear g0; clear hfix hev hdep; generalize a1.eval = ev at *; unfold execOp; simp only; go_simp
          · intro a1 X hfix hev hdep
            have g0 : a1.eval (.tmp 9) = .bool true := hdep 3 (by decide)
            have q1 : a1.eval (.tmp 1) = _ := (hfix 1 (by decide)).trans F1
            refine Or.inr (Or.inl ⟨_, _, rfl, g0, ?_⟩)
            refine ow_value (v := .pointer (some ⟨w.heap.size, 4, none⟩)) (w' := X) ?_ ⟨_, rfl, Below.refl _ _, rfl⟩
            clear g0; clear hfix hev hdep; generalize a1.eval = ev at *; unfold execOp; simp only; go_simp
          · intro a1 X hfix hev hdep
            have g0 : a1.eval (.tmp 9) = .bool true := hdep 3 (by decide)
            have q12 : a1.eval (.tmp 12) = .pointer (some ⟨w.heap.size, 4, none⟩) := hdep 6 (by decide)
            obtain ⟨c4, c5⟩ := HC.out X hev
            refine Or.inr (Or.inl ⟨_, _, rfl, g0, ?_⟩)
            refine ow_value (v := .int .i64 lo) (w' := X) ?_ ⟨_, rfl, Below.refl _ _, rfl⟩
            clear g0; clear hfix hev hdep; generalize a1.eval = ev at *; unfold execOp; simp only; go_simp
          · intro a1 X hfix hev hdep
            have g0 : a1.eval (.tmp 9) = .bool true := hdep 3 (by decide)
            have q11 : a1.eval (.tmp 11) = .int .i64 l := hdep 5 (by decide)
            have q13 : a1.eval (.tmp 13) = .int .i64 lo := hdep 7 (by decide)
            refine Or.inr (Or.inl ⟨_, _, rfl, g0, ?_⟩)
            refine ow_value (v := .bool true) (w' := X) ?_ ⟨_, rfl, Below.refl _ _, rfl⟩
            clear g0; clear hfix hev hdep; generalize a1.eval = ev at *; unfold execOp; simp only; go_simp
          · intro a1 X hfix hev hdep
            have q9 : a1.eval (.tmp 9) = .bool true := hdep 3 (by decide)
            have q14 : a1.eval (.tmp 14) = .bool true := hdep 8 (by decide)
            refine Or.inl ⟨rfl, ?_⟩
            refine ow_value (v := .bool true) (w' := X) ?_ ⟨_, rfl, Below.refl _ _, rfl⟩
            have hk0 : a1.eval (.const (.bool false)) = .bool false := rfl; clear hfix hev hdep; generalize a1.eval = ev at *; unfold execOp; simp only; go_simp
          · intro a1 X hfix hev hdep
            have q15 : a1.eval (.tmp 15) = .bool true := hdep 9 (by decide)
            refine Or.inl ⟨rfl, ?_⟩
            refine ow_value (v := .bool true) (w' := X) ?_ ⟨_, rfl, Below.refl _ _, rfl⟩
            clear hfix hev hdep; generalize a1.eval = ev at *; unfold execOp; simp only; go_simp
          · intro a1 X hfix hev hdep
            have g0 : a1.eval (.tmp 16) = .bool true := hdep 10 (by decide)
            have q1 : a1.eval (.tmp 1) = _ := (hfix 1 (by decide)).trans F1
            refine Or.inr (Or.inl ⟨_, _, rfl, g0, ?_⟩)
            refine ow_value (v := .pointer (some ⟨w.heap.size, 4, none⟩)) (w' := X) ?_ ⟨_, rfl, Below.refl _ _, rfl⟩
            clear g0; clear hfix hev hdep; generalize a1.eval = ev at *; unfold execOp; simp only; go_simp
          · intro a1 X hfix hev hdep
            have g0 : a1.eval (.tmp 16) = .bool true := hdep 10 (by decide)
            have q17 : a1.eval (.tmp 17) = .pointer (some ⟨w.heap.size, 4, none⟩) := hdep 11 (by decide)
            obtain ⟨c4, c5⟩ := HC.out X hev
            refine Or.inr (Or.inl ⟨_, _, rfl, g0, ?_⟩)
            refine ow_value (v := .int .i64 lo) (w' := X) ?_ ⟨_, rfl, Below.refl _ _, rfl⟩
            clear g0; clear hfix hev hdep; generalize a1.eval = ev at *; unfold execOp; simp only; go_simp
          · intro a1 X hfix hev hdep
            have g0 : a1.eval (.tmp 16) = .bool true := hdep 10 (by decide)
            have q1 : a1.eval (.tmp 1) = _ := (hfix 1 (by decide)).trans F1
            refine Or.inr (Or.inl ⟨_, _, rfl, g0, ?_⟩)
            refine ow_value (v := .pointer (some ⟨w.heap.size, 5, none⟩)) (w' := X) ?_ ⟨_, rfl, Below.refl _ _, rfl⟩
            clear g0; clear hfix hev hdep; generalize a1.eval = ev at *; unfold execOp; simp only; go_simp
          · intro a1 X hfix hev hdep
            have g0 : a1.eval (.tmp 16) = .bool true := hdep 10 (by decide)
            have q19 : a1.eval (.tmp 19) = .pointer (some ⟨w.heap.size, 5, none⟩) := hdep 13 (by decide)
            obtain ⟨c4, c5⟩ := HC.out X hev
            refine Or.inr (Or.inl ⟨_, _, rfl, g0, ?_⟩)
            refine ow_value (v := .int .i64 hi) (w' := X) ?_ ⟨_, rfl, Below.refl _ _, rfl⟩
            clear g0; clear hfix hev hdep; generalize a1.eval = ev at *; unfold execOp; simp only; go_simp
          · intro a1 X hfix hev hdep
            have g0 : a1.eval (.tmp 16) = .bool true := hdep 10 (by decide)
            have q18 : a1.eval (.tmp 18) = .int .i64 lo := hdep 12 (by decide)
            have q20 : a1.eval (.tmp 20) = .int .i64 hi := hdep 14 (by decide)
            refine Or.inr (Or.inl ⟨_, _, rfl, g0, ?_⟩)
            refine ow_value (v := .bool false) (w' := X) ?_ ⟨_, rfl, Below.refl _ _, rfl⟩
            clear g0; clear hfix hev hdep; generalize a1.eval = ev at *; unfold execOp; simp only; go_simp
          · intro a1 X hfix hev hdep
            have q16 : a1.eval (.tmp 16) = .bool true := hdep 10 (by decide)
            have q21 : a1.eval (.tmp 21) = .bool false := hdep 15 (by decide)
            refine Or.inl ⟨rfl, ?_⟩
            refine ow_value (v := .bool false) (w' := X) ?_ ⟨_, rfl, Below.refl _ _, rfl⟩
            have hk0 : a1.eval (.const (.bool false)) = .bool false := rfl; clear hfix hev hdep; generalize a1.eval = ev at *; unfold execOp; simp only; go_simp
          · intro a1 X hfix hev hdep
            have q22 : a1.eval (.tmp 22) = .bool false := hdep 16 (by decide)
            refine Or.inl ⟨rfl, ?_⟩
            refine ow_value (v := .bool false) (w' := X) ?_ ⟨_, rfl, Below.refl _ _, rfl⟩
            clear hfix hev hdep; generalize a1.eval = ev at *; unfold execOp; simp only; go_simp
          · intro a1 X hfix hev hdep
            have g0 : a1.eval (.tmp 23) = .bool false := hdep 17 (by decide)
            exact Or.inr (Or.inr ⟨_, _, rfl, g0, ⟨_, rfl, Below.refl _ _, trivial⟩⟩)
          · intro a1 X hfix hev hdep
            have g0 : a1.eval (.tmp 23) = .bool false := hdep 17 (by decide)
            exact Or.inr (Or.inr ⟨_, _, rfl, g0, ⟨_, rfl, Below.refl _ _, trivial⟩⟩)
          · intro a1 X hfix hev hdep
            have g0 : a1.eval (.tmp 23) = .bool false := hdep 17 (by decide)
            exact Or.inr (Or.inr ⟨_, _, rfl, g0, ⟨_, rfl, Below.refl _ _, trivial⟩⟩)
          · intro a1 X hfix hev hdep
            have g0 : a1.eval (.tmp 23) = .bool false := hdep 17 (by decide)
            exact Or.inr (Or.inr ⟨_, _, rfl, g0, ⟨_, rfl, Below.refl _ _, trivial⟩⟩)
          · intro a1 X hfix hev hdep
            have g0 : a1.eval (.tmp 23) = .bool false := hdep 17 (by decide)
            exact Or.inr (Or.inr ⟨_, _, rfl, g0, ⟨_, rfl, Below.refl _ _, trivial⟩⟩)
          · intro a1 X hfix hev hdep
            have g0 : a1.eval (.tmp 23) = .bool false := hdep 17 (by decide)
            exact Or.inr (Or.inr ⟨_, _, rfl, g0, ⟨_, rfl, Below.refl _ _, trivial⟩⟩)
          · intro a1 X hfix hev hdep
            have g0 : a1.eval (.tmp 23) = .bool false := hdep 17 (by decide)
            exact Or.inr (Or.inr ⟨_, _, rfl, g0, ⟨_, rfl, Below.refl _ _, trivial⟩⟩)
          · intro a1 X hfix hev hdep
            have q23 : a1.eval (.tmp 23) = .bool false := hdep 17 (by decide)
            refine Or.inl ⟨rfl, ?_⟩
            refine ow_value (v := .bool false) (w' := X) ?_ ⟨_, rfl, Below.refl _ _, rfl⟩
            have hk0 : a1.eval (.const (.bool false)) = .bool false := rfl; clear hfix hev hdep; generalize a1.eval = ev at *; unfold execOp; simp only; go_simp
          · intro a1 X hfix hev hdep
            have q31 : a1.eval (.tmp 31) = .bool false := hdep 25 (by decide)
            refine Or.inl ⟨rfl, ?_⟩
            refine ow_value (v := .bool false) (w' := X) ?_ ⟨_, rfl, Below.refl _ _, rfl⟩
            clear hfix hev hdep; generalize a1.eval = ev at *; unfold execOp; simp only; go_simp
    · obtain rfl := hz0
      have HR : Hid (d = false) := by unfold Hid; rw [HREF.out, decide_eq_false h1]; simp
      generalize hW0 : (w.alloc (.cells #[.int .i64 f, .int .u64 r, .string s, .int .i64 l, .int .i64 lo, .int .i64 hi] 52)).alloc (.cells #[.int .i64 f, .int .u64 r, .string s, .int .i64 l] 50) = W0 at *
      let Ev : World → World → Prop := fun x y => Below x.heap.size x y
      have hr0 : Ev W0.drew W0.drew := Below.refl _ _
      have HQ : Hid (∀ X, Ev W0.drew X → X.cell? ⟨w.heap.size + 1, 0, none⟩ = some (.int .i64 f) ∧ X.cell? ⟨w.heap.size + 1, 1, none⟩ = some (.int .u64 r) ∧ X.cell? ⟨w.heap.size + 1, 2, none⟩ = some (.string s) ∧ X.cell? ⟨w.heap.size + 1, 3, none⟩ = some (.int .i64 l)) := fun X hX => ⟨below_cell hX (below_cell hdw HQ0.out.1), below_cell hX (below_cell hdw HQ0.out.2.1), below_cell hX (below_cell hdw HQ0.out.2.2.1), below_cell hX (below_cell hdw HQ0.out.2.2.2)⟩
      have HC : Hid (∀ X, Ev W0.drew X → X.cell? ⟨w.heap.size, 4, none⟩ = some (.int .i64 lo) ∧ X.cell? ⟨w.heap.size, 5, none⟩ = some (.int .i64 hi)) := fun X hX => ⟨below_cell hX (below_cell hdw HC0.out.1), below_cell hX (below_cell hdw HC0.out.2)⟩
      have HTX : Hid (∀ X, Ev W0.drew X → Pr.Tabs X) := fun X hX => (HT.out.below hdw).below hX
      have HK : Hid (∀ X, Ev W0.drew X → Calls Tryz.prog 173 #[.agg #[.int .i64 f, .int .u64 r, .string s, .int .i64 l]] X fun e w' => e = .returned (.int .i64 0) ∧ Below X.heap.size X w') := fun X hX => by
        have := Pr.check_any f r s l X (HTX.out X hX).sizes (HTX.out X hX).rds
        rw [hcc] at this
        exact this
      have HS : Hid (∀ X, Ev W0.drew X → Calls Tryz.prog 117 #[.int .i64 f] X fun e w' => e = .returned (.int .i64 z) ∧ w' = X) := fun X hX => by
        have := Pr.size_any f X (HTX.out X hX).sizes
        rw [hzz] at this
        exact this
      go_enter Tryz.func149, Tryz.ntmps149
      go_wp2_with fail
      refine with_act (fun ax => ax.tmps.size = 32 ∧ ax.defers = [] ∧ ax.eval (.tmp 1) = .pointer (some ⟨w.heap.size, 0, none⟩) ∧ ax.eval (.tmp 3) = .pointer (some ⟨w.heap.size + 1, 0, none⟩)) ⟨rfl, rfl, rfl, rfl⟩ ?_
      rintro a0 ⟨F0s, FD, F1, F3⟩
      refine region_list (by kernel_rfl) Ev [(fun v _ => v = .agg #[.int .i64 f, .int .u64 r, .string s, .int .i64 l]),
            (fun v _ => v = .int .i64 0),
            (fun v _ => v = .bool true),
            (fun v _ => v = .bool true),
            (fun v _ => v = .pointer (some ⟨w.heap.size + 1, 3, none⟩)),
            (fun v _ => v = .int .i64 l),
            (fun v _ => v = .pointer (some ⟨w.heap.size, 4, none⟩)),
            (fun v _ => v = .int .i64 lo),
            (fun v _ => v = .bool false),
            (fun v _ => v = .bool false),
            (fun v _ => v = .bool false),
            (fun _ _ => True),
            (fun _ _ => True),
            (fun _ _ => True),
            (fun _ _ => True),
            (fun _ _ => True),
            (fun v _ => v = .bool false),
            (fun v _ => v = .bool false),
            (fun _ _ => True),
            (fun _ _ => True),
            (fun _ _ => True),
            (fun _ _ => True),
            (fun _ _ => True),
            (fun _ _ => True),
            (fun _ _ => True),
            (fun v _ => v = .bool false),
            (fun v _ => v = .bool false)] [some 6, some 7, some 8, some 9, some 10, some 11, some 12, some 13, some 14, some 15, some 16, some 17, some 18, some 19, some 20, some 21, some 22, some 23, some 24, some 25, some 26, some 27, some 28, some 29, some 30, some 31, some 2] (by kernel_rfl) (fun x y z h k => h.trans (k.mono h.size)) hr0 ?keep (by kernel_rfl) (by rw [F0s]; kernel_rfl) ?steps ?done
      case keep => repeat (first | exact kept_nil | refine kept_cons (kept_eq _) ?_ | refine kept_cons (fun _ _ _ _ _ h => h) ?_)
      case done =>
        intro a1 X hsz hdf hfix hev hE
        have q2 : a1.eval (.tmp 2) = .bool false := hE 26 (by decide)
        go_wp2
        refine bodyPost_ret (v := a1.eval (.tmp 2)) (results_tmp rfl _ _ _) (hdf.trans FD) ?_
        rw [q2]
        exact ⟨ret_bool HR.out.symm, HB.out.trans ((hdw.mono HB.out.size).trans (hev.mono (Nat.le_trans HB.out.size hdw.size)))⟩
      case steps =>
        refine ⟨?_, ?_, ?_, ?_, ?_, ?_, ?_, ?_, ?_, ?_, ?_, ?_, ?_, ?_, ?_, ?_, ?_, ?_, ?_, ?_, ?_, ?_, ?_, ?_, ?_, ?_, ?_, trivial⟩
        · intro a1 X hfix hev hdep
          have q3 : a1.eval (.tmp 3) = _ := (hfix 3 (by decide)).trans F3
          obtain ⟨c0, c1, c2, c3⟩ := HQ.out X hev
          refine Or.inl ⟨rfl, ?_⟩
          refine ow_value (v := .agg #[.int .i64 f, .int .u64 r, .string s, .int .i64 l]) (w' := X) ?_ ⟨_, rfl, Below.refl _ _, rfl⟩
          clear hfix hev hdep; generalize a1.eval = ev at *; unfold execOp; simp only; go_simp
        · intro a1 X hfix hev hdep
          have q6 : a1.eval (.tmp 6) = .agg #[.int .i64 f, .int .u64 r, .string s, .int .i64 l] := hdep 0 (by decide)
          refine Or.inl ⟨rfl, ?_⟩
          refine ow_enter (f := 173) (args := #[.agg #[.int .i64 f, .int .u64 r, .string s, .int .i64 l]]) (w' := X) ?_ ?_
          · have hf0 : a1.eval (.func 173) = .func (.func 173) #[] #[] := rfl; clear hfix hev hdep; generalize a1.eval = ev at *; unfold execOp; simp only; go_simp
          · refine Calls.mono (HK.out X hev) ?_
            rintro e Y ⟨rfl, hb⟩
            exact ⟨_, rfl, _, rfl, hb, rfl⟩
        · intro a1 X hfix hev hdep
          have q7 : a1.eval (.tmp 7) = .int .i64 0 := hdep 1 (by decide)
          refine Or.inl ⟨rfl, ?_⟩
          refine ow_value (v := .bool true) (w' := X) ?_ ⟨_, rfl, Below.refl _ _, rfl⟩
          have hk0 : a1.eval (.const (.int .i64 0)) = .int .i64 0 := rfl; clear hfix hev hdep; generalize a1.eval = ev at *; unfold execOp; simp only; go_simp
        · intro a1 X hfix hev hdep
          have q8 : a1.eval (.tmp 8) = .bool true := hdep 2 (by decide)
          refine Or.inl ⟨rfl, ?_⟩
          refine ow_value (v := .bool true) (w' := X) ?_ ⟨_, rfl, Below.refl _ _, rfl⟩
          clear hfix hev hdep; generalize a1.eval = ev at *; unfold execOp; simp only; go_simp
        · intro a1 X hfix hev hdep
          have g0 : a1.eval (.tmp 9) = .bool true := hdep 3 (by decide)
          have q3 : a1.eval (.tmp 3) = _ := (hfix 3 (by decide)).trans F3
          refine Or.inr (Or.inl ⟨_, _, rfl, g0, ?_⟩)
          refine ow_value (v := .pointer (some ⟨w.heap.size + 1, 3, none⟩)) (w' := X) ?_ ⟨_, rfl, Below.refl _ _, rfl⟩
          clear g0; clear hfix hev hdep; generalize a1.eval = ev at *; unfold execOp; simp only; go_simp
        · intro a1 X hfix hev hdep
          have g0 : a1.eval (.tmp 9) = .bool true := hdep 3 (by decide)
          have q10 : a1.eval (.tmp 10) = .pointer (some ⟨w.heap.size + 1, 3, none⟩) := hdep 4 (by decide)
          obtain ⟨c0, c1, c2, c3⟩ := HQ.out X hev
          refine Or.inr (Or.inl ⟨_, _, rfl, g0, ?_⟩)
          refine ow_value (v := .int .i64 l) (w' := X) ?_ ⟨_, rfl, Below.refl _ _, rfl⟩
          clear g0; clear hfix hev hdep; generalize a1.eval = ev at *; unfold execOp; simp only; go_simp
        · intro a1 X hfix hev hdep
          have g0 : a1.eval (.tmp 9) = .bool true := hdep 3 (by decide)
          have q1 : a1.eval (.tmp 1) = _ := (hfix 1 (by decide)).trans F1
          refine Or.inr (Or.inl ⟨_, _, rfl, g0, ?_⟩)
          refine ow_value (v := .pointer (some ⟨w.heap.size, 4, none⟩)) (w' := X) ?_ ⟨_, rfl, Below.refl _ _, rfl⟩
          clear g0; clear hfix hev hdep; generalize a1.eval = ev at *; unfold execOp; simp only; go_simp
        · intro a1 X hfix hev hdep
          have g0 : a1.eval (.tmp 9) = .bool true := hdep 3 (by decide)
          have q12 : a1.eval (.tmp 12) = .pointer (some ⟨w.heap.size, 4, none⟩) := hdep 6 (by decide)
          obtain ⟨c4, c5⟩ := HC.out X hev
          refine Or.inr (Or.inl ⟨_, _, rfl, g0, ?_⟩)
          refine ow_value (v := .int .i64 lo) (w' := X) ?_ ⟨_, rfl, Below.refl _ _, rfl⟩
          clear g0; clear hfix hev hdep; generalize a1.eval = ev at *; unfold execOp; simp only; go_simp
        · intro a1 X hfix hev hdep
          have g0 : a1.eval (.tmp 9) = .bool true := hdep 3 (by decide)
          have q11 : a1.eval (.tmp 11) = .int .i64 l := hdep 5 (by decide)
          have q13 : a1.eval (.tmp 13) = .int .i64 lo := hdep 7 (by decide)
          refine Or.inr (Or.inl ⟨_, _, rfl, g0, ?_⟩)
          refine ow_value (v := .bool false) (w' := X) ?_ ⟨_, rfl, Below.refl _ _, rfl⟩
          clear g0; clear hfix hev hdep; generalize a1.eval = ev at *; unfold execOp; simp only; go_simp
        · intro a1 X hfix hev hdep
          have q9 : a1.eval (.tmp 9) = .bool true := hdep 3 (by decide)
          have q14 : a1.eval (.tmp 14) = .bool false := hdep 8 (by decide)
          refine Or.inl ⟨rfl, ?_⟩
          refine ow_value (v := .bool false) (w' := X) ?_ ⟨_, rfl, Below.refl _ _, rfl⟩
          have hk0 : a1.eval (.const (.bool false)) = .bool false := rfl; clear hfix hev hdep; generalize a1.eval = ev at *; unfold execOp; simp only; go_simp
        · intro a1 X hfix hev hdep
          have q15 : a1.eval (.tmp 15) = .bool false := hdep 9 (by decide)
          refine Or.inl ⟨rfl, ?_⟩
          refine ow_value (v := .bool false) (w' := X) ?_ ⟨_, rfl, Below.refl _ _, rfl⟩
          clear hfix hev hdep; generalize a1.eval = ev at *; unfold execOp; simp only; go_simp
        · intro a1 X hfix hev hdep
          have g0 : a1.eval (.tmp 16) = .bool false := hdep 10 (by decide)
          exact Or.inr (Or.inr ⟨_, _, rfl, g0, ⟨_, rfl, Below.refl _ _, trivial⟩⟩)
        · intro a1 X hfix hev hdep
          have g0 : a1.eval (.tmp 16) = .bool false := hdep 10 (by decide)
          exact Or.inr (Or.inr ⟨_, _, rfl, g0, ⟨_, rfl, Below.refl _ _, trivial⟩⟩)
        · intro a1 X hfix hev hdep
          have g0 : a1.eval (.tmp 16) = .bool false := hdep 10 (by decide)
          exact Or.inr (Or.inr ⟨_, _, rfl, g0, ⟨_, rfl, Below.refl _ _, trivial⟩⟩)
        · intro a1 X hfix hev hdep
          have g0 : a1.eval (.tmp 16) = .bool false := hdep 10 (by decide)
          exact Or.inr (Or.inr ⟨_, _, rfl, g0, ⟨_, rfl, Below.refl _ _, trivial⟩⟩)
        · intro a1 X hfix hev hdep
          have g0 : a1.eval (.tmp 16) = .bool false := hdep 10 (by decide)
          exact Or.inr (Or.inr ⟨_, _, rfl, g0, ⟨_, rfl, Below.refl _ _, trivial⟩⟩)
        · intro a1 X hfix hev hdep
          have q16 : a1.eval (.tmp 16) = .bool false := hdep 10 (by decide)
          refine Or.inl ⟨rfl, ?_⟩
          refine ow_value (v := .bool false) (w' := X) ?_ ⟨_, rfl, Below.refl _ _, rfl⟩
          have hk0 : a1.eval (.const (.bool false)) = .bool false := rfl; clear hfix hev hdep; generalize a1.eval = ev at *; unfold execOp; simp only; go_simp
        · intro a1 X hfix hev hdep
          have q22 : a1.eval (.tmp 22) = .bool false := hdep 16 (by decide)
          refine Or.inl ⟨rfl, ?_⟩
          refine ow_value (v := .bool false) (w' := X) ?_ ⟨_, rfl, Below.refl _ _, rfl⟩
          clear hfix hev hdep; generalize a1.eval = ev at *; unfold execOp; simp only; go_simp
        · intro a1 X hfix hev hdep
          have g0 : a1.eval (.tmp 23) = .bool false := hdep 17 (by decide)
          exact Or.inr (Or.inr ⟨_, _, rfl, g0, ⟨_, rfl, Below.refl _ _, trivial⟩⟩)
        · intro a1 X hfix hev hdep
          have g0 : a1.eval (.tmp 23) = .bool false := hdep 17 (by decide)
          exact Or.inr (Or.inr ⟨_, _, rfl, g0, ⟨_, rfl, Below.refl _ _, trivial⟩⟩)
        · intro a1 X hfix hev hdep
          have g0 : a1.eval (.tmp 23) = .bool false := hdep 17 (by decide)
          exact Or.inr (Or.inr ⟨_, _, rfl, g0, ⟨_, rfl, Below.refl _ _, trivial⟩⟩)
        · intro a1 X hfix hev hdep
          have g0 : a1.eval (.tmp 23) = .bool false := hdep 17 (by decide)
          exact Or.inr (Or.inr ⟨_, _, rfl, g0, ⟨_, rfl, Below.refl _ _, trivial⟩⟩)
        · intro a1 X hfix hev hdep
          have g0 : a1.eval (.tmp 23) = .bool false := hdep 17 (by decide)
          exact Or.inr (Or.inr ⟨_, _, rfl, g0, ⟨_, rfl, Below.refl _ _, trivial⟩⟩)
        · intro a1 X hfix hev hdep
          have g0 : a1.eval (.tmp 23) = .bool false := hdep 17 (by decide)
          exact Or.inr (Or.inr ⟨_, _, rfl, g0, ⟨_, rfl, Below.refl _ _, trivial⟩⟩)
        · intro a1 X hfix hev hdep
          have g0 : a1.eval (.tmp 23) = .bool false := hdep 17 (by decide)
          exact Or.inr (Or.inr ⟨_, _, rfl, g0, ⟨_, rfl, Below.refl _ _, trivial⟩⟩)
        · intro a1 X hfix hev hdep
          have q23 : a1.eval (.tmp 23) = .bool false := hdep 17 (by decide)
          refine Or.inl ⟨rfl, ?_⟩
          refine ow_value (v := .bool false) (w' := X) ?_ ⟨_, rfl, Below.refl _ _, rfl⟩
          have hk0 : a1.eval (.const (.bool false)) = .bool false := rfl; clear hfix hev hdep; generalize a1.eval = ev at *; unfold execOp; simp only; go_simp
        · intro a1 X hfix hev hdep
          have q31 : a1.eval (.tmp 31) = .bool false := hdep 25 (by decide)
          refine Or.inl ⟨rfl, ?_⟩
          refine ow_value (v := .bool false) (w' := X) ?_ ⟨_, rfl, Below.refl _ _, rfl⟩
          clear hfix hev hdep; generalize a1.eval = ev at *; unfold execOp; simp only; go_simp
  · have HR : Hid (d = false) := by unfold Hid; rw [HREF.out, decide_eq_false hz0]; simp
    have hq0 : (c == 0) = false := by simpa using hz0
    generalize hW0 : (w.alloc (.cells #[.int .i64 f, .int .u64 r, .string s, .int .i64 l, .int .i64 lo, .int .i64 hi] 52)).alloc (.cells #[.int .i64 f, .int .u64 r, .string s, .int .i64 l] 50) = W0 at *
    let Ev : World → World → Prop := fun x y => Below x.heap.size x y
    have hr0 : Ev W0.drew W0.drew := Below.refl _ _
    have HQ : Hid (∀ X, Ev W0.drew X → X.cell? ⟨w.heap.size + 1, 0, none⟩ = some (.int .i64 f) ∧ X.cell? ⟨w.heap.size + 1, 1, none⟩ = some (.int .u64 r) ∧ X.cell? ⟨w.heap.size + 1, 2, none⟩ = some (.string s) ∧ X.cell? ⟨w.heap.size + 1, 3, none⟩ = some (.int .i64 l)) := fun X hX => ⟨below_cell hX (below_cell hdw HQ0.out.1), below_cell hX (below_cell hdw HQ0.out.2.1), below_cell hX (below_cell hdw HQ0.out.2.2.1), below_cell hX (below_cell hdw HQ0.out.2.2.2)⟩
    have HC : Hid (∀ X, Ev W0.drew X → X.cell? ⟨w.heap.size, 4, none⟩ = some (.int .i64 lo) ∧ X.cell? ⟨w.heap.size, 5, none⟩ = some (.int .i64 hi)) := fun X hX => ⟨below_cell hX (below_cell hdw HC0.out.1), below_cell hX (below_cell hdw HC0.out.2)⟩
    have HTX : Hid (∀ X, Ev W0.drew X → Pr.Tabs X) := fun X hX => (HT.out.below hdw).below hX
    have HK : Hid (∀ X, Ev W0.drew X → Calls Tryz.prog 173 #[.agg #[.int .i64 f, .int .u64 r, .string s, .int .i64 l]] X fun e w' => e = .returned (.int .i64 c) ∧ Below X.heap.size X w') := fun X hX => by
      have := Pr.check_any f r s l X (HTX.out X hX).sizes (HTX.out X hX).rds
      rw [hcc] at this
      exact this
    have HS : Hid (∀ X, Ev W0.drew X → Calls Tryz.prog 117 #[.int .i64 f] X fun e w' => e = .returned (.int .i64 z) ∧ w' = X) := fun X hX => by
      have := Pr.size_any f X (HTX.out X hX).sizes
      rw [hzz] at this
      exact this
    go_enter Tryz.func149, Tryz.ntmps149
    go_wp2_with fail
    refine with_act (fun ax => ax.tmps.size = 32 ∧ ax.defers = [] ∧ ax.eval (.tmp 1) = .pointer (some ⟨w.heap.size, 0, none⟩) ∧ ax.eval (.tmp 3) = .pointer (some ⟨w.heap.size + 1, 0, none⟩)) ⟨rfl, rfl, rfl, rfl⟩ ?_
    rintro a0 ⟨F0s, FD, F1, F3⟩
    refine region_list (by kernel_rfl) Ev [(fun v _ => v = .agg #[.int .i64 f, .int .u64 r, .string s, .int .i64 l]),
          (fun v _ => v = .int .i64 c),
          (fun v _ => v = .bool false),
          (fun v _ => v = .bool false),
          (fun _ _ => True),
          (fun _ _ => True),
          (fun _ _ => True),
          (fun _ _ => True),
          (fun _ _ => True),
          (fun v _ => v = .bool false),
          (fun v _ => v = .bool false),
          (fun _ _ => True),
          (fun _ _ => True),
          (fun _ _ => True),
          (fun _ _ => True),
          (fun _ _ => True),
          (fun v _ => v = .bool false),
          (fun v _ => v = .bool false),
          (fun _ _ => True),
          (fun _ _ => True),
          (fun _ _ => True),
          (fun _ _ => True),
          (fun _ _ => True),
          (fun _ _ => True),
          (fun _ _ => True),
          (fun v _ => v = .bool false),
          (fun v _ => v = .bool false)] [some 6, some 7, some 8, some 9, some 10, some 11, some 12, some 13, some 14, some 15, some 16, some 17, some 18, some 19, some 20, some 21, some 22, some 23, some 24, some 25, some 26, some 27, some 28, some 29, some 30, some 31, some 2] (by kernel_rfl) (fun x y z h k => h.trans (k.mono h.size)) hr0 ?keep (by kernel_rfl) (by rw [F0s]; kernel_rfl) ?steps ?done
    case keep => repeat (first | exact kept_nil | refine kept_cons (kept_eq _) ?_ | refine kept_cons (fun _ _ _ _ _ h => h) ?_)
    case done =>
      intro a1 X hsz hdf hfix hev hE
      have q2 : a1.eval (.tmp 2) = .bool false := hE 26 (by decide)
      go_wp2
      refine bodyPost_ret (v := a1.eval (.tmp 2)) (results_tmp rfl _ _ _) (hdf.trans FD) ?_
      rw [q2]
      exact ⟨ret_bool HR.out.symm, HB.out.trans ((hdw.mono HB.out.size).trans (hev.mono (Nat.le_trans HB.out.size hdw.size)))⟩
    case steps =>
      refine ⟨?_, ?_, ?_, ?_, ?_, ?_, ?_, ?_, ?_, ?_, ?_, ?_, ?_, ?_, ?_, ?_, ?_, ?_, ?_, ?_, ?_, ?_, ?_, ?_, ?_, ?_, ?_, trivial⟩
      · intro a1 X hfix hev hdep
        have q3 : a1.eval (.tmp 3) = _ := (hfix 3 (by decide)).trans F3
        obtain ⟨c0, c1, c2, c3⟩ := HQ.out X hev
        refine Or.inl ⟨rfl, ?_⟩
        refine ow_value (v := .agg #[.int .i64 f, .int .u64 r, .string s, .int .i64 l]) (w' := X) ?_ ⟨_, rfl, Below.refl _ _, rfl⟩
        clear hfix hev hdep; generalize a1.eval = ev at *; unfold execOp; simp only; go_simp
      · intro a1 X hfix hev hdep
        have q6 : a1.eval (.tmp 6) = .agg #[.int .i64 f, .int .u64 r, .string s, .int .i64 l] := hdep 0 (by decide)
        refine Or.inl ⟨rfl, ?_⟩
        refine ow_enter (f := 173) (args := #[.agg #[.int .i64 f, .int .u64 r, .string s, .int .i64 l]]) (w' := X) ?_ ?_
        · have hf0 : a1.eval (.func 173) = .func (.func 173) #[] #[] := rfl; clear hfix hev hdep; generalize a1.eval = ev at *; unfold execOp; simp only; go_simp
        · refine Calls.mono (HK.out X hev) ?_
          rintro e Y ⟨rfl, hb⟩
          exact ⟨_, rfl, _, rfl, hb, rfl⟩
      · intro a1 X hfix hev hdep
        have q7 : a1.eval (.tmp 7) = .int .i64 c := hdep 1 (by decide)
        refine Or.inl ⟨rfl, ?_⟩
        refine ow_value (v := .bool false) (w' := X) ?_ ⟨_, rfl, Below.refl _ _, rfl⟩
        have hk0 : a1.eval (.const (.int .i64 0)) = .int .i64 0 := rfl; clear hfix hev hdep; generalize a1.eval = ev at *; unfold execOp; simp only; go_simp
      · intro a1 X hfix hev hdep
        have q8 : a1.eval (.tmp 8) = .bool false := hdep 2 (by decide)
        refine Or.inl ⟨rfl, ?_⟩
        refine ow_value (v := .bool false) (w' := X) ?_ ⟨_, rfl, Below.refl _ _, rfl⟩
        clear hfix hev hdep; generalize a1.eval = ev at *; unfold execOp; simp only; go_simp
      · intro a1 X hfix hev hdep
        have g0 : a1.eval (.tmp 9) = .bool false := hdep 3 (by decide)
        exact Or.inr (Or.inr ⟨_, _, rfl, g0, ⟨_, rfl, Below.refl _ _, trivial⟩⟩)
      · intro a1 X hfix hev hdep
        have g0 : a1.eval (.tmp 9) = .bool false := hdep 3 (by decide)
        exact Or.inr (Or.inr ⟨_, _, rfl, g0, ⟨_, rfl, Below.refl _ _, trivial⟩⟩)
      · intro a1 X hfix hev hdep
        have g0 : a1.eval (.tmp 9) = .bool false := hdep 3 (by decide)
        exact Or.inr (Or.inr ⟨_, _, rfl, g0, ⟨_, rfl, Below.refl _ _, trivial⟩⟩)
      · intro a1 X hfix hev hdep
        have g0 : a1.eval (.tmp 9) = .bool false := hdep 3 (by decide)
        exact Or.inr (Or.inr ⟨_, _, rfl, g0, ⟨_, rfl, Below.refl _ _, trivial⟩⟩)
      · intro a1 X hfix hev hdep
        have g0 : a1.eval (.tmp 9) = .bool false := hdep 3 (by decide)
        exact Or.inr (Or.inr ⟨_, _, rfl, g0, ⟨_, rfl, Below.refl _ _, trivial⟩⟩)
      · intro a1 X hfix hev hdep
        have q9 : a1.eval (.tmp 9) = .bool false := hdep 3 (by decide)
        refine Or.inl ⟨rfl, ?_⟩
        refine ow_value (v := .bool false) (w' := X) ?_ ⟨_, rfl, Below.refl _ _, rfl⟩
        have hk0 : a1.eval (.const (.bool false)) = .bool false := rfl; clear hfix hev hdep; generalize a1.eval = ev at *; unfold execOp; simp only; go_simp
      · intro a1 X hfix hev hdep
        have q15 : a1.eval (.tmp 15) = .bool false := hdep 9 (by decide)
        refine Or.inl ⟨rfl, ?_⟩
        refine ow_value (v := .bool false) (w' := X) ?_ ⟨_, rfl, Below.refl _ _, rfl⟩
        clear hfix hev hdep; generalize a1.eval = ev at *; unfold execOp; simp only; go_simp
      · intro a1 X hfix hev hdep
        have g0 : a1.eval (.tmp 16) = .bool false := hdep 10 (by decide)
        exact Or.inr (Or.inr ⟨_, _, rfl, g0, ⟨_, rfl, Below.refl _ _, trivial⟩⟩)
      · intro a1 X hfix hev hdep
        have g0 : a1.eval (.tmp 16) = .bool false := hdep 10 (by decide)
        exact Or.inr (Or.inr ⟨_, _, rfl, g0, ⟨_, rfl, Below.refl _ _, trivial⟩⟩)
      · intro a1 X hfix hev hdep
        have g0 : a1.eval (.tmp 16) = .bool false := hdep 10 (by decide)
        exact Or.inr (Or.inr ⟨_, _, rfl, g0, ⟨_, rfl, Below.refl _ _, trivial⟩⟩)
      · intro a1 X hfix hev hdep
        have g0 : a1.eval (.tmp 16) = .bool false := hdep 10 (by decide)
        exact Or.inr (Or.inr ⟨_, _, rfl, g0, ⟨_, rfl, Below.refl _ _, trivial⟩⟩)
      · intro a1 X hfix hev hdep
        have g0 : a1.eval (.tmp 16) = .bool false := hdep 10 (by decide)
        exact Or.inr (Or.inr ⟨_, _, rfl, g0, ⟨_, rfl, Below.refl _ _, trivial⟩⟩)
      · intro a1 X hfix hev hdep
        have q16 : a1.eval (.tmp 16) = .bool false := hdep 10 (by decide)
        refine Or.inl ⟨rfl, ?_⟩
        refine ow_value (v := .bool false) (w' := X) ?_ ⟨_, rfl, Below.refl _ _, rfl⟩
        have hk0 : a1.eval (.const (.bool false)) = .bool false := rfl; clear hfix hev hdep; generalize a1.eval = ev at *; unfold execOp; simp only; go_simp
      · intro a1 X hfix hev hdep
        have q22 : a1.eval (.tmp 22) = .bool false := hdep 16 (by decide)
        refine Or.inl ⟨rfl, ?_⟩
        refine ow_value (v := .bool false) (w' := X) ?_ ⟨_, rfl, Below.refl _ _, rfl⟩
        clear hfix hev hdep; generalize a1.eval = ev at *; unfold execOp; simp only; go_simp
      · intro a1 X hfix hev hdep
        have g0 : a1.eval (.tmp 23) = .bool false := hdep 17 (by decide)
        exact Or.inr (Or.inr ⟨_, _, rfl, g0, ⟨_, rfl, Below.refl _ _, trivial⟩⟩)
      · intro a1 X hfix hev hdep
        have g0 : a1.eval (.tmp 23) = .bool false := hdep 17 (by decide)
        exact Or.inr (Or.inr ⟨_, _, rfl, g0, ⟨_, rfl, Below.refl _ _, trivial⟩⟩)
      · intro a1 X hfix hev hdep
        have g0 : a1.eval (.tmp 23) = .bool false := hdep 17 (by decide)
        exact Or.inr (Or.inr ⟨_, _, rfl, g0, ⟨_, rfl, Below.refl _ _, trivial⟩⟩)
      · intro a1 X hfix hev hdep
        have g0 : a1.eval (.tmp 23) = .bool false := hdep 17 (by decide)
        exact Or.inr (Or.inr ⟨_, _, rfl, g0, ⟨_, rfl, Below.refl _ _, trivial⟩⟩)
      · intro a1 X hfix hev hdep
        have g0 : a1.eval (.tmp 23) = .bool false := hdep 17 (by decide)
        exact Or.inr (Or.inr ⟨_, _, rfl, g0, ⟨_, rfl, Below.refl _ _, trivial⟩⟩)
      · intro a1 X hfix hev hdep
        have g0 : a1.eval (.tmp 23) = .bool false := hdep 17 (by decide)
        exact Or.inr (Or.inr ⟨_, _, rfl, g0, ⟨_, rfl, Below.refl _ _, trivial⟩⟩)
      · intro a1 X hfix hev hdep
        have g0 : a1.eval (.tmp 23) = .bool false := hdep 17 (by decide)
        exact Or.inr (Or.inr ⟨_, _, rfl, g0, ⟨_, rfl, Below.refl _ _, trivial⟩⟩)
      · intro a1 X hfix hev hdep
        have q23 : a1.eval (.tmp 23) = .bool false := hdep 17 (by decide)
        refine Or.inl ⟨rfl, ?_⟩
        refine ow_value (v := .bool false) (w' := X) ?_ ⟨_, rfl, Below.refl _ _, rfl⟩
        have hk0 : a1.eval (.const (.bool false)) = .bool false := rfl; clear hfix hev hdep; generalize a1.eval = ev at *; unfold execOp; simp only; go_simp
      · intro a1 X hfix hev hdep
        have q31 : a1.eval (.tmp 31) = .bool false := hdep 25 (by decide)
        refine Or.inl ⟨rfl, ?_⟩
        refine ow_value (v := .bool false) (w' := X) ?_ ⟨_, rfl, Below.refl _ _, rfl⟩
        clear hfix hev hdep; generalize a1.eval = ev at *; unfold execOp; simp only; go_simp
end Go.Proofs.YthaebbmekonacaaGreatDoor
