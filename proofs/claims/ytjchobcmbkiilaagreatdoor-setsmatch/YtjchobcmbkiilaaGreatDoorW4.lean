/-
  works: the examples that every statement asks for.
-/
import Derived.Test.YtjchobcmbkiilaaGreatDoorW3
import Derived.Test.YtjchobcmbkiilaaGreatDoorY5
import Derived.Test.YtjchobcmbkiilaaGreatDoorPaXa
import Derived.Test.YtjchobcmbkiilaaGreatDoorPaXb
set_option linter.unusedVariables false
set_option linter.unusedSimpArgs false
set_option maxRecDepth 100000
namespace Go.Proofs.YtjchobcmbkiilaaGreatDoor
open Go.RowKit
theorem new1 (X : World) (a : Nat) : ASAt (X.alloc (.cells #[.int .u32 (a : Int)] 50)) (.slice (some ⟨X.heap.size, 0, none⟩) 1 1) [a] := by
  refine ⟨_, X.heap.size, 0, 1, rfl, Or.inl rfl, Nat.le_refl _, fun j hj => ?_⟩
  obtain rfl : j = 0 := by simp at hj; omega
  rw [World.cell?_alloc_new]; rfl
theorem new2 (X : World) (a b : Nat) : ASAt (X.alloc (.cells #[.int .u32 (a : Int), .int .u32 (b : Int)] 50)) (.slice (some ⟨X.heap.size, 0, none⟩) 2 2) [a, b] := by
  refine ⟨_, X.heap.size, 0, 2, rfl, Or.inl rfl, Nat.le_refl _, fun j hj => ?_⟩
  have : j = 0 ∨ j = 1 := by simp at hj; omega
  rcases this with rfl | rfl <;> (rw [World.cell?_alloc_new]; rfl)
theorem p1_any (w : World) (h : Pr.Tabs w) : Calls Tryz.prog 51 #[.string ⟨#[118, 52, 32, 49, 48, 46, 48, 46, 48, 46, 48, 47, 56]⟩] w fun e w' => e = .returned (.agg #[.int .i64 1, .int .u64 0, .string ⟨#[10, 0, 0, 0]⟩, .int .i64 8]) ∧ Below w.heap.size w w' := by
  have HK : Hid (_ : Prop) := Pr.parse_Xa (w.alloc (.cells #[.int .i64 0, .int .u64 0, .string ⟨#[]⟩, .int .i64 0] 29)) (h.below (below_box _ _))
  clear h
  go_enter Tryz.func51, Tryz.ntmps51
  go_wp2_with fail
  refine Calls.mono HK.out ?_
  rintro e w2 ⟨rfl, hb2⟩
  obtain ⟨d0, d1, d2, d3, g0, g1, g2, g3⟩ := (Pr.PfxAt.of_alloc w _ 0 0 ⟨#[]⟩ 0 rfl).kept hb2 (by simp)
  have hsz : w.heap.size < w2.heap.size := by have := hb2.size; simp at this; omega
  have HB2 : Hid (Below w.heap.size w w2) := (below_box w (.cells #[.int .i64 0, .int .u64 0, .string ⟨#[]⟩, .int .i64 0] 29)).trans (hb2.mono (by simp))
  go_wp2
  refine bodyPost_ret (v := .agg #[.int .i64 1, .int .u64 0, .string ⟨#[10, 0, 0, 0]⟩, .int .i64 8]) (by simp [results, Tryz.results51, go_sem, d0, d1, d2, d3, hsz]) rfl ⟨rfl, ?_⟩
  exact ((((HB2.out.setCell (p := ⟨_, 0, none⟩) (Nat.le_refl _) _).setCell (p := ⟨_, 1, none⟩) (Nat.le_refl _) _).setCell (p := ⟨_, 2, none⟩) (Nat.le_refl _) _).setCell (p := ⟨_, 3, none⟩) (Nat.le_refl _) _).alloc (by simp; omega) _
theorem p2_any (w : World) (h : Pr.Tabs w) : Calls Tryz.prog 51 #[.string ⟨#[118, 52, 32, 49, 48, 46, 49, 46, 48, 46, 48, 47, 49, 54]⟩] w fun e w' => e = .returned (.agg #[.int .i64 1, .int .u64 0, .string ⟨#[10, 1, 0, 0]⟩, .int .i64 16]) ∧ Below w.heap.size w w' := by
  have HK : Hid (_ : Prop) := Pr.parse_Xb (w.alloc (.cells #[.int .i64 0, .int .u64 0, .string ⟨#[]⟩, .int .i64 0] 29)) (h.below (below_box _ _))
  clear h
  go_enter Tryz.func51, Tryz.ntmps51
  go_wp2_with fail
  refine Calls.mono HK.out ?_
  rintro e w2 ⟨rfl, hb2⟩
  obtain ⟨d0, d1, d2, d3, g0, g1, g2, g3⟩ := (Pr.PfxAt.of_alloc w _ 0 0 ⟨#[]⟩ 0 rfl).kept hb2 (by simp)
  have hsz : w.heap.size < w2.heap.size := by have := hb2.size; simp at this; omega
  have HB2 : Hid (Below w.heap.size w w2) := (below_box w (.cells #[.int .i64 0, .int .u64 0, .string ⟨#[]⟩, .int .i64 0] 29)).trans (hb2.mono (by simp))
  go_wp2
  refine bodyPost_ret (v := .agg #[.int .i64 1, .int .u64 0, .string ⟨#[10, 1, 0, 0]⟩, .int .i64 16]) (by simp [results, Tryz.results51, go_sem, d0, d1, d2, d3, hsz]) rfl ⟨rfl, ?_⟩
  exact ((((HB2.out.setCell (p := ⟨_, 0, none⟩) (Nat.le_refl _) _).setCell (p := ⟨_, 1, none⟩) (Nat.le_refl _) _).setCell (p := ⟨_, 2, none⟩) (Nat.le_refl _) _).setCell (p := ⟨_, 3, none⟩) (Nat.le_refl _) _).alloc (by simp; omega) _
/-- The example's set. -/
def S0 : Sty := ⟨⟨#[115]⟩, 1, [⟨1, 0, ⟨#[10, 0, 0, 0]⟩, 8, 16, 24⟩], [], []⟩
theorem small0 : Small S0 := ⟨by decide, by decide, by decide, by decide, by simp [S0], by simp [S0]⟩
theorem pre0a : preS S0 1 0 ⟨#[10, 1, 0, 0]⟩ 16 = true := by decide +kernel
theorem pre0b : preS S0 1 0 ⟨#[10, 0, 0, 0]⟩ 8 = false := by decide +kernel
theorem prs0 : prs [49, 32, 46, 32, 42] = some [(1, 1), (2, 0), (3, 0)] := by decide +kernel
theorem m0a : (okP [(1, 1), (2, 0), (3, 0)] && mt [(1, 1), (2, 0), (3, 0)] [1, 2]) = true := by decide +kernel
theorem m0b : (okP [(1, 1), (2, 0), (3, 0)] && mt [(1, 1), (2, 0), (3, 0)] [1]) = false := by decide +kernel
theorem nilU (w : World) : ASAt w (.slice none 0 0) [] := ⟨none, 0, 0, 0, rfl, Or.inr rfl, Nat.le_refl _, fun j h => by simp at h⟩
theorem nilP (w : World) : PsAt w (.slice none 0 0) [] := ⟨none, 0, 0, 0, rfl, Or.inr rfl, Nat.le_refl _, fun j h => by simp at h⟩
theorem box_it (w : World) {W : World} (hW : W = w.alloc (.cells #[.int .i64 1, .int .u64 0, .string ⟨#[10, 0, 0, 0]⟩, .int .i64 8, .int .i64 16, .int .i64 24] 49)) : ItsAt W (.slice (some ⟨w.heap.size, 0, none⟩) 1 1) [⟨1, 0, ⟨#[10, 0, 0, 0]⟩, 8, 16, 24⟩] := by
  obtain ⟨_, c0, c1, c2, c3, c4, c5⟩ := box6 w (.int .i64 1) (.int .u64 0) (.string ⟨#[10, 0, 0, 0]⟩) (.int .i64 8) (.int .i64 16) (.int .i64 24) 49 hW
  refine ⟨_, w.heap.size, 0, 1, rfl, Or.inl rfl, Nat.le_refl _, fun j hj => ?_⟩
  obtain rfl : j = 0 := by simp at hj; omega
  exact ⟨c0, c1, c2, c3, c4, c5⟩
set_option maxHeartbeats 4000000 in
theorem works_any (w : World) (he : Env w) : Calls Tryz.prog 18 #[] w fun e w' => e = .returned (.bool true) ∧ Below w.heap.size w w' := by
  have HE : Hid (Env w) := he
  clear he
  go_enter Tryz.func18, Tryz.ntmps18
  go_wp2_with fail
  refine Calls.mono (parseP_any [49, 32, 46, 32, 42] w (by decide) HE.out) ?_
  rintro e w1 ⟨h1, hb1⟩
  rw [prs0] at h1
  obtain ⟨v, rfl, ho, _⟩ := h1
  obtain ⟨ad, cap, rfl, _⟩ := own_len ho
  have HB1 : Hid (Below w.heap.size w w1) := hb1
  have HO : Hid (OwnA w1 w.heap.size _ _) := ho
  clear hb1 ho
  go_wp2_with fail
  refine Calls.mono (p1_any w1 (HE.out.below HB1.out).t) ?_
  rintro e w2 ⟨rfl, hb2⟩
  have HB2 : Hid (Below w.heap.size w w2) := HB1.out.trans (hb2.mono HB1.out.size)
  have HO2 : Hid (OwnA w2 w.heap.size _ _) := HO.out.below hb2
  clear hb2 HO HB1
  go_wp2_with fail
  refine Pr.with_world (fun wx => ∃ b1 b2, b1 = w2.heap.size ∧ b2 = w2.heap.size + 1 ∧ Below w.heap.size w wx ∧ OwnA wx w.heap.size (.slice ad 3 cap) [(1, 1), (2, 0), (3, 0)] ∧ SetAt wx S0 (.slice (some ⟨b1, 0, none⟩) 1 1) (.slice none 0 0) (.slice none 0 0) ∧ (wx.cell? ⟨b2, 0, none⟩ = some (.string ⟨#[115]⟩) ∧ wx.cell? ⟨b2, 1, none⟩ = some (.int .i64 1) ∧ wx.cell? ⟨b2, 2, none⟩ = some (.slice (some ⟨b1, 0, none⟩) 1 1) ∧ wx.cell? ⟨b2, 3, none⟩ = some (.slice none 0 0) ∧ wx.cell? ⟨b2, 4, none⟩ = some (.slice none 0 0))) ?_ ?_
  · refine ⟨_, _, rfl, rfl, ?_⟩
    obtain ⟨hx, hc⟩ := box5 (w2.alloc (.cells #[.int .i64 1, .int .u64 0, .string ⟨#[10, 0, 0, 0]⟩, .int .i64 8, .int .i64 16, .int .i64 24] 49)) (.string ⟨#[115]⟩) (.int .i64 1) (.slice (some ⟨w2.heap.size, 0, none⟩) 1 1) (.slice none 0 0) (.slice none 0 0) 26 rfl
    rw [size_alloc'] at hc
    have hy := below_box w2 (.cells #[.int .i64 1, .int .u64 0, .string ⟨#[10, 0, 0, 0]⟩, .int .i64 8, .int .i64 16, .int .i64 24] 49)
    have hxy : Below w.heap.size w _ := HB2.out.trans (hy.mono HB2.out.size)
    exact ⟨hxy.trans (hx.mono hxy.size), (HO2.out.below hy).below hx, ⟨(box_it w2 rfl).below hx, nilU _, nilP _⟩, hc⟩
  rintro W0 ⟨b1, b2, e1, e2, hb, ho, hset, hcs⟩
  rw [← e2]
  try rw [← e1]
  clear e1 e2
  have HB : Hid (Below w.heap.size w W0) := hb
  have hdw : Below W0.heap.size W0 W0.drew := (Below.refl _ _).drew
  have HW : Hid (∀ X, Below W0.drew.heap.size W0.drew X → Below W0.heap.size W0 X) := fun X hX => hdw.trans (hX.mono hdw.size)
  have HS : Hid (∀ X, Below W0.drew.heap.size W0.drew X → _) := fun X hX => cells5 hcs (HW.out X hX)
  have HTX : Hid (∀ X, Below W0.drew.heap.size W0.drew X → Pr.Tabs X) := fun X hX => ((HE.out.below HB.out).below (HW.out X hX)).t
  have HM : Hid (∀ X, Below W0.drew.heap.size W0.drew X → ∀ y L, ASAt X y L → L.length ≤ 1000 → Calls Tryz.prog 24 #[.slice ad 3 cap, y] X fun e w' => e = .returned (.bool (okP [(1, 1), (2, 0), (3, 0)] && mt [(1, 1), (2, 0), (3, 0)] L)) ∧ Below X.heap.size X w') := fun X hX y L hy hL => match_any _ y _ L X (ho.below (HW.out X hX)).at hy (by decide) (by omega)
  have HP1 : Hid (∀ X, Below W0.drew.heap.size W0.drew X → _) := fun X hX => p1_any X (HTX.out X hX)
  have HP2 : Hid (∀ X, Below W0.drew.heap.size W0.drew X → _) := fun X hX => p2_any X (HTX.out X hX)
  have HX2 : Hid (∀ X, Below W0.drew.heap.size W0.drew X → Calls Tryz.prog 11 #[.agg #[.string ⟨#[115]⟩, .int .i64 1, .slice (some ⟨b1, 0, none⟩) 1 1, .slice none 0 0, .slice none 0 0], .agg #[.int .i64 1, .int .u64 0, .string ⟨#[10, 1, 0, 0]⟩, .int .i64 16]] X fun e w' => e = .returned (.bool true) ∧ Below X.heap.size X w') := fun X hX => by
    have := prefix_any S0 _ _ _ 1 0 ⟨#[10, 1, 0, 0]⟩ 16 X (HTX.out X hX) (hset.below (HW.out X hX)) small0
    rw [pre0a] at this
    exact this
  have HX1 : Hid (∀ X, Below W0.drew.heap.size W0.drew X → Calls Tryz.prog 11 #[.agg #[.string ⟨#[115]⟩, .int .i64 1, .slice (some ⟨b1, 0, none⟩) 1 1, .slice none 0 0, .slice none 0 0], .agg #[.int .i64 1, .int .u64 0, .string ⟨#[10, 0, 0, 0]⟩, .int .i64 8]] X fun e w' => e = .returned (.bool false) ∧ Below X.heap.size X w') := fun X hX => by
    have := prefix_any S0 _ _ _ 1 0 ⟨#[10, 0, 0, 0]⟩ 8 X (HTX.out X hX) (hset.below (HW.out X hX)) small0
    rw [pre0b] at this
    exact this
  clear hb ho hset hcs HB2 HO2
  let Ev : World → World → Prop := fun x y => Below x.heap.size x y
  have hr0 : Ev W0.drew W0.drew := Below.refl _ _
  refine with_act (fun ax => ax.tmps.size = 36 ∧ ax.defers = [] ∧ ax.eval (.tmp 1) = .slice ad 3 cap ∧ ax.eval (.tmp 2) = .int .i64 0 ∧ ax.eval (.tmp 3) = .pointer (some ⟨b2, 0, none⟩)) ⟨rfl, rfl, rfl, rfl, rfl⟩ ?_
  rintro a0 ⟨F0s, FD, F1, F2, F3⟩
  refine region_list (by kernel_rfl) Ev [(fun v _ => v = .int .i64 0),
        (fun v _ => v = .bool true),
        (fun v _ => v = .bool true),
        (fun v _ => v = .slice ad 3 cap),
        (fun v X => ASAt X v [1, 2]),
        (fun v _ => v = .bool true),
        (fun v _ => v = .bool true),
        (fun v _ => v = .bool true),
        (fun v _ => v = .slice ad 3 cap),
        (fun v X => ASAt X v [1]),
        (fun v _ => v = .bool false),
        (fun v _ => v = .bool true),
        (fun v _ => v = .bool true),
        (fun v _ => v = .bool true),
        (fun v _ => v = .agg #[.string ⟨#[115]⟩, .int .i64 1, .slice (some ⟨b1, 0, none⟩) 1 1, .slice none 0 0, .slice none 0 0]),
        (fun v _ => v = .agg #[.int .i64 1, .int .u64 0, .string ⟨#[10, 1, 0, 0]⟩, .int .i64 16]),
        (fun v _ => v = .bool true),
        (fun v _ => v = .bool true),
        (fun v _ => v = .bool true),
        (fun v _ => v = .agg #[.string ⟨#[115]⟩, .int .i64 1, .slice (some ⟨b1, 0, none⟩) 1 1, .slice none 0 0, .slice none 0 0]),
        (fun v _ => v = .agg #[.int .i64 1, .int .u64 0, .string ⟨#[10, 0, 0, 0]⟩, .int .i64 8]),
        (fun v _ => v = .bool false),
        (fun v _ => v = .bool true),
        (fun v _ => v = .bool true),
        (fun v _ => v = .bool true)] [some 12, some 13, some 14, some 15, some 16, some 17, some 18, some 19, some 20, some 21, some 22, some 23, some 24, some 25, some 26, some 27, some 28, some 29, some 30, some 31, some 32, some 33, some 34, some 35, some 0] (by kernel_rfl) (fun x y z h k => h.trans (k.mono h.size)) hr0 ?keep (by kernel_rfl) (by rw [F0s]; kernel_rfl) ?steps ?done
  case keep => repeat (first | exact kept_nil | refine kept_cons (kept_eq _) ?_ | refine kept_cons (fun _ _ _ _ h1 h2 => ASAt.below h2 h1) ?_)
  case done =>
    intro a1 X hsz hdf hfix hev hE
    have q0 : a1.eval (.tmp 0) = .bool true := hE 24 (by decide)
    go_wp2
    refine bodyPost_ret (v := a1.eval (.tmp 0)) (results_tmp rfl _ _ _) (hdf.trans FD) ?_
    rw [q0]
    exact ⟨rfl, HB.out.trans ((hdw.mono HB.out.size).trans (hev.mono (Nat.le_trans HB.out.size hdw.size)))⟩
  case steps =>
    refine ⟨?_, ?_, ?_, ?_, ?_, ?_, ?_, ?_, ?_, ?_, ?_, ?_, ?_, ?_, ?_, ?_, ?_, ?_, ?_, ?_, ?_, ?_, ?_, ?_, ?_, trivial⟩
    · intro a1 X hfix hev hdep
      have q2 : a1.eval (.tmp 2) = _ := (hfix 2 (by decide)).trans F2
      refine Or.inl ⟨rfl, ?_⟩
      refine ow_value (v := .int .i64 0) (w' := X) ?_ ⟨_, rfl, Below.refl _ _, rfl⟩
      clear hfix hev hdep; generalize a1.eval = ev at *; unfold execOp; simp only; go_simp
    · intro a1 X hfix hev hdep
      have q12 : a1.eval (.tmp 12) = .int .i64 0 := hdep 0 (by decide)
      refine Or.inl ⟨rfl, ?_⟩
      refine ow_value (v := .bool true) (w' := X) ?_ ⟨_, rfl, Below.refl _ _, rfl⟩
      have hk0 : a1.eval (.const (.int .i64 0)) = .int .i64 0 := rfl; clear hfix hev hdep; generalize a1.eval = ev at *; unfold execOp; simp only; go_simp
    · intro a1 X hfix hev hdep
      have q13 : a1.eval (.tmp 13) = .bool true := hdep 1 (by decide)
      refine Or.inl ⟨rfl, ?_⟩
      refine ow_value (v := .bool true) (w' := X) ?_ ⟨_, rfl, Below.refl _ _, rfl⟩
      clear hfix hev hdep; generalize a1.eval = ev at *; unfold execOp; simp only; go_simp
    · intro a1 X hfix hev hdep
      have g0 : a1.eval (.tmp 14) = .bool true := hdep 2 (by decide)
      have q1 : a1.eval (.tmp 1) = _ := (hfix 1 (by decide)).trans F1
      refine Or.inr (Or.inl ⟨_, _, rfl, g0, ?_⟩)
      refine ow_value (v := .slice ad 3 cap) (w' := X) ?_ ⟨_, rfl, Below.refl _ _, rfl⟩
      clear g0; clear hfix hev hdep; generalize a1.eval = ev at *; unfold execOp; simp only; go_simp
    · intro a1 X hfix hev hdep
      have g0 : a1.eval (.tmp 14) = .bool true := hdep 2 (by decide)
      refine Or.inr (Or.inl ⟨_, _, rfl, g0, ?_⟩)
      refine ow_value (v := .slice (some ⟨X.heap.size, 0, none⟩) 2 2) (w' := X.alloc (.cells #[.int .u32 1, .int .u32 2] 50)) ?_ ⟨_, rfl, below_box _ _, ?_⟩
      · have hk0 : a1.eval (.const (.int .u32 1)) = .int .u32 1 := rfl; have hk1 : a1.eval (.const (.int .u32 2)) = .int .u32 2 := rfl; clear g0; clear hfix hev hdep; generalize a1.eval = ev at *; unfold execOp; simp only; go_simp
      · exact new2 X 1 2
    · intro a1 X hfix hev hdep
      have g0 : a1.eval (.tmp 14) = .bool true := hdep 2 (by decide)
      have q15 : a1.eval (.tmp 15) = .slice ad 3 cap := hdep 3 (by decide)
      refine Or.inr (Or.inl ⟨_, _, rfl, g0, ?_⟩)
      have hy : ASAt X (a1.eval (.tmp 16)) [1, 2] := hdep 4 (by decide)
      obtain ⟨yad, ycap, hyv⟩ := hy.len
      rw [hyv] at hy
      have q16 : a1.eval (.tmp 16) = .slice yad 2 ycap := hyv
      refine ow_enter (f := 24) (args := #[.slice ad 3 cap, .slice yad 2 ycap]) (w' := X) ?_ ?_
      · clear hy hyv; have hf0 : a1.eval (.func 24) = .func (.func 24) #[] #[] := rfl; clear g0; clear hfix hev hdep; generalize a1.eval = ev at *; unfold execOp; simp only; go_simp
      · refine Calls.mono (HM.out X hev _ [1, 2] hy (by decide)) ?_
        rintro e Y ⟨rfl, hb⟩
        exact ⟨_, rfl, _, rfl, hb, congrArg Value.bool m0a⟩
    · intro a1 X hfix hev hdep
      have q14 : a1.eval (.tmp 14) = .bool true := hdep 2 (by decide)
      have q17 : a1.eval (.tmp 17) = .bool true := hdep 5 (by decide)
      refine Or.inl ⟨rfl, ?_⟩
      refine ow_value (v := .bool true) (w' := X) ?_ ⟨_, rfl, Below.refl _ _, rfl⟩
      have hk0 : a1.eval (.const (.bool false)) = .bool false := rfl; clear hfix hev hdep; generalize a1.eval = ev at *; unfold execOp; simp only; go_simp
    · intro a1 X hfix hev hdep
      have q18 : a1.eval (.tmp 18) = .bool true := hdep 6 (by decide)
      refine Or.inl ⟨rfl, ?_⟩
      refine ow_value (v := .bool true) (w' := X) ?_ ⟨_, rfl, Below.refl _ _, rfl⟩
      clear hfix hev hdep; generalize a1.eval = ev at *; unfold execOp; simp only; go_simp
    · intro a1 X hfix hev hdep
      have g0 : a1.eval (.tmp 19) = .bool true := hdep 7 (by decide)
      have q1 : a1.eval (.tmp 1) = _ := (hfix 1 (by decide)).trans F1
      refine Or.inr (Or.inl ⟨_, _, rfl, g0, ?_⟩)
      refine ow_value (v := .slice ad 3 cap) (w' := X) ?_ ⟨_, rfl, Below.refl _ _, rfl⟩
      clear g0; clear hfix hev hdep; generalize a1.eval = ev at *; unfold execOp; simp only; go_simp
    · intro a1 X hfix hev hdep
      have g0 : a1.eval (.tmp 19) = .bool true := hdep 7 (by decide)
      refine Or.inr (Or.inl ⟨_, _, rfl, g0, ?_⟩)
      refine ow_value (v := .slice (some ⟨X.heap.size, 0, none⟩) 1 1) (w' := X.alloc (.cells #[.int .u32 1] 50)) ?_ ⟨_, rfl, below_box _ _, ?_⟩
      · have hk0 : a1.eval (.const (.int .u32 1)) = .int .u32 1 := rfl; clear g0; clear hfix hev hdep; generalize a1.eval = ev at *; unfold execOp; simp only; go_simp
      · exact new1 X 1
    · intro a1 X hfix hev hdep
      have g0 : a1.eval (.tmp 19) = .bool true := hdep 7 (by decide)
      have q20 : a1.eval (.tmp 20) = .slice ad 3 cap := hdep 8 (by decide)
      refine Or.inr (Or.inl ⟨_, _, rfl, g0, ?_⟩)
      have hy : ASAt X (a1.eval (.tmp 21)) [1] := hdep 9 (by decide)
      obtain ⟨yad, ycap, hyv⟩ := hy.len
      rw [hyv] at hy
      have q21 : a1.eval (.tmp 21) = .slice yad 1 ycap := hyv
      refine ow_enter (f := 24) (args := #[.slice ad 3 cap, .slice yad 1 ycap]) (w' := X) ?_ ?_
      · clear hy hyv; have hf0 : a1.eval (.func 24) = .func (.func 24) #[] #[] := rfl; clear g0; clear hfix hev hdep; generalize a1.eval = ev at *; unfold execOp; simp only; go_simp
      · refine Calls.mono (HM.out X hev _ [1] hy (by decide)) ?_
        rintro e Y ⟨rfl, hb⟩
        exact ⟨_, rfl, _, rfl, hb, congrArg Value.bool m0b⟩
    · intro a1 X hfix hev hdep
      have g0 : a1.eval (.tmp 19) = .bool true := hdep 7 (by decide)
      have q22 : a1.eval (.tmp 22) = .bool false := hdep 10 (by decide)
      refine Or.inr (Or.inl ⟨_, _, rfl, g0, ?_⟩)
      refine ow_value (v := .bool true) (w' := X) ?_ ⟨_, rfl, Below.refl _ _, rfl⟩
      clear g0; clear hfix hev hdep; generalize a1.eval = ev at *; unfold execOp; simp only; go_simp
    · intro a1 X hfix hev hdep
      have q19 : a1.eval (.tmp 19) = .bool true := hdep 7 (by decide)
      have q23 : a1.eval (.tmp 23) = .bool true := hdep 11 (by decide)
      refine Or.inl ⟨rfl, ?_⟩
      refine ow_value (v := .bool true) (w' := X) ?_ ⟨_, rfl, Below.refl _ _, rfl⟩
      have hk0 : a1.eval (.const (.bool false)) = .bool false := rfl; clear hfix hev hdep; generalize a1.eval = ev at *; unfold execOp; simp only; go_simp
    · intro a1 X hfix hev hdep
      have q24 : a1.eval (.tmp 24) = .bool true := hdep 12 (by decide)
      refine Or.inl ⟨rfl, ?_⟩
      refine ow_value (v := .bool true) (w' := X) ?_ ⟨_, rfl, Below.refl _ _, rfl⟩
      clear hfix hev hdep; generalize a1.eval = ev at *; unfold execOp; simp only; go_simp
    · intro a1 X hfix hev hdep
      have g0 : a1.eval (.tmp 25) = .bool true := hdep 13 (by decide)
      have q3 : a1.eval (.tmp 3) = _ := (hfix 3 (by decide)).trans F3
      obtain ⟨c0, c1, c2, c3, c4⟩ := HS.out X hev
      refine Or.inr (Or.inl ⟨_, _, rfl, g0, ?_⟩)
      refine ow_value (v := .agg #[.string ⟨#[115]⟩, .int .i64 1, .slice (some ⟨b1, 0, none⟩) 1 1, .slice none 0 0, .slice none 0 0]) (w' := X) ?_ ⟨_, rfl, Below.refl _ _, rfl⟩
      clear g0; clear hfix hev hdep; generalize a1.eval = ev at *; unfold execOp; simp only; go_simp
    · intro a1 X hfix hev hdep
      have g0 : a1.eval (.tmp 25) = .bool true := hdep 13 (by decide)
      refine Or.inr (Or.inl ⟨_, _, rfl, g0, ?_⟩)
      refine ow_enter (f := 51) (args := #[.string ⟨#[118, 52, 32, 49, 48, 46, 49, 46, 48, 46, 48, 47, 49, 54]⟩]) (w' := X) ?_ ?_
      · have hk0 : a1.eval (.const (.string ⟨#[118, 52, 32, 49, 48, 46, 49, 46, 48, 46, 48, 47, 49, 54]⟩)) = .string ⟨#[118, 52, 32, 49, 48, 46, 49, 46, 48, 46, 48, 47, 49, 54]⟩ := rfl; have hf0 : a1.eval (.func 51) = .func (.func 51) #[] #[] := rfl; clear g0; clear hfix hev hdep; generalize a1.eval = ev at *; unfold execOp; simp only; go_simp
      · refine Calls.mono (HP2.out X hev) ?_
        rintro e Y ⟨rfl, hb⟩
        exact ⟨_, rfl, _, rfl, hb, rfl⟩
    · intro a1 X hfix hev hdep
      have g0 : a1.eval (.tmp 25) = .bool true := hdep 13 (by decide)
      have q26 : a1.eval (.tmp 26) = .agg #[.string ⟨#[115]⟩, .int .i64 1, .slice (some ⟨b1, 0, none⟩) 1 1, .slice none 0 0, .slice none 0 0] := hdep 14 (by decide)
      have q27 : a1.eval (.tmp 27) = .agg #[.int .i64 1, .int .u64 0, .string ⟨#[10, 1, 0, 0]⟩, .int .i64 16] := hdep 15 (by decide)
      refine Or.inr (Or.inl ⟨_, _, rfl, g0, ?_⟩)
      refine ow_enter (f := 11) (args := #[.agg #[.string ⟨#[115]⟩, .int .i64 1, .slice (some ⟨b1, 0, none⟩) 1 1, .slice none 0 0, .slice none 0 0], .agg #[.int .i64 1, .int .u64 0, .string ⟨#[10, 1, 0, 0]⟩, .int .i64 16]]) (w' := X) ?_ ?_
      · have hf0 : a1.eval (.func 11) = .func (.func 11) #[] #[] := rfl; clear g0; clear hfix hev hdep; generalize a1.eval = ev at *; unfold execOp; simp only; go_simp
      · refine Calls.mono (HX2.out X hev) ?_
        rintro e Y ⟨rfl, hb⟩
        exact ⟨_, rfl, _, rfl, hb, rfl⟩
    · intro a1 X hfix hev hdep
      have q25 : a1.eval (.tmp 25) = .bool true := hdep 13 (by decide)
      have q28 : a1.eval (.tmp 28) = .bool true := hdep 16 (by decide)
      refine Or.inl ⟨rfl, ?_⟩
      refine ow_value (v := .bool true) (w' := X) ?_ ⟨_, rfl, Below.refl _ _, rfl⟩
      have hk0 : a1.eval (.const (.bool false)) = .bool false := rfl; clear hfix hev hdep; generalize a1.eval = ev at *; unfold execOp; simp only; go_simp
    · intro a1 X hfix hev hdep
      have q29 : a1.eval (.tmp 29) = .bool true := hdep 17 (by decide)
      refine Or.inl ⟨rfl, ?_⟩
      refine ow_value (v := .bool true) (w' := X) ?_ ⟨_, rfl, Below.refl _ _, rfl⟩
      clear hfix hev hdep; generalize a1.eval = ev at *; unfold execOp; simp only; go_simp
    · intro a1 X hfix hev hdep
      have g0 : a1.eval (.tmp 30) = .bool true := hdep 18 (by decide)
      have q3 : a1.eval (.tmp 3) = _ := (hfix 3 (by decide)).trans F3
      obtain ⟨c0, c1, c2, c3, c4⟩ := HS.out X hev
      refine Or.inr (Or.inl ⟨_, _, rfl, g0, ?_⟩)
      refine ow_value (v := .agg #[.string ⟨#[115]⟩, .int .i64 1, .slice (some ⟨b1, 0, none⟩) 1 1, .slice none 0 0, .slice none 0 0]) (w' := X) ?_ ⟨_, rfl, Below.refl _ _, rfl⟩
      clear g0; clear hfix hev hdep; generalize a1.eval = ev at *; unfold execOp; simp only; go_simp
    · intro a1 X hfix hev hdep
      have g0 : a1.eval (.tmp 30) = .bool true := hdep 18 (by decide)
      refine Or.inr (Or.inl ⟨_, _, rfl, g0, ?_⟩)
      refine ow_enter (f := 51) (args := #[.string ⟨#[118, 52, 32, 49, 48, 46, 48, 46, 48, 46, 48, 47, 56]⟩]) (w' := X) ?_ ?_
      · have hk0 : a1.eval (.const (.string ⟨#[118, 52, 32, 49, 48, 46, 48, 46, 48, 46, 48, 47, 56]⟩)) = .string ⟨#[118, 52, 32, 49, 48, 46, 48, 46, 48, 46, 48, 47, 56]⟩ := rfl; have hf0 : a1.eval (.func 51) = .func (.func 51) #[] #[] := rfl; clear g0; clear hfix hev hdep; generalize a1.eval = ev at *; unfold execOp; simp only; go_simp
      · refine Calls.mono (HP1.out X hev) ?_
        rintro e Y ⟨rfl, hb⟩
        exact ⟨_, rfl, _, rfl, hb, rfl⟩
    · intro a1 X hfix hev hdep
      have g0 : a1.eval (.tmp 30) = .bool true := hdep 18 (by decide)
      have q31 : a1.eval (.tmp 31) = .agg #[.string ⟨#[115]⟩, .int .i64 1, .slice (some ⟨b1, 0, none⟩) 1 1, .slice none 0 0, .slice none 0 0] := hdep 19 (by decide)
      have q32 : a1.eval (.tmp 32) = .agg #[.int .i64 1, .int .u64 0, .string ⟨#[10, 0, 0, 0]⟩, .int .i64 8] := hdep 20 (by decide)
      refine Or.inr (Or.inl ⟨_, _, rfl, g0, ?_⟩)
      refine ow_enter (f := 11) (args := #[.agg #[.string ⟨#[115]⟩, .int .i64 1, .slice (some ⟨b1, 0, none⟩) 1 1, .slice none 0 0, .slice none 0 0], .agg #[.int .i64 1, .int .u64 0, .string ⟨#[10, 0, 0, 0]⟩, .int .i64 8]]) (w' := X) ?_ ?_
      · have hf0 : a1.eval (.func 11) = .func (.func 11) #[] #[] := rfl; clear g0; clear hfix hev hdep; generalize a1.eval = ev at *; unfold execOp; simp only; go_simp
      · refine Calls.mono (HX1.out X hev) ?_
        rintro e Y ⟨rfl, hb⟩
        exact ⟨_, rfl, _, rfl, hb, rfl⟩
    · intro a1 X hfix hev hdep
      have g0 : a1.eval (.tmp 30) = .bool true := hdep 18 (by decide)
      have q33 : a1.eval (.tmp 33) = .bool false := hdep 21 (by decide)
      refine Or.inr (Or.inl ⟨_, _, rfl, g0, ?_⟩)
      refine ow_value (v := .bool true) (w' := X) ?_ ⟨_, rfl, Below.refl _ _, rfl⟩
      clear g0; clear hfix hev hdep; generalize a1.eval = ev at *; unfold execOp; simp only; go_simp
    · intro a1 X hfix hev hdep
      have q30 : a1.eval (.tmp 30) = .bool true := hdep 18 (by decide)
      have q34 : a1.eval (.tmp 34) = .bool true := hdep 22 (by decide)
      refine Or.inl ⟨rfl, ?_⟩
      refine ow_value (v := .bool true) (w' := X) ?_ ⟨_, rfl, Below.refl _ _, rfl⟩
      have hk0 : a1.eval (.const (.bool false)) = .bool false := rfl; clear hfix hev hdep; generalize a1.eval = ev at *; unfold execOp; simp only; go_simp
    · intro a1 X hfix hev hdep
      have q35 : a1.eval (.tmp 35) = .bool true := hdep 23 (by decide)
      refine Or.inl ⟨rfl, ?_⟩
      refine ow_value (v := .bool true) (w' := X) ?_ ⟨_, rfl, Below.refl _ _, rfl⟩
      clear hfix hev hdep; generalize a1.eval = ev at *; unfold execOp; simp only; go_simp
end Go.Proofs.YtjchobcmbkiilaaGreatDoor
