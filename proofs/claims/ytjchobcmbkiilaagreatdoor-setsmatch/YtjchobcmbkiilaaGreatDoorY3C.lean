/-
  One atom that is no AtomMany: way C.
-/
import Derived.Test.YtjchobcmbkiilaaGreatDoorY2
set_option linter.unusedVariables false
set_option linter.unusedSimpArgs false
set_option maxRecDepth 100000
namespace Go.Proofs.YtjchobcmbkiilaaGreatDoor
open Go.RowKit
set_option maxHeartbeats 4000000 in
theorem from_oneC {pb lb fb mb b : Nat} {vp vl : Value} {p : List Atm} {L : List Nat} {i k : Nat} (hi : i < p.length) (h3 : ¬ p[i].1 = 3) (hk : k < L.length) (ho : oneA p[i] L[k] = true) (hpl : p.length ≤ 1000) (hL : L.length ≤ 1000000000000)
    (ih : FrI pb lb fb mb b vp vl p L (i + 1)) (w : World) (h : FrM w pb lb fb mb b vp vl p L) :
    Calls Tryz.prog 78 #[.int .i64 (i : Int), .int .i64 (k : Int), .pointer (some ⟨pb, 0, none⟩), .pointer (some ⟨lb, 0, none⟩), .pointer (some ⟨fb, 0, none⟩), .pointer (some ⟨mb, 0, none⟩)] w (FrOk pb lb fb mb b vp vl p L w (mt (p.drop (i + 1)) (L.drop (k + 1)))) := by
  have HW : Hid (FrM w pb lb fb mb b vp vl p L) := h
  have HI : Hid (FrI pb lb fb mb b vp vl p L (i + 1)) := ih
  have HA := h.at'
  obtain ⟨ad, ab, ao, cap, rfl, had, hcap, hrow⟩ := HA.ap
  obtain rfl : ad = some ⟨ab, ao, none⟩ := by
    rcases had with e | e
    · exact e
    · omega
  have HRW : Hid (_ : Prop) := hrow
  obtain ⟨ad2, lb2, lo, cap2, rfl, had2, hcap2, hrow2⟩ := HA.al
  obtain rfl : ad2 = some ⟨lb2, lo, none⟩ := by
    rcases had2 with e | e
    · exact e
    · omega
  have HRL : Hid (_ : Prop) := hrow2
  clear hrow2 had2
  have cp := HA.cp
  have cl := HA.cl
  have c0 := (hrow i hi).1
  have c1 := (hrow i hi).2
  have hdw : Below w.heap.size w w.drew := (Below.refl _ _).drew
  have HM : Hid (∃ es c, w.heap[b]? = some (.map es c)) := h.isMap
  let Ev : World → World → Prop := fun x y => Bst b x y ∧ FrM y pb lb fb mb b (.slice (some ⟨ab, ao, none⟩) p.length cap) (.slice (some ⟨lb2, lo, none⟩) L.length cap2) p L
  have hEv : ∀ x y, Ev x y = (Bst b x y ∧ FrM y pb lb fb mb b (.slice (some ⟨ab, ao, none⟩) p.length cap) (.slice (some ⟨lb2, lo, none⟩) L.length cap2) p L) := fun _ _ => rfl
  have hr0 : Ev w.drew w.drew := ⟨Bst.refl (HW.out.below hdw).isMap, HW.out.below hdw⟩
  have evr : ∀ X, Ev w.drew X → Ev X X := fun X hx => ⟨Bst.refl hx.2.isMap, hx.2⟩
  have HD : Hid (Bst b w w.drew) := Bst.of_below HW.out.isMap hdw
  have HP : Hid (∀ X, Ev w.drew X → X.cell? ⟨ab, ao + i * 2, none⟩ = some (.int .i64 p[i].1) ∧ X.cell? ⟨ab, ao + i * 2 + 1, none⟩ = some (.int .u32 (p[i].2 : Int))) := fun X hx => ⟨(HD.out.trans hx.1).cell (HRW.out i hi).1, (HD.out.trans hx.1).cell (HRW.out i hi).2⟩
  have HL : Hid (∀ X, Ev w.drew X → X.cell? ⟨lb2, lo + k, none⟩ = some (.int .u32 (L[k] : Int))) := fun X hx => (HD.out.trans hx.1).cell (HRL.out k hk)
  have HO : Hid (∀ X, Calls Tryz.prog 79 #[.agg #[.int .i64 p[i].1, .int .u32 (p[i].2 : Int)], .int .u32 (L[k] : Int)] X fun e w' => e = .returned (.bool true) ∧ Below X.heap.size X w') := fun X => by
    have := isOne_any p[i] L[k] X
    rw [ho] at this
    exact this
  generalize hA : L[k] = A at *
  have HR2 : Hid (_ = _) := rfl (a := mt (p.drop (i + 1)) (L.drop (k + 1)))
  generalize hr : mt (p.drop (i + 1)) (L.drop (k + 1)) = r at *
  replace HR2 : Hid (mt (p.drop (i + 1)) (L.drop (k + 1)) = r) := hr
  have hp3 : ¬ p[i].1 = 3 := h3
  generalize p[i].1 = K at *
  generalize p[i].2 = N at *
  clear ih h HA hrow had
  have hi0 : ¬ ((i : Int) = (p.length : Int)) := by omega
  go_enter Tryz.func78, Tryz.ntmps78
  go_wp2_with fail
  refine with_act (fun ax => ax.tmps.size = 76 ∧ ax.defers = [] ∧ ax.eval (.tmp 0) = .int .i64 (i : Int) ∧ ax.eval (.tmp 1) = .int .i64 (k : Int) ∧ ax.eval (.tmp 2) = .pointer (some ⟨pb, 0, none⟩) ∧ ax.eval (.tmp 3) = .pointer (some ⟨lb, 0, none⟩) ∧ ax.eval (.tmp 4) = .pointer (some ⟨fb, 0, none⟩)) ⟨rfl, rfl, rfl, rfl, rfl, rfl, rfl⟩ ?_
  rintro a0 ⟨F0', FD, F0, F1, F2, F3, F4⟩
  clear cp cl c0 c1 hi0
  refine region_list (by kernel_rfl) Ev [(fun v _ => v = .int .i64 (k : Int)),
      (fun v _ => v = .slice (some ⟨lb2, lo, none⟩) L.length cap2),
      (fun v _ => v = .int .i64 (L.length : Int)),
      (fun v _ => v = .bool true),
      (fun v _ => v = .bool true),
      (fun v _ => v = .slice (some ⟨ab, ao, none⟩) p.length cap),
      (fun v _ => v = .int .i64 (i : Int)),
      (fun v _ => v = .pointer (some ⟨ab, ao + i * 2, none⟩)),
      (fun v _ => v = .agg #[.int .i64 K, .int .u32 (N : Int)]),
      (fun v _ => v = .slice (some ⟨lb2, lo, none⟩) L.length cap2),
      (fun v _ => v = .int .i64 (k : Int)),
      (fun v _ => v = .pointer (some ⟨lb2, lo + k, none⟩)),
      (fun v _ => v = .int .u32 (A : Int)),
      (fun v _ => v = .bool true),
      (fun v _ => v = .bool true),
      (fun v _ => v = .bool true),
      (fun v _ => v = .func (.func 78) #[] #[.pointer (some ⟨pb, 0, none⟩), .pointer (some ⟨lb, 0, none⟩), .pointer (some ⟨fb, 0, none⟩), .pointer (some ⟨mb, 0, none⟩)]),
      (fun v _ => v = .int .i64 (i : Int)),
      (fun v _ => v = .int .i64 ((i + 1 : Nat) : Int)),
      (fun v _ => v = .int .i64 (k : Int)),
      (fun v _ => v = .int .i64 ((k + 1 : Nat) : Int)),
      (fun v _ => v = .bool r),
      (fun v _ => v = .bool r),
      (fun v _ => v = .bool r)] [some 26, some 27, some 28, some 29, some 30, some 31, some 32, some 33, some 34, some 35, some 36, some 37, some 38, some 39, some 40, some 41, some 42, some 43, some 44, some 45, some 46, some 47, some 48, some 8] (by kernel_rfl) (fun x y z hx hy => ⟨hx.1.trans hy.1, hy.2⟩) hr0 ?keep (by kernel_rfl) (by rw [F0']; kernel_rfl) ?steps ?done
  case keep => repeat (first | exact kept_nil | refine kept_cons (kept_eq _) ?_ | refine kept_cons (fun _ _ _ _ _ h => h) ?_)
  case done =>
    intro a1 X hsz hdf hfix hev hE
    have q8 : a1.eval (.tmp 8) = .bool r := hE 23 (by decide)
    go_wp2
    refine bodyPost_ret (v := a1.eval (.tmp 8)) (results_tmp rfl _ _ _) (hdf.trans FD) ?_
    rw [q8]
    exact ⟨rfl, hev.2, HD.out.trans hev.1⟩
  case steps =>
    refine ⟨?_, ?_, ?_, ?_, ?_, ?_, ?_, ?_, ?_, ?_, ?_, ?_, ?_, ?_, ?_, ?_, ?_, ?_, ?_, ?_, ?_, ?_, ?_, ?_, trivial⟩
    · intro a1 X hfix hev hdep
      have q : a1.eval (.tmp 1) = _ := (hfix 1 (by decide)).trans F1
      refine Or.inl ⟨rfl, ?_⟩
      refine ow_value (v := .int .i64 (k : Int)) (w' := X) ?_ ⟨_, rfl, evr X hev, rfl⟩
      have hk : a1.eval (.const (.bool false)) = .bool false := rfl; have hk2 : a1.eval (.const (.int .i64 1)) = .int .i64 1 := rfl; clear hfix hev hdep; generalize a1.eval = ev at *; unfold execOp; simp only; go_simp
    · intro a1 X hfix hev hdep
      have q : a1.eval (.tmp 3) = _ := (hfix 3 (by decide)).trans F3
      have c := hev.2.at'.cl
      refine Or.inl ⟨rfl, ?_⟩
      refine ow_value (v := .slice (some ⟨lb2, lo, none⟩) L.length cap2) (w' := X) ?_ ⟨_, rfl, evr X hev, rfl⟩
      have hk : a1.eval (.const (.bool false)) = .bool false := rfl; have hk2 : a1.eval (.const (.int .i64 1)) = .int .i64 1 := rfl; clear hfix hev hdep; generalize a1.eval = ev at *; unfold execOp; simp only; go_simp
    · intro a1 X hfix hev hdep
      have q : a1.eval (.tmp 27) = .slice (some ⟨lb2, lo, none⟩) L.length cap2 := hdep 1 (by decide)
      refine Or.inl ⟨rfl, ?_⟩
      refine ow_value (v := .int .i64 (L.length : Int)) (w' := X) ?_ ⟨_, rfl, evr X hev, rfl⟩
      have hk : a1.eval (.const (.bool false)) = .bool false := rfl; have hk2 : a1.eval (.const (.int .i64 1)) = .int .i64 1 := rfl; clear hfix hev hdep; generalize a1.eval = ev at *; unfold execOp; simp only; go_simp
    · intro a1 X hfix hev hdep
      have q : a1.eval (.tmp 26) = .int .i64 (k : Int) := hdep 0 (by decide)
      have q2 : a1.eval (.tmp 28) = .int .i64 (L.length : Int) := hdep 2 (by decide)
      refine Or.inl ⟨rfl, ?_⟩
      refine ow_value (v := .bool true) (w' := X) ?_ ⟨_, rfl, evr X hev, rfl⟩
      have hk : a1.eval (.const (.bool false)) = .bool false := rfl; have hk2 : a1.eval (.const (.int .i64 1)) = .int .i64 1 := rfl; clear hfix hev hdep; generalize a1.eval = ev at *; unfold execOp; simp only; go_simp
    · intro a1 X hfix hev hdep
      have q : a1.eval (.tmp 29) = .bool true := hdep 3 (by decide)
      refine Or.inl ⟨rfl, ?_⟩
      refine ow_value (v := .bool true) (w' := X) ?_ ⟨_, rfl, evr X hev, rfl⟩
      have hk : a1.eval (.const (.bool false)) = .bool false := rfl; have hk2 : a1.eval (.const (.int .i64 1)) = .int .i64 1 := rfl; clear hfix hev hdep; generalize a1.eval = ev at *; unfold execOp; simp only; go_simp
    · intro a1 X hfix hev hdep
      have g0 : a1.eval (.tmp 30) = .bool true := hdep 4 (by decide)
      have q : a1.eval (.tmp 2) = _ := (hfix 2 (by decide)).trans F2
      have c := hev.2.at'.cp
      refine Or.inr (Or.inl ⟨_, _, rfl, g0, ?_⟩)
      refine ow_value (v := .slice (some ⟨ab, ao, none⟩) p.length cap) (w' := X) ?_ ⟨_, rfl, evr X hev, rfl⟩
      clear g0; have hk : a1.eval (.const (.bool false)) = .bool false := rfl; have hk2 : a1.eval (.const (.int .i64 1)) = .int .i64 1 := rfl; clear hfix hev hdep; generalize a1.eval = ev at *; unfold execOp; simp only; go_simp
    · intro a1 X hfix hev hdep
      have g0 : a1.eval (.tmp 30) = .bool true := hdep 4 (by decide)
      have q : a1.eval (.tmp 0) = _ := (hfix 0 (by decide)).trans F0
      refine Or.inr (Or.inl ⟨_, _, rfl, g0, ?_⟩)
      refine ow_value (v := .int .i64 (i : Int)) (w' := X) ?_ ⟨_, rfl, evr X hev, rfl⟩
      clear g0; have hk : a1.eval (.const (.bool false)) = .bool false := rfl; have hk2 : a1.eval (.const (.int .i64 1)) = .int .i64 1 := rfl; clear hfix hev hdep; generalize a1.eval = ev at *; unfold execOp; simp only; go_simp
    · intro a1 X hfix hev hdep
      have g0 : a1.eval (.tmp 30) = .bool true := hdep 4 (by decide)
      have q : a1.eval (.tmp 31) = .slice (some ⟨ab, ao, none⟩) p.length cap := hdep 5 (by decide)
      have q2 : a1.eval (.tmp 32) = .int .i64 (i : Int) := hdep 6 (by decide)
      refine Or.inr (Or.inl ⟨_, _, rfl, g0, ?_⟩)
      refine ow_value (v := .pointer (some ⟨ab, ao + i * 2, none⟩)) (w' := X) ?_ ⟨_, rfl, evr X hev, rfl⟩
      clear g0; have hk : a1.eval (.const (.bool false)) = .bool false := rfl; have hk2 : a1.eval (.const (.int .i64 1)) = .int .i64 1 := rfl; clear hfix hev hdep; generalize a1.eval = ev at *; unfold execOp; simp only; go_simp
    · intro a1 X hfix hev hdep
      have g0 : a1.eval (.tmp 30) = .bool true := hdep 4 (by decide)
      have q : a1.eval (.tmp 33) = .pointer (some ⟨ab, ao + i * 2, none⟩) := hdep 7 (by decide)
      obtain ⟨c0, c1⟩ := HP.out X hev
      refine Or.inr (Or.inl ⟨_, _, rfl, g0, ?_⟩)
      refine ow_value (v := .agg #[.int .i64 K, .int .u32 (N : Int)]) (w' := X) ?_ ⟨_, rfl, evr X hev, rfl⟩
      clear g0; have hk : a1.eval (.const (.bool false)) = .bool false := rfl; have hk2 : a1.eval (.const (.int .i64 1)) = .int .i64 1 := rfl; clear hfix hev hdep; generalize a1.eval = ev at *; unfold execOp; simp only; go_simp
    · intro a1 X hfix hev hdep
      have g0 : a1.eval (.tmp 30) = .bool true := hdep 4 (by decide)
      have q : a1.eval (.tmp 3) = _ := (hfix 3 (by decide)).trans F3
      have c := hev.2.at'.cl
      refine Or.inr (Or.inl ⟨_, _, rfl, g0, ?_⟩)
      refine ow_value (v := .slice (some ⟨lb2, lo, none⟩) L.length cap2) (w' := X) ?_ ⟨_, rfl, evr X hev, rfl⟩
      clear g0; have hk : a1.eval (.const (.bool false)) = .bool false := rfl; have hk2 : a1.eval (.const (.int .i64 1)) = .int .i64 1 := rfl; clear hfix hev hdep; generalize a1.eval = ev at *; unfold execOp; simp only; go_simp
    · intro a1 X hfix hev hdep
      have g0 : a1.eval (.tmp 30) = .bool true := hdep 4 (by decide)
      have q : a1.eval (.tmp 1) = _ := (hfix 1 (by decide)).trans F1
      refine Or.inr (Or.inl ⟨_, _, rfl, g0, ?_⟩)
      refine ow_value (v := .int .i64 (k : Int)) (w' := X) ?_ ⟨_, rfl, evr X hev, rfl⟩
      clear g0; have hk : a1.eval (.const (.bool false)) = .bool false := rfl; have hk2 : a1.eval (.const (.int .i64 1)) = .int .i64 1 := rfl; clear hfix hev hdep; generalize a1.eval = ev at *; unfold execOp; simp only; go_simp
    · intro a1 X hfix hev hdep
      have g0 : a1.eval (.tmp 30) = .bool true := hdep 4 (by decide)
      have q : a1.eval (.tmp 35) = .slice (some ⟨lb2, lo, none⟩) L.length cap2 := hdep 9 (by decide)
      have q2 : a1.eval (.tmp 36) = .int .i64 (k : Int) := hdep 10 (by decide)
      refine Or.inr (Or.inl ⟨_, _, rfl, g0, ?_⟩)
      refine ow_value (v := .pointer (some ⟨lb2, lo + k, none⟩)) (w' := X) ?_ ⟨_, rfl, evr X hev, rfl⟩
      clear g0; have hk : a1.eval (.const (.bool false)) = .bool false := rfl; have hk2 : a1.eval (.const (.int .i64 1)) = .int .i64 1 := rfl; clear hfix hev hdep; generalize a1.eval = ev at *; unfold execOp; simp only; go_simp
    · intro a1 X hfix hev hdep
      have g0 : a1.eval (.tmp 30) = .bool true := hdep 4 (by decide)
      have q : a1.eval (.tmp 37) = .pointer (some ⟨lb2, lo + k, none⟩) := hdep 11 (by decide)
      have c0 := HL.out X hev
      refine Or.inr (Or.inl ⟨_, _, rfl, g0, ?_⟩)
      refine ow_value (v := .int .u32 (A : Int)) (w' := X) ?_ ⟨_, rfl, evr X hev, rfl⟩
      clear g0; have hk : a1.eval (.const (.bool false)) = .bool false := rfl; have hk2 : a1.eval (.const (.int .i64 1)) = .int .i64 1 := rfl; clear hfix hev hdep; generalize a1.eval = ev at *; unfold execOp; simp only; go_simp
    · intro a1 X hfix hev hdep
      have g0 : a1.eval (.tmp 30) = .bool true := hdep 4 (by decide)
      have q : a1.eval (.tmp 34) = .agg #[.int .i64 K, .int .u32 (N : Int)] := hdep 8 (by decide)
      have q2 : a1.eval (.tmp 38) = .int .u32 (A : Int) := hdep 12 (by decide)
      refine Or.inr (Or.inl ⟨_, _, rfl, g0, ?_⟩)
      refine ow_enter (f := 79) (args := #[.agg #[.int .i64 K, .int .u32 (N : Int)], .int .u32 (A : Int)]) (w' := X) ?_ ?_
      · have hc : a1.eval (.func 79) = .func (.func 79) #[] #[] := rfl; clear g0; clear hfix hev hdep; generalize a1.eval = ev at *; unfold execOp; simp only; go_simp
      · refine Calls.mono (HO.out X) ?_
        rintro e Y ⟨rfl, hb⟩
        exact ⟨_, rfl, _, rfl, ⟨Bst.of_below hev.2.isMap hb, hev.2.below hb⟩, rfl⟩
    · intro a1 X hfix hev hdep
      have q : a1.eval (.tmp 30) = .bool true := hdep 4 (by decide)
      have q2 : a1.eval (.tmp 39) = .bool true := hdep 13 (by decide)
      refine Or.inl ⟨rfl, ?_⟩
      refine ow_value (v := .bool true) (w' := X) ?_ ⟨_, rfl, evr X hev, rfl⟩
      have hk : a1.eval (.const (.bool false)) = .bool false := rfl; have hk2 : a1.eval (.const (.int .i64 1)) = .int .i64 1 := rfl; clear hfix hev hdep; generalize a1.eval = ev at *; unfold execOp; simp only; go_simp
    · intro a1 X hfix hev hdep
      have q : a1.eval (.tmp 40) = .bool true := hdep 14 (by decide)
      refine Or.inl ⟨rfl, ?_⟩
      refine ow_value (v := .bool true) (w' := X) ?_ ⟨_, rfl, evr X hev, rfl⟩
      have hk : a1.eval (.const (.bool false)) = .bool false := rfl; have hk2 : a1.eval (.const (.int .i64 1)) = .int .i64 1 := rfl; clear hfix hev hdep; generalize a1.eval = ev at *; unfold execOp; simp only; go_simp
    · intro a1 X hfix hev hdep
      have g0 : a1.eval (.tmp 41) = .bool true := hdep 15 (by decide)
      have q : a1.eval (.tmp 4) = _ := (hfix 4 (by decide)).trans F4
      have c := hev.2.at'.cf
      refine Or.inr (Or.inl ⟨_, _, rfl, g0, ?_⟩)
      refine ow_value (v := .func (.func 78) #[] #[.pointer (some ⟨pb, 0, none⟩), .pointer (some ⟨lb, 0, none⟩), .pointer (some ⟨fb, 0, none⟩), .pointer (some ⟨mb, 0, none⟩)]) (w' := X) ?_ ⟨_, rfl, evr X hev, rfl⟩
      clear g0; have hk : a1.eval (.const (.bool false)) = .bool false := rfl; have hk2 : a1.eval (.const (.int .i64 1)) = .int .i64 1 := rfl; clear hfix hev hdep; generalize a1.eval = ev at *; unfold execOp; simp only; go_simp
    · intro a1 X hfix hev hdep
      have g0 : a1.eval (.tmp 41) = .bool true := hdep 15 (by decide)
      have q : a1.eval (.tmp 0) = _ := (hfix 0 (by decide)).trans F0
      refine Or.inr (Or.inl ⟨_, _, rfl, g0, ?_⟩)
      refine ow_value (v := .int .i64 (i : Int)) (w' := X) ?_ ⟨_, rfl, evr X hev, rfl⟩
      clear g0; have hk : a1.eval (.const (.bool false)) = .bool false := rfl; have hk2 : a1.eval (.const (.int .i64 1)) = .int .i64 1 := rfl; clear hfix hev hdep; generalize a1.eval = ev at *; unfold execOp; simp only; go_simp
    · intro a1 X hfix hev hdep
      have g0 : a1.eval (.tmp 41) = .bool true := hdep 15 (by decide)
      have q : a1.eval (.tmp 43) = .int .i64 (i : Int) := hdep 17 (by decide)
      refine Or.inr (Or.inl ⟨_, _, rfl, g0, ?_⟩)
      refine ow_value (v := .int .i64 ((i + 1 : Nat) : Int)) (w' := X) ?_ ⟨_, rfl, evr X hev, rfl⟩
      clear g0; have hk : a1.eval (.const (.bool false)) = .bool false := rfl; have hk2 : a1.eval (.const (.int .i64 1)) = .int .i64 1 := rfl; clear hfix hev hdep; generalize a1.eval = ev at *; unfold execOp; simp only; go_simp; rw [IntKind.wrap_i64]; omega
    · intro a1 X hfix hev hdep
      have g0 : a1.eval (.tmp 41) = .bool true := hdep 15 (by decide)
      have q : a1.eval (.tmp 1) = _ := (hfix 1 (by decide)).trans F1
      refine Or.inr (Or.inl ⟨_, _, rfl, g0, ?_⟩)
      refine ow_value (v := .int .i64 (k : Int)) (w' := X) ?_ ⟨_, rfl, evr X hev, rfl⟩
      clear g0; have hk : a1.eval (.const (.bool false)) = .bool false := rfl; have hk2 : a1.eval (.const (.int .i64 1)) = .int .i64 1 := rfl; clear hfix hev hdep; generalize a1.eval = ev at *; unfold execOp; simp only; go_simp
    · intro a1 X hfix hev hdep
      have g0 : a1.eval (.tmp 41) = .bool true := hdep 15 (by decide)
      have q : a1.eval (.tmp 45) = .int .i64 (k : Int) := hdep 19 (by decide)
      refine Or.inr (Or.inl ⟨_, _, rfl, g0, ?_⟩)
      refine ow_value (v := .int .i64 ((k + 1 : Nat) : Int)) (w' := X) ?_ ⟨_, rfl, evr X hev, rfl⟩
      clear g0; have hk : a1.eval (.const (.bool false)) = .bool false := rfl; have hk2 : a1.eval (.const (.int .i64 1)) = .int .i64 1 := rfl; clear hfix hev hdep; generalize a1.eval = ev at *; unfold execOp; simp only; go_simp; rw [IntKind.wrap_i64]; omega
    · intro a1 X hfix hev hdep
      have g0 : a1.eval (.tmp 41) = .bool true := hdep 15 (by decide)
      have q : a1.eval (.tmp 42) = .func (.func 78) #[] #[.pointer (some ⟨pb, 0, none⟩), .pointer (some ⟨lb, 0, none⟩), .pointer (some ⟨fb, 0, none⟩), .pointer (some ⟨mb, 0, none⟩)] := hdep 16 (by decide)
      have q2 : a1.eval (.tmp 44) = .int .i64 ((i + 1 : Nat) : Int) := hdep 18 (by decide)
      have q3 : a1.eval (.tmp 46) = .int .i64 ((k + 1 : Nat) : Int) := hdep 20 (by decide)
      refine Or.inr (Or.inl ⟨_, _, rfl, g0, ?_⟩)
      refine ow_enter (f := 78) (args := #[.int .i64 ((i + 1 : Nat) : Int), .int .i64 ((k + 1 : Nat) : Int), .pointer (some ⟨pb, 0, none⟩), .pointer (some ⟨lb, 0, none⟩), .pointer (some ⟨fb, 0, none⟩), .pointer (some ⟨mb, 0, none⟩)]) (w' := X) ?_ ?_
      · clear g0; clear hfix hev hdep; generalize a1.eval = ev at *; unfold execOp; simp only; go_simp
      · refine Calls.mono (HI.out (k + 1) (by omega) X hev.2) ?_
        rintro e Y ⟨rfl, hm, hb⟩
        rw [HR2.out]; exact ⟨_, rfl, _, rfl, ⟨hb, hm⟩, rfl⟩
    · intro a1 X hfix hev hdep
      have q : a1.eval (.tmp 41) = .bool true := hdep 15 (by decide)
      have q2 : a1.eval (.tmp 47) = .bool r := hdep 21 (by decide)
      refine Or.inl ⟨rfl, ?_⟩
      refine ow_value (v := .bool r) (w' := X) ?_ ⟨_, rfl, evr X hev, rfl⟩
      have hk : a1.eval (.const (.bool false)) = .bool false := rfl; have hk2 : a1.eval (.const (.int .i64 1)) = .int .i64 1 := rfl; clear hfix hev hdep; generalize a1.eval = ev at *; unfold execOp; simp only; go_simp
    · intro a1 X hfix hev hdep
      have q : a1.eval (.tmp 48) = .bool r := hdep 22 (by decide)
      refine Or.inl ⟨rfl, ?_⟩
      refine ow_value (v := .bool r) (w' := X) ?_ ⟨_, rfl, evr X hev, rfl⟩
      have hk : a1.eval (.const (.bool false)) = .bool false := rfl; have hk2 : a1.eval (.const (.int .i64 1)) = .int .i64 1 := rfl; clear hfix hev hdep; generalize a1.eval = ev at *; unfold execOp; simp only; go_simp
end Go.Proofs.YtjchobcmbkiilaaGreatDoor
