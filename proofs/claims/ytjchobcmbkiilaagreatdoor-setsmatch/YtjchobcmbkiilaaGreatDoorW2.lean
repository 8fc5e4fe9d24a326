/-
  An atom's text, written and read.
-/
import Derived.Test.YtjchobcmbkiilaaGreatDoorW1
set_option linter.unusedVariables false
set_option linter.unusedSimpArgs false
set_option maxRecDepth 100000
namespace Go.Proofs.YtjchobcmbkiilaaGreatDoor
open Go.RowKit
/-- An atom's text. -/
def txA (a : Atm) : List UInt8 := if a.1 = 2 then [46] else if a.1 = 3 then [42] else Lib.decDigits a.2
set_option maxHeartbeats 1000000 in
theorem atomText_any (a : Atm) (w : World) (ha : a.2 < 4294967296) (hp : PowAt w) : Calls Tryz.prog 54 #[atV a] w fun e w' => e = .returned (.string ⟨(txA a).toArray⟩) ∧ Below w.heap.size w w' := by
  obtain ⟨k, n⟩ := a
  have HB : Hid (Below _ _ _) := below_box w (.cells #[.int .i64 k, .int .u32 (n : Int)] 53)
  have HK : Hid (_ : Prop) := fmt_any n (by simp only at ha; omega) _ (hp.below HB.out)
  have hmod : (n : Int) % 18446744073709551616 = n := by simp only at ha; omega
  unfold atV
  dsimp only
  by_cases h : k = 2
  · subst h
    go_enter Tryz.func54, Tryz.ntmps54
    go_wp2
    go_ret
    exact ⟨rfl, HB.out⟩
  · by_cases h3 : k = 3
    · subst h3
      go_enter Tryz.func54, Tryz.ntmps54
      go_wp2
      go_ret
      exact ⟨rfl, HB.out⟩
    · have HT : Hid (txA (k, n) = Lib.decDigits n) := by unfold Hid txA; rw [if_neg h, if_neg h3]
      rw [HT.out]
      go_enter Tryz.func54, Tryz.ntmps54
      go_wp2_with (go_at_call 87; refine Calls.mono HK.out ?_; rintro e w2 ⟨rfl, hb2⟩)
      go_ret
      exact ⟨rfl, HB.out.trans (hb2.mono HB.out.size)⟩
/-- The atom of a text. -/
def ptA (l : List UInt8) : Option Atm := if l = [46] then some (2, 0) else if l = [42] then some (3, 0) else match Lib.parseUintB 32 l with
  | .ok u => if 0 < u ∧ Lib.decDigits u = l then some (1, u) else none
  | _ => none
/-- What parseAtom answers. -/
def PaOk (l : List UInt8) (w : World) (e : Ending) (w' : World) : Prop :=
  (∃ a : Atm, e = .returned (.tuple #[atV a, .bool (ptA l).isSome]) ∧ ∀ x, ptA l = some x → a = x) ∧ Below w.heap.size w w'
theorem ow_skip {P : Program} {o : Oper} {a : Act} {w w' : World} {K : Act → World → Prop} {Q : Exit → Act → World → Prop} (hrun : (execOp a.eval o).run P w = .ok .skip w') (hK : K (a.put o.dst undef) w') : o.wp P a w K Q := by
  unfold Oper.wp
  rw [hrun]
  exact hK
/-- Two cells that may be written; an atom that lies there. -/
def Cel (b : Nat) (w : World) : Prop := ∃ u0 u1, w.cell? ⟨b, 0, none⟩ = some u0 ∧ w.cell? ⟨b, 1, none⟩ = some u1 ∧ w.frozen? ⟨b, 0, none⟩ = false ∧ w.frozen? ⟨b, 1, none⟩ = false
def Std (b : Nat) (a : Atm) (w : World) : Prop := w.cell? ⟨b, 0, none⟩ = some (.int .i64 a.1) ∧ w.cell? ⟨b, 1, none⟩ = some (.int .u32 (a.2 : Int))
structure Evp (b : Nat) (a : Atm) (x y : World) : Prop where
  g : x.grownBy y (some b)
  c : Cel b y
  s : Std b a x → Std b a y
theorem Evp.trans {b : Nat} {a : Atm} {x y z : World} (h : Evp b a x y) (k : Evp b a y z) : Evp b a x z :=
  ⟨⟨k.g.os.trans h.g.os, k.g.tape.trans h.g.tape, k.g.output.trans h.g.output, Nat.le_trans h.g.size k.g.size, fun j hj hn => (k.g.block j (Nat.lt_of_lt_of_le hj h.g.size) hn).trans (h.g.block j hj hn)⟩, k.c, fun s => k.s (h.s s)⟩
theorem Evp.refl {b : Nat} {a : Atm} {x : World} (h : Cel b x) : Evp b a x x := ⟨⟨rfl, rfl, rfl, Nat.le_refl _, fun _ _ _ => rfl⟩, h, id⟩
theorem Evp.of_below {b : Nat} {a : Atm} {x y : World} (hc : Cel b x) (h : Below x.heap.size x y) : Evp b a x y := by
  obtain ⟨u0, u1, h0, h1, f0, f1⟩ := hc
  have hb := lt_of_cell h0
  refine ⟨⟨h.os, h.tape, h.output, h.size, fun k hk _ => h.block k hk⟩, ⟨u0, u1, below_cell h h0, below_cell h h1, ?_, ?_⟩, fun s => ⟨below_cell h s.1, below_cell h s.2⟩⟩
  · exact (h.frozen (p := ⟨b, 0, none⟩) hb).trans f0
  · exact (h.frozen (p := ⟨b, 1, none⟩) hb).trans f1
theorem Evp.cell {b : Nat} {a : Atm} {x y : World} (h : Evp b a x y) {p i : Nat} {v : Value} (hc : x.cell? ⟨p, i, none⟩ = some v) (hp : p ≠ b) : y.cell? ⟨p, i, none⟩ = some v := h.g.cell hc (by intro e; injection e with e; exact hp e)
theorem grown_set (x : World) (b i : Nat) (v : Value) : x.grownBy (x.setCell ⟨b, i, none⟩ v) (some b) := by
  have h : Below b x (x.setCell ⟨b, i, none⟩ v) := (Below.refl b x).setCell (Nat.le_refl _) _
  refine ⟨h.os, h.tape, h.output, h.size, fun k hk hn => ?_⟩
  exact heap_setCell_other x ⟨b, i, none⟩ k v (fun e => hn (by rw [e]))
theorem std_set {b : Nat} {a : Atm} {x : World} (h : Cel b x) : Evp b a x ((x.setCell ⟨b, 0, none⟩ (.int .i64 a.1)).setCell ⟨b, 1, none⟩ (.int .u32 (a.2 : Int))) ∧ Std b a ((x.setCell ⟨b, 0, none⟩ (.int .i64 a.1)).setCell ⟨b, 1, none⟩ (.int .u32 (a.2 : Int))) := by
  obtain ⟨u0, u1, h0, h1, f0, f1⟩ := h
  have c1 : (x.setCell ⟨b, 0, none⟩ (.int .i64 a.1)).cell? ⟨b, 1, none⟩ = some u1 := by rw [World.cell?_setCell_other _ _ _ _ (by intro e; injection e with _ e; omega)]; exact h1
  have c0 : (x.setCell ⟨b, 0, none⟩ (.int .i64 a.1)).cell? ⟨b, 0, none⟩ = some (.int .i64 a.1) := World.cell?_setCell_same _ _ _ h0
  have d0 : ((x.setCell ⟨b, 0, none⟩ (.int .i64 a.1)).setCell ⟨b, 1, none⟩ (.int .u32 (a.2 : Int))).cell? ⟨b, 0, none⟩ = some (.int .i64 a.1) := by rw [World.cell?_setCell_other _ _ _ _ (by intro e; injection e with _ e; omega)]; exact c0
  have d1 : ((x.setCell ⟨b, 0, none⟩ (.int .i64 a.1)).setCell ⟨b, 1, none⟩ (.int .u32 (a.2 : Int))).cell? ⟨b, 1, none⟩ = some (.int .u32 (a.2 : Int)) := World.cell?_setCell_same _ _ _ c1
  refine ⟨⟨?_, ⟨_, _, d0, d1, ?_, ?_⟩, fun _ => ⟨d0, d1⟩⟩, ⟨d0, d1⟩⟩
  · have e1 : x.grownBy (x.setCell ⟨b, 0, none⟩ (.int .i64 a.1)) (some b) := grown_set x b 0 _
    have e2 := grown_set (x.setCell ⟨b, 0, none⟩ (.int .i64 a.1)) b 1 (.int .u32 (a.2 : Int))
    exact ⟨e2.os.trans e1.os, e2.tape.trans e1.tape, e2.output.trans e1.output, Nat.le_trans e1.size e2.size, fun j hj hn => (e2.block j (Nat.lt_of_lt_of_le hj e1.size) hn).trans (e1.block j hj hn)⟩
  · rw [World.frozen?_setCell, World.frozen?_setCell]; exact f0
  · rw [World.frozen?_setCell, World.frozen?_setCell]; exact f1
/-- The world in which the answer is put together. -/
theorem start_w {w w1 : World} {m u : Nat} {W : World} (h0 : Cel w.heap.size w1) (hm : m = w1.heap.size) (hb : Below w.heap.size w w1) (hp : PowAt w1) (hW : W = w1.alloc (.cells #[.int .i64 1, .int .u32 (u : Int)] 53) := by rfl) :
    Cel w.heap.size W ∧ W.cell? ⟨m, 0, none⟩ = some (.int .i64 1) ∧ W.cell? ⟨m, 1, none⟩ = some (.int .u32 (u : Int)) ∧ Below w.heap.size w W ∧ PowAt W := by
  subst hm hW
  have b1 := below_box w1 (.cells #[.int .i64 1, .int .u32 (u : Int)] 53)
  exact ⟨(Evp.of_below (a := (1, u)) h0 b1).c, by rw [World.cell?_alloc_new]; rfl, by rw [World.cell?_alloc_new]; rfl, hb.trans (b1.mono hb.size), hp.below b1⟩
theorem cel_new (w : World) : Cel w.heap.size (w.alloc (.cells #[.int .i64 0, .int .u32 0] 53)) := ⟨_, _, by rw [World.cell?_alloc_new]; rfl, by rw [World.cell?_alloc_new]; rfl, World.frozen?_alloc_new _ _ _ _, World.frozen?_alloc_new _ _ _ _⟩
set_option maxHeartbeats 4000000 in
theorem parseAtomE (s : ByteArray) (u : Nat) (w : World) (hs : s.size ≤ 281474976710656) (h1 : ¬ s.data.toList = [46]) (h2 : ¬ s.data.toList = [42]) (hp : PowAt w) (hu : u < 4294967296) (ev : Value) (hne : (Lib.parseUintB 32 s.data.toList = .ok u) → False) (hx : ∀ v, Lib.parseUintB 32 s.data.toList = .ok v → False) (KE : ∀ X, Below w.heap.size w X → Calls Tryz.prog 92 #[.string s, .int .i64 10, .int .i64 32] X fun e w' => (∃ te N, e = .returned (.tuple #[.int .u64 (u : Int), .iface te (.pointer (some ⟨N, 0, none⟩))])) ∧ Below X.heap.size X w') :
    Calls Tryz.prog 59 #[.string s] w (PaOk s.data.toList w) := by
  have hlt : 3 < w.heap.size := by obtain ⟨t, fz, h⟩ := hp; exact (Array.getElem?_eq_some_iff.mp h).1
  have hb0 : Below w.heap.size w (w.alloc (.cells #[.int .i64 0, .int .u32 0] 53)) := below_box _ _
  have n1 : (s.toList == ([46] : List UInt8)) = false := by rw [ByteArray.toList_eq, beq_eq_false_iff_ne]; exact h1
  have n2 : (s.toList == ([42] : List UInt8)) = false := by rw [ByteArray.toList_eq, beq_eq_false_iff_ne]; exact h2
  have hmod : (u : Int) % 4294967296 = u := by omega
  have HNO : Hid (ptA s.data.toList = none) := by
    unfold Hid ptA
    rw [if_neg h1, if_neg h2]
    cases hz : Lib.parseUintB 32 s.data.toList with
    | ok v => exact absurd hz (fun h => hx v h)
    | _ => rfl
  have HR : Hid ((ptA s.data.toList).isSome = false) := by unfold Hid; rw [HNO.out]; rfl
  have HEQ : Hid (∀ x, ptA s.data.toList = some x → ((1, u) : Atm) = x) := fun x hx => by rw [HNO.out] at hx; cases hx
  have HKE : Hid (_ : Prop) := KE
  clear KE hne hx HNO
  have HW0 : Hid (Cel w.heap.size (w.alloc (.cells #[.int .i64 0, .int .u32 0] 53))) := cel_new w
  have HPp : Hid (PowAt w) := hp
  have HB0 : Hid (Below _ _ _) := hb0
  clear hp hb0 h1 h2
  go_enter Tryz.func59, Tryz.ntmps59
  go_wp2_with fail
  refine Calls.mono (HKE.out _ HB0.out) ?_
  rintro e w1 ⟨⟨te, N, rfl⟩, hb1⟩
  have HB1 : Hid (Below w.heap.size w w1) := HB0.out.trans (hb1.mono HB0.out.size)
  have H0 : Hid (Cel w.heap.size w1) := (Evp.of_below (a := (1, u)) HW0.out hb1).c
  have HP : Hid (PowAt w1) := (HPp.out.below HB0.out).below hb1
  have hm1 : w.heap.size < w1.heap.size := by have := hb1.size; simp at this; omega
  obtain ⟨m, hmm⟩ : ∃ m, m = w1.heap.size := ⟨_, rfl⟩
  have HMM : Hid (m = w1.heap.size) := hmm
  have hmw : w.heap.size < m := by omega
  have hsz := hmm.symm
  clear hb1 HW0 HB0 HPp hmm hm1

  go_wp2_with fail
  refine Pr.with_world (fun wx => Cel w.heap.size wx ∧ wx.cell? ⟨m, 0, none⟩ = some (.int .i64 1) ∧ wx.cell? ⟨m, 1, none⟩ = some (.int .u32 (u : Int)) ∧ Below w.heap.size w wx ∧ PowAt wx) (start_w H0.out HMM.out HB1.out HP.out) ?_
  rintro W0 ⟨hc, hq0, hq1, hbw, hpw⟩
  clear H0 HB1 HP HMM
  have hdw : Below W0.heap.size W0 W0.drew := (Below.refl _ _).drew
  have hr0 : Evp w.heap.size (1, u) W0.drew W0.drew := Evp.refl ((Evp.of_below (a := (1, u)) hc hdw).c)
  have HQ : Hid (∀ X, Evp w.heap.size (1, u) W0.drew X → X.cell? ⟨m, 0, none⟩ = some (.int .i64 1) ∧ X.cell? ⟨m, 1, none⟩ = some (.int .u32 (u : Int))) := fun X hX => ⟨hX.cell (below_cell hdw hq0) (by omega), hX.cell (below_cell hdw hq1) (by omega)⟩
  have HPX : Hid (∀ X, Evp w.heap.size (1, u) W0.drew X → PowAt X) := fun X hX => by
    obtain ⟨t, fz, h⟩ := hpw.below hdw
    exact ⟨t, fz, (hX.g.block 3 (Array.getElem?_eq_some_iff.mp h).1 (by intro e; injection e with e; omega)).trans h⟩
  have HBW : Hid (∀ X, Evp w.heap.size (1, u) W0.drew X → Below w.heap.size w X) := fun X hX => hbw.trans (((hdw.mono hbw.size)).trans ⟨hX.g.os, hX.g.tape, hX.g.output, hX.g.size, fun k hk => hX.g.block k (Nat.lt_of_lt_of_le hk (Nat.le_trans hbw.size hdw.size)) (by intro e; injection e with e; omega)⟩)
  have HFIN : Hid (∀ X, Evp w.heap.size (1, u) W0.drew X → PaOk s.data.toList w (.returned (.tuple #[.agg #[.int .i64 1, .int .u32 (u : Int)], .bool false])) X) := fun X hX => ⟨⟨(1, u), by rw [HR.out]; rfl, HEQ.out⟩, HBW.out X hX⟩
  clear hc hq0 hq1 hbw hpw hdw
  refine with_act (fun ax => ax.tmps.size = 35 ∧ ax.defers = [] ∧ ax.eval (.tmp 0) = .string s ∧ ax.eval (.tmp 2) = .pointer (some ⟨w.heap.size, 0, none⟩) ∧ ax.eval (.tmp 5) = .iface te (.pointer (some ⟨N, 0, none⟩)) ∧ ax.eval (.tmp 6) = .pointer (some ⟨m, 0, none⟩)) ⟨rfl, rfl, rfl, rfl, rfl, rfl⟩ ?_
  rintro a0 ⟨F0s, FD, F0, F2, F5, F6⟩
  refine region_list (by kernel_rfl) (Evp w.heap.size (1, u)) [(fun v _ => v = .agg #[.int .i64 1, .int .u32 (u : Int)]),
        (fun v _ => v = .iface te (.pointer (some ⟨N, 0, none⟩))),
        (fun v _ => v = .bool false),
        (fun v _ => v = .bool false),
        (fun _ _ => True),
        (fun _ _ => True),
        (fun v _ => v = .bool false),
        (fun v _ => v = .bool false),
        (fun _ _ => True),
        (fun _ _ => True),
        (fun _ _ => True),
        (fun _ _ => True),
        (fun v _ => v = .bool false),
        (fun _ X => Std w.heap.size (1, u) X),
        (fun v _ => v = .bool false)] [some 22, some 23, some 24, some 25, some 26, some 27, some 28, some 29, some 30, some 31, some 32, some 33, some 34, none, some 3] (by kernel_rfl) (fun x y z h k => h.trans k) hr0 ?keep (by kernel_rfl) (by rw [F0s]; kernel_rfl) ?steps ?done
  case keep => repeat (first | exact kept_nil | refine kept_cons (kept_eq _) ?_ | refine kept_cons (fun _ _ _ _ h1 h2 => h1.s h2) ?_ | refine kept_cons (fun _ _ _ _ _ h => h) ?_)
  case done =>
    intro a1 X hsz hdf hfix hev hE
    have q3 : a1.eval (.tmp 3) = .bool false := hE 14 (by decide)
    have q2 : a1.eval (.tmp 2) = .pointer (some ⟨w.heap.size, 0, none⟩) := (hfix 2 (by decide)).trans F2
    obtain ⟨c0, c1⟩ : Std w.heap.size (1, u) X := hE 13 (by decide)
    dsimp only at c0 c1
    go_wp2
    refine bodyPost_ret (v := .tuple #[.agg #[.int .i64 1, .int .u32 (u : Int)], .bool false]) ?_ (hdf.trans FD) ?_
    · rw [results_cell_tmp (p := 2) (ty := 53) (u := 3) rfl]; change ((asAddr (a1.eval (.tmp 2))).run Tryz.prog X).andThen (fun a w₁ => ((loadVar 53 a).run Tryz.prog w₁).andThen fun v w₂ => .ok (Value.tuple #[v, a1.eval (.tmp 3)]) w₂) = _; rw [q2, q3]; simp [go_sem, c0, c1]
    · exact HFIN.out X hev
  case steps =>
    refine ⟨?_, ?_, ?_, ?_, ?_, ?_, ?_, ?_, ?_, ?_, ?_, ?_, ?_, ?_, ?_, trivial⟩
    · intro a1 X hfix hev hdep
      have q6 : a1.eval (.tmp 6) = _ := (hfix 6 (by decide)).trans F6
      obtain ⟨c0, c1⟩ := HQ.out X hev
      refine Or.inl ⟨rfl, ?_⟩
      refine ow_value (v := .agg #[.int .i64 1, .int .u32 (u : Int)]) (w' := X) ?_ ⟨_, rfl, Evp.refl hev.c, rfl⟩
      clear hfix hev hdep; generalize a1.eval = ev at *; unfold execOp; simp only; go_simp
    · intro a1 X hfix hev hdep
      have q5 : a1.eval (.tmp 5) = _ := (hfix 5 (by decide)).trans F5
      refine Or.inl ⟨rfl, ?_⟩
      refine ow_value (v := .iface te (.pointer (some ⟨N, 0, none⟩))) (w' := X) ?_ ⟨_, rfl, Evp.refl hev.c, rfl⟩
      clear hfix hev hdep; generalize a1.eval = ev at *; unfold execOp; simp only; go_simp
    · intro a1 X hfix hev hdep
      have q23 : a1.eval (.tmp 23) = .iface te (.pointer (some ⟨N, 0, none⟩)) := hdep 1 (by decide)
      refine Or.inl ⟨rfl, ?_⟩
      refine ow_value (v := .bool false) (w' := X) ?_ ⟨_, rfl, Evp.refl hev.c, rfl⟩
      have hkN : a1.eval (.const .nilIface) = .nilIface := rfl; clear hfix hev hdep; generalize a1.eval = ev at *; unfold execOp; simp only; go_simp
    · intro a1 X hfix hev hdep
      have q24 : a1.eval (.tmp 24) = .bool false := hdep 2 (by decide)
      refine Or.inl ⟨rfl, ?_⟩
      refine ow_value (v := .bool false) (w' := X) ?_ ⟨_, rfl, Evp.refl hev.c, rfl⟩
      clear hfix hev hdep; generalize a1.eval = ev at *; unfold execOp; simp only; go_simp
    · intro a1 X hfix hev hdep
      have g0 : a1.eval (.tmp 25) = .bool false := hdep 3 (by decide)
      exact Or.inr (Or.inr ⟨_, _, rfl, g0, ⟨_, rfl, Evp.refl hev.c, trivial⟩⟩)
    · intro a1 X hfix hev hdep
      have g0 : a1.eval (.tmp 25) = .bool false := hdep 3 (by decide)
      exact Or.inr (Or.inr ⟨_, _, rfl, g0, ⟨_, rfl, Evp.refl hev.c, trivial⟩⟩)
    · intro a1 X hfix hev hdep
      have q25 : a1.eval (.tmp 25) = .bool false := hdep 3 (by decide)
      refine Or.inl ⟨rfl, ?_⟩
      refine ow_value (v := .bool false) (w' := X) ?_ ⟨_, rfl, Evp.refl hev.c, rfl⟩
      have hk0 : a1.eval (.const (.bool false)) = .bool false := rfl; clear hfix hev hdep; generalize a1.eval = ev at *; unfold execOp; simp only; go_simp
    · intro a1 X hfix hev hdep
      have q28 : a1.eval (.tmp 28) = .bool false := hdep 6 (by decide)
      refine Or.inl ⟨rfl, ?_⟩
      refine ow_value (v := .bool false) (w' := X) ?_ ⟨_, rfl, Evp.refl hev.c, rfl⟩
      clear hfix hev hdep; generalize a1.eval = ev at *; unfold execOp; simp only; go_simp
    · intro a1 X hfix hev hdep
      have g0 : a1.eval (.tmp 29) = .bool false := hdep 7 (by decide)
      exact Or.inr (Or.inr ⟨_, _, rfl, g0, ⟨_, rfl, Evp.refl hev.c, trivial⟩⟩)
    · intro a1 X hfix hev hdep
      have g0 : a1.eval (.tmp 29) = .bool false := hdep 7 (by decide)
      exact Or.inr (Or.inr ⟨_, _, rfl, g0, ⟨_, rfl, Evp.refl hev.c, trivial⟩⟩)
    · intro a1 X hfix hev hdep
      have g0 : a1.eval (.tmp 29) = .bool false := hdep 7 (by decide)
      exact Or.inr (Or.inr ⟨_, _, rfl, g0, ⟨_, rfl, Evp.refl hev.c, trivial⟩⟩)
    · intro a1 X hfix hev hdep
      have g0 : a1.eval (.tmp 29) = .bool false := hdep 7 (by decide)
      exact Or.inr (Or.inr ⟨_, _, rfl, g0, ⟨_, rfl, Evp.refl hev.c, trivial⟩⟩)
    · intro a1 X hfix hev hdep
      have q29 : a1.eval (.tmp 29) = .bool false := hdep 7 (by decide)
      refine Or.inl ⟨rfl, ?_⟩
      refine ow_value (v := .bool false) (w' := X) ?_ ⟨_, rfl, Evp.refl hev.c, rfl⟩
      have hk0 : a1.eval (.const (.bool false)) = .bool false := rfl; clear hfix hev hdep; generalize a1.eval = ev at *; unfold execOp; simp only; go_simp
    · intro a1 X hfix hev hdep
      have q2 : a1.eval (.tmp 2) = _ := (hfix 2 (by decide)).trans F2
      have q22 : a1.eval (.tmp 22) = .agg #[.int .i64 1, .int .u32 (u : Int)] := hdep 0 (by decide)
      refine Or.inl ⟨rfl, ?_⟩
      obtain ⟨u0, u1, hc0, hc1, hf0, hf1⟩ := hev.c
      obtain ⟨hE1, hE2⟩ := std_set (a := (1, u)) hev.c
      dsimp only at hE1 hE2
      refine ow_skip (w' := ((X.setCell ⟨w.heap.size, 0, none⟩ (.int .i64 1)).setCell ⟨w.heap.size, 1, none⟩ (.int .u32 (u : Int)))) ?_ ⟨undef, rfl, hE1, hE2⟩
      clear hE1 hE2
      clear hfix hev hdep; generalize a1.eval = ev at *; unfold execOp; simp only; go_simp
    · intro a1 X hfix hev hdep
      have q34 : a1.eval (.tmp 34) = .bool false := hdep 12 (by decide)
      refine Or.inl ⟨rfl, ?_⟩
      refine ow_value (v := .bool false) (w' := X) ?_ ⟨_, rfl, Evp.refl hev.c, rfl⟩
      clear hfix hev hdep; generalize a1.eval = ev at *; unfold execOp; simp only; go_simp
theorem pu_below {w w' : World} {s : ByteArray} (h : w' = w ∨ w' = Lib.bytesWorld w 5 s) : Below w.heap.size w w' := by
  rcases h with rfl | rfl
  · exact Below.refl _ _
  · exact Lib.bytesWorld_below _ _ _
theorem pb_le (l : List UInt8) (u : Nat) (h : Lib.parseUintB 32 l = .ok u) : u < 4294967296 := by
  unfold Lib.parseUintB at h
  split at h
  · cases h
  · have := pm_le _ 0 l u (by omega) h
    simp at this
    omega
set_option maxHeartbeats 4000000 in
theorem parseAtomM (s : ByteArray) (u : Nat) (w : World) (hs : s.size ≤ 281474976710656) (h1 : ¬ s.data.toList = [46]) (h2 : ¬ s.data.toList = [42]) (hp : PowAt w) (hu : u < 4294967296) (hz : Lib.parseUintB 32 s.data.toList = .ok u) (h0 : u = 0) :
    Calls Tryz.prog 59 #[.string s] w (PaOk s.data.toList w) := by
  have hlt : 3 < w.heap.size := by obtain ⟨t, fz, h⟩ := hp; exact (Array.getElem?_eq_some_iff.mp h).1
  have hb0 : Below w.heap.size w (w.alloc (.cells #[.int .i64 0, .int .u32 0] 53)) := below_box _ _
  have n1 : (s.toList == ([46] : List UInt8)) = false := by rw [ByteArray.toList_eq, beq_eq_false_iff_ne]; exact h1
  have n2 : (s.toList == ([42] : List UInt8)) = false := by rw [ByteArray.toList_eq, beq_eq_false_iff_ne]; exact h2
  have hmod : (u : Int) % 4294967296 = u := by omega
  have HZ : Hid (Lib.parseUintB 32 s.data.toList = .ok u) := hz
  have HNO : Hid (ptA s.data.toList = none) := by
    unfold Hid ptA
    rw [if_neg h1, if_neg h2, hz]
    simp [h0]
  have HR : Hid ((ptA s.data.toList).isSome = false) := by unfold Hid; rw [HNO.out]; rfl
  have HEQ : Hid (∀ x, ptA s.data.toList = some x → ((1, u) : Atm) = x) := fun x hx => by rw [HNO.out] at hx; cases hx
  have H00 : Hid (u = 0) := h0
  clear hz HNO h0
  have HW0 : Hid (Cel w.heap.size (w.alloc (.cells #[.int .i64 0, .int .u32 0] 53))) := cel_new w
  have HPp : Hid (PowAt w) := hp
  have HB0 : Hid (Below _ _ _) := hb0
  clear hp hb0 h1 h2
  go_enter Tryz.func59, Tryz.ntmps59
  go_wp2_with fail
  refine Calls.mono (Tryz.strconv_ParseUint_10_at32_ok s (by omega) u HZ.out _) ?_
  rintro e w1 ⟨rfl, hw⟩
  have hb1 := pu_below hw
  clear hw
  have HB1 : Hid (Below w.heap.size w w1) := HB0.out.trans (hb1.mono HB0.out.size)
  have H0 : Hid (Cel w.heap.size w1) := (Evp.of_below (a := (1, u)) HW0.out hb1).c
  have HP : Hid (PowAt w1) := (HPp.out.below HB0.out).below hb1
  have hm1 : w.heap.size < w1.heap.size := by have := hb1.size; simp at this; omega
  obtain ⟨m, hmm⟩ : ∃ m, m = w1.heap.size := ⟨_, rfl⟩
  have HMM : Hid (m = w1.heap.size) := hmm
  have hmw : w.heap.size < m := by omega
  have hsz := hmm.symm
  clear hb1 HW0 HB0 HPp hmm hm1

  have HM : Hid (∀ X, Calls Tryz.prog 86 #[.agg #[.int .i64 1, .int .u32 (u : Int)]] X fun e w' => e = .returned (.bool false) ∧ Below X.heap.size X w') := fun X => by
    have := mayAtom_any (1, u) X
    rw [show okA (1, u) = false from by rw [H00.out]; rfl] at this
    exact this
  have hsz2 : s.size ≤ 281474976710656 := hs
  go_wp2_with fail
  refine Pr.with_world (fun wx => Cel w.heap.size wx ∧ wx.cell? ⟨m, 0, none⟩ = some (.int .i64 1) ∧ wx.cell? ⟨m, 1, none⟩ = some (.int .u32 (u : Int)) ∧ Below w.heap.size w wx ∧ PowAt wx) (start_w H0.out HMM.out HB1.out HP.out) ?_
  rintro W0 ⟨hc, hq0, hq1, hbw, hpw⟩
  clear H0 HB1 HP HMM
  have hdw : Below W0.heap.size W0 W0.drew := (Below.refl _ _).drew
  have hr0 : Evp w.heap.size (1, u) W0.drew W0.drew := Evp.refl ((Evp.of_below (a := (1, u)) hc hdw).c)
  have HQ : Hid (∀ X, Evp w.heap.size (1, u) W0.drew X → X.cell? ⟨m, 0, none⟩ = some (.int .i64 1) ∧ X.cell? ⟨m, 1, none⟩ = some (.int .u32 (u : Int))) := fun X hX => ⟨hX.cell (below_cell hdw hq0) (by omega), hX.cell (below_cell hdw hq1) (by omega)⟩
  have HPX : Hid (∀ X, Evp w.heap.size (1, u) W0.drew X → PowAt X) := fun X hX => by
    obtain ⟨t, fz, h⟩ := hpw.below hdw
    exact ⟨t, fz, (hX.g.block 3 (Array.getElem?_eq_some_iff.mp h).1 (by intro e; injection e with e; omega)).trans h⟩
  have HBW : Hid (∀ X, Evp w.heap.size (1, u) W0.drew X → Below w.heap.size w X) := fun X hX => hbw.trans (((hdw.mono hbw.size)).trans ⟨hX.g.os, hX.g.tape, hX.g.output, hX.g.size, fun k hk => hX.g.block k (Nat.lt_of_lt_of_le hk (Nat.le_trans hbw.size hdw.size)) (by intro e; injection e with e; omega)⟩)
  have HFIN : Hid (∀ X, Evp w.heap.size (1, u) W0.drew X → PaOk s.data.toList w (.returned (.tuple #[.agg #[.int .i64 1, .int .u32 (u : Int)], .bool false])) X) := fun X hX => ⟨⟨(1, u), by rw [HR.out]; rfl, HEQ.out⟩, HBW.out X hX⟩
  clear hc hq0 hq1 hbw hpw hdw
  refine with_act (fun ax => ax.tmps.size = 35 ∧ ax.defers = [] ∧ ax.eval (.tmp 0) = .string s ∧ ax.eval (.tmp 2) = .pointer (some ⟨w.heap.size, 0, none⟩) ∧ ax.eval (.tmp 5) = .nilIface ∧ ax.eval (.tmp 6) = .pointer (some ⟨m, 0, none⟩)) ⟨rfl, rfl, rfl, rfl, rfl, rfl⟩ ?_
  rintro a0 ⟨F0s, FD, F0, F2, F5, F6⟩
  refine region_list (by kernel_rfl) (Evp w.heap.size (1, u)) [(fun v _ => v = .agg #[.int .i64 1, .int .u32 (u : Int)]),
        (fun v _ => v = .nilIface),
        (fun v _ => v = .bool true),
        (fun v _ => v = .bool true),
        (fun v _ => v = .agg #[.int .i64 1, .int .u32 (u : Int)]),
        (fun v _ => v = .bool false),
        (fun v _ => v = .bool false),
        (fun v _ => v = .bool false),
        (fun _ _ => True),
        (fun _ _ => True),
        (fun _ _ => True),
        (fun _ _ => True),
        (fun v _ => v = .bool false),
        (fun _ X => Std w.heap.size (1, u) X),
        (fun v _ => v = .bool false)] [some 22, some 23, some 24, some 25, some 26, some 27, some 28, some 29, some 30, some 31, some 32, some 33, some 34, none, some 3] (by kernel_rfl) (fun x y z h k => h.trans k) hr0 ?keep (by kernel_rfl) (by rw [F0s]; kernel_rfl) ?steps ?done
  case keep => repeat (first | exact kept_nil | refine kept_cons (kept_eq _) ?_ | refine kept_cons (fun _ _ _ _ h1 h2 => h1.s h2) ?_ | refine kept_cons (fun _ _ _ _ _ h => h) ?_)
  case done =>
    intro a1 X hsz hdf hfix hev hE
    have q3 : a1.eval (.tmp 3) = .bool false := hE 14 (by decide)
    have q2 : a1.eval (.tmp 2) = .pointer (some ⟨w.heap.size, 0, none⟩) := (hfix 2 (by decide)).trans F2
    obtain ⟨c0, c1⟩ : Std w.heap.size (1, u) X := hE 13 (by decide)
    dsimp only at c0 c1
    go_wp2
    refine bodyPost_ret (v := .tuple #[.agg #[.int .i64 1, .int .u32 (u : Int)], .bool false]) ?_ (hdf.trans FD) ?_
    · rw [results_cell_tmp (p := 2) (ty := 53) (u := 3) rfl]; change ((asAddr (a1.eval (.tmp 2))).run Tryz.prog X).andThen (fun a w₁ => ((loadVar 53 a).run Tryz.prog w₁).andThen fun v w₂ => .ok (Value.tuple #[v, a1.eval (.tmp 3)]) w₂) = _; rw [q2, q3]; simp [go_sem, c0, c1]
    · exact HFIN.out X hev
  case steps =>
    refine ⟨?_, ?_, ?_, ?_, ?_, ?_, ?_, ?_, ?_, ?_, ?_, ?_, ?_, ?_, ?_, trivial⟩
    · intro a1 X hfix hev hdep
      have q6 : a1.eval (.tmp 6) = _ := (hfix 6 (by decide)).trans F6
      obtain ⟨c0, c1⟩ := HQ.out X hev
      refine Or.inl ⟨rfl, ?_⟩
      refine ow_value (v := .agg #[.int .i64 1, .int .u32 (u : Int)]) (w' := X) ?_ ⟨_, rfl, Evp.refl hev.c, rfl⟩
      clear hfix hev hdep; generalize a1.eval = ev at *; unfold execOp; simp only; go_simp
    · intro a1 X hfix hev hdep
      have q5 : a1.eval (.tmp 5) = _ := (hfix 5 (by decide)).trans F5
      refine Or.inl ⟨rfl, ?_⟩
      refine ow_value (v := .nilIface) (w' := X) ?_ ⟨_, rfl, Evp.refl hev.c, rfl⟩
      clear hfix hev hdep; generalize a1.eval = ev at *; unfold execOp; simp only; go_simp
    · intro a1 X hfix hev hdep
      have q23 : a1.eval (.tmp 23) = .nilIface := hdep 1 (by decide)
      refine Or.inl ⟨rfl, ?_⟩
      refine ow_value (v := .bool true) (w' := X) ?_ ⟨_, rfl, Evp.refl hev.c, rfl⟩
      have hkN : a1.eval (.const .nilIface) = .nilIface := rfl; clear hfix hev hdep; generalize a1.eval = ev at *; unfold execOp; simp only; go_simp
    · intro a1 X hfix hev hdep
      have q24 : a1.eval (.tmp 24) = .bool true := hdep 2 (by decide)
      refine Or.inl ⟨rfl, ?_⟩
      refine ow_value (v := .bool true) (w' := X) ?_ ⟨_, rfl, Evp.refl hev.c, rfl⟩
      clear hfix hev hdep; generalize a1.eval = ev at *; unfold execOp; simp only; go_simp
    · intro a1 X hfix hev hdep
      have g0 : a1.eval (.tmp 25) = .bool true := hdep 3 (by decide)
      have q6 : a1.eval (.tmp 6) = _ := (hfix 6 (by decide)).trans F6
      obtain ⟨c0, c1⟩ := HQ.out X hev
      refine Or.inr (Or.inl ⟨_, _, rfl, g0, ?_⟩)
      refine ow_value (v := .agg #[.int .i64 1, .int .u32 (u : Int)]) (w' := X) ?_ ⟨_, rfl, Evp.refl hev.c, rfl⟩
      clear g0; clear hfix hev hdep; generalize a1.eval = ev at *; unfold execOp; simp only; go_simp
    · intro a1 X hfix hev hdep
      have g0 : a1.eval (.tmp 25) = .bool true := hdep 3 (by decide)
      have q26 : a1.eval (.tmp 26) = .agg #[.int .i64 1, .int .u32 (u : Int)] := hdep 4 (by decide)
      refine Or.inr (Or.inl ⟨_, _, rfl, g0, ?_⟩)
      refine ow_enter (f := 86) (args := #[.agg #[.int .i64 1, .int .u32 (u : Int)]]) (w' := X) ?_ ?_
      · have hf0 : a1.eval (.func 86) = .func (.func 86) #[] #[] := rfl; clear g0; clear hfix hev hdep; generalize a1.eval = ev at *; unfold execOp; simp only; go_simp
      · refine Calls.mono (HM.out X) ?_
        rintro e Y ⟨rfl, hb⟩
        exact ⟨_, rfl, _, rfl, Evp.of_below hev.c hb, rfl⟩
    · intro a1 X hfix hev hdep
      have q25 : a1.eval (.tmp 25) = .bool true := hdep 3 (by decide)
      have q27 : a1.eval (.tmp 27) = .bool false := hdep 5 (by decide)
      refine Or.inl ⟨rfl, ?_⟩
      refine ow_value (v := .bool false) (w' := X) ?_ ⟨_, rfl, Evp.refl hev.c, rfl⟩
      have hk0 : a1.eval (.const (.bool false)) = .bool false := rfl; clear hfix hev hdep; generalize a1.eval = ev at *; unfold execOp; simp only; go_simp
    · intro a1 X hfix hev hdep
      have q28 : a1.eval (.tmp 28) = .bool false := hdep 6 (by decide)
      refine Or.inl ⟨rfl, ?_⟩
      refine ow_value (v := .bool false) (w' := X) ?_ ⟨_, rfl, Evp.refl hev.c, rfl⟩
      clear hfix hev hdep; generalize a1.eval = ev at *; unfold execOp; simp only; go_simp
    · intro a1 X hfix hev hdep
      have g0 : a1.eval (.tmp 29) = .bool false := hdep 7 (by decide)
      exact Or.inr (Or.inr ⟨_, _, rfl, g0, ⟨_, rfl, Evp.refl hev.c, trivial⟩⟩)
    · intro a1 X hfix hev hdep
      have g0 : a1.eval (.tmp 29) = .bool false := hdep 7 (by decide)
      exact Or.inr (Or.inr ⟨_, _, rfl, g0, ⟨_, rfl, Evp.refl hev.c, trivial⟩⟩)
    · intro a1 X hfix hev hdep
      have g0 : a1.eval (.tmp 29) = .bool false := hdep 7 (by decide)
      exact Or.inr (Or.inr ⟨_, _, rfl, g0, ⟨_, rfl, Evp.refl hev.c, trivial⟩⟩)
    · intro a1 X hfix hev hdep
      have g0 : a1.eval (.tmp 29) = .bool false := hdep 7 (by decide)
      exact Or.inr (Or.inr ⟨_, _, rfl, g0, ⟨_, rfl, Evp.refl hev.c, trivial⟩⟩)
    · intro a1 X hfix hev hdep
      have q29 : a1.eval (.tmp 29) = .bool false := hdep 7 (by decide)
      refine Or.inl ⟨rfl, ?_⟩
      refine ow_value (v := .bool false) (w' := X) ?_ ⟨_, rfl, Evp.refl hev.c, rfl⟩
      have hk0 : a1.eval (.const (.bool false)) = .bool false := rfl; clear hfix hev hdep; generalize a1.eval = ev at *; unfold execOp; simp only; go_simp
    · intro a1 X hfix hev hdep
      have q2 : a1.eval (.tmp 2) = _ := (hfix 2 (by decide)).trans F2
      have q22 : a1.eval (.tmp 22) = .agg #[.int .i64 1, .int .u32 (u : Int)] := hdep 0 (by decide)
      refine Or.inl ⟨rfl, ?_⟩
      obtain ⟨u0, u1, hc0, hc1, hf0, hf1⟩ := hev.c
      obtain ⟨hE1, hE2⟩ := std_set (a := (1, u)) hev.c
      dsimp only at hE1 hE2
      refine ow_skip (w' := ((X.setCell ⟨w.heap.size, 0, none⟩ (.int .i64 1)).setCell ⟨w.heap.size, 1, none⟩ (.int .u32 (u : Int)))) ?_ ⟨undef, rfl, hE1, hE2⟩
      clear hE1 hE2
      clear hfix hev hdep; generalize a1.eval = ev at *; unfold execOp; simp only; go_simp
    · intro a1 X hfix hev hdep
      have q34 : a1.eval (.tmp 34) = .bool false := hdep 12 (by decide)
      refine Or.inl ⟨rfl, ?_⟩
      refine ow_value (v := .bool false) (w' := X) ?_ ⟨_, rfl, Evp.refl hev.c, rfl⟩
      clear hfix hev hdep; generalize a1.eval = ev at *; unfold execOp; simp only; go_simp
set_option maxHeartbeats 4000000 in
theorem parseAtomT (s : ByteArray) (u : Nat) (w : World) (hs : s.size ≤ 281474976710656) (h1 : ¬ s.data.toList = [46]) (h2 : ¬ s.data.toList = [42]) (hp : PowAt w) (hu : u < 4294967296) (hz : Lib.parseUintB 32 s.data.toList = .ok u) (h0 : 0 < u) :
    Calls Tryz.prog 59 #[.string s] w (PaOk s.data.toList w) := by
  have hlt : 3 < w.heap.size := by obtain ⟨t, fz, h⟩ := hp; exact (Array.getElem?_eq_some_iff.mp h).1
  have hb0 : Below w.heap.size w (w.alloc (.cells #[.int .i64 0, .int .u32 0] 53)) := below_box _ _
  have n1 : (s.toList == ([46] : List UInt8)) = false := by rw [ByteArray.toList_eq, beq_eq_false_iff_ne]; exact h1
  have n2 : (s.toList == ([42] : List UInt8)) = false := by rw [ByteArray.toList_eq, beq_eq_false_iff_ne]; exact h2
  have hmod : (u : Int) % 4294967296 = u := by omega
  have HZ : Hid (Lib.parseUintB 32 s.data.toList = .ok u) := hz
  have HNO : Hid (ptA s.data.toList = if Lib.decDigits u = s.data.toList then some (1, u) else none) := by
    unfold Hid ptA
    rw [if_neg h1, if_neg h2, hz]
    by_cases e : Lib.decDigits u = s.data.toList <;> simp [h0, e]
  obtain ⟨z, hzz⟩ : ∃ z, z = decide (Lib.decDigits u = s.data.toList) := ⟨_, rfl⟩
  have HR : Hid ((ptA s.data.toList).isSome = z) := by unfold Hid; rw [HNO.out, hzz]; by_cases e : Lib.decDigits u = s.data.toList <;> simp [e]
  have HEQ : Hid (∀ x, ptA s.data.toList = some x → ((1, u) : Atm) = x) := fun x hx => by
    rw [HNO.out] at hx
    split at hx
    · injection hx
    · cases hx
  have hcmp : (Lib.decDigits u == s.toList) = z := by rw [hzz, ByteArray.toList_eq, Bool.eq_iff_iff]; simp
  clear hz HNO hzz
  have HW0 : Hid (Cel w.heap.size (w.alloc (.cells #[.int .i64 0, .int .u32 0] 53))) := cel_new w
  have HPp : Hid (PowAt w) := hp
  have HB0 : Hid (Below _ _ _) := hb0
  clear hp hb0 h1 h2
  go_enter Tryz.func59, Tryz.ntmps59
  go_wp2_with fail
  refine Calls.mono (Tryz.strconv_ParseUint_10_at32_ok s (by omega) u HZ.out _) ?_
  rintro e w1 ⟨rfl, hw⟩
  have hb1 := pu_below hw
  clear hw
  have HB1 : Hid (Below w.heap.size w w1) := HB0.out.trans (hb1.mono HB0.out.size)
  have H0 : Hid (Cel w.heap.size w1) := (Evp.of_below (a := (1, u)) HW0.out hb1).c
  have HP : Hid (PowAt w1) := (HPp.out.below HB0.out).below hb1
  have hm1 : w.heap.size < w1.heap.size := by have := hb1.size; simp at this; omega
  obtain ⟨m, hmm⟩ : ∃ m, m = w1.heap.size := ⟨_, rfl⟩
  have HMM : Hid (m = w1.heap.size) := hmm
  have hmw : w.heap.size < m := by omega
  have hsz := hmm.symm
  clear hb1 HW0 HB0 HPp hmm hm1

  have HM : Hid (∀ X, Calls Tryz.prog 86 #[.agg #[.int .i64 1, .int .u32 (u : Int)]] X fun e w' => e = .returned (.bool true) ∧ Below X.heap.size X w') := fun X => by
    have := mayAtom_any (1, u) X
    rw [show okA (1, u) = true from by simp [okA]; omega] at this
    exact this
  have hsz2 : s.size ≤ 281474976710656 := hs
  go_wp2_with fail
  refine Pr.with_world (fun wx => Cel w.heap.size wx ∧ wx.cell? ⟨m, 0, none⟩ = some (.int .i64 1) ∧ wx.cell? ⟨m, 1, none⟩ = some (.int .u32 (u : Int)) ∧ Below w.heap.size w wx ∧ PowAt wx) (start_w H0.out HMM.out HB1.out HP.out) ?_
  rintro W0 ⟨hc, hq0, hq1, hbw, hpw⟩
  clear H0 HB1 HP HMM
  have hdw : Below W0.heap.size W0 W0.drew := (Below.refl _ _).drew
  have hr0 : Evp w.heap.size (1, u) W0.drew W0.drew := Evp.refl ((Evp.of_below (a := (1, u)) hc hdw).c)
  have HQ : Hid (∀ X, Evp w.heap.size (1, u) W0.drew X → X.cell? ⟨m, 0, none⟩ = some (.int .i64 1) ∧ X.cell? ⟨m, 1, none⟩ = some (.int .u32 (u : Int))) := fun X hX => ⟨hX.cell (below_cell hdw hq0) (by omega), hX.cell (below_cell hdw hq1) (by omega)⟩
  have HPX : Hid (∀ X, Evp w.heap.size (1, u) W0.drew X → PowAt X) := fun X hX => by
    obtain ⟨t, fz, h⟩ := hpw.below hdw
    exact ⟨t, fz, (hX.g.block 3 (Array.getElem?_eq_some_iff.mp h).1 (by intro e; injection e with e; omega)).trans h⟩
  have HBW : Hid (∀ X, Evp w.heap.size (1, u) W0.drew X → Below w.heap.size w X) := fun X hX => hbw.trans (((hdw.mono hbw.size)).trans ⟨hX.g.os, hX.g.tape, hX.g.output, hX.g.size, fun k hk => hX.g.block k (Nat.lt_of_lt_of_le hk (Nat.le_trans hbw.size hdw.size)) (by intro e; injection e with e; omega)⟩)
  have HFIN : Hid (∀ X, Evp w.heap.size (1, u) W0.drew X → PaOk s.data.toList w (.returned (.tuple #[.agg #[.int .i64 1, .int .u32 (u : Int)], .bool z])) X) := fun X hX => ⟨⟨(1, u), by rw [HR.out]; rfl, HEQ.out⟩, HBW.out X hX⟩
  clear hc hq0 hq1 hbw hpw hdw
  have HX : Hid (∀ X, Evp w.heap.size (1, u) W0.drew X → Calls Tryz.prog 54 #[.agg #[.int .i64 1, .int .u32 (u : Int)]] X fun e w' => e = .returned (.string ⟨(Lib.decDigits u).toArray⟩) ∧ Below X.heap.size X w') := fun X hX => by
    have := atomText_any (1, u) X hu (HPX.out X hX)
    exact this
  refine with_act (fun ax => ax.tmps.size = 35 ∧ ax.defers = [] ∧ ax.eval (.tmp 0) = .string s ∧ ax.eval (.tmp 2) = .pointer (some ⟨w.heap.size, 0, none⟩) ∧ ax.eval (.tmp 5) = .nilIface ∧ ax.eval (.tmp 6) = .pointer (some ⟨m, 0, none⟩)) ⟨rfl, rfl, rfl, rfl, rfl, rfl⟩ ?_
  rintro a0 ⟨F0s, FD, F0, F2, F5, F6⟩
  refine region_list (by kernel_rfl) (Evp w.heap.size (1, u)) [(fun v _ => v = .agg #[.int .i64 1, .int .u32 (u : Int)]),
        (fun v _ => v = .nilIface),
        (fun v _ => v = .bool true),
        (fun v _ => v = .bool true),
        (fun v _ => v = .agg #[.int .i64 1, .int .u32 (u : Int)]),
        (fun v _ => v = .bool true),
        (fun v _ => v = .bool true),
        (fun v _ => v = .bool true),
        (fun v _ => v = .agg #[.int .i64 1, .int .u32 (u : Int)]),
        (fun v _ => v = .string ⟨(Lib.decDigits u).toArray⟩),
        (fun v _ => v = .string s),
        (fun v _ => v = .bool z),
        (fun v _ => v = .bool z),
        (fun _ X => Std w.heap.size (1, u) X),
        (fun v _ => v = .bool z)] [some 22, some 23, some 24, some 25, some 26, some 27, some 28, some 29, some 30, some 31, some 32, some 33, some 34, none, some 3] (by kernel_rfl) (fun x y z h k => h.trans k) hr0 ?keep (by kernel_rfl) (by rw [F0s]; kernel_rfl) ?steps ?done
  case keep => repeat (first | exact kept_nil | refine kept_cons (kept_eq _) ?_ | refine kept_cons (fun _ _ _ _ h1 h2 => h1.s h2) ?_ | refine kept_cons (fun _ _ _ _ _ h => h) ?_)
  case done =>
    intro a1 X hsz hdf hfix hev hE
    have q3 : a1.eval (.tmp 3) = .bool z := hE 14 (by decide)
    have q2 : a1.eval (.tmp 2) = .pointer (some ⟨w.heap.size, 0, none⟩) := (hfix 2 (by decide)).trans F2
    obtain ⟨c0, c1⟩ : Std w.heap.size (1, u) X := hE 13 (by decide)
    dsimp only at c0 c1
    go_wp2
    refine bodyPost_ret (v := .tuple #[.agg #[.int .i64 1, .int .u32 (u : Int)], .bool z]) ?_ (hdf.trans FD) ?_
    · rw [results_cell_tmp (p := 2) (ty := 53) (u := 3) rfl]; change ((asAddr (a1.eval (.tmp 2))).run Tryz.prog X).andThen (fun a w₁ => ((loadVar 53 a).run Tryz.prog w₁).andThen fun v w₂ => .ok (Value.tuple #[v, a1.eval (.tmp 3)]) w₂) = _; rw [q2, q3]; simp [go_sem, c0, c1]
    · exact HFIN.out X hev
  case steps =>
    refine ⟨?_, ?_, ?_, ?_, ?_, ?_, ?_, ?_, ?_, ?_, ?_, ?_, ?_, ?_, ?_, trivial⟩
    · intro a1 X hfix hev hdep
      have q6 : a1.eval (.tmp 6) = _ := (hfix 6 (by decide)).trans F6
      obtain ⟨c0, c1⟩ := HQ.out X hev
      refine Or.inl ⟨rfl, ?_⟩
      refine ow_value (v := .agg #[.int .i64 1, .int .u32 (u : Int)]) (w' := X) ?_ ⟨_, rfl, Evp.refl hev.c, rfl⟩
      clear hfix hev hdep; generalize a1.eval = ev at *; unfold execOp; simp only; go_simp
    · intro a1 X hfix hev hdep
      have q5 : a1.eval (.tmp 5) = _ := (hfix 5 (by decide)).trans F5
      refine Or.inl ⟨rfl, ?_⟩
      refine ow_value (v := .nilIface) (w' := X) ?_ ⟨_, rfl, Evp.refl hev.c, rfl⟩
      clear hfix hev hdep; generalize a1.eval = ev at *; unfold execOp; simp only; go_simp
    · intro a1 X hfix hev hdep
      have q23 : a1.eval (.tmp 23) = .nilIface := hdep 1 (by decide)
      refine Or.inl ⟨rfl, ?_⟩
      refine ow_value (v := .bool true) (w' := X) ?_ ⟨_, rfl, Evp.refl hev.c, rfl⟩
      have hkN : a1.eval (.const .nilIface) = .nilIface := rfl; clear hfix hev hdep; generalize a1.eval = ev at *; unfold execOp; simp only; go_simp
    · intro a1 X hfix hev hdep
      have q24 : a1.eval (.tmp 24) = .bool true := hdep 2 (by decide)
      refine Or.inl ⟨rfl, ?_⟩
      refine ow_value (v := .bool true) (w' := X) ?_ ⟨_, rfl, Evp.refl hev.c, rfl⟩
      clear hfix hev hdep; generalize a1.eval = ev at *; unfold execOp; simp only; go_simp
    · intro a1 X hfix hev hdep
      have g0 : a1.eval (.tmp 25) = .bool true := hdep 3 (by decide)
      have q6 : a1.eval (.tmp 6) = _ := (hfix 6 (by decide)).trans F6
      obtain ⟨c0, c1⟩ := HQ.out X hev
      refine Or.inr (Or.inl ⟨_, _, rfl, g0, ?_⟩)
      refine ow_value (v := .agg #[.int .i64 1, .int .u32 (u : Int)]) (w' := X) ?_ ⟨_, rfl, Evp.refl hev.c, rfl⟩
      clear g0; clear hfix hev hdep; generalize a1.eval = ev at *; unfold execOp; simp only; go_simp
    · intro a1 X hfix hev hdep
      have g0 : a1.eval (.tmp 25) = .bool true := hdep 3 (by decide)
      have q26 : a1.eval (.tmp 26) = .agg #[.int .i64 1, .int .u32 (u : Int)] := hdep 4 (by decide)
      refine Or.inr (Or.inl ⟨_, _, rfl, g0, ?_⟩)
      refine ow_enter (f := 86) (args := #[.agg #[.int .i64 1, .int .u32 (u : Int)]]) (w' := X) ?_ ?_
      · have hf0 : a1.eval (.func 86) = .func (.func 86) #[] #[] := rfl; clear g0; clear hfix hev hdep; generalize a1.eval = ev at *; unfold execOp; simp only; go_simp
      · refine Calls.mono (HM.out X) ?_
        rintro e Y ⟨rfl, hb⟩
        exact ⟨_, rfl, _, rfl, Evp.of_below hev.c hb, rfl⟩
    · intro a1 X hfix hev hdep
      have q25 : a1.eval (.tmp 25) = .bool true := hdep 3 (by decide)
      have q27 : a1.eval (.tmp 27) = .bool true := hdep 5 (by decide)
      refine Or.inl ⟨rfl, ?_⟩
      refine ow_value (v := .bool true) (w' := X) ?_ ⟨_, rfl, Evp.refl hev.c, rfl⟩
      have hk0 : a1.eval (.const (.bool false)) = .bool false := rfl; clear hfix hev hdep; generalize a1.eval = ev at *; unfold execOp; simp only; go_simp
    · intro a1 X hfix hev hdep
      have q28 : a1.eval (.tmp 28) = .bool true := hdep 6 (by decide)
      refine Or.inl ⟨rfl, ?_⟩
      refine ow_value (v := .bool true) (w' := X) ?_ ⟨_, rfl, Evp.refl hev.c, rfl⟩
      clear hfix hev hdep; generalize a1.eval = ev at *; unfold execOp; simp only; go_simp
    · intro a1 X hfix hev hdep
      have g0 : a1.eval (.tmp 29) = .bool true := hdep 7 (by decide)
      have q6 : a1.eval (.tmp 6) = _ := (hfix 6 (by decide)).trans F6
      obtain ⟨c0, c1⟩ := HQ.out X hev
      refine Or.inr (Or.inl ⟨_, _, rfl, g0, ?_⟩)
      refine ow_value (v := .agg #[.int .i64 1, .int .u32 (u : Int)]) (w' := X) ?_ ⟨_, rfl, Evp.refl hev.c, rfl⟩
      clear g0; clear hfix hev hdep; generalize a1.eval = ev at *; unfold execOp; simp only; go_simp
    · intro a1 X hfix hev hdep
      have g0 : a1.eval (.tmp 29) = .bool true := hdep 7 (by decide)
      have q30 : a1.eval (.tmp 30) = .agg #[.int .i64 1, .int .u32 (u : Int)] := hdep 8 (by decide)
      refine Or.inr (Or.inl ⟨_, _, rfl, g0, ?_⟩)
      refine ow_enter (f := 54) (args := #[.agg #[.int .i64 1, .int .u32 (u : Int)]]) (w' := X) ?_ ?_
      · have hf0 : a1.eval (.func 54) = .func (.func 54) #[] #[] := rfl; clear g0; clear hfix hev hdep; generalize a1.eval = ev at *; unfold execOp; simp only; go_simp
      · refine Calls.mono (HX.out X hev) ?_
        rintro e Y ⟨rfl, hb⟩
        exact ⟨_, rfl, _, rfl, Evp.of_below hev.c hb, rfl⟩
    · intro a1 X hfix hev hdep
      have g0 : a1.eval (.tmp 29) = .bool true := hdep 7 (by decide)
      have q0 : a1.eval (.tmp 0) = _ := (hfix 0 (by decide)).trans F0
      refine Or.inr (Or.inl ⟨_, _, rfl, g0, ?_⟩)
      refine ow_value (v := .string s) (w' := X) ?_ ⟨_, rfl, Evp.refl hev.c, rfl⟩
      clear g0; clear hfix hev hdep; generalize a1.eval = ev at *; unfold execOp; simp only; go_simp
    · intro a1 X hfix hev hdep
      have g0 : a1.eval (.tmp 29) = .bool true := hdep 7 (by decide)
      have q31 : a1.eval (.tmp 31) = .string ⟨(Lib.decDigits u).toArray⟩ := hdep 9 (by decide)
      have q32 : a1.eval (.tmp 32) = .string s := hdep 10 (by decide)
      refine Or.inr (Or.inl ⟨_, _, rfl, g0, ?_⟩)
      refine ow_value (v := .bool z) (w' := X) ?_ ⟨_, rfl, Evp.refl hev.c, rfl⟩
      clear g0; clear hfix hev hdep; generalize a1.eval = ev at *; unfold execOp; simp only; go_simp
    · intro a1 X hfix hev hdep
      have q29 : a1.eval (.tmp 29) = .bool true := hdep 7 (by decide)
      have q33 : a1.eval (.tmp 33) = .bool z := hdep 11 (by decide)
      refine Or.inl ⟨rfl, ?_⟩
      refine ow_value (v := .bool z) (w' := X) ?_ ⟨_, rfl, Evp.refl hev.c, rfl⟩
      have hk0 : a1.eval (.const (.bool false)) = .bool false := rfl; clear hfix hev hdep; generalize a1.eval = ev at *; unfold execOp; simp only; go_simp
    · intro a1 X hfix hev hdep
      have q2 : a1.eval (.tmp 2) = _ := (hfix 2 (by decide)).trans F2
      have q22 : a1.eval (.tmp 22) = .agg #[.int .i64 1, .int .u32 (u : Int)] := hdep 0 (by decide)
      refine Or.inl ⟨rfl, ?_⟩
      obtain ⟨u0, u1, hc0, hc1, hf0, hf1⟩ := hev.c
      obtain ⟨hE1, hE2⟩ := std_set (a := (1, u)) hev.c
      dsimp only at hE1 hE2
      refine ow_skip (w' := ((X.setCell ⟨w.heap.size, 0, none⟩ (.int .i64 1)).setCell ⟨w.heap.size, 1, none⟩ (.int .u32 (u : Int)))) ?_ ⟨undef, rfl, hE1, hE2⟩
      clear hE1 hE2
      clear hfix hev hdep; generalize a1.eval = ev at *; unfold execOp; simp only; go_simp
    · intro a1 X hfix hev hdep
      have q34 : a1.eval (.tmp 34) = .bool z := hdep 12 (by decide)
      refine Or.inl ⟨rfl, ?_⟩
      refine ow_value (v := .bool z) (w' := X) ?_ ⟨_, rfl, Evp.refl hev.c, rfl⟩
      clear hfix hev hdep; generalize a1.eval = ev at *; unfold execOp; simp only; go_simp
theorem parseAtom_any (s : ByteArray) (w : World) (hs : s.size ≤ 281474976710656) (hp : PowAt w) (he : ErrsAt w) : Calls Tryz.prog 59 #[.string s] w (PaOk s.data.toList w) := by
  by_cases h1 : s.data.toList = [46]
  · have e : s = ⟨#[46]⟩ := by apply ByteArray.ext; apply Array.toList_inj.1; exact h1
    subst e
    have hb := below_box w (.cells #[.int .i64 2, .int .u32 0] 53)
    have hb2 := below_box w (.cells #[.int .i64 0, .int .u32 0] 53)
    have HB : Hid (Below _ _ _) := hb
    have HB2 : Hid (Below _ _ _) := hb2
    clear hb hb2 h1
    go_enter Tryz.func59, Tryz.ntmps59
    go_wp2
    refine bodyPost_ret (v := .tuple #[.agg #[.int .i64 2, .int .u32 0], .bool true]) (by simp [results, Tryz.results59, go_sem]) rfl ⟨⟨(2, 0), rfl, fun x hx => ?_⟩, ?_⟩
    · injection hx
    · first | exact HB.out | exact (HB2.out.setCell (Nat.le_refl _) _).setCell (by simp) _
  · by_cases h2 : s.data.toList = [42]
    · have e : s = ⟨#[42]⟩ := by apply ByteArray.ext; apply Array.toList_inj.1; exact h2
      subst e
      have hb := below_box w (.cells #[.int .i64 3, .int .u32 0] 53)
      have hb2 := below_box w (.cells #[.int .i64 0, .int .u32 0] 53)
      have HB : Hid (Below _ _ _) := hb
      have HB2 : Hid (Below _ _ _) := hb2
      clear hb hb2 h1 h2
      go_enter Tryz.func59, Tryz.ntmps59
      go_wp2
      refine bodyPost_ret (v := .tuple #[.agg #[.int .i64 3, .int .u32 0], .bool true]) (by simp [results, Tryz.results59, go_sem]) rfl ⟨⟨(3, 0), rfl, fun x hx => ?_⟩, ?_⟩
      · injection hx
      · first | exact HB.out | exact (HB2.out.setCell (Nat.le_refl _) _).setCell (by simp) _
    · obtain ⟨⟨t1, p1, _, _, k1⟩, ⟨t2, p2, _, _, k2⟩⟩ := he
      have z1 := (Array.getElem?_eq_some_iff.mp k1).1
      have z2 := (Array.getElem?_eq_some_iff.mp k2).1
      cases hz : Lib.parseUintB 32 s.data.toList
      · rename_i u
        have hu := pb_le _ u hz
        by_cases h0 : u = 0
        · exact parseAtomM s u w hs h1 h2 hp hu hz h0
        · exact parseAtomT s u w hs h1 h2 hp hu hz (by omega)
      · refine parseAtomE s 0 w hs h1 h2 hp (by omega) .nilIface (fun h => by rw [hz] at h; cases h) (fun v h => by rw [hz] at h; cases h) fun X hX => ?_
        exact (show Calls Tryz.prog 92 _ _ _ from Any.strconv_ParseUint_10_at32_syntax_var Tryz.laysPu14 s hs hz t1 p1 X (var_at (by kernel_rfl) ((hX.block 4 z1).trans k1))).mono fun _ _ ⟨N, h3, _, _, h4⟩ => ⟨⟨_, N, h3⟩, h4⟩
      · refine parseAtomE s 4294967295 w hs h1 h2 hp (by omega) .nilIface (fun h => by rw [hz] at h; cases h) (fun v h => by rw [hz] at h; cases h) fun X hX => ?_
        exact (show Calls Tryz.prog 92 _ _ _ from Any.strconv_ParseUint_10_at32_range Tryz.laysPu14 s hs hz _ X (cell_row ((hX.block 5 z2).trans k2) 0 _ rfl) (Or.inr ⟨_, _, rfl⟩)).mono fun _ _ ⟨N, h3, _, _, h4⟩ => ⟨⟨_, N, h3⟩, h4⟩
end Go.Proofs.YtjchobcmbkiilaaGreatDoor
