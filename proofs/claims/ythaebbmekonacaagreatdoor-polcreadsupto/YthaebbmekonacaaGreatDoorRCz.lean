/-
  Conditions read from their words, further kinds.
-/
import Derived.Test.YthaebbmekonacaaGreatDoorRD
set_option linter.unusedVariables false
set_option linter.unusedSimpArgs false
set_option maxRecDepth 100000
namespace Go.Proofs.YthaebbmekonacaaGreatDoor
open Go.RowKit
theorem Bs2.set {p q : Nat} {w w1 : World} (h : Bs2 p q w w1) {b i : Nat} {v : Value} (hb : w.heap.size ≤ b) : Bs2 p q w (w1.setCell ⟨b, i, none⟩ v) :=
  ⟨h.os, h.tape, h.output, by simpa using h.size, fun j hj hp hq => by
    rw [← h.block j hj hp hq]
    simp only [World.setCell, Array.getElem?_modify]
    rw [if_neg (by omega)]⟩
theorem Rd.set {w : World} {pl ps : Nat} {ws : List (List UInt8)} (h : Rd w pl ps ws) {b i : Nat} {v : Value} (hl : b ≠ pl) (hs : b ≠ ps) : Rd (w.setCell ⟨b, i, none⟩ v) pl ps ws := by
  obtain ⟨ne, bb, s, h1, h2, h3, h4, h5, h6⟩ := h
  refine ⟨ne, bb, s, ?_, ?_, ?_, ?_, h5, h6⟩
  · rw [World.cell?_setCell_other _ _ _ _ (by intro e; injection e with e; exact hl e)]; exact h1
  · rw [World.cell?_setCell_other _ _ _ _ (by intro e; injection e with e; exact hs e)]; exact h2
  · rw [World.frozen?_setCell]; exact h3
  · rw [World.frozen?_setCell]; exact h4
theorem Rd.lt {w : World} {pl ps : Nat} {ws : List (List UInt8)} (h : Rd w pl ps ws) : pl < w.heap.size ∧ ps < w.heap.size := by
  obtain ⟨ne, bb, s, h1, h2, _⟩ := h
  exact ⟨lt_of_cell h1, lt_of_cell h2⟩
/-- A block of four cells. -/
structure C4 (w : World) (b : Nat) (v0 v1 v2 v3 : Value) : Prop where
  c0 : w.cell? ⟨b, 0, none⟩ = some v0
  c1 : w.cell? ⟨b, 1, none⟩ = some v1
  c2 : w.cell? ⟨b, 2, none⟩ = some v2
  c3 : w.cell? ⟨b, 3, none⟩ = some v3
  f : ∀ i, w.frozen? ⟨b, i, none⟩ = false
theorem C4.new (w : World) (t : TypeId) (v0 v1 v2 v3 : Value) : C4 (w.alloc (.cells #[v0, v1, v2, v3] t)) w.heap.size v0 v1 v2 v3 :=
  ⟨by rw [World.cell?_alloc_new]; rfl, by rw [World.cell?_alloc_new]; rfl, by rw [World.cell?_alloc_new]; rfl, by rw [World.cell?_alloc_new]; rfl, fun i => World.frozen?_alloc_new _ _ _ _⟩
theorem C4.bs2 {w w' : World} {b p q : Nat} {v0 v1 v2 v3 : Value} (h : C4 w b v0 v1 v2 v3) (hb : Bs2 p q w w') (hp : b ≠ p) (hq : b ≠ q) : C4 w' b v0 v1 v2 v3 :=
  ⟨hb.cell h.c0 hp hq, hb.cell h.c1 hp hq, hb.cell h.c2 hp hq, hb.cell h.c3 hp hq, fun i => hb.frozen (lt_of_cell h.c0) (h.f i) hp hq⟩
theorem C4.below {w w' : World} {b : Nat} {v0 v1 v2 v3 : Value} (h : C4 w b v0 v1 v2 v3) (hb : Below w.heap.size w w') : C4 w' b v0 v1 v2 v3 := by
  have h1 : Bs2 (b + 1) (b + 1) w w' := Bs2.of_below hb
  exact h.bs2 h1 (by omega) (by omega)
theorem C4.other {w : World} {b b' i : Nat} {v v0 v1 v2 v3 : Value} (h : C4 w b v0 v1 v2 v3) (hb : b' ≠ b) : C4 (w.setCell ⟨b', i, none⟩ v) b v0 v1 v2 v3 := by
  obtain ⟨h0, h1, h2, h3, hf⟩ := h
  refine ⟨?_, ?_, ?_, ?_, fun i => by rw [World.frozen?_setCell]; exact hf i⟩
  all_goals rw [World.cell?_setCell_other _ _ _ _ (by intro e; injection e with e; exact hb e)]; assumption
theorem C4.set0 {w : World} {b : Nat} {v v0 v1 v2 v3 : Value} (h : C4 w b v0 v1 v2 v3) : C4 (w.setCell ⟨b, 0, none⟩ v) b v v1 v2 v3 := by
  obtain ⟨h0, h1, h2, h3, hf⟩ := h
  exact ⟨World.cell?_setCell_same _ _ _ h0, (World.cell?_setCell_other _ _ _ _ (by intro e; injection e with _ e; omega)).trans h1, (World.cell?_setCell_other _ _ _ _ (by intro e; injection e with _ e; omega)).trans h2, (World.cell?_setCell_other _ _ _ _ (by intro e; injection e with _ e; omega)).trans h3, fun i => by rw [World.frozen?_setCell]; exact hf i⟩
theorem C4.set1 {w : World} {b : Nat} {v v0 v1 v2 v3 : Value} (h : C4 w b v0 v1 v2 v3) : C4 (w.setCell ⟨b, 1, none⟩ v) b v0 v v2 v3 := by
  obtain ⟨h0, h1, h2, h3, hf⟩ := h
  exact ⟨(World.cell?_setCell_other _ _ _ _ (by intro e; injection e with _ e; omega)).trans h0, World.cell?_setCell_same _ _ _ h1, (World.cell?_setCell_other _ _ _ _ (by intro e; injection e with _ e; omega)).trans h2, (World.cell?_setCell_other _ _ _ _ (by intro e; injection e with _ e; omega)).trans h3, fun i => by rw [World.frozen?_setCell]; exact hf i⟩
theorem C4.set2 {w : World} {b : Nat} {v v0 v1 v2 v3 : Value} (h : C4 w b v0 v1 v2 v3) : C4 (w.setCell ⟨b, 2, none⟩ v) b v0 v1 v v3 := by
  obtain ⟨h0, h1, h2, h3, hf⟩ := h
  exact ⟨(World.cell?_setCell_other _ _ _ _ (by intro e; injection e with _ e; omega)).trans h0, (World.cell?_setCell_other _ _ _ _ (by intro e; injection e with _ e; omega)).trans h1, World.cell?_setCell_same _ _ _ h2, (World.cell?_setCell_other _ _ _ _ (by intro e; injection e with _ e; omega)).trans h3, fun i => by rw [World.frozen?_setCell]; exact hf i⟩
theorem C4.set3 {w : World} {b : Nat} {v v0 v1 v2 v3 : Value} (h : C4 w b v0 v1 v2 v3) : C4 (w.setCell ⟨b, 3, none⟩ v) b v0 v1 v2 v := by
  obtain ⟨h0, h1, h2, h3, hf⟩ := h
  exact ⟨(World.cell?_setCell_other _ _ _ _ (by intro e; injection e with _ e; omega)).trans h0, (World.cell?_setCell_other _ _ _ _ (by intro e; injection e with _ e; omega)).trans h1, (World.cell?_setCell_other _ _ _ _ (by intro e; injection e with _ e; omega)).trans h2, World.cell?_setCell_same _ _ _ h3, fun i => by rw [World.frozen?_setCell]; exact hf i⟩
/-- What reading stands on. -/
structure Std0 (W0 w : World) (pl ps : Nat) : Prop where
  e : EnvX W0
  b : Below W0.heap.size W0 w
  l : W0.heap.size ≤ pl
  s : W0.heap.size ≤ ps
theorem Std0.bs2 {W0 w w' : World} {pl ps : Nat} (h : Std0 W0 w pl ps) (hb : Bs2 pl ps w w') : Std0 W0 w' pl ps := ⟨h.e, h.b.trans (hb.below h.l h.s h.b.size), h.l, h.s⟩
theorem Std0.env {W0 w : World} {pl ps : Nat} (h : Std0 W0 w pl ps) : EnvX w := h.e.below h.b
theorem Std0.max {W0 w : World} {pl ps : Nat} (h : Std0 W0 w pl ps) : MaxAt w := h.env.e.t.max
def clo (pl ps : Nat) : Value := .func (.func 92) #[] #[.pointer (some ⟨pl, 0, none⟩), .pointer (some ⟨ps, 0, none⟩)]
/-- What a piece of reading leaves. -/
structure Left (w w' : World) (pl ps : Nat) (r : List (List UInt8)) : Prop where
  rd : Rd w' pl ps r
  bs : Bs2 pl ps w w'
set_option maxHeartbeats 1000000 in
theorem number_yes (n : Nat) (hn : n < 4294967296) (w : World) (he : EnvX w) : Calls Tryz.prog 133 #[.string ⟨(Lib.decDigits n).toArray⟩] w fun e w' => e = .returned (.int .u32 (n : Int)) ∧ Below w.heap.size w w' := by
  have hl := dig_pow 9 n (by omega)
  have HP : Hid (Calls Tryz.prog 168 #[.string ⟨(Lib.decDigits n).toArray⟩, .int .i64 10, .int .i64 32] w fun e w' => e = .returned (.tuple #[.int .u64 (n : Int), .nilIface]) ∧ Below w.heap.size w w') := by
    refine (Tryz.strconv_ParseUint_10_at32_ok ⟨(Lib.decDigits n).toArray⟩ (by rw [show (⟨(Lib.decDigits n).toArray⟩ : ByteArray).size = (Lib.decDigits n).length from List.size_toArray ..]; omega) n (by simpa using pu_back n hn) w).mono ?_
    rintro e w' ⟨rfl, rfl | rfl⟩
    · exact ⟨rfl, Below.refl _ _⟩
    · exact ⟨rfl, ⟨rfl, rfl, rfl, by rw [Lib.bytesWorld_size]; omega, fun k hk => Lib.bytesWorld_at_old w 5 _ k hk⟩⟩
  have HD : Hid (∀ X, PowAt X → Calls Tryz.prog 124 #[.int .u32 (n : Int)] X fun e w' => e = .returned (.string ⟨(Lib.decDigits n).toArray⟩) ∧ Below X.heap.size X w') := fun X hp => digits_any n hn X hp
  have HE : Hid (EnvX w) := he
  have hw : IntKind.u32.wrap (n : Int) = n := by rw [IntKind.wrap_u32]; omega
  clear he hl
  generalize Lib.decDigits n = t at *
  go_enter Tryz.func133, Tryz.ntmps133
  go_wp2_with fail
  refine Calls.mono HP.out ?_
  rintro e w1 ⟨rfl, hb1⟩
  go_wp2_with fail
  refine Calls.mono (HD.out _ (HE.out.below hb1).e.p) ?_
  rintro e w2 ⟨rfl, hb2⟩
  go_wp2_with fail
  refine Calls.mono (need_yes _) ?_
  rintro e w3 ⟨rfl, rfl⟩
  go_wp2
  go_ret
  exact ⟨rfl, hb1.trans (hb2.mono hb1.size)⟩
set_option maxHeartbeats 2000000 in
theorem readC1 (x : List UInt8)  (pl ps : Nat) (r : List (List UInt8)) (W0 w : World) (h0 : Std0 W0 w pl ps) (hr : Rd w pl ps ([112, 114, 101, 102, 105, 120] :: x :: r)) : Calls Tryz.prog 88 #[clo pl ps] w fun e w' => e = .returned (cdV ⟨1, false, ⟨x.toArray⟩, 0⟩) ∧ Left w w' pl ps r := by
  have hl := hr.lt
  obtain ⟨W1, hW1⟩ : ∃ W1, (w.alloc (.cells #[.int .i64 0, .bool false, .string ⟨#[]⟩, .int .i64 0] 37)).alloc (.cells #[.int .i64 0, .bool false, .string ⟨#[]⟩, .int .i64 0] 37) = W1 := ⟨_, rfl⟩
  have hsz : (w.alloc (.cells #[.int .i64 0, .bool false, .string ⟨#[]⟩, .int .i64 0] 37)).heap.size = w.heap.size + 1 := by simp
  have bb1 : Below w.heap.size w W1 := by rw [← hW1]; exact ((Below.refl _ _).alloc (Nat.le_refl _) _).alloc (by rw [hsz]; omega) _
  have b1 : Bs2 pl ps w W1 := Bs2.of_below bb1
  have r1 : Rd W1 pl ps ([112, 114, 101, 102, 105, 120] :: x :: r) := hr.below bb1
  have d1 : C4 W1 w.heap.size (.int .i64 0) (.bool false) (.string ⟨#[]⟩) (.int .i64 0) := by rw [← hW1]; exact (C4.new w 37 _ _ _ _).below ((Below.refl _ _).alloc (Nat.le_refl _) _)
  have c1 : C4 W1 (w.heap.size + 1) (.int .i64 0) (.bool false) (.string ⟨#[]⟩) (.int .i64 0) := by rw [← hW1, ← hsz]; exact C4.new _ 37 _ _ _ _
  have nl : w.heap.size ≠ pl ∧ w.heap.size ≠ ps ∧ w.heap.size + 1 ≠ pl ∧ w.heap.size + 1 ≠ ps := ⟨by omega, by omega, by omega, by omega⟩
  have HS : Hid (Std0 W0 w pl ps) := h0
  have HNl : Hid (_ ∧ _) := nl
  have HB1 : Hid (Bs2 pl ps w W1) := b1
  have HR1 : Hid (Rd W1 pl ps ([112, 114, 101, 102, 105, 120] :: x :: r)) := r1
  have HD1 : Hid (C4 W1 w.heap.size _ _ _ _) := d1
  have HC1 : Hid (C4 W1 (w.heap.size + 1) _ _ _ _) := c1
  clear h0 hr hl hsz bb1 b1 r1 d1 c1 nl
  unfold clo
  go_enter Tryz.func88, Tryz.ntmps88
  go_wp2_with fail
  refine Calls.mono (next_yes pl ps [112, 114, 101, 102, 105, 120] _ W1 HR1.out (HS.out.bs2 HB1.out).max) ?_
  rintro e W2 ⟨rfl, hr2, hb2⟩
  have HR2 : Hid (_ : Prop) := hr2
  have HB2 : Hid (Bs2 pl ps w W2) := HB1.out.trans hb2
  have HD2 : Hid (_ : Prop) := HD1.out.bs2 hb2 HNl.out.1 HNl.out.2.1
  have HC2 : Hid (_ : Prop) := HC1.out.bs2 hb2 HNl.out.2.2.1 HNl.out.2.2.2
  clear hr2 hb2 HR1 HB1 HD1 HC1
  go_wp2_with fail
  try clear z0 z1
  refine Calls.mono (cw_any W2) ?_
  rintro e W3 ⟨rfl, ht3⟩
  have hb3 := ht3.2
  have HT : Hid (∀ q, q < cwL.length → W3.cell? ⟨W2.heap.size, q, none⟩ = some (.string ⟨(cwL.getD q []).toArray⟩)) := ht3.1
  clear ht3
  have HR3 : Hid (_ : Prop) := HR2.out.below hb3
  have HB3 : Hid (Bs2 pl ps w W3) := HB2.out.trans (Bs2.of_below hb3)
  have HD3 : Hid (_ : Prop) := HD2.out.below hb3
  have HC3 : Hid (_ : Prop) := HC2.out.below hb3
  clear hb3 HR2 HB2 HD2 HC2
  go_wp2_with fail
  refine Calls.mono (place_yes W2.heap.size 8 cwL [112, 114, 101, 102, 105, 120] 1 W3 rfl (by decide) (by decide) (by decide) HT.out) ?_
  rintro e Wq ⟨rfl, hq⟩
  subst Wq
  clear HT
  obtain ⟨W4, hW4⟩ : ∃ W, W3.setCell ⟨w.heap.size + 1, 0, none⟩ (.int .i64 1) = W := ⟨_, rfl⟩
  have HR4 : Hid (Rd W4 pl ps (x :: r)) := by unfold Hid; rw [← hW4]; exact HR3.out.set HNl.out.2.2.1 HNl.out.2.2.2
  have HB4 : Hid (Bs2 pl ps w W4) := by unfold Hid; rw [← hW4]; exact HB3.out.set (by omega)
  have HD4 : Hid (C4 W4 w.heap.size (.int .i64 0) (.bool false) (.string ⟨#[]⟩) (.int .i64 0)) := by unfold Hid; rw [← hW4]; exact HD3.out.other (by omega)
  have HC4 : Hid (C4 W4 (w.heap.size + 1) (.int .i64 1) (.bool false) (.string ⟨#[]⟩) (.int .i64 0)) := by unfold Hid; rw [← hW4]; exact HC3.out.set0
  have z0 := HC3.out.c0
  have z1 := HC3.out.f 0
  clear HR3 HB3 HD3 HC3
  have y0 := HC4.out.c0
  go_wp2_with fail
  clear z0 z1 y0
  refine Calls.mono (next_yes pl ps x _ W4 HR4.out (HS.out.bs2 HB4.out).max) ?_
  rintro e W5 ⟨rfl, hr5, hb5⟩
  have HR5 : Hid (_ : Prop) := hr5
  have HB5 : Hid (Bs2 pl ps w W5) := HB4.out.trans hb5
  have HD5 : Hid (_ : Prop) := HD4.out.bs2 hb5 HNl.out.1 HNl.out.2.1
  have HC5 : Hid (_ : Prop) := HC4.out.bs2 hb5 HNl.out.2.2.1 HNl.out.2.2.2
  clear hr5 hb5 HR4 HB4 HD4 HC4
  obtain ⟨W6, hW6⟩ : ∃ W, W5.setCell ⟨w.heap.size + 1, 2, none⟩ (.string ⟨x.toArray⟩) = W := ⟨_, rfl⟩
  have HR6 : Hid (Rd W6 pl ps (r)) := by unfold Hid; rw [← hW6]; exact HR5.out.set HNl.out.2.2.1 HNl.out.2.2.2
  have HB6 : Hid (Bs2 pl ps w W6) := by unfold Hid; rw [← hW6]; exact HB5.out.set (by omega)
  have HD6 : Hid (C4 W6 w.heap.size (.int .i64 0) (.bool false) (.string ⟨#[]⟩) (.int .i64 0)) := by unfold Hid; rw [← hW6]; exact HD5.out.other (by omega)
  have HC6 : Hid (C4 W6 (w.heap.size + 1) (.int .i64 1) (.bool false) (.string ⟨x.toArray⟩) (.int .i64 0)) := by unfold Hid; rw [← hW6]; exact HC5.out.set2
  have z0 := HC5.out.c2
  have z1 := HC5.out.f 2
  clear HR5 HB5 HD5 HC5
  have y0 := HC6.out.c0
  have y1 := HC6.out.c1
  have y2 := HC6.out.c2
  have y3 := HC6.out.c3
  have x0 := HD6.out.c0
  have x1 := HD6.out.c1
  have x2 := HD6.out.c2
  have x3 := HD6.out.c3
  have f0 := HD6.out.f 0
  have f1 := HD6.out.f 1
  have f2 := HD6.out.f 2
  have f3 := HD6.out.f 3
  have HF : Hid (C4 ((((W6.setCell ⟨w.heap.size, 0, none⟩ (.int .i64 1)).setCell ⟨w.heap.size, 1, none⟩ (.bool false)).setCell ⟨w.heap.size, 2, none⟩ (.string ⟨x.toArray⟩)).setCell ⟨w.heap.size, 3, none⟩ (.int .i64 0)) w.heap.size (.int .i64 1) (.bool false) (.string ⟨x.toArray⟩) (.int .i64 0)) := HD6.out.set0.set1.set2.set3
  have HLf : Hid (Left w ((((W6.setCell ⟨w.heap.size, 0, none⟩ (.int .i64 1)).setCell ⟨w.heap.size, 1, none⟩ (.bool false)).setCell ⟨w.heap.size, 2, none⟩ (.string ⟨x.toArray⟩)).setCell ⟨w.heap.size, 3, none⟩ (.int .i64 0)) pl ps r) := ⟨(((HR6.out.set HNl.out.1 HNl.out.2.1).set HNl.out.1 HNl.out.2.1).set HNl.out.1 HNl.out.2.1).set HNl.out.1 HNl.out.2.1, (((HB6.out.set (Nat.le_refl _)).set (Nat.le_refl _)).set (Nat.le_refl _)).set (Nat.le_refl _)⟩
  go_wp2_with fail
  generalize ((((W6.setCell ⟨w.heap.size, 0, none⟩ (.int .i64 1)).setCell ⟨w.heap.size, 1, none⟩ (.bool false)).setCell ⟨w.heap.size, 2, none⟩ (.string ⟨x.toArray⟩)).setCell ⟨w.heap.size, 3, none⟩ (.int .i64 0)) = WF at *
  have e0 := HF.out.c0
  have e1 := HF.out.c1
  have e2 := HF.out.c2
  have e3 := HF.out.c3
  refine bodyPost_ret (v := .agg #[.int .i64 1, .bool false, .string ⟨x.toArray⟩, .int .i64 0]) (by simp [results, Tryz.results88, go_sem, e0, e1, e2, e3]) rfl ?_
  exact ⟨rfl, HLf.out⟩
set_option maxHeartbeats 2000000 in
theorem readC5n (x : List UInt8) (n : Nat) (hn : n ≤ 2) (hx : x ≠ []) (hi : Lib.idxOfS ((owL.map fun l => (⟨l.toArray⟩ : ByteArray)).take 3) ⟨x.toArray⟩ = (n : Int)) (pl ps : Nat) (r : List (List UInt8)) (W0 w : World) (h0 : Std0 W0 w pl ps) (hr : Rd w pl ps ([110, 111, 116] :: [111, 114, 105, 103, 105, 110] :: x :: r)) : Calls Tryz.prog 88 #[clo pl ps] w fun e w' => e = .returned (cdV ⟨5, true, ⟨#[]⟩, (n : Int)⟩) ∧ Left w w' pl ps r := by
  have hl := hr.lt
  obtain ⟨W1, hW1⟩ : ∃ W1, (w.alloc (.cells #[.int .i64 0, .bool false, .string ⟨#[]⟩, .int .i64 0] 37)).alloc (.cells #[.int .i64 0, .bool false, .string ⟨#[]⟩, .int .i64 0] 37) = W1 := ⟨_, rfl⟩
  have hsz : (w.alloc (.cells #[.int .i64 0, .bool false, .string ⟨#[]⟩, .int .i64 0] 37)).heap.size = w.heap.size + 1 := by simp
  have bb1 : Below w.heap.size w W1 := by rw [← hW1]; exact ((Below.refl _ _).alloc (Nat.le_refl _) _).alloc (by rw [hsz]; omega) _
  have b1 : Bs2 pl ps w W1 := Bs2.of_below bb1
  have r1 : Rd W1 pl ps ([110, 111, 116] :: [111, 114, 105, 103, 105, 110] :: x :: r) := hr.below bb1
  have d1 : C4 W1 w.heap.size (.int .i64 0) (.bool false) (.string ⟨#[]⟩) (.int .i64 0) := by rw [← hW1]; exact (C4.new w 37 _ _ _ _).below ((Below.refl _ _).alloc (Nat.le_refl _) _)
  have c1 : C4 W1 (w.heap.size + 1) (.int .i64 0) (.bool false) (.string ⟨#[]⟩) (.int .i64 0) := by rw [← hW1, ← hsz]; exact C4.new _ 37 _ _ _ _
  have nl : w.heap.size ≠ pl ∧ w.heap.size ≠ ps ∧ w.heap.size + 1 ≠ pl ∧ w.heap.size + 1 ≠ ps := ⟨by omega, by omega, by omega, by omega⟩
  have HS : Hid (Std0 W0 w pl ps) := h0
  have HNl : Hid (_ ∧ _) := nl
  have HB1 : Hid (Bs2 pl ps w W1) := b1
  have HR1 : Hid (Rd W1 pl ps ([110, 111, 116] :: [111, 114, 105, 103, 105, 110] :: x :: r)) := r1
  have HD1 : Hid (C4 W1 w.heap.size _ _ _ _) := d1
  have HC1 : Hid (C4 W1 (w.heap.size + 1) _ _ _ _) := c1
  clear h0 hr hl hsz bb1 b1 r1 d1 c1 nl
  unfold clo
  go_enter Tryz.func88, Tryz.ntmps88
  go_wp2_with fail
  refine Calls.mono (next_yes pl ps [110, 111, 116] _ W1 HR1.out (HS.out.bs2 HB1.out).max) ?_
  rintro e W2 ⟨rfl, hr2, hb2⟩
  have HR2 : Hid (_ : Prop) := hr2
  have HB2 : Hid (Bs2 pl ps w W2) := HB1.out.trans hb2
  have HD2 : Hid (_ : Prop) := HD1.out.bs2 hb2 HNl.out.1 HNl.out.2.1
  have HC2 : Hid (_ : Prop) := HC1.out.bs2 hb2 HNl.out.2.2.1 HNl.out.2.2.2
  clear hr2 hb2 HR1 HB1 HD1 HC1
  go_wp2_with fail
  refine Calls.mono (next_yes pl ps [111, 114, 105, 103, 105, 110] _ W2 HR2.out (HS.out.bs2 HB2.out).max) ?_
  rintro e W3 ⟨rfl, hr3, hb3⟩
  have HR3 : Hid (_ : Prop) := hr3
  have HB3 : Hid (Bs2 pl ps w W3) := HB2.out.trans hb3
  have HD3 : Hid (_ : Prop) := HD2.out.bs2 hb3 HNl.out.1 HNl.out.2.1
  have HC3 : Hid (_ : Prop) := HC2.out.bs2 hb3 HNl.out.2.2.1 HNl.out.2.2.2
  clear hr3 hb3 HR2 HB2 HD2 HC2
  obtain ⟨W4, hW4⟩ : ∃ W, W3.setCell ⟨w.heap.size + 1, 1, none⟩ (.bool true) = W := ⟨_, rfl⟩
  have HR4 : Hid (Rd W4 pl ps (x :: r)) := by unfold Hid; rw [← hW4]; exact HR3.out.set HNl.out.2.2.1 HNl.out.2.2.2
  have HB4 : Hid (Bs2 pl ps w W4) := by unfold Hid; rw [← hW4]; exact HB3.out.set (by omega)
  have HD4 : Hid (C4 W4 w.heap.size (.int .i64 0) (.bool false) (.string ⟨#[]⟩) (.int .i64 0)) := by unfold Hid; rw [← hW4]; exact HD3.out.other (by omega)
  have HC4 : Hid (C4 W4 (w.heap.size + 1) (.int .i64 0) (.bool true) (.string ⟨#[]⟩) (.int .i64 0)) := by unfold Hid; rw [← hW4]; exact HC3.out.set1
  have z0 := HC3.out.c1
  have z1 := HC3.out.f 1
  clear HR3 HB3 HD3 HC3
  go_wp2_with fail
  try clear z0 z1
  refine Calls.mono (cw_any W4) ?_
  rintro e W5 ⟨rfl, ht5⟩
  have hb5 := ht5.2
  have HT : Hid (∀ q, q < cwL.length → W5.cell? ⟨W4.heap.size, q, none⟩ = some (.string ⟨(cwL.getD q []).toArray⟩)) := ht5.1
  clear ht5
  have HR5 : Hid (_ : Prop) := HR4.out.below hb5
  have HB5 : Hid (Bs2 pl ps w W5) := HB4.out.trans (Bs2.of_below hb5)
  have HD5 : Hid (_ : Prop) := HD4.out.below hb5
  have HC5 : Hid (_ : Prop) := HC4.out.below hb5
  clear hb5 HR4 HB4 HD4 HC4
  go_wp2_with fail
  refine Calls.mono (place_yes W4.heap.size 8 cwL [111, 114, 105, 103, 105, 110] 5 W5 rfl (by decide) (by decide) (by decide) HT.out) ?_
  rintro e Wq ⟨rfl, hq⟩
  subst Wq
  clear HT
  obtain ⟨W6, hW6⟩ : ∃ W, W5.setCell ⟨w.heap.size + 1, 0, none⟩ (.int .i64 5) = W := ⟨_, rfl⟩
  have HR6 : Hid (Rd W6 pl ps (x :: r)) := by unfold Hid; rw [← hW6]; exact HR5.out.set HNl.out.2.2.1 HNl.out.2.2.2
  have HB6 : Hid (Bs2 pl ps w W6) := by unfold Hid; rw [← hW6]; exact HB5.out.set (by omega)
  have HD6 : Hid (C4 W6 w.heap.size (.int .i64 0) (.bool false) (.string ⟨#[]⟩) (.int .i64 0)) := by unfold Hid; rw [← hW6]; exact HD5.out.other (by omega)
  have HC6 : Hid (C4 W6 (w.heap.size + 1) (.int .i64 5) (.bool true) (.string ⟨#[]⟩) (.int .i64 0)) := by unfold Hid; rw [← hW6]; exact HC5.out.set0
  have z0 := HC5.out.c0
  have z1 := HC5.out.f 0
  clear HR5 HB5 HD5 HC5
  have y0 := HC6.out.c0
  go_wp2_with fail
  clear z0 z1 y0
  have HRl : Hid (pl < W6.heap.size ∧ ps < W6.heap.size) := HR6.out.lt
  refine Calls.mono (ow_any W6) ?_
  rintro e W7 ⟨rfl, ht7⟩
  have hb7 := ht7.2
  have HT : Hid (∀ q, q < owL.length → W7.cell? ⟨W6.heap.size, q, none⟩ = some (.string ⟨(owL.getD q []).toArray⟩)) := ht7.1
  clear ht7
  have HR7 : Hid (_ : Prop) := HR6.out.below hb7
  have HB7 : Hid (Bs2 pl ps w W7) := HB6.out.trans (Bs2.of_below hb7)
  have HD7 : Hid (_ : Prop) := HD6.out.below hb7
  have HC7 : Hid (_ : Prop) := HC6.out.below hb7
  clear hb7 HR6 HB6 HD6 HC6
  have HTl : Hid (W6.heap.size ≠ pl ∧ W6.heap.size ≠ ps) := ⟨by have := HRl.out; omega, by have := HRl.out; omega⟩
  go_wp2_with fail
  refine Calls.mono (next_yes pl ps x _ W7 HR7.out (HS.out.bs2 HB7.out).max) ?_
  rintro e W8 ⟨rfl, hr8, hb8⟩
  have HR8 : Hid (_ : Prop) := hr8
  have HB8 : Hid (Bs2 pl ps w W8) := HB7.out.trans hb8
  have HD8 : Hid (_ : Prop) := HD7.out.bs2 hb8 HNl.out.1 HNl.out.2.1
  have HC8 : Hid (_ : Prop) := HC7.out.bs2 hb8 HNl.out.2.2.1 HNl.out.2.2.2
  have HT2 : Hid (∀ q, q < owL.length → W8.cell? ⟨W6.heap.size, q, none⟩ = some (.string ⟨(owL.getD q []).toArray⟩)) := fun q hq => hb8.cell (HT.out q hq) HTl.out.1 HTl.out.2
  clear hr8 hb8 HR7 HB7 HD7 HC7
  go_wp2_with fail
  refine Calls.mono (place_yes W6.heap.size 3 owL x n W8 rfl (by decide) hx hi HT2.out) ?_
  rintro e Wq ⟨rfl, hq⟩
  subst Wq
  clear HT HT2
  obtain ⟨W9, hW9⟩ : ∃ W, W8.setCell ⟨w.heap.size + 1, 3, none⟩ (.int .i64 (n : Int)) = W := ⟨_, rfl⟩
  have HR9 : Hid (Rd W9 pl ps (r)) := by unfold Hid; rw [← hW9]; exact HR8.out.set HNl.out.2.2.1 HNl.out.2.2.2
  have HB9 : Hid (Bs2 pl ps w W9) := by unfold Hid; rw [← hW9]; exact HB8.out.set (by omega)
  have HD9 : Hid (C4 W9 w.heap.size (.int .i64 0) (.bool false) (.string ⟨#[]⟩) (.int .i64 0)) := by unfold Hid; rw [← hW9]; exact HD8.out.other (by omega)
  have HC9 : Hid (C4 W9 (w.heap.size + 1) (.int .i64 5) (.bool true) (.string ⟨#[]⟩) (.int .i64 (n : Int))) := by unfold Hid; rw [← hW9]; exact HC8.out.set3
  have z0 := HC8.out.c3
  have z1 := HC8.out.f 3
  clear HR8 HB8 HD8 HC8
  have y0 := HC9.out.c0
  have y1 := HC9.out.c1
  have y2 := HC9.out.c2
  have y3 := HC9.out.c3
  have x0 := HD9.out.c0
  have x1 := HD9.out.c1
  have x2 := HD9.out.c2
  have x3 := HD9.out.c3
  have f0 := HD9.out.f 0
  have f1 := HD9.out.f 1
  have f2 := HD9.out.f 2
  have f3 := HD9.out.f 3
  have HF : Hid (C4 ((((W9.setCell ⟨w.heap.size, 0, none⟩ (.int .i64 5)).setCell ⟨w.heap.size, 1, none⟩ (.bool true)).setCell ⟨w.heap.size, 2, none⟩ (.string ⟨#[]⟩)).setCell ⟨w.heap.size, 3, none⟩ (.int .i64 (n : Int))) w.heap.size (.int .i64 5) (.bool true) (.string ⟨#[]⟩) (.int .i64 (n : Int))) := HD9.out.set0.set1.set2.set3
  have HLf : Hid (Left w ((((W9.setCell ⟨w.heap.size, 0, none⟩ (.int .i64 5)).setCell ⟨w.heap.size, 1, none⟩ (.bool true)).setCell ⟨w.heap.size, 2, none⟩ (.string ⟨#[]⟩)).setCell ⟨w.heap.size, 3, none⟩ (.int .i64 (n : Int))) pl ps r) := ⟨(((HR9.out.set HNl.out.1 HNl.out.2.1).set HNl.out.1 HNl.out.2.1).set HNl.out.1 HNl.out.2.1).set HNl.out.1 HNl.out.2.1, (((HB9.out.set (Nat.le_refl _)).set (Nat.le_refl _)).set (Nat.le_refl _)).set (Nat.le_refl _)⟩
  go_wp2_with fail
  generalize ((((W9.setCell ⟨w.heap.size, 0, none⟩ (.int .i64 5)).setCell ⟨w.heap.size, 1, none⟩ (.bool true)).setCell ⟨w.heap.size, 2, none⟩ (.string ⟨#[]⟩)).setCell ⟨w.heap.size, 3, none⟩ (.int .i64 (n : Int))) = WF at *
  have e0 := HF.out.c0
  have e1 := HF.out.c1
  have e2 := HF.out.c2
  have e3 := HF.out.c3
  refine bodyPost_ret (v := .agg #[.int .i64 5, .bool true, .string ⟨#[]⟩, .int .i64 (n : Int)]) (by simp [results, Tryz.results88, go_sem, e0, e1, e2, e3]) rfl ?_
  exact ⟨rfl, HLf.out⟩
end Go.Proofs.YthaebbmekonacaaGreatDoor
set_option linter.unusedVariables false
set_option linter.unusedSimpArgs false
set_option maxRecDepth 100000
namespace Go.Proofs.YthaebbmekonacaaGreatDoor
open Go.RowKit
set_option maxHeartbeats 2000000 in
theorem readA1  (pl ps : Nat) (r : List (List UInt8)) (W0 w : World) (h0 : Std0 W0 w pl ps) (hr : Rd w pl ps ([97, 99, 99, 101, 112, 116] :: r)) : Calls Tryz.prog 91 #[clo pl ps] w fun e w' => e = .returned (acV ⟨1, ⟨#[]⟩, 0, ⟨#[]⟩⟩) ∧ Left w w' pl ps r := by
  have hl := hr.lt
  obtain ⟨W1, hW1⟩ : ∃ W1, w.alloc (.cells #[.int .i64 0, .string ⟨#[]⟩, .int .u32 0, .string ⟨#[]⟩] 40) = W1 := ⟨_, rfl⟩
  have bb1 : Below w.heap.size w W1 := by rw [← hW1]; exact (Below.refl _ _).alloc (Nat.le_refl _) _
  have hlt : w.heap.size < W1.heap.size := by rw [← hW1]; simp
  have b1 : Bs2 pl ps w W1 := Bs2.of_below bb1
  have r1 : Rd W1 pl ps ([97, 99, 99, 101, 112, 116] :: r) := hr.below bb1
  have d1 : C4 W1 w.heap.size (.int .i64 0) (.string ⟨#[]⟩) (.int .u32 0) (.string ⟨#[]⟩) := by rw [← hW1]; exact C4.new w 40 _ _ _ _
  have HNl : Hid (w.heap.size ≠ pl ∧ w.heap.size ≠ ps) := ⟨by omega, by omega⟩
  have HS : Hid (Std0 W0 w pl ps) := h0
  have HB1 : Hid (Bs2 pl ps w W1) := b1
  have HR1 : Hid (Rd W1 pl ps ([97, 99, 99, 101, 112, 116] :: r)) := r1
  have HD1 : Hid (C4 W1 w.heap.size _ _ _ _) := d1
  have HLt : Hid (w.heap.size < W1.heap.size) := hlt
  clear h0 hr hl bb1 b1 r1 d1 hlt
  unfold clo
  go_enter Tryz.func91, Tryz.ntmps91
  go_wp2_with fail
  have HRl : Hid (pl < W1.heap.size ∧ ps < W1.heap.size) := HR1.out.lt
  refine Calls.mono (aw_any W1) ?_
  rintro e W2 ⟨rfl, ht2⟩
  have hb2 := ht2.2
  have HT : Hid (∀ q, q < awL.length → W2.cell? ⟨W1.heap.size, q, none⟩ = some (.string ⟨(awL.getD q []).toArray⟩)) := ht2.1
  clear ht2
  have HR2 : Hid (_ : Prop) := HR1.out.below hb2
  have HB2 : Hid (Bs2 pl ps w W2) := HB1.out.trans (Bs2.of_below hb2)
  have HD2 : Hid (_ : Prop) := HD1.out.below hb2
  clear hb2 HR1 HB1 HD1
  have HTl : Hid (W1.heap.size ≠ pl ∧ W1.heap.size ≠ ps) := ⟨by have := HRl.out; omega, by have := HRl.out; omega⟩
  go_wp2_with fail
  refine Calls.mono (next_yes pl ps [97, 99, 99, 101, 112, 116] _ W2 HR2.out (HS.out.bs2 HB2.out).max) ?_
  rintro e W3 ⟨rfl, hr3, hb3⟩
  have HR3 : Hid (_ : Prop) := hr3
  have HB3 : Hid (Bs2 pl ps w W3) := HB2.out.trans hb3
  have HD3 : Hid (_ : Prop) := HD2.out.bs2 hb3 HNl.out.1 HNl.out.2
  have HT2 : Hid (∀ q, q < awL.length → W3.cell? ⟨W1.heap.size, q, none⟩ = some (.string ⟨(awL.getD q []).toArray⟩)) := fun q hq => hb3.cell (HT.out q hq) HTl.out.1 HTl.out.2
  clear hr3 hb3 HR2 HB2 HD2
  go_wp2_with fail
  refine Calls.mono (place_yes W1.heap.size 11 awL [97, 99, 99, 101, 112, 116] 1 W3 rfl (by decide) (by decide) (by decide) HT2.out) ?_
  rintro e Wq ⟨rfl, hq⟩
  subst Wq
  clear HT HT2 HRl HTl
  have HL3 : Hid (pl < W3.heap.size ∧ ps < W3.heap.size) := HR3.out.lt
  have HSz : Hid (w.heap.size < W3.heap.size) := lt_of_cell HD3.out.c0
  have HCb : Hid (w.heap.size ≤ W3.heap.size ∧ W3.heap.size ≠ w.heap.size) := by have := HSz.out; exact ⟨by omega, by omega⟩
  have HNc : Hid (W3.heap.size ≠ pl ∧ W3.heap.size ≠ ps) := by have := HL3.out; exact ⟨by omega, by omega⟩
  have hbA : Below W3.heap.size W3 (W3.alloc (.cells #[.int .i64 1, .string ⟨#[]⟩, .int .u32 0, .string ⟨#[]⟩] 40)) := (Below.refl _ _).alloc (Nat.le_refl _) _
  have HR4 : Hid (Rd (W3.alloc (.cells #[.int .i64 1, .string ⟨#[]⟩, .int .u32 0, .string ⟨#[]⟩] 40)) pl ps (r)) := HR3.out.below hbA
  have HB4 : Hid (Bs2 pl ps w (W3.alloc (.cells #[.int .i64 1, .string ⟨#[]⟩, .int .u32 0, .string ⟨#[]⟩] 40))) := HB3.out.trans (Bs2.of_below hbA)
  have HD4 : Hid (C4 (W3.alloc (.cells #[.int .i64 1, .string ⟨#[]⟩, .int .u32 0, .string ⟨#[]⟩] 40)) w.heap.size (.int .i64 0) (.string ⟨#[]⟩) (.int .u32 0) (.string ⟨#[]⟩)) := HD3.out.below hbA
  have HC4 : Hid (C4 (W3.alloc (.cells #[.int .i64 1, .string ⟨#[]⟩, .int .u32 0, .string ⟨#[]⟩] 40)) W3.heap.size (.int .i64 1) (.string ⟨#[]⟩) (.int .u32 0) (.string ⟨#[]⟩)) := C4.new _ 40 _ _ _ _
  clear hbA HL3 HSz
  have y0 := HC4.out.c0
  have y1 := HC4.out.c1
  have y2 := HC4.out.c2
  have y3 := HC4.out.c3
  have x0 := HD4.out.c0
  have x1 := HD4.out.c1
  have x2 := HD4.out.c2
  have x3 := HD4.out.c3
  have f0 := HD4.out.f 0
  have f1 := HD4.out.f 1
  have f2 := HD4.out.f 2
  have f3 := HD4.out.f 3
  have HF : Hid (C4 (((((W3.alloc (.cells #[.int .i64 1, .string ⟨#[]⟩, .int .u32 0, .string ⟨#[]⟩] 40)).setCell ⟨w.heap.size, 0, none⟩ (.int .i64 1)).setCell ⟨w.heap.size, 1, none⟩ (.string ⟨#[]⟩)).setCell ⟨w.heap.size, 2, none⟩ (.int .u32 0)).setCell ⟨w.heap.size, 3, none⟩ (.string ⟨#[]⟩)) w.heap.size (.int .i64 1) (.string ⟨#[]⟩) (.int .u32 0) (.string ⟨#[]⟩)) := HD4.out.set0.set1.set2.set3
  have HLf : Hid (Left w (((((W3.alloc (.cells #[.int .i64 1, .string ⟨#[]⟩, .int .u32 0, .string ⟨#[]⟩] 40)).setCell ⟨w.heap.size, 0, none⟩ (.int .i64 1)).setCell ⟨w.heap.size, 1, none⟩ (.string ⟨#[]⟩)).setCell ⟨w.heap.size, 2, none⟩ (.int .u32 0)).setCell ⟨w.heap.size, 3, none⟩ (.string ⟨#[]⟩)) pl ps r) := ⟨(((HR4.out.set HNl.out.1 HNl.out.2).set HNl.out.1 HNl.out.2).set HNl.out.1 HNl.out.2).set HNl.out.1 HNl.out.2, (((HB4.out.set (Nat.le_refl _)).set (Nat.le_refl _)).set (Nat.le_refl _)).set (Nat.le_refl _)⟩
  go_wp2_with fail
  generalize (((((W3.alloc (.cells #[.int .i64 1, .string ⟨#[]⟩, .int .u32 0, .string ⟨#[]⟩] 40)).setCell ⟨w.heap.size, 0, none⟩ (.int .i64 1)).setCell ⟨w.heap.size, 1, none⟩ (.string ⟨#[]⟩)).setCell ⟨w.heap.size, 2, none⟩ (.int .u32 0)).setCell ⟨w.heap.size, 3, none⟩ (.string ⟨#[]⟩)) = WF at *
  have e0 := HF.out.c0
  have e1 := HF.out.c1
  have e2 := HF.out.c2
  have e3 := HF.out.c3
  refine bodyPost_ret (v := .agg #[.int .i64 1, .string ⟨#[]⟩, .int .u32 0, .string ⟨#[]⟩]) (by simp [results, Tryz.results91, go_sem, e0, e1, e2, e3]) rfl ?_
  exact ⟨rfl, HLf.out⟩
set_option maxHeartbeats 2000000 in
theorem readA3 (x : List UInt8) (n : Nat) (hn : n < 4294967296) (hx : x = Lib.decDigits n) (pl ps : Nat) (r : List (List UInt8)) (W0 w : World) (h0 : Std0 W0 w pl ps) (hr : Rd w pl ps ([112, 114, 101, 102] :: x :: r)) : Calls Tryz.prog 91 #[clo pl ps] w fun e w' => e = .returned (acV ⟨3, ⟨#[]⟩, n, ⟨#[]⟩⟩) ∧ Left w w' pl ps r := by
  have hl := hr.lt
  obtain ⟨W1, hW1⟩ : ∃ W1, w.alloc (.cells #[.int .i64 0, .string ⟨#[]⟩, .int .u32 0, .string ⟨#[]⟩] 40) = W1 := ⟨_, rfl⟩
  have bb1 : Below w.heap.size w W1 := by rw [← hW1]; exact (Below.refl _ _).alloc (Nat.le_refl _) _
  have hlt : w.heap.size < W1.heap.size := by rw [← hW1]; simp
  have b1 : Bs2 pl ps w W1 := Bs2.of_below bb1
  have r1 : Rd W1 pl ps ([112, 114, 101, 102] :: x :: r) := hr.below bb1
  have d1 : C4 W1 w.heap.size (.int .i64 0) (.string ⟨#[]⟩) (.int .u32 0) (.string ⟨#[]⟩) := by rw [← hW1]; exact C4.new w 40 _ _ _ _
  have HNl : Hid (w.heap.size ≠ pl ∧ w.heap.size ≠ ps) := ⟨by omega, by omega⟩
  have HS : Hid (Std0 W0 w pl ps) := h0
  have HB1 : Hid (Bs2 pl ps w W1) := b1
  have HR1 : Hid (Rd W1 pl ps ([112, 114, 101, 102] :: x :: r)) := r1
  have HD1 : Hid (C4 W1 w.heap.size _ _ _ _) := d1
  have HLt : Hid (w.heap.size < W1.heap.size) := hlt
  clear h0 hr hl bb1 b1 r1 d1 hlt
  unfold clo
  go_enter Tryz.func91, Tryz.ntmps91
  go_wp2_with fail
  have HRl : Hid (pl < W1.heap.size ∧ ps < W1.heap.size) := HR1.out.lt
  refine Calls.mono (aw_any W1) ?_
  rintro e W2 ⟨rfl, ht2⟩
  have hb2 := ht2.2
  have HT : Hid (∀ q, q < awL.length → W2.cell? ⟨W1.heap.size, q, none⟩ = some (.string ⟨(awL.getD q []).toArray⟩)) := ht2.1
  clear ht2
  have HR2 : Hid (_ : Prop) := HR1.out.below hb2
  have HB2 : Hid (Bs2 pl ps w W2) := HB1.out.trans (Bs2.of_below hb2)
  have HD2 : Hid (_ : Prop) := HD1.out.below hb2
  clear hb2 HR1 HB1 HD1
  have HTl : Hid (W1.heap.size ≠ pl ∧ W1.heap.size ≠ ps) := ⟨by have := HRl.out; omega, by have := HRl.out; omega⟩
  go_wp2_with fail
  refine Calls.mono (next_yes pl ps [112, 114, 101, 102] _ W2 HR2.out (HS.out.bs2 HB2.out).max) ?_
  rintro e W3 ⟨rfl, hr3, hb3⟩
  have HR3 : Hid (_ : Prop) := hr3
  have HB3 : Hid (Bs2 pl ps w W3) := HB2.out.trans hb3
  have HD3 : Hid (_ : Prop) := HD2.out.bs2 hb3 HNl.out.1 HNl.out.2
  have HT2 : Hid (∀ q, q < awL.length → W3.cell? ⟨W1.heap.size, q, none⟩ = some (.string ⟨(awL.getD q []).toArray⟩)) := fun q hq => hb3.cell (HT.out q hq) HTl.out.1 HTl.out.2
  clear hr3 hb3 HR2 HB2 HD2
  go_wp2_with fail
  refine Calls.mono (place_yes W1.heap.size 11 awL [112, 114, 101, 102] 3 W3 rfl (by decide) (by decide) (by decide) HT2.out) ?_
  rintro e Wq ⟨rfl, hq⟩
  subst Wq
  clear HT HT2 HRl HTl
  go_wp2_with fail
  have HL3 : Hid (pl < W3.heap.size ∧ ps < W3.heap.size) := HR3.out.lt
  have HSz : Hid (w.heap.size < W3.heap.size) := lt_of_cell HD3.out.c0
  have HCb : Hid (w.heap.size ≤ W3.heap.size ∧ W3.heap.size ≠ w.heap.size) := by have := HSz.out; exact ⟨by omega, by omega⟩
  have HNc : Hid (W3.heap.size ≠ pl ∧ W3.heap.size ≠ ps) := by have := HL3.out; exact ⟨by omega, by omega⟩
  have hbA : Below W3.heap.size W3 (W3.alloc (.cells #[.int .i64 3, .string ⟨#[]⟩, .int .u32 0, .string ⟨#[]⟩] 40)) := (Below.refl _ _).alloc (Nat.le_refl _) _
  have HR4 : Hid (Rd (W3.alloc (.cells #[.int .i64 3, .string ⟨#[]⟩, .int .u32 0, .string ⟨#[]⟩] 40)) pl ps (x :: r)) := HR3.out.below hbA
  have HB4 : Hid (Bs2 pl ps w (W3.alloc (.cells #[.int .i64 3, .string ⟨#[]⟩, .int .u32 0, .string ⟨#[]⟩] 40))) := HB3.out.trans (Bs2.of_below hbA)
  have HD4 : Hid (C4 (W3.alloc (.cells #[.int .i64 3, .string ⟨#[]⟩, .int .u32 0, .string ⟨#[]⟩] 40)) w.heap.size (.int .i64 0) (.string ⟨#[]⟩) (.int .u32 0) (.string ⟨#[]⟩)) := HD3.out.below hbA
  have HC4 : Hid (C4 (W3.alloc (.cells #[.int .i64 3, .string ⟨#[]⟩, .int .u32 0, .string ⟨#[]⟩] 40)) W3.heap.size (.int .i64 3) (.string ⟨#[]⟩) (.int .u32 0) (.string ⟨#[]⟩)) := C4.new _ 40 _ _ _ _
  clear hbA HL3 HSz HR3 HB3 HD3
  generalize W3.alloc (.cells #[.int .i64 3, .string ⟨#[]⟩, .int .u32 0, .string ⟨#[]⟩] 40) = W4 at *
  generalize W3.heap.size = cb at *
  have y0 : True := trivial
  clear y0
  refine Calls.mono (next_yes pl ps x _ W4 HR4.out (HS.out.bs2 HB4.out).max) ?_
  rintro e W5 ⟨rfl, hr5, hb5⟩
  have HR5 : Hid (_ : Prop) := hr5
  have HB5 : Hid (Bs2 pl ps w W5) := HB4.out.trans hb5
  have HD5 : Hid (_ : Prop) := HD4.out.bs2 hb5 HNl.out.1 HNl.out.2
  have HC5 : Hid (_ : Prop) := HC4.out.bs2 hb5 HNc.out.1 HNc.out.2
  clear hr5 hb5 HR4 HB4 HD4 HC4
  go_wp2_with fail
  refine Calls.mono (number_yes n hn W5 (HS.out.bs2 HB5.out).env) ?_
  rintro e W6 ⟨rfl, hb6⟩
  have HR6 : Hid (_ : Prop) := HR5.out.below hb6
  have HB6 : Hid (Bs2 pl ps w W6) := HB5.out.trans (Bs2.of_below hb6)
  have HD6 : Hid (_ : Prop) := HD5.out.below hb6
  have HC6 : Hid (_ : Prop) := HC5.out.below hb6
  clear hb6 HR5 HB5 HD5 HC5
  obtain ⟨W7, hW7⟩ : ∃ W, W6.setCell ⟨cb, 2, none⟩ (.int .u32 (n : Int)) = W := ⟨_, rfl⟩
  have HR7 : Hid (Rd W7 pl ps (r)) := by unfold Hid; rw [← hW7]; exact HR6.out.set HNc.out.1 HNc.out.2
  have HB7 : Hid (Bs2 pl ps w W7) := by unfold Hid; rw [← hW7]; exact HB6.out.set HCb.out.1
  have HD7 : Hid (C4 W7 w.heap.size (.int .i64 0) (.string ⟨#[]⟩) (.int .u32 0) (.string ⟨#[]⟩)) := by unfold Hid; rw [← hW7]; exact HD6.out.other HCb.out.2
  have HC7 : Hid (C4 W7 cb (.int .i64 3) (.string ⟨#[]⟩) (.int .u32 (n : Int)) (.string ⟨#[]⟩)) := by unfold Hid; rw [← hW7]; exact HC6.out.set2
  have z0 := HC6.out.c2
  have z1 := HC6.out.f 2
  clear HR6 HB6 HD6 HC6
  have y0 := HC7.out.c0
  have y1 := HC7.out.c1
  have y2 := HC7.out.c2
  have y3 := HC7.out.c3
  have x0 := HD7.out.c0
  have x1 := HD7.out.c1
  have x2 := HD7.out.c2
  have x3 := HD7.out.c3
  have f0 := HD7.out.f 0
  have f1 := HD7.out.f 1
  have f2 := HD7.out.f 2
  have f3 := HD7.out.f 3
  have HF : Hid (C4 ((((W7.setCell ⟨w.heap.size, 0, none⟩ (.int .i64 3)).setCell ⟨w.heap.size, 1, none⟩ (.string ⟨#[]⟩)).setCell ⟨w.heap.size, 2, none⟩ (.int .u32 (n : Int))).setCell ⟨w.heap.size, 3, none⟩ (.string ⟨#[]⟩)) w.heap.size (.int .i64 3) (.string ⟨#[]⟩) (.int .u32 (n : Int)) (.string ⟨#[]⟩)) := HD7.out.set0.set1.set2.set3
  have HLf : Hid (Left w ((((W7.setCell ⟨w.heap.size, 0, none⟩ (.int .i64 3)).setCell ⟨w.heap.size, 1, none⟩ (.string ⟨#[]⟩)).setCell ⟨w.heap.size, 2, none⟩ (.int .u32 (n : Int))).setCell ⟨w.heap.size, 3, none⟩ (.string ⟨#[]⟩)) pl ps r) := ⟨(((HR7.out.set HNl.out.1 HNl.out.2).set HNl.out.1 HNl.out.2).set HNl.out.1 HNl.out.2).set HNl.out.1 HNl.out.2, (((HB7.out.set (Nat.le_refl _)).set (Nat.le_refl _)).set (Nat.le_refl _)).set (Nat.le_refl _)⟩
  go_wp2_with fail
  generalize ((((W7.setCell ⟨w.heap.size, 0, none⟩ (.int .i64 3)).setCell ⟨w.heap.size, 1, none⟩ (.string ⟨#[]⟩)).setCell ⟨w.heap.size, 2, none⟩ (.int .u32 (n : Int))).setCell ⟨w.heap.size, 3, none⟩ (.string ⟨#[]⟩)) = WF at *
  have e0 := HF.out.c0
  have e1 := HF.out.c1
  have e2 := HF.out.c2
  have e3 := HF.out.c3
  refine bodyPost_ret (v := .agg #[.int .i64 3, .string ⟨#[]⟩, .int .u32 (n : Int), .string ⟨#[]⟩]) (by simp [results, Tryz.results91, go_sem, e0, e1, e2, e3]) rfl ?_
  exact ⟨rfl, HLf.out⟩
end Go.Proofs.YthaebbmekonacaaGreatDoor
set_option linter.unusedVariables false
set_option linter.unusedSimpArgs false
set_option maxRecDepth 100000
namespace Go.Proofs.YthaebbmekonacaaGreatDoor
open Go.RowKit
end Go.Proofs.YthaebbmekonacaaGreatDoor
set_option linter.unusedVariables false
set_option linter.unusedSimpArgs false
set_option maxRecDepth 100000
namespace Go.Proofs.YthaebbmekonacaaGreatDoor
open Go.RowKit
end Go.Proofs.YthaebbmekonacaaGreatDoor
set_option linter.unusedVariables false
set_option linter.unusedSimpArgs false
set_option maxRecDepth 100000
namespace Go.Proofs.YthaebbmekonacaaGreatDoor
open Go.RowKit
end Go.Proofs.YthaebbmekonacaaGreatDoor
