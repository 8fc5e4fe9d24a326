/-
  The reader of a text's segments, whatever the text is: one segment a call.
-/
import Derived.Test.YtbdfigfjoiefiabGreatDoorX3
import Derived.Test.YtbdfigfjoiefiabGreatDoorU7
set_option linter.unusedVariables false
set_option linter.unusedSimpArgs false
set_option maxRecDepth 100000
namespace Go.Proofs.YtbdfigfjoiefiabGreatDoor
open Go.RowKit
/-- What the two boxes of a text's reader hold. -/
structure TmAt (w : World) (pm ps : Nat) (q : Bool) (t : List UInt8) : Prop where
  m : w.cell? ⟨pm, 0, none⟩ = some (.bool q)
  s : w.cell? ⟨ps, 0, none⟩ = some (.string ⟨t.toArray⟩)
  fm : w.frozen? ⟨pm, 0, none⟩ = false
  fs : w.frozen? ⟨ps, 0, none⟩ = false
  ne : pm ≠ ps
theorem TmAt.below {w w' : World} {pm ps : Nat} {q : Bool} {m : List UInt8} (h : TmAt w pm ps q m) (hb : Below w.heap.size w w') : TmAt w' pm ps q m :=
  ⟨below_cell hb h.m, below_cell hb h.s, (hb.frozen (p := ⟨pm, 0, none⟩) (lt_of_cell h.m)).trans h.fm, (hb.frozen (p := ⟨ps, 0, none⟩) (lt_of_cell h.s)).trans h.fs, h.ne⟩
theorem TmAt.lt {w : World} {pm ps : Nat} {q : Bool} {m : List UInt8} (h : TmAt w pm ps q m) : pm < w.heap.size ∧ ps < w.heap.size := ⟨lt_of_cell h.m, lt_of_cell h.s⟩
/-- The world behind a call that has read a segment. -/
abbrev turnM (W : World) (pm ps q : Nat) (b : Bool) (m : List UInt8) (u v : Value) : World :=
  (((W.setCell ⟨ps, 0, none⟩ (.string ⟨m.toArray⟩)).setCell ⟨pm, 0, none⟩ (.bool b)).setCell ⟨q, 0, none⟩ u).setCell ⟨q, 1, none⟩ v
theorem TmAt.turn {W : World} {pm ps q : Nat} {b0 : Bool} {m0 : List UInt8} (h : TmAt W pm ps b0 m0) (h1 : q ≠ pm) (h2 : q ≠ ps) (b : Bool) (m : List UInt8) (u v : Value) : TmAt (turnM W pm ps q b m u v) pm ps b m := by
  have hne := h.ne
  refine ⟨?_, ?_, ?_, ?_, h.ne⟩
  · rw [World.cell?_setCell_other _ _ _ _ (by simp <;> omega), World.cell?_setCell_other _ _ _ _ (by simp <;> omega)]
    exact World.cell?_setCell_same _ _ _ (by rw [World.cell?_setCell_other _ _ _ _ (by simp <;> omega)]; exact h.m)
  · rw [World.cell?_setCell_other _ _ _ _ (by simp <;> omega), World.cell?_setCell_other _ _ _ _ (by simp <;> omega), World.cell?_setCell_other _ _ _ _ (by simp <;> omega)]
    exact World.cell?_setCell_same _ _ _ h.s
  · simp only [World.frozen?_setCell]
    exact h.fm
  · simp only [World.frozen?_setCell]
    exact h.fs
theorem Bes.turnM {w W : World} {pm ps : Nat} (h : Bes pm ps w W) (b : Bool) (m : List UInt8) (u v : Value) : Bes pm ps w (turnM W pm ps w.heap.size b m u v) := by
  have s1 := (Below.refl 0 W).setCell (p := ⟨ps, 0, none⟩) (by simp) (.string ⟨m.toArray⟩)
  have s2 := s1.setCell (p := ⟨pm, 0, none⟩) (by simp) (.bool b)
  have s3 := s2.setCell (p := ⟨w.heap.size, 0, none⟩) (by simp) u
  have s4 := s3.setCell (p := ⟨w.heap.size, 1, none⟩) (by simp) v
  refine ⟨s4.os.trans h.os, s4.tape.trans h.tape, s4.output.trans h.output, Nat.le_trans h.size s4.size, fun k hk h1 h2 => ?_⟩
  rw [Below.heap_setCell _ _ _ k (by simp <;> omega), Below.heap_setCell _ _ _ k (by simp <;> omega), Below.heap_setCell _ _ _ k (by simpa using h1), Below.heap_setCell _ _ _ k (by simpa using h2)]
  exact h.block k hk h1 h2
theorem OwnU.turnM {W : World} {pm ps q B : Nat} {x : Value} {l : List Nat} (h : OwnU W B x l) (h1 : pm < B) (h2 : ps < B) (h3 : q < B) (b : Bool) (m : List UInt8) (u v : Value) : OwnU (turnM W pm ps q b m u v) B x l :=
  ⟨owns_heap' h.1 fun g e => by
    have := (h.1.lt g e).1
    rw [Below.heap_setCell _ _ _ g (by simp <;> omega), Below.heap_setCell _ _ _ g (by simp <;> omega), Below.heap_setCell _ _ _ g (by simp <;> omega), Below.heap_setCell _ _ _ g (by simp <;> omega)], h.2⟩
theorem turnM_got {w W : World} {pm ps : Nat} (h : ZAt w W) (h1 : w.heap.size ≠ pm) (h2 : w.heap.size ≠ ps) (b : Bool) (m : List UInt8) (u v : Value) : (turnM W pm ps w.heap.size b m u v).cell? ⟨w.heap.size, 0, none⟩ = some u ∧ (turnM W pm ps w.heap.size b m u v).cell? ⟨w.heap.size, 1, none⟩ = some v := by
  constructor
  · rw [World.cell?_setCell_other _ _ _ _ (by simp)]
    exact World.cell?_setCell_same _ _ _ (by rw [World.cell?_setCell_other _ _ _ _ (by simp <;> omega), World.cell?_setCell_other _ _ _ _ (by simp <;> omega)]; exact h.z0)
  · exact World.cell?_setCell_same _ _ _ (by rw [World.cell?_setCell_other _ _ _ _ (by simp), World.cell?_setCell_other _ _ _ _ (by simp <;> omega), World.cell?_setCell_other _ _ _ _ (by simp <;> omega)]; exact h.z1)
/-- What CutPrefix leaves of a text: a blank or none. -/
theorem cutB (rest : List UInt8) : ∃ (b : Bool) (m : List UInt8), (b = true ∧ rest = 32 :: m ∨ b = false ∧ rest = m) ∧ ∀ X, Calls Tryz.prog 47 #[.string ⟨rest.toArray⟩, .string ⟨#[32]⟩] X fun e w' => e = .returned (.tuple #[.string ⟨m.toArray⟩, .bool b]) ∧ w' = X := by
  cases rest with
  | nil =>
    refine ⟨false, [], Or.inr ⟨rfl, rfl⟩, fun X => ?_⟩
    exact (Tryz.strings_CutPrefix ⟨([] : List UInt8).toArray⟩ ⟨#[32]⟩ X)
  | cons a r =>
    by_cases h : a = 32
    · subst h
      refine ⟨true, r, Or.inl ⟨rfl, rfl⟩, fun X => ?_⟩
      have h := Tryz.strings_CutPrefix ⟨((32 : UInt8) :: r).toArray⟩ ⟨#[32]⟩ X
      have e1 : Lib.hasPrefix (⟨((32 : UInt8) :: r).toArray⟩ : ByteArray).data.toList (⟨#[32]⟩ : ByteArray).data.toList = true := by simp [Lib.hasPrefix, List.isPrefixOf]
      have e2 : Lib.trimPrefix (⟨((32 : UInt8) :: r).toArray⟩ : ByteArray).data.toList (⟨#[32]⟩ : ByteArray).data.toList = r := by simp [Lib.trimPrefix, Lib.hasPrefix, List.isPrefixOf]
      rw [e1, e2] at h
      exact h
    · refine ⟨false, a :: r, Or.inr ⟨rfl, rfl⟩, fun X => ?_⟩
      have h2 := Tryz.strings_CutPrefix ⟨(a :: r).toArray⟩ ⟨#[32]⟩ X
      have hn : ¬ (32 : UInt8) = a := fun e => h e.symm
      have e1 : Lib.hasPrefix (⟨(a :: r).toArray⟩ : ByteArray).data.toList (⟨#[32]⟩ : ByteArray).data.toList = false := by simp [Lib.hasPrefix, List.isPrefixOf, hn]
      have e2 : Lib.trimPrefix (⟨(a :: r).toArray⟩ : ByteArray).data.toList (⟨#[32]⟩ : ByteArray).data.toList = a :: r := by simp [Lib.trimPrefix, Lib.hasPrefix, List.isPrefixOf, hn]
      rw [e1, e2] at h2
      exact h2
/-- What a call of the reader answers: no segment any more, none that is right, or one. -/
def NxR (q : Bool) (m : List UInt8) (pm ps : Nat) (w w' : World) (e : Ending) : Prop :=
  (q = false ∧ m = [] ∧ e = .returned (.tuple #[.agg #[.int .i64 0, .slice none 0 0], .int .i64 5])) ∨
  (e = .returned (.tuple #[.agg #[.int .i64 0, .slice none 0 0], .int .i64 4])) ∨
  (∃ (k : Nat) (ad : Option Addr) (c : Nat) (d : List Nat) (X : List UInt8) (q2 : Bool) (m2 : List UInt8), q = true ∧ 1 ≤ k ∧ k ≤ 4 ∧ e = .returned (.tuple #[.agg #[.int .i64 (k : Int), .slice ad d.length c], .int .i64 0]) ∧ OwnU w' w.heap.size (.slice ad d.length c) d ∧ TmAt w' pm ps q2 m2 ∧ (X = wd d ∨ d.length = 256) ∧ m = opn k :: (X ++ shut k :: (if q2 then 32 :: m2 else m2)))
set_option maxHeartbeats 2000000 in
theorem nextM_f (pm ps : Nat) (a : UInt8) (r : List UInt8) (w : World) (h : TmAt w pm ps false (a :: r)) (hm : (a :: r).length < 140737488351233) (ht : Tabs w) (hE : ErrsAt w) :
    Calls Tryz.prog 45 #[.pointer (some ⟨pm, 0, none⟩), .pointer (some ⟨ps, 0, none⟩)] w fun e w' => NxR false (a :: r) pm ps w w' e ∧ Bes pm ps w w' := by
  have hba : Below w.heap.size w (w.alloc (.cells #[.int .i64 0, .slice none 0 0] 24)) := (Below.refl _ _).alloc (Nat.le_refl _) _
  have HT : Hid (TmAt (w.alloc (.cells #[.int .i64 0, .slice none 0 0] 24)) pm ps false (a :: r)) := h.below hba
  have HB : Hid (Below w.heap.size w (w.alloc (.cells #[.int .i64 0, .slice none 0 0] 24))) := hba
  have HZ : Hid (ZAt w (w.alloc (.cells #[.int .i64 0, .slice none 0 0] 24))) := ZAt.start w
  have hlt := h.lt
  have KP : Hid (_ : Prop) := pseg_any (a :: r) (w.alloc (.cells #[.int .i64 0, .slice none 0 0] 24)) hm (ht.below hba) (hE.below hba)
  have m := HT.out.m
  have s := HT.out.s
  clear hba h hm ht hE hlt
  go_enter Tryz.func45, Tryz.ntmps45
  go_wp2_with fail
  generalize w.alloc (.cells #[.int .i64 0, .slice none 0 0] 24) = W0 at *
  refine Calls.mono KP.out ?_
  rintro e w1 ⟨⟨k, ad, c, d, rest, X, h1, h4, rfl, hou, hl, hx⟩ | ⟨k, t, rfl⟩, hb1⟩
  · clear h1 h4 hou hl hx
    have hba1 : Below w1.heap.size w1 (w1.alloc (.cells #[.int .i64 (k : Int), .slice ad d.length c] 24)) := (Below.refl _ _).alloc (Nat.le_refl _) _
    have HT1 : Hid (TmAt (w1.alloc (.cells #[.int .i64 (k : Int), .slice ad d.length c] 24)) pm ps false _) := (HT.out.below hb1).below hba1
    have HZ1 : Hid (ZAt w (w1.alloc (.cells #[.int .i64 (k : Int), .slice ad d.length c] 24))) := (HZ.out.below hb1).below hba1
    have HB1 : Hid (Below w.heap.size w (w1.alloc (.cells #[.int .i64 (k : Int), .slice ad d.length c] 24))) := (HB.out.trans (hb1.mono HB.out.size)).trans (hba1.mono (Nat.le_trans HB.out.size hb1.size))
    have m1 := HT1.out.m
    have s1 := HT1.out.s
    obtain ⟨z0, z1, g0, g1, _⟩ := HZ1.out
    clear m s hb1 hba1 HT HZ HB KP
    go_wp2
    have hg := HZ1.out.got (.int .i64 0) (.slice none 0 0)
    refine bodyPost_ret (v := .tuple #[.agg #[.int .i64 0, .slice none 0 0], .int .i64 4]) (by simp [results, Tryz.results45, go_sem, hg.1, hg.2]) rfl ⟨Or.inr (Or.inl rfl), ?_⟩
    exact Bes.of_below ((HB1.out.setCell (p := ⟨w.heap.size, 0, none⟩) (Nat.le_refl _) _).setCell (p := ⟨w.heap.size, 1, none⟩) (Nat.le_refl _) _)
  · have hba1 : Below w1.heap.size w1 (w1.alloc (.cells #[.int .i64 (k : Int), .slice none 0 0] 24)) := (Below.refl _ _).alloc (Nat.le_refl _) _
    have HT1 : Hid (TmAt (w1.alloc (.cells #[.int .i64 (k : Int), .slice none 0 0] 24)) pm ps false _) := (HT.out.below hb1).below hba1
    have HZ1 : Hid (ZAt w (w1.alloc (.cells #[.int .i64 (k : Int), .slice none 0 0] 24))) := (HZ.out.below hb1).below hba1
    have HB1 : Hid (Below w.heap.size w (w1.alloc (.cells #[.int .i64 (k : Int), .slice none 0 0] 24))) := (HB.out.trans (hb1.mono HB.out.size)).trans (hba1.mono (Nat.le_trans HB.out.size hb1.size))
    have m1 := HT1.out.m
    have s1 := HT1.out.s
    obtain ⟨z0, z1, g0, g1, _⟩ := HZ1.out
    clear m s hb1 hba1 HT HZ HB KP
    go_wp2
    have hg := HZ1.out.got (.int .i64 0) (.slice none 0 0)
    refine bodyPost_ret (v := .tuple #[.agg #[.int .i64 0, .slice none 0 0], .int .i64 4]) (by simp [results, Tryz.results45, go_sem, hg.1, hg.2]) rfl ⟨Or.inr (Or.inl rfl), ?_⟩
    exact Bes.of_below ((HB1.out.setCell (p := ⟨w.heap.size, 0, none⟩) (Nat.le_refl _) _).setCell (p := ⟨w.heap.size, 1, none⟩) (Nat.le_refl _) _)
set_option maxHeartbeats 2000000 in
theorem nextM_t (pm ps : Nat) (l : List UInt8) (w : World) (h : TmAt w pm ps true l) (hm : l.length < 140737488351233) (ht : Tabs w) (hE : ErrsAt w) :
    Calls Tryz.prog 45 #[.pointer (some ⟨pm, 0, none⟩), .pointer (some ⟨ps, 0, none⟩)] w fun e w' => NxR true l pm ps w w' e ∧ Bes pm ps w w' := by
  have hba : Below w.heap.size w (w.alloc (.cells #[.int .i64 0, .slice none 0 0] 24)) := (Below.refl _ _).alloc (Nat.le_refl _) _
  have HT : Hid (TmAt (w.alloc (.cells #[.int .i64 0, .slice none 0 0] 24)) pm ps true l) := h.below hba
  have HB : Hid (Below w.heap.size w (w.alloc (.cells #[.int .i64 0, .slice none 0 0] 24))) := hba
  have HZ : Hid (ZAt w (w.alloc (.cells #[.int .i64 0, .slice none 0 0] 24))) := ZAt.start w
  have hlt := h.lt
  have KP : Hid (_ : Prop) := pseg_any l (w.alloc (.cells #[.int .i64 0, .slice none 0 0] 24)) hm (ht.below hba) (hE.below hba)
  have m := HT.out.m
  have s := HT.out.s
  have HP : Hid (pm < w.heap.size ∧ ps < w.heap.size) := hlt
  clear hba h hm ht hE hlt
  go_enter Tryz.func45, Tryz.ntmps45
  go_wp2_with fail
  generalize w.alloc (.cells #[.int .i64 0, .slice none 0 0] 24) = W0 at *
  refine Calls.mono KP.out ?_
  rintro e w1 ⟨⟨k, ad, c, d, rest, X, h1, h4, rfl, hou, hl, hx⟩ | ⟨k, t, rfl⟩, hb1⟩
  · have HK : Hid (1 ≤ k ∧ k ≤ 4) := ⟨h1, h4⟩
    obtain ⟨q2, m2, hq2, hcut⟩ := cutB rest
    have KC : Hid (∀ X, _) := hcut
    have HL : Hid (l = opn k :: (X ++ shut k :: (if q2 then 32 :: m2 else m2))) := by
      unfold Hid
      rw [hl]
      rcases hq2 with ⟨rfl, e⟩ | ⟨rfl, e⟩
      · rw [e]; rfl
      · rw [e]; rfl
    have HD : Hid (X = wd d ∨ d.length = 256) := hx
    have hba1 : Below w1.heap.size w1 (w1.alloc (.cells #[.int .i64 (k : Int), .slice ad d.length c] 24)) := (Below.refl _ _).alloc (Nat.le_refl _) _
    have HT1 : Hid (TmAt (w1.alloc (.cells #[.int .i64 (k : Int), .slice ad d.length c] 24)) pm ps true l) := (HT.out.below hb1).below hba1
    have HZ1 : Hid (ZAt w (w1.alloc (.cells #[.int .i64 (k : Int), .slice ad d.length c] 24))) := (HZ.out.below hb1).below hba1
    have HU1 : Hid (OwnU (w1.alloc (.cells #[.int .i64 (k : Int), .slice ad d.length c] 24)) W0.heap.size (.slice ad d.length c) d) := hou.below hba1
    have HB1 : Hid (Below w.heap.size w (w1.alloc (.cells #[.int .i64 (k : Int), .slice ad d.length c] 24))) := (HB.out.trans (hb1.mono HB.out.size)).trans (hba1.mono (Nat.le_trans HB.out.size hb1.size))
    have q0 : (w1.alloc (.cells #[.int .i64 (k : Int), .slice ad d.length c] 24)).cell? ⟨w1.heap.size, 0, none⟩ = some (.int .i64 (k : Int)) := by simp
    have q1 : (w1.alloc (.cells #[.int .i64 (k : Int), .slice ad d.length c] 24)).cell? ⟨w1.heap.size, 1, none⟩ = some (.slice ad d.length c) := by simp
    have hsz1 : W0.heap.size ≤ w1.heap.size := hb1.size
    have hW0 := HZ.out.hs
    have m1 := HT1.out.m
    have s1 := HT1.out.s
    have f1 := HT1.out.fm
    have f2 := HT1.out.fs
    have hne := HT1.out.ne
    obtain ⟨z0, z1, g0, g1, _⟩ := HZ1.out
    have hp := HP.out
    clear m s hb1 hba1 hou HT HZ HB KP h1 h4 hl hx hcut hq2
    have hq1 : w.heap.size ≠ pm := by omega
    have hq2 : w.heap.size ≠ ps := by omega
    have hw1 : w1.heap.size ≠ pm := by omega
    have hw2 : w1.heap.size ≠ ps := by omega
    clear hp
    go_wp2_with fail
    refine Calls.mono (KC.out _) ?_
    rintro e w2 ⟨rfl, rfl⟩
    have far : ∀ (b i : Nat) (x y : Value), b ≠ pm → b ≠ ps → (((w1.alloc (.cells #[.int .i64 (k : Int), .slice ad d.length c] 24)).setCell ⟨ps, 0, none⟩ x).setCell ⟨pm, 0, none⟩ y).cell? ⟨b, i, none⟩ = (w1.alloc (.cells #[.int .i64 (k : Int), .slice ad d.length c] 24)).cell? ⟨b, i, none⟩ := fun b i x y h1 h2 => by
      rw [World.cell?_setCell_other _ _ _ _ (by simp <;> omega), World.cell?_setCell_other _ _ _ _ (by simp <;> omega)]
    have q0' := fun x y => (far w1.heap.size 0 x y hw1 hw2).trans q0
    have q1' := fun x y => (far w1.heap.size 1 x y hw1 hw2).trans q1
    have z0' := fun x y => (far w.heap.size 0 x y hq1 hq2).trans z0
    have z1' := fun x y => (far w.heap.size 1 x y hq1 hq2).trans z1
    have m2' : ∀ x, ((w1.alloc (.cells #[.int .i64 (k : Int), .slice ad d.length c] 24)).setCell ⟨ps, 0, none⟩ x).cell? ⟨pm, 0, none⟩ = some (.bool true) := fun x => by
      rw [World.cell?_setCell_other _ _ _ _ (by simp <;> omega)]
      exact m1
    clear far q0 q1 z0 z1
    have HG : Hid (_ ∧ _) := turnM_got HZ1.out hq1 hq2 q2 m2 (.int .i64 (k : Int)) (.slice ad d.length c)
    have HTN : Hid (TmAt _ pm ps q2 m2) := HT1.out.turn hq1 hq2 q2 m2 (.int .i64 (k : Int)) (.slice ad d.length c)
    have HBN : Hid (Bes pm ps w _) := (Bes.of_below HB1.out).turnM q2 m2 (.int .i64 (k : Int)) (.slice ad d.length c)
    have HUN : Hid (OwnU _ W0.heap.size (.slice ad d.length c) d) := HU1.out.turnM (pm := pm) (ps := ps) (q := w.heap.size) (by have := HP.out; omega) (by have := HP.out; omega) (by omega) q2 m2 (.int .i64 (k : Int)) (.slice ad d.length c)
    go_wp2
    dsimp only [turnM] at HG HTN HBN HUN
    generalize ((((w1.alloc (.cells #[.int .i64 (k : Int), .slice ad d.length c] 24)).setCell ⟨ps, 0, none⟩ (.string ⟨m2.toArray⟩)).setCell ⟨pm, 0, none⟩ (.bool q2)).setCell ⟨w.heap.size, 0, none⟩ (.int .i64 (k : Int))).setCell ⟨w.heap.size, 1, none⟩ (.slice ad d.length c) = X9 at *
    obtain ⟨x0, x1⟩ := HG.out
    clear HG KC HT1 HZ1 HU1 HB1 q0' q1' z0' z1' m2' m1 s1 f1 f2 g0 g1
    refine bodyPost_ret (v := .tuple #[.agg #[.int .i64 (k : Int), .slice ad d.length c], .int .i64 0]) (by simp [results, Tryz.results45, go_sem, x0, x1]) rfl ⟨Or.inr (Or.inr ⟨k, ad, c, d, X, q2, m2, rfl, HK.out.1, HK.out.2, rfl, HUN.out.mono (by omega), HTN.out, HD.out, HL.out⟩), HBN.out⟩
  · have hba1 : Below w1.heap.size w1 (w1.alloc (.cells #[.int .i64 (k : Int), .slice none 0 0] 24)) := (Below.refl _ _).alloc (Nat.le_refl _) _
    have HT1 : Hid (TmAt (w1.alloc (.cells #[.int .i64 (k : Int), .slice none 0 0] 24)) pm ps true _) := (HT.out.below hb1).below hba1
    have HZ1 : Hid (ZAt w (w1.alloc (.cells #[.int .i64 (k : Int), .slice none 0 0] 24))) := (HZ.out.below hb1).below hba1
    have HB1 : Hid (Below w.heap.size w (w1.alloc (.cells #[.int .i64 (k : Int), .slice none 0 0] 24))) := (HB.out.trans (hb1.mono HB.out.size)).trans (hba1.mono (Nat.le_trans HB.out.size hb1.size))
    have m1 := HT1.out.m
    have s1 := HT1.out.s
    obtain ⟨z0, z1, g0, g1, _⟩ := HZ1.out
    clear m s hb1 hba1 HT HZ HB KP
    go_wp2
    have hg := HZ1.out.got (.int .i64 0) (.slice none 0 0)
    refine bodyPost_ret (v := .tuple #[.agg #[.int .i64 0, .slice none 0 0], .int .i64 4]) (by simp [results, Tryz.results45, go_sem, hg.1, hg.2]) rfl ⟨Or.inr (Or.inl rfl), ?_⟩
    exact Bes.of_below ((HB1.out.setCell (p := ⟨w.heap.size, 0, none⟩) (Nat.le_refl _) _).setCell (p := ⟨w.heap.size, 1, none⟩) (Nat.le_refl _) _)
theorem nextM_any (pm ps : Nat) (q : Bool) (m : List UInt8) (w : World) (h : TmAt w pm ps q m) (hm : m.length < 140737488351233) (ht : Tabs w) (hE : ErrsAt w) :
    Calls Tryz.prog 45 #[.pointer (some ⟨pm, 0, none⟩), .pointer (some ⟨ps, 0, none⟩)] w fun e w' => NxR q m pm ps w w' e ∧ Bes pm ps w w' := by
  cases q with
  | true => exact nextM_t pm ps m w h hm ht hE
  | false =>
    cases m with
    | nil => exact (nextT_end pm ps w ⟨h.m, h.s, h.fm, h.fs, h.ne⟩).mono fun e w' ⟨he, hb⟩ => ⟨Or.inl ⟨rfl, rfl, he⟩, Bes.of_below hb⟩
    | cons a r => exact nextM_f pm ps a r w h hm ht hE
end Go.Proofs.YtbdfigfjoiefiabGreatDoor
