/-
  The reader of a text's segments: one segment a call.
-/
import Derived.Test.YtbdfigfjoiefiaaDoorU5
set_option linter.unusedSimpArgs false
set_option linter.unusedVariables false
namespace Go.Proofs.YtbdfigfjoiefiaaDoor
open Go.RowKit
/-- What the two boxes of a text's reader hold, while these segments are to come. -/
structure TtAt (w : World) (pm ps : Nat) (L : List Sg) : Prop where
  m : w.cell? ⟨pm, 0, none⟩ = some (.bool (!decide (L = [])))
  s : w.cell? ⟨ps, 0, none⟩ = some (.string ⟨(tx L).toArray⟩)
  fm : w.frozen? ⟨pm, 0, none⟩ = false
  fs : w.frozen? ⟨ps, 0, none⟩ = false
  ne : pm ≠ ps
theorem TtAt.below {w w' : World} {pm ps : Nat} {L : List Sg} (h : TtAt w pm ps L) (hb : Below w.heap.size w w') : TtAt w' pm ps L :=
  ⟨below_cell hb h.m, below_cell hb h.s, (hb.frozen (p := ⟨pm, 0, none⟩) (lt_of_cell h.m)).trans h.fm, (hb.frozen (p := ⟨ps, 0, none⟩) (lt_of_cell h.s)).trans h.fs, h.ne⟩
theorem TtAt.lt {w : World} {pm ps : Nat} {L : List Sg} (h : TtAt w pm ps L) : pm < w.heap.size ∧ ps < w.heap.size := ⟨lt_of_cell h.m, lt_of_cell h.s⟩
/-- The world behind a call that has read a segment. -/
abbrev turnW (W : World) (pm ps q : Nat) (L : List Sg) (u v : Value) : World :=
  (((W.setCell ⟨ps, 0, none⟩ (.string ⟨(tx L).toArray⟩)).setCell ⟨pm, 0, none⟩ (.bool (!decide (L = [])))).setCell ⟨q, 0, none⟩ u).setCell ⟨q, 1, none⟩ v
theorem TtAt.turn {W : World} {pm ps q : Nat} {L0 : List Sg} (h : TtAt W pm ps L0) (h1 : q ≠ pm) (h2 : q ≠ ps) (L : List Sg) (u v : Value) : TtAt (turnW W pm ps q L u v) pm ps L := by
  have hne := h.ne
  refine ⟨?_, ?_, ?_, ?_, h.ne⟩
  · rw [World.cell?_setCell_other _ _ _ _ (by simp <;> omega), World.cell?_setCell_other _ _ _ _ (by simp <;> omega)]
    exact World.cell?_setCell_same _ _ _ (by rw [World.cell?_setCell_other _ _ _ _ (by simp <;> omega)]; exact h.m)
  · rw [World.cell?_setCell_other _ _ _ _ (by simp <;> omega), World.cell?_setCell_other _ _ _ _ (by simp <;> omega), World.cell?_setCell_other _ _ _ _ (by simp <;> omega)]
    exact World.cell?_setCell_same _ _ _ h.s
  · simp only [World.frozen?_setCell]
    exact h.fm
  · simp only [World.frozen?_setCell]
    exact h.fs
theorem Bes.turn {w W : World} {pm ps : Nat} (h : Bes pm ps w W) (L : List Sg) (u v : Value) : Bes pm ps w (turnW W pm ps w.heap.size L u v) := by
  have s1 := (Below.refl 0 W).setCell (p := ⟨ps, 0, none⟩) (by simp) (.string ⟨(tx L).toArray⟩)
  have s2 := s1.setCell (p := ⟨pm, 0, none⟩) (by simp) (.bool (!decide (L = [])))
  have s3 := s2.setCell (p := ⟨w.heap.size, 0, none⟩) (by simp) u
  have s4 := s3.setCell (p := ⟨w.heap.size, 1, none⟩) (by simp) v
  refine ⟨s4.os.trans h.os, s4.tape.trans h.tape, s4.output.trans h.output, Nat.le_trans h.size s4.size, fun k hk h1 h2 => ?_⟩
  rw [Below.heap_setCell _ _ _ k (by simp <;> omega), Below.heap_setCell _ _ _ k (by simp <;> omega), Below.heap_setCell _ _ _ k (by simpa using h1), Below.heap_setCell _ _ _ k (by simpa using h2)]
  exact h.block k hk h1 h2
theorem OwnU.turn {W : World} {pm ps q B : Nat} {x : Value} {l : List Nat} (h : OwnU W B x l) (h1 : pm < B) (h2 : ps < B) (h3 : q < B) (L : List Sg) (u v : Value) : OwnU (turnW W pm ps q L u v) B x l :=
  ⟨owns_heap' h.1 fun g e => by
    have := (h.1.lt g e).1
    rw [Below.heap_setCell _ _ _ g (by simp <;> omega), Below.heap_setCell _ _ _ g (by simp <;> omega), Below.heap_setCell _ _ _ g (by simp <;> omega), Below.heap_setCell _ _ _ g (by simp <;> omega)], h.2⟩
theorem turn_got {w W : World} {pm ps : Nat} (h : ZAt w W) (h1 : w.heap.size ≠ pm) (h2 : w.heap.size ≠ ps) (L : List Sg) (u v : Value) : (turnW W pm ps w.heap.size L u v).cell? ⟨w.heap.size, 0, none⟩ = some u ∧ (turnW W pm ps w.heap.size L u v).cell? ⟨w.heap.size, 1, none⟩ = some v := by
  constructor
  · rw [World.cell?_setCell_other _ _ _ _ (by simp)]
    exact World.cell?_setCell_same _ _ _ (by rw [World.cell?_setCell_other _ _ _ _ (by simp <;> omega), World.cell?_setCell_other _ _ _ _ (by simp <;> omega)]; exact h.z0)
  · exact World.cell?_setCell_same _ _ _ (by rw [World.cell?_setCell_other _ _ _ _ (by simp), World.cell?_setCell_other _ _ _ _ (by simp <;> omega), World.cell?_setCell_other _ _ _ _ (by simp <;> omega)]; exact h.z1)
theorem nextT_end (pm ps : Nat) (w : World) (h : TtAt w pm ps []) :
    Calls Tryd.prog 78 #[.pointer (some ⟨pm, 0, none⟩), .pointer (some ⟨ps, 0, none⟩)] w fun e w' => e = .returned (.tuple #[.agg #[.int .i64 0, .slice none 0 0], .int .i64 5]) ∧ Below w.heap.size w w' := by
  have hba : Below w.heap.size w (w.alloc (.cells #[.int .i64 0, .slice none 0 0] 48)) := (Below.refl _ _).alloc (Nat.le_refl _) _
  have HT : Hid (TtAt (w.alloc (.cells #[.int .i64 0, .slice none 0 0] 48)) pm ps []) := h.below hba
  have HB : Hid (Below _ _ _) := hba
  have HZ : Hid (ZAt w (w.alloc (.cells #[.int .i64 0, .slice none 0 0] 48))) := ZAt.start w
  have m : (w.alloc (.cells #[.int .i64 0, .slice none 0 0] 48)).cell? ⟨pm, 0, none⟩ = some (.bool false) := HT.out.m
  have s : (w.alloc (.cells #[.int .i64 0, .slice none 0 0] 48)).cell? ⟨ps, 0, none⟩ = some (.string ⟨#[]⟩) := HT.out.s
  clear hba h
  obtain ⟨z0, z1, g0, g1, _⟩ := HZ.out
  go_enter Tryd.func78, Tryd.ntmps78
  go_wp2
  have hg := HZ.out.got (.int .i64 0) (.slice none 0 0)
  refine bodyPost_ret (v := .tuple #[.agg #[.int .i64 0, .slice none 0 0], .int .i64 5]) (by simp [results, Tryd.results78, go_sem, hg.1, hg.2]) rfl ⟨rfl, ?_⟩
  first | exact HB.out | exact (HB.out.setCell (p := ⟨w.heap.size, 0, none⟩) (Nat.le_refl _) _).setCell (p := ⟨w.heap.size, 1, none⟩) (Nat.le_refl _) _
theorem cutT (L : List Sg) (X : World) : Calls Tryd.prog 80 #[.string ⟨(if L = [] then ([] : List UInt8) else 32 :: tx L).toArray⟩, .string ⟨#[32]⟩] X fun e w' => e = .returned (.tuple #[.string ⟨(tx L).toArray⟩, .bool (!decide (L = []))]) ∧ w' = X := by
  have h := Tryd.strings_CutPrefix ⟨(if L = [] then ([] : List UInt8) else 32 :: tx L).toArray⟩ ⟨#[32]⟩ X
  have e1 : Lib.hasPrefix (⟨(if L = [] then ([] : List UInt8) else 32 :: tx L).toArray⟩ : ByteArray).data.toList (⟨#[32]⟩ : ByteArray).data.toList = !decide (L = []) := by
    cases L with
    | nil => rfl
    | cons s N => simp [Lib.hasPrefix, List.isPrefixOf]
  have e2 : Lib.trimPrefix (⟨(if L = [] then ([] : List UInt8) else 32 :: tx L).toArray⟩ : ByteArray).data.toList (⟨#[32]⟩ : ByteArray).data.toList = tx L := by
    cases L with
    | nil => rfl
    | cons s N => simp [Lib.trimPrefix, Lib.hasPrefix, List.isPrefixOf]
  rw [e1, e2] at h
  exact h
set_option maxRecDepth 100000 in
set_option maxHeartbeats 3200000 in
theorem nextT_yes (pm ps : Nat) (s : Sg) (L : List Sg) (w : World) (h : TtAt w pm ps (s :: L)) (hs : okSeg s = true) (hx : ∀ x ∈ s.2, x < 4294967296) (hlen : (tx L).length ≤ 900000) (ht : Tabs w) (hm : MaxAt w) :
    Calls Tryd.prog 78 #[.pointer (some ⟨pm, 0, none⟩), .pointer (some ⟨ps, 0, none⟩)] w fun e w' => (∃ ad c, e = .returned (.tuple #[.agg #[.int .i64 s.1, .slice ad s.2.length c], .int .i64 0]) ∧ OwnU w' w.heap.size (.slice ad s.2.length c) s.2) ∧ TtAt w' pm ps L ∧ Bes pm ps w w' := by
  obtain ⟨hpm, hps⟩ := h.lt
  obtain ⟨k1, k4, l1, l255, _⟩ := (okSeg_iff s).1 hs
  obtain ⟨kd, l⟩ := s
  obtain ⟨k, rfl⟩ : ∃ k : Nat, kd = k := ⟨kd.toNat, by simp only at k1; omega⟩
  simp only at k1 k4 l1 l255 hx ⊢
  have hba : Below w.heap.size w (w.alloc (.cells #[.int .i64 0, .slice none 0 0] 48)) := (Below.refl _ _).alloc (Nat.le_refl _) _
  have HT : Hid (TtAt (w.alloc (.cells #[.int .i64 0, .slice none 0 0] 48)) pm ps (((k : Int), l) :: L)) := h.below hba
  have HB : Hid (Below w.heap.size w (w.alloc (.cells #[.int .i64 0, .slice none 0 0] 48))) := hba
  have HZ : Hid (ZAt w (w.alloc (.cells #[.int .i64 0, .slice none 0 0] 48))) := ZAt.start w
  have hrest : (if L = [] then ([] : List UInt8) else 32 :: tx L).length ≤ 1000000 := by
    split
    · simp
    · simp; omega
  have etx : tx (((k : Int), l) :: L) = opn k :: (wd l ++ shut k :: (if L = [] then [] else 32 :: tx L)) := by
    simp [tx, segT, wd]
  have KP : Hid (_ : Prop) := pseg_yes k l (if L = [] then [] else 32 :: tx L) (w.alloc (.cells #[.int .i64 0, .slice none 0 0] 48)) (by omega) (by omega) (by intro e; rw [e] at l1; simp at l1) l255 hx hrest (ht.below hba) (hm.below hba)
  have m : (w.alloc (.cells #[.int .i64 0, .slice none 0 0] 48)).cell? ⟨pm, 0, none⟩ = some (.bool true) := HT.out.m
  have s := HT.out.s
  rw [etx] at s
  have KC : Hid (∀ X, _) := cutT L
  have HL : Hid (∀ x ∈ l, x < 4294967296) := hx
  clear hba h hx ht hm hrest etx hlen hs
  generalize (if L = [] then ([] : List UInt8) else 32 :: tx L) = rest at *
  go_enter Tryd.func78, Tryd.ntmps78
  go_wp2_with fail
  generalize w.alloc (.cells #[.int .i64 0, .slice none 0 0] 48) = W0 at *
  refine Calls.mono KP.out ?_
  rintro e w1 ⟨ad, c, rfl, hou, hb1⟩
  have hba1 : Below w1.heap.size w1 (w1.alloc (.cells #[.int .i64 (k : Int), .slice ad l.length c] 48)) := (Below.refl _ _).alloc (Nat.le_refl _) _
  have HT1 : Hid (TtAt (w1.alloc (.cells #[.int .i64 (k : Int), .slice ad l.length c] 48)) pm ps _) := (HT.out.below hb1).below hba1
  have HZ1 : Hid (ZAt w (w1.alloc (.cells #[.int .i64 (k : Int), .slice ad l.length c] 48))) := (HZ.out.below hb1).below hba1
  have HU1 : Hid (OwnU (w1.alloc (.cells #[.int .i64 (k : Int), .slice ad l.length c] 48)) W0.heap.size (.slice ad l.length c) l) := hou.below hba1
  have HB1 : Hid (Below w.heap.size w (w1.alloc (.cells #[.int .i64 (k : Int), .slice ad l.length c] 48))) := (HB.out.trans (hb1.mono HB.out.size)).trans (hba1.mono (Nat.le_trans HB.out.size hb1.size))
  have q0 : (w1.alloc (.cells #[.int .i64 (k : Int), .slice ad l.length c] 48)).cell? ⟨w1.heap.size, 0, none⟩ = some (.int .i64 (k : Int)) := by simp
  have q1 : (w1.alloc (.cells #[.int .i64 (k : Int), .slice ad l.length c] 48)).cell? ⟨w1.heap.size, 1, none⟩ = some (.slice ad l.length c) := by simp
  have hsz1 : W0.heap.size ≤ w1.heap.size := hb1.size
  have hW0 := HZ.out.hs
  have m1 : (w1.alloc (.cells #[.int .i64 (k : Int), .slice ad l.length c] 48)).cell? ⟨pm, 0, none⟩ = some (.bool true) := HT1.out.m
  have s1 := HT1.out.s
  have f1 := HT1.out.fm
  have f2 := HT1.out.fs
  have hne := HT1.out.ne
  obtain ⟨z0, z1, g0, g1, _⟩ := HZ1.out
  clear m s hb1 hba1 hou HT HZ HB KP
  have hq1 : w.heap.size ≠ pm := by omega
  have hq2 : w.heap.size ≠ ps := by omega
  go_wp2_with fail
  refine Calls.mono (KC.out _) ?_
  rintro e w2 ⟨rfl, rfl⟩
  have far : ∀ (b i : Nat) (x y : Value), b ≠ pm → b ≠ ps → (((w1.alloc (.cells #[.int .i64 (k : Int), .slice ad l.length c] 48)).setCell ⟨ps, 0, none⟩ x).setCell ⟨pm, 0, none⟩ y).cell? ⟨b, i, none⟩ = (w1.alloc (.cells #[.int .i64 (k : Int), .slice ad l.length c] 48)).cell? ⟨b, i, none⟩ := fun b i x y h1 h2 => by
    rw [World.cell?_setCell_other _ _ _ _ (by simp <;> omega), World.cell?_setCell_other _ _ _ _ (by simp <;> omega)]
  have q0' := fun x y => (far w1.heap.size 0 x y (by omega) (by omega)).trans q0
  have q1' := fun x y => (far w1.heap.size 1 x y (by omega) (by omega)).trans q1
  have z0' := fun x y => (far w.heap.size 0 x y hq1 hq2).trans z0
  have z1' := fun x y => (far w.heap.size 1 x y hq1 hq2).trans z1
  have m2 : ∀ x, ((w1.alloc (.cells #[.int .i64 (k : Int), .slice ad l.length c] 48)).setCell ⟨ps, 0, none⟩ x).cell? ⟨pm, 0, none⟩ = some (.bool true) := fun x => by
    rw [World.cell?_setCell_other _ _ _ _ (by simp <;> omega)]
    exact m1
  clear far q0 q1 z0 z1
  have HG : Hid (_ ∧ _) := turn_got HZ1.out hq1 hq2 L (.int .i64 (k : Int)) (.slice ad l.length c)
  have HTN : Hid (TtAt _ pm ps L) := HT1.out.turn hq1 hq2 L (.int .i64 (k : Int)) (.slice ad l.length c)
  have HBN : Hid (Bes pm ps w _) := (Bes.of_below HB1.out).turn L (.int .i64 (k : Int)) (.slice ad l.length c)
  have HUN : Hid (OwnU _ W0.heap.size (.slice ad l.length c) l) := HU1.out.turn (pm := pm) (ps := ps) (q := w.heap.size) (by omega) (by omega) (by omega) L (.int .i64 (k : Int)) (.slice ad l.length c)
  go_wp2
  dsimp only [turnW] at HG HTN HBN HUN
  generalize ((((w1.alloc (.cells #[.int .i64 (k : Int), .slice ad l.length c] 48)).setCell ⟨ps, 0, none⟩ (.string ⟨(tx L).toArray⟩)).setCell ⟨pm, 0, none⟩ (.bool (!decide (L = [])))).setCell ⟨w.heap.size, 0, none⟩ (.int .i64 (k : Int))).setCell ⟨w.heap.size, 1, none⟩ (.slice ad l.length c) = X at *
  obtain ⟨x0, x1⟩ := HG.out
  clear HG KC HT1 HZ1 HU1 HB1 q0' q1' z0' z1' m2 m1 s1 f1 f2 g0 g1
  refine bodyPost_ret (v := .tuple #[.agg #[.int .i64 (k : Int), .slice ad l.length c], .int .i64 0]) (by simp [results, Tryd.results78, go_sem, x0, x1]) rfl ⟨⟨ad, c, rfl, HUN.out.mono (by omega)⟩, HTN.out, HBN.out⟩
end Go.Proofs.YtbdfigfjoiefiaaDoor
