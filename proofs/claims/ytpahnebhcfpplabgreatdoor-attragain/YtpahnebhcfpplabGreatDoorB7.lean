/-
  What is read of the example's raw attributes: the takes, and judge.
-/
import Derived.Test.YtpahnebhcfpplabGreatDoorB6
import Derived.Test.YtpahnebhcfpplabGreatDoorB3
import Derived.Laws.Rows
namespace Go.Proofs.YtpahnebhcfpplabGreatDoor
open Go.RowKit
/-- Attributes that lie in a block that may be written. -/
def AW (w : World) (p : Nat) (cs : Array Value) : Prop := w.heap[p]? = some (.cells cs 39 (0, 0))
theorem AW.lt {w : World} {p : Nat} {cs : Array Value} (h : AW w p cs) : p < w.heap.size := (Array.getElem?_eq_some_iff.mp h).1
theorem AW.below {w w' : World} {p : Nat} {cs : Array Value} (h : AW w p cs) (hb : Below w.heap.size w w') : AW w' p cs := (hb.block p h.lt).trans h
theorem AW.set {w : World} {p : Nat} {cs : Array Value} (h : AW w p cs) (i : Nat) (v : Value) : AW (w.setCell ⟨p, i, none⟩ v) p (cs.setIfInBounds i v) := heap_setCell_same w p i cs 39 v h
theorem frozen_of {w : World} {p i : Nat} {cs : Array Value} {t : TypeId} (h : w.heap[p]? = some (.cells cs t (0, 0))) : w.frozen? ⟨p, i, none⟩ = false := by simp [World.frozen?, h]
/-- What a take leaves: one field of the attributes is another one. -/
def Took (w : World) (p i : Nat) (v : Value) (w' : World) : Prop := ∃ w1, Below w.heap.size w w1 ∧ w' = w1.setCell ⟨p, i, none⟩ v
theorem Took.beside {w w' : World} {p i : Nat} {v : Value} (h : Took w p i v w') : Beside p w w' := by
  obtain ⟨w1, hb, rfl⟩ := h
  exact (Beside.of_below hb (Nat.le_refl _)).trans (Beside.set _ _ _)
theorem Took.aw {w w' : World} {p i : Nat} {v : Value} {cs : Array Value} (h : Took w p i v w') (ha : AW w p cs) : AW w' p (cs.setIfInBounds i v) := by
  obtain ⟨w1, hb, rfl⟩ := h
  exact (ha.below hb).set i v
theorem takeOrigin1 (p : Nat) (cs : Array Value) (x : Value) (w : World) (h : AW w p cs) (h0 : cs[0]? = some x) :
    Calls Tryz.prog 50 #[.pointer (some ⟨p, 0, none⟩), .string ⟨#[1]⟩] w fun e w' => e = .returned (.bool true) ∧ Took w p 0 (.int .i64 1) w' := by
  have c0 := cell_row h 0 _ h0
  have f0 : w.frozen? ⟨p, 0, none⟩ = false := frozen_of h
  go_enter Tryz.func50, Tryz.ntmps50
  go_wp2
  go_ret
  exact ⟨rfl, w, Below.refl _ _, rfl⟩
theorem takeNext4 (p : Nat) (nx : ByteArray) (cs : Array Value) (x : Value) (w : World) (h : AW w p cs) (h2 : cs[2]? = some x) (hz : nx.size = 4) :
    Calls Tryz.prog 53 #[.pointer (some ⟨p, 0, none⟩), .string nx] w fun e w' => e = .returned (.bool true) ∧ Took w p 2 (.string nx) w' := by
  have c0 := cell_row h 2 _ h2
  have f0 : w.frozen? ⟨p, 2, none⟩ = false := frozen_of h
  have hz1 : ((nx.size : Int) == 4) = true := by rw [hz]; rfl
  have hz2 : (nx.size : Int) = 4 := by omega
  clear hz
  go_enter Tryz.func53, Tryz.ntmps53
  go_wp2
  go_ret
  exact ⟨rfl, w, Below.refl _ _, rfl⟩
set_option maxRecDepth 100000 in
theorem takePath_yes (p q : Nat) (l : List UInt8) (L : List Sg) (four : Bool) (cs : Array Value) (x : Value) (w : World) (h : AW w p cs) (h1 : cs[1]? = some x) (hq : w.cell? ⟨q, 0, none⟩ = some (.bool four)) (hd : decI (szN four) 16 l = some L) :
    Calls Tryz.prog 88 #[.pointer (some ⟨p, 0, none⟩), .string ⟨l.toArray⟩, .pointer (some ⟨q, 0, none⟩)] w fun e w' => e = .returned (.bool true) ∧ ∃ v w1, Below w.heap.size w w1 ∧ PathAt w1 v L ∧ (∃ R, sgs R = L ∧ OwnS w1 w.heap.size v R) ∧ w' = w1.setCell ⟨p, 1, none⟩ v := by
  have HD : Hid (Calls Tryz.prog 89 #[.string ⟨l.toArray⟩, .bool four] w fun e w' => Below w.heap.size w w' ∧ ∃ v R, e = .returned (.tuple #[v, .int .i64 0]) ∧ sgs R = L ∧ OwnS w' w.heap.size v R) := by
    have hx := decode_any l four w
    rw [hd] at hx
    exact hx
  have HA : Hid (AW _ _ _) := h
  clear h
  go_enter Tryz.func88, Tryz.ntmps88
  go_wp2_with fail
  refine HD.out.mono ?_
  rintro e w1 ⟨hb, v, R, rfl, hR, ho⟩
  have hv := ho.at
  rw [hR] at hv
  obtain ⟨ad, n, c, rfl⟩ := hv.sl
  have ha1 := HA.out.below hb
  have c0 := cell_row ha1 1 _ h1
  have f0 : w1.frozen? ⟨p, 1, none⟩ = false := frozen_of ha1
  have HB : Hid (Below _ _ _) := hb
  have HV : Hid (PathAt _ _ _) := hv
  have HO : Hid (∃ R, sgs R = L ∧ OwnS w1 w.heap.size _ R) := ⟨R, hR, ho⟩
  clear hb hv ho hR hq ha1 HD
  go_wp2
  go_ret
  exact ⟨rfl, _, w1, HB.out, HV.out, HO.out, rfl⟩
/-- A verdict's block, and the box of a raw attribute. -/
structure J0 (w W : World) (f t : Nat) (v : ByteArray) : Prop where
  raw : W.heap[w.heap.size]? = some (.cells #[.int .u8 (f : Int), .int .u8 (t : Int), .string v] 30 (0, 0))
  ver : W.heap[w.heap.size + 1]? = some (.cells #[.int .i64 0, .int .u8 0, .int .u8 0] 41 (0, 0))
theorem J0.beside {w W W' : World} {f t : Nat} {v : ByteArray} {p : Nat} (h : J0 w W f t v) (hb : Beside p W W') (hp : p < w.heap.size) : J0 w W' f t v :=
  ⟨(hb.block _ (Array.getElem?_eq_some_iff.mp h.raw).1 (by omega)).trans h.raw, (hb.block _ (Array.getElem?_eq_some_iff.mp h.ver).1 (by omega)).trans h.ver⟩
theorem J0.below {w W W' : World} {f t : Nat} {v : ByteArray} (h : J0 w W f t v) (hb : Below W.heap.size W W') : J0 w W' f t v :=
  ⟨(hb.block _ (Array.getElem?_eq_some_iff.mp h.raw).1).trans h.raw, (hb.block _ (Array.getElem?_eq_some_iff.mp h.ver).1).trans h.ver⟩
theorem J0.start (w : World) (f t : Nat) (v : ByteArray) : J0 w ((w.alloc (.cells #[.int .u8 (f : Int), .int .u8 (t : Int), .string v] 30)).alloc (.cells #[.int .i64 0, .int .u8 0, .int .u8 0] 41)) f t v :=
  ⟨by rw [Below.heap_alloc _ _ _ (by simp)]; exact heap_new _ _, by have := heap_new (w.alloc (.cells #[.int .u8 (f : Int), .int .u8 (t : Int), .string v] 30)) (.cells #[.int .i64 0, .int .u8 0, .int .u8 0] 41); rwa [show (w.alloc (.cells #[.int .u8 (f : Int), .int .u8 (t : Int), .string v] 30)).heap.size = w.heap.size + 1 by simp] at this⟩
def verd0 : Value := .agg #[.int .i64 0, .int .u8 0, .int .u8 0]
theorem ver_got {W : World} {g : Nat} (h : W.heap[g]? = some (.cells #[.int .i64 0, .int .u8 0, .int .u8 0] 41 (0, 0))) (a b c : Value) : (put3 W g a b c).heap[g]? = some (.cells #[a, b, c] 41 (0, 0)) := by
  unfold put3
  have h1 := heap_setCell_same W g 0 _ 41 a h
  have h2 := heap_setCell_same _ g 1 _ 41 b h1
  have h3 := heap_setCell_same _ g 2 _ 41 c h2
  exact h3
theorem put3_aw {W : World} {g p : Nat} {cs : Array Value} (h : AW W p cs) (hne : p ≠ g) (a b c : Value) : AW (put3 W g a b c) p cs := by
  unfold put3 AW
  rw [Below.heap_setCell _ _ _ _ hne, Below.heap_setCell _ _ _ _ hne, Below.heap_setCell _ _ _ _ hne]
  exact h
theorem put3_bes {W w : World} {g p : Nat} (h : Beside p w W) (hg : w.heap.size ≤ g) (a b c : Value) : Beside p w (put3 W g a b c) := ((h.put hg _ _).put hg _ _).put hg _ _
theorem and192 : bits .and .u8 64 192 = 64 := by decide +kernel
/-- A path in rows of its own, at base and above, and the block of attributes elsewhere. -/
structure OwnPath (W : World) (base p : Nat) (pv : Value) (L : List Sg) : Prop where
  ow : ∃ R, sgs R = L ∧ OwnS W base pv R
  lt : p < base
theorem OwnPath.made {w3 w4 wq : World} {p : Nat} {pv : Value} {L : List Sg} (h : ∃ R, sgs R = L ∧ OwnS wq w3.heap.size pv R) (hw : w4 = wq.setCell ⟨p, 1, none⟩ pv) (hp : p < w3.heap.size) : OwnPath w4 w3.heap.size p pv L := by
  subst hw
  obtain ⟨R, h1, h2⟩ := h
  exact ⟨⟨R, h1, h2.beside (Beside.set _ _ _) hp⟩, hp⟩
theorem OwnPath.at {W : World} {base p : Nat} {pv : Value} {L : List Sg} (h : OwnPath W base p pv L) : PathAt W pv L := by
  obtain ⟨R, rfl, h2⟩ := h.ow
  exact h2.at
theorem OwnPath.own {W : World} {base p B : Nat} {pv : Value} {L : List Sg} (h : OwnPath W base p pv L) (hB : B ≤ base) : ∃ R, sgs R = L ∧ OwnS W B pv R := by
  obtain ⟨R, h1, h2⟩ := h.ow
  exact ⟨R, h1, h2.mono hB⟩
theorem OwnPath.put3 {W : World} {base p g : Nat} {pv : Value} {L : List Sg} (h : OwnPath W base p pv L) (hg : g < base) : OwnPath (put3 W g (.int .i64 0) (.int .u8 0) (.int .u8 0)) base p pv L := by
  obtain ⟨R, h1, h2⟩ := h.ow
  exact ⟨⟨R, h1, ((h2.beside (Beside.set _ _ _) hg).beside (Beside.set _ _ _) hg).beside (Beside.set _ _ _) hg⟩, h.lt⟩
set_option maxRecDepth 100000 in
set_option maxHeartbeats 3200000 in
theorem judge1 (p : Nat) (cs : Array Value) (x : Value) (w : World) (h : AW w p cs) (hcs : cs[0]? = some x) :
    Calls Tryz.prog 24 #[.pointer (some ⟨p, 0, none⟩), .agg #[.int .u8 64, .int .u8 1, .string ⟨#[1]⟩], .bool false, .bool true, .bool true] w fun e w' => e = .returned verd0 ∧ AW w' p (cs.setIfInBounds 0 (.int .i64 1)) ∧ Beside p w w' := by
  have hp := h.lt
  have HJ : Hid (J0 w _ 64 1 ⟨#[1]⟩) := J0.start w 64 1 ⟨#[1]⟩
  have hb0 : Below w.heap.size w ((w.alloc (.cells #[.int .u8 (64 : Nat), .int .u8 (1 : Nat), .string ⟨#[1]⟩] 30)).alloc (.cells #[.int .i64 0, .int .u8 0, .int .u8 0] 41)) := ((Below.refl _ _).alloc (Nat.le_refl _) _).alloc (by simp) _
  have HA : Hid (AW _ _ _) := h.below hb0
  have HB0 : Hid (Below _ _ _) := hb0
  have r0 : _ = some (Value.int .u8 64) := cell_row HJ.out.raw 0 _ rfl
  have r1 : _ = some (Value.int .u8 1) := cell_row HJ.out.raw 1 _ rfl
  have r2 : _ = some (Value.string ⟨#[1]⟩) := cell_row HJ.out.raw 2 _ rfl
  have e64 : ((64 : Nat) : Int) = 64 := rfl
  have e1 : ((1 : Nat) : Int) = 1 := rfl
  rw [e64, e1] at *
  clear h hb0 e64 e1
  go_enter Tryz.func24, Tryz.ntmps24
  go_wp2_with fail
  generalize (w.alloc (.cells #[.int .u8 64, .int .u8 1, .string ⟨#[1]⟩] 30)).alloc (.cells #[.int .i64 0, .int .u8 0, .int .u8 0] 41) = W0 at *
  refine (row1 true W0).mono ?_
  rintro e w2 ⟨rfl, hb2⟩
  have hb3 : Below w2.heap.size w2 (w2.alloc (.cells #[.int .u8 64, .int .i64 2, .func (.func 49) #[] #[], .func (.func 50) #[] #[]] 84)) := (Below.refl _ _).alloc (Nat.le_refl _) _
  have hb03 : Below W0.heap.size W0 (w2.alloc (.cells #[.int .u8 64, .int .i64 2, .func (.func 49) #[] #[], .func (.func 50) #[] #[]] 84)) := hb2.trans (hb3.mono hb2.size)
  have HJ3 : Hid (J0 w (w2.alloc (.cells #[.int .u8 64, .int .i64 2, .func (.func 49) #[] #[], .func (.func 50) #[] #[]] 84)) 64 1 ⟨#[1]⟩) := HJ.out.below hb03
  have HA3 : Hid (AW (w2.alloc (.cells #[.int .u8 64, .int .i64 2, .func (.func 49) #[] #[], .func (.func 50) #[] #[]] 84)) p cs) := HA.out.below hb03
  have HB3 : Hid (Below w.heap.size w (w2.alloc (.cells #[.int .u8 64, .int .i64 2, .func (.func 49) #[] #[], .func (.func 50) #[] #[]] 84))) := HB0.out.trans (hb03.mono HB0.out.size)
  have s0 : (w2.alloc (.cells #[.int .u8 64, .int .i64 2, .func (.func 49) #[] #[], .func (.func 50) #[] #[]] 84)).cell? ⟨w.heap.size, 0, none⟩ = some (Value.int .u8 64) := cell_row HJ3.out.raw 0 _ rfl
  have s1 : (w2.alloc (.cells #[.int .u8 64, .int .i64 2, .func (.func 49) #[] #[], .func (.func 50) #[] #[]] 84)).cell? ⟨w.heap.size, 1, none⟩ = some (Value.int .u8 1) := cell_row HJ3.out.raw 1 _ rfl
  have s2 : (w2.alloc (.cells #[.int .u8 64, .int .i64 2, .func (.func 49) #[] #[], .func (.func 50) #[] #[]] 84)).cell? ⟨w.heap.size, 2, none⟩ = some (Value.string ⟨#[1]⟩) := cell_row HJ3.out.raw 2 _ rfl
  have t0 : (w2.alloc (.cells #[.int .u8 64, .int .i64 2, .func (.func 49) #[] #[], .func (.func 50) #[] #[]] 84)).cell? ⟨w2.heap.size, 0, none⟩ = some (Value.int .u8 64) := cell_row (heap_new _ _) 0 _ rfl
  have t3 := cell_row (heap_new w2 (.cells #[.int .u8 64, .int .i64 2, .func (.func 49) #[] #[], .func (.func 50) #[] #[]] 84)) 3 _ rfl
  have ha := and192
  clear hb2 hb3 hb03 HJ HA HB0 r0 r1 r2 
  go_wp2_with fail
  generalize w2.alloc (.cells #[.int .u8 64, .int .i64 2, .func (.func 49) #[] #[], .func (.func 50) #[] #[]] 84) = w3 at *
  generalize w2.heap.size = g3 at *
  have HLT : Hid (p < w.heap.size) := hp
  refine (takeOrigin1 p cs x _ HA3.out hcs).mono ?_
  rintro e w4 ⟨rfl, htk⟩
  have HBS : Hid (Beside p _ w4) := htk.beside
  have HA4 : Hid (AW w4 p _) := htk.aw HA3.out
  clear htk
  have HJ4 : Hid (J0 w w4 64 1 ⟨#[1]⟩) := HJ3.out.beside HBS.out hp
  have HBE : Hid (Beside p w w4) := (Beside.of_below HB3.out (Nat.le_refl _)).trans HBS.out
  have u0 : _ = some (Value.int .i64 0) := cell_row HJ4.out.ver 0 _ rfl
  have u1 : _ = some (Value.int .u8 0) := cell_row HJ4.out.ver 1 _ rfl
  have u2 : _ = some (Value.int .u8 0) := cell_row HJ4.out.ver 2 _ rfl
  have g0 : w4.frozen? ⟨w.heap.size + 1, 0, none⟩ = false := frozen_of HJ4.out.ver
  have g1 : w4.frozen? ⟨w.heap.size + 1, 1, none⟩ = false := frozen_of HJ4.out.ver
  have g2 : w4.frozen? ⟨w.heap.size + 1, 2, none⟩ = false := frozen_of HJ4.out.ver
  clear HJ3 HBS s0 s1 s2 t0 t3 
  go_wp2
  have hgot := ver_got HJ4.out.ver (.int .i64 0) (.int .u8 0) (.int .u8 0)
  have k0 := cell_row hgot 0 _ rfl
  have k1 := cell_row hgot 1 _ rfl
  have k2 := cell_row hgot 2 _ rfl
  unfold put3 at k0 k1 k2
  refine bodyPost_ret (v := verd0) (by simp [results, Tryz.results24, go_sem, verd0, k0, k1, k2]) rfl ?_
  exact ⟨rfl, put3_aw HA4.out (by omega) _ _ _, put3_bes HBE.out (by omega) _ _ _⟩
set_option maxRecDepth 100000 in
set_option maxHeartbeats 3200000 in
theorem judge2 (p : Nat) (cs : Array Value) (x : Value) (w : World) (h : AW w p cs) (hcs : cs[1]? = some x) :
    Calls Tryz.prog 24 #[.pointer (some ⟨p, 0, none⟩), .agg #[.int .u8 64, .int .u8 2, .string ⟨#[2, 1, 0, 0, 0, 1]⟩], .bool false, .bool true, .bool true] w fun e w' => e = .returned verd0 ∧ ∃ pv, PathAt w' pv [(2, [1])] ∧ (∃ R, sgs R = [(2, [1])] ∧ OwnS w' w.heap.size pv R) ∧ AW w' p (cs.setIfInBounds 1 pv) ∧ Beside p w w' := by
  have hp := h.lt
  have HJ : Hid (J0 w _ 64 2 ⟨#[2, 1, 0, 0, 0, 1]⟩) := J0.start w 64 2 ⟨#[2, 1, 0, 0, 0, 1]⟩
  have hb0 : Below w.heap.size w ((w.alloc (.cells #[.int .u8 (64 : Nat), .int .u8 (2 : Nat), .string ⟨#[2, 1, 0, 0, 0, 1]⟩] 30)).alloc (.cells #[.int .i64 0, .int .u8 0, .int .u8 0] 41)) := ((Below.refl _ _).alloc (Nat.le_refl _) _).alloc (by simp) _
  have HA : Hid (AW _ _ _) := h.below hb0
  have HB0 : Hid (Below _ _ _) := hb0
  have r0 : _ = some (Value.int .u8 64) := cell_row HJ.out.raw 0 _ rfl
  have r1 : _ = some (Value.int .u8 2) := cell_row HJ.out.raw 1 _ rfl
  have r2 : _ = some (Value.string ⟨#[2, 1, 0, 0, 0, 1]⟩) := cell_row HJ.out.raw 2 _ rfl
  have e64 : ((64 : Nat) : Int) = 64 := rfl
  have e1 : ((2 : Nat) : Int) = 2 := rfl
  rw [e64, e1] at *
  clear h hb0 e64 e1
  go_enter Tryz.func24, Tryz.ntmps24
  go_wp2_with fail
  generalize (w.alloc (.cells #[.int .u8 64, .int .u8 2, .string ⟨#[2, 1, 0, 0, 0, 1]⟩] 30)).alloc (.cells #[.int .i64 0, .int .u8 0, .int .u8 0] 41) = W0 at *
  refine (row2 true W0).mono ?_
  rintro e w2 ⟨q, rfl, hc0, hb2⟩
  have hb3 : Below w2.heap.size w2 (w2.alloc (.cells #[.int .u8 64, .int .i64 2, .func (.func 86) #[] #[.pointer (some ⟨q, 0, none⟩)], .func (.func 88) #[] #[.pointer (some ⟨q, 0, none⟩)]] 84)) := (Below.refl _ _).alloc (Nat.le_refl _) _
  have hb03 : Below W0.heap.size W0 (w2.alloc (.cells #[.int .u8 64, .int .i64 2, .func (.func 86) #[] #[.pointer (some ⟨q, 0, none⟩)], .func (.func 88) #[] #[.pointer (some ⟨q, 0, none⟩)]] 84)) := hb2.trans (hb3.mono hb2.size)
  have HJ3 : Hid (J0 w (w2.alloc (.cells #[.int .u8 64, .int .i64 2, .func (.func 86) #[] #[.pointer (some ⟨q, 0, none⟩)], .func (.func 88) #[] #[.pointer (some ⟨q, 0, none⟩)]] 84)) 64 2 ⟨#[2, 1, 0, 0, 0, 1]⟩) := HJ.out.below hb03
  have HA3 : Hid (AW (w2.alloc (.cells #[.int .u8 64, .int .i64 2, .func (.func 86) #[] #[.pointer (some ⟨q, 0, none⟩)], .func (.func 88) #[] #[.pointer (some ⟨q, 0, none⟩)]] 84)) p cs) := HA.out.below hb03
  have HB3 : Hid (Below w.heap.size w (w2.alloc (.cells #[.int .u8 64, .int .i64 2, .func (.func 86) #[] #[.pointer (some ⟨q, 0, none⟩)], .func (.func 88) #[] #[.pointer (some ⟨q, 0, none⟩)]] 84))) := HB0.out.trans (hb03.mono HB0.out.size)
  have s0 : (w2.alloc (.cells #[.int .u8 64, .int .i64 2, .func (.func 86) #[] #[.pointer (some ⟨q, 0, none⟩)], .func (.func 88) #[] #[.pointer (some ⟨q, 0, none⟩)]] 84)).cell? ⟨w.heap.size, 0, none⟩ = some (Value.int .u8 64) := cell_row HJ3.out.raw 0 _ rfl
  have s1 : (w2.alloc (.cells #[.int .u8 64, .int .i64 2, .func (.func 86) #[] #[.pointer (some ⟨q, 0, none⟩)], .func (.func 88) #[] #[.pointer (some ⟨q, 0, none⟩)]] 84)).cell? ⟨w.heap.size, 1, none⟩ = some (Value.int .u8 2) := cell_row HJ3.out.raw 1 _ rfl
  have s2 : (w2.alloc (.cells #[.int .u8 64, .int .i64 2, .func (.func 86) #[] #[.pointer (some ⟨q, 0, none⟩)], .func (.func 88) #[] #[.pointer (some ⟨q, 0, none⟩)]] 84)).cell? ⟨w.heap.size, 2, none⟩ = some (Value.string ⟨#[2, 1, 0, 0, 0, 1]⟩) := cell_row HJ3.out.raw 2 _ rfl
  have t0 : (w2.alloc (.cells #[.int .u8 64, .int .i64 2, .func (.func 86) #[] #[.pointer (some ⟨q, 0, none⟩)], .func (.func 88) #[] #[.pointer (some ⟨q, 0, none⟩)]] 84)).cell? ⟨w2.heap.size, 0, none⟩ = some (Value.int .u8 64) := cell_row (heap_new _ _) 0 _ rfl
  have t3 := cell_row (heap_new w2 (.cells #[.int .u8 64, .int .i64 2, .func (.func 86) #[] #[.pointer (some ⟨q, 0, none⟩)], .func (.func 88) #[] #[.pointer (some ⟨q, 0, none⟩)]] 84)) 3 _ rfl
  have hq3 : (w2.alloc (.cells #[.int .u8 64, .int .i64 2, .func (.func 86) #[] #[.pointer (some ⟨q, 0, none⟩)], .func (.func 88) #[] #[.pointer (some ⟨q, 0, none⟩)]] 84)).cell? ⟨q, 0, none⟩ = some (.bool true) := c_up hc0
  have ha := and192
  clear hb2 hb3 hb03 HJ HA HB0 r0 r1 r2 hc0
  go_wp2_with fail
  generalize w2.alloc (.cells #[.int .u8 64, .int .i64 2, .func (.func 86) #[] #[.pointer (some ⟨q, 0, none⟩)], .func (.func 88) #[] #[.pointer (some ⟨q, 0, none⟩)]] 84) = w3 at *
  generalize w2.heap.size = g3 at *
  have HLT : Hid (p < w.heap.size) := hp
  have HSZ : Hid (w.heap.size + 1 < w3.heap.size) := (Array.getElem?_eq_some_iff.mp HJ3.out.ver).1
  refine (takePath_yes p q [2, 1, 0, 0, 0, 1] [(2, [1])] true cs x _ HA3.out hcs hq3 (by decide +kernel)).mono ?_
  rintro e w4 ⟨rfl, pv, wq, hbq, hpv, hro, hw4⟩
  have HTK : Hid (Took w3 p 1 pv w4) := ⟨wq, hbq, hw4⟩
  have HBS : Hid (Beside p _ w4) := HTK.out.beside
  have HA4 : Hid (AW w4 p _) := HTK.out.aw HA3.out
  have HPV : Hid (OwnPath w4 w3.heap.size p pv [(2, [1])]) := OwnPath.made hro hw4 HA3.out.lt
  clear hbq hpv hw4 hro
  have HJ4 : Hid (J0 w w4 64 2 ⟨#[2, 1, 0, 0, 0, 1]⟩) := HJ3.out.beside HBS.out hp
  have HBE : Hid (Beside p w w4) := (Beside.of_below HB3.out (Nat.le_refl _)).trans HBS.out
  have u0 : _ = some (Value.int .i64 0) := cell_row HJ4.out.ver 0 _ rfl
  have u1 : _ = some (Value.int .u8 0) := cell_row HJ4.out.ver 1 _ rfl
  have u2 : _ = some (Value.int .u8 0) := cell_row HJ4.out.ver 2 _ rfl
  have g0 : w4.frozen? ⟨w.heap.size + 1, 0, none⟩ = false := frozen_of HJ4.out.ver
  have g1 : w4.frozen? ⟨w.heap.size + 1, 1, none⟩ = false := frozen_of HJ4.out.ver
  have g2 : w4.frozen? ⟨w.heap.size + 1, 2, none⟩ = false := frozen_of HJ4.out.ver
  clear HJ3 HBS s0 s1 s2 t0 t3 hq3
  go_wp2
  have hgot := ver_got HJ4.out.ver (.int .i64 0) (.int .u8 0) (.int .u8 0)
  have k0 := cell_row hgot 0 _ rfl
  have k1 := cell_row hgot 1 _ rfl
  have k2 := cell_row hgot 2 _ rfl
  unfold put3 at k0 k1 k2
  refine bodyPost_ret (v := verd0) (by simp [results, Tryz.results24, go_sem, verd0, k0, k1, k2]) rfl ?_
  exact ⟨rfl, pv, (HPV.out.put3 HSZ.out).at, (HPV.out.put3 HSZ.out).own HB3.out.size, put3_aw HA4.out (by omega) _ _ _, put3_bes HBE.out (by omega) _ _ _⟩
set_option maxRecDepth 100000 in
set_option maxHeartbeats 3200000 in
theorem judge3 (p : Nat) (cs : Array Value) (x : Value) (w : World) (h : AW w p cs) (hcs : cs[2]? = some x) :
    Calls Tryz.prog 24 #[.pointer (some ⟨p, 0, none⟩), .agg #[.int .u8 64, .int .u8 3, .string ⟨#[10, 0, 0, 1]⟩], .bool false, .bool true, .bool true] w fun e w' => e = .returned verd0 ∧ AW w' p (cs.setIfInBounds 2 (.string ⟨#[10, 0, 0, 1]⟩)) ∧ Beside p w w' := by
  have hp := h.lt
  have HJ : Hid (J0 w _ 64 3 ⟨#[10, 0, 0, 1]⟩) := J0.start w 64 3 ⟨#[10, 0, 0, 1]⟩
  have hb0 : Below w.heap.size w ((w.alloc (.cells #[.int .u8 (64 : Nat), .int .u8 (3 : Nat), .string ⟨#[10, 0, 0, 1]⟩] 30)).alloc (.cells #[.int .i64 0, .int .u8 0, .int .u8 0] 41)) := ((Below.refl _ _).alloc (Nat.le_refl _) _).alloc (by simp) _
  have HA : Hid (AW _ _ _) := h.below hb0
  have HB0 : Hid (Below _ _ _) := hb0
  have r0 : _ = some (Value.int .u8 64) := cell_row HJ.out.raw 0 _ rfl
  have r1 : _ = some (Value.int .u8 3) := cell_row HJ.out.raw 1 _ rfl
  have r2 : _ = some (Value.string ⟨#[10, 0, 0, 1]⟩) := cell_row HJ.out.raw 2 _ rfl
  have e64 : ((64 : Nat) : Int) = 64 := rfl
  have e1 : ((3 : Nat) : Int) = 3 := rfl
  rw [e64, e1] at *
  clear h hb0 e64 e1
  go_enter Tryz.func24, Tryz.ntmps24
  go_wp2_with fail
  generalize (w.alloc (.cells #[.int .u8 64, .int .u8 3, .string ⟨#[10, 0, 0, 1]⟩] 30)).alloc (.cells #[.int .i64 0, .int .u8 0, .int .u8 0] 41) = W0 at *
  refine (row3 true W0).mono ?_
  rintro e w2 ⟨rfl, hb2⟩
  have hb3 : Below w2.heap.size w2 (w2.alloc (.cells #[.int .u8 64, .int .i64 2, .func (.func 52) #[] #[], .func (.func 53) #[] #[]] 84)) := (Below.refl _ _).alloc (Nat.le_refl _) _
  have hb03 : Below W0.heap.size W0 (w2.alloc (.cells #[.int .u8 64, .int .i64 2, .func (.func 52) #[] #[], .func (.func 53) #[] #[]] 84)) := hb2.trans (hb3.mono hb2.size)
  have HJ3 : Hid (J0 w (w2.alloc (.cells #[.int .u8 64, .int .i64 2, .func (.func 52) #[] #[], .func (.func 53) #[] #[]] 84)) 64 3 ⟨#[10, 0, 0, 1]⟩) := HJ.out.below hb03
  have HA3 : Hid (AW (w2.alloc (.cells #[.int .u8 64, .int .i64 2, .func (.func 52) #[] #[], .func (.func 53) #[] #[]] 84)) p cs) := HA.out.below hb03
  have HB3 : Hid (Below w.heap.size w (w2.alloc (.cells #[.int .u8 64, .int .i64 2, .func (.func 52) #[] #[], .func (.func 53) #[] #[]] 84))) := HB0.out.trans (hb03.mono HB0.out.size)
  have s0 : (w2.alloc (.cells #[.int .u8 64, .int .i64 2, .func (.func 52) #[] #[], .func (.func 53) #[] #[]] 84)).cell? ⟨w.heap.size, 0, none⟩ = some (Value.int .u8 64) := cell_row HJ3.out.raw 0 _ rfl
  have s1 : (w2.alloc (.cells #[.int .u8 64, .int .i64 2, .func (.func 52) #[] #[], .func (.func 53) #[] #[]] 84)).cell? ⟨w.heap.size, 1, none⟩ = some (Value.int .u8 3) := cell_row HJ3.out.raw 1 _ rfl
  have s2 : (w2.alloc (.cells #[.int .u8 64, .int .i64 2, .func (.func 52) #[] #[], .func (.func 53) #[] #[]] 84)).cell? ⟨w.heap.size, 2, none⟩ = some (Value.string ⟨#[10, 0, 0, 1]⟩) := cell_row HJ3.out.raw 2 _ rfl
  have t0 : (w2.alloc (.cells #[.int .u8 64, .int .i64 2, .func (.func 52) #[] #[], .func (.func 53) #[] #[]] 84)).cell? ⟨w2.heap.size, 0, none⟩ = some (Value.int .u8 64) := cell_row (heap_new _ _) 0 _ rfl
  have t3 := cell_row (heap_new w2 (.cells #[.int .u8 64, .int .i64 2, .func (.func 52) #[] #[], .func (.func 53) #[] #[]] 84)) 3 _ rfl
  have ha := and192
  clear hb2 hb3 hb03 HJ HA HB0 r0 r1 r2 
  go_wp2_with fail
  generalize w2.alloc (.cells #[.int .u8 64, .int .i64 2, .func (.func 52) #[] #[], .func (.func 53) #[] #[]] 84) = w3 at *
  generalize w2.heap.size = g3 at *
  have HLT : Hid (p < w.heap.size) := hp
  refine (takeNext4 p ⟨#[10, 0, 0, 1]⟩ cs x _ HA3.out hcs (by rfl)).mono ?_
  rintro e w4 ⟨rfl, htk⟩
  have HBS : Hid (Beside p _ w4) := htk.beside
  have HA4 : Hid (AW w4 p _) := htk.aw HA3.out
  clear htk
  have HJ4 : Hid (J0 w w4 64 3 ⟨#[10, 0, 0, 1]⟩) := HJ3.out.beside HBS.out hp
  have HBE : Hid (Beside p w w4) := (Beside.of_below HB3.out (Nat.le_refl _)).trans HBS.out
  have u0 : _ = some (Value.int .i64 0) := cell_row HJ4.out.ver 0 _ rfl
  have u1 : _ = some (Value.int .u8 0) := cell_row HJ4.out.ver 1 _ rfl
  have u2 : _ = some (Value.int .u8 0) := cell_row HJ4.out.ver 2 _ rfl
  have g0 : w4.frozen? ⟨w.heap.size + 1, 0, none⟩ = false := frozen_of HJ4.out.ver
  have g1 : w4.frozen? ⟨w.heap.size + 1, 1, none⟩ = false := frozen_of HJ4.out.ver
  have g2 : w4.frozen? ⟨w.heap.size + 1, 2, none⟩ = false := frozen_of HJ4.out.ver
  clear HJ3 HBS s0 s1 s2 t0 t3 
  go_wp2
  have hgot := ver_got HJ4.out.ver (.int .i64 0) (.int .u8 0) (.int .u8 0)
  have k0 := cell_row hgot 0 _ rfl
  have k1 := cell_row hgot 1 _ rfl
  have k2 := cell_row hgot 2 _ rfl
  unfold put3 at k0 k1 k2
  refine bodyPost_ret (v := verd0) (by simp [results, Tryz.results24, go_sem, verd0, k0, k1, k2]) rfl ?_
  exact ⟨rfl, put3_aw HA4.out (by omega) _ _ _, put3_bes HBE.out (by omega) _ _ _⟩
end Go.Proofs.YtpahnebhcfpplabGreatDoor
