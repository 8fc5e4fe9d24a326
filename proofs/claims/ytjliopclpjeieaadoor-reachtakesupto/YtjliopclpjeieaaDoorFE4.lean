/-
  Values read: what is ahead of the list.
-/
import Derived.Test.YtjliopclpjeieaaDoorFE3
namespace Go.Proofs.YtjliopclpjeieaaDoor
open Go.RowKit
theorem fm_isF {x y : Int} (h : fmN x y ≠ 0) : isF (fmN x y) = true := by
  unfold fmN at *
  repeat' split
  all_goals first | rfl | skip
  exfalso
  apply h
  simp [*]
/-- All but two blocks are as they were. -/
structure Two (p q : Nat) (w w' : World) : Prop where
  os : w'.os = w.os
  tape : w'.tape = w.tape
  output : w'.output = w.output
  size : w.heap.size ≤ w'.heap.size
  block : ∀ k, k < w.heap.size → k ≠ p → k ≠ q → w'.heap[k]? = w.heap[k]?
theorem Two.of_beside {p q : Nat} {w w' : World} (h : Beside p w w') : Two p q w w' := ⟨h.os, h.tape, h.output, h.size, fun k hk hp _ => h.block k hk hp⟩
theorem Two.beside {p q : Nat} {a b c : World} (h : Beside q a b) (k : Two p q b c) (hp : a.heap.size ≤ p) : Beside q a c :=
  ⟨k.os.trans h.os, k.tape.trans h.tape, k.output.trans h.output, Nat.le_trans h.size k.size, fun j hj hq => (k.block j (Nat.lt_of_lt_of_le hj h.size) (by omega) hq).trans (h.block j hj hq)⟩
/-- A text in a box. -/
def Slot (w : World) (b : Nat) (x : List UInt8) : Prop := w.heap[b]? = some (.cells #[.string ⟨x.toArray⟩] 9 (0, 0))
theorem Slot.lt {w : World} {b : Nat} {x : List UInt8} (h : Slot w b x) : b < w.heap.size := (Array.getElem?_eq_some_iff.mp h).1
theorem Slot.beside {w w' : World} {b p : Nat} {x : List UInt8} (h : Slot w b x) (hb : Beside p w w') (hp : b ≠ p) : Slot w' b x := (hb.block b h.lt hp).trans h
theorem Slot.below {w w' : World} {b : Nat} {x : List UInt8} (h : Slot w b x) (hb : Below w.heap.size w w') : Slot w' b x := (hb.block b h.lt).trans h
theorem Slot.set {w : World} {b : Nat} {x : List UInt8} (h : Slot w b x) (y : List UInt8) : Slot (w.setCell ⟨b, 0, none⟩ (.string ⟨y.toArray⟩)) b y := heap_setCell_same w b 0 #[.string ⟨x.toArray⟩] 9 _ h
def hopF (f : Int) (l : List UInt8) : List UInt8 := nxI (szOf f).toNat (ahL f) (twB f) l
def okF (f : Int) (l : List UInt8) : Bool := okN (szOf f).toNat (ahL f) (twB f) l
theorem sz_nat (f : Int) : szOf f = ((szOf f).toNat : Int) ∧ (szOf f).toNat ≤ 16 := by
  have := szOf_bd f
  omega
def PassOk (ok : Bool) (N r : List UInt8) (p nb : Nat) (w : World) (e : Ending) (w' : World) : Prop :=
  e = .returned (.bool ok) ∧ (ok = true → RdrAt w' p ⟨r.toArray⟩) ∧ Slot w' nb (if ok then N else []) ∧ Two p nb w w'
set_option maxHeartbeats 1600000 in
theorem pass_any (f : Int) (p nb : Nat) (x l : List UInt8) (w : World) (hr : RdrAt w p ⟨l.toArray⟩) (hs : Slot w nb x) (hne : nb ≠ p) :
    Calls Tryd.prog 39 #[.pointer (some ⟨p, 0, none⟩), fam5 f, .pointer (some ⟨nb, 0, none⟩)] w fun e w' => PassOk (okF f l) (hopF f l) (l.drop (cntI l + 2)) p nb w e w' := by
  obtain ⟨hz, hz16⟩ := sz_nat f
  have HK : Hid (∀ W, RdrAt W p ⟨l.toArray⟩ → Calls Tryd.prog 40 #[.agg #[.int .u16 (afN f), .int .u8 (sfN f), .int .i64 (szOf f), .string (ahB f), .bool (twB f)], .pointer (some ⟨p, 0, none⟩)] W fun e w' => NextOk (okF f l) (hopF f l) p (l.drop (cntI l + 2)) W e w') := fun W hW => by
    have := takeNext_any (afN f) (sfN f) (szOf f).toNat (ahL f) (twB f) p l W hW hz16
    rw [← hz] at this
    exact this
  unfold fam5
  have hb : Below w.heap.size w (w.alloc (.cells #[.int .u16 (afN f), .int .u8 (sfN f), .int .i64 (szOf f), .string (ahB f), .bool (twB f)] 55)) := (Below.refl _ _).alloc (Nat.le_refl _) _
  have HR : Hid (RdrAt (w.alloc (.cells #[.int .u16 (afN f), .int .u8 (sfN f), .int .i64 (szOf f), .string (ahB f), .bool (twB f)] 55)) p _) := hr.kept hb hr.lt
  have HS : Hid (Slot (w.alloc (.cells #[.int .u16 (afN f), .int .u8 (sfN f), .int .i64 (szOf f), .string (ahB f), .bool (twB f)] 55)) nb x) := hs.below hb
  have HB : Hid (Beside p w (w.alloc (.cells #[.int .u16 (afN f), .int .u8 (sfN f), .int .i64 (szOf f), .string (ahB f), .bool (twB f)] 55))) := Beside.of_below hb (Nat.le_refl _)
  have HNE : Hid (nb ≠ p) := hne
  clear hr hs hb hz hz16 hne
  generalize okF f l = ok at *
  go_enter Tryd.func39, Tryd.ntmps39
  go_wp2_with fail
  refine Calls.mono (HK.out _ HR.out) ?_
  rintro e w1 ⟨he, h1, hb1⟩
  obtain ⟨N, hN⟩ : ∃ N, N = if ok = true then hopF f l else [] := ⟨_, rfl⟩
  rw [← hN] at he
  subst he
  have HN : Hid (_ = _) := hN
  clear hN
  have HB1 : Hid (Beside p w w1) := HB.out.trans hb1
  have HS1 : Hid (Slot w1 nb x) := HS.out.beside hb1 HNE.out
  have H1 : Hid (_ → _) := h1
  have c0 : w1.cell? ⟨nb, 0, none⟩ = some (.string ⟨x.toArray⟩) := cl_row (i := 0) HS1.out rfl
  have z0 : w1.frozen? ⟨nb, 0, none⟩ = false := fz_row (i := 0) HS1.out
  clear h1 hb1 HB HR HS
  go_wp2
  go_ret
  unfold PassOk
  rw [← HN.out]
  refine ⟨rfl, fun h => (H1.out h).set_other _ _ HNE.out, HS1.out.set _, ?_⟩
  have hk := HB1.out
  have h2 := (Below.refl 0 w1).setCell (p := ⟨nb, 0, none⟩) (by simp) (.string ⟨N.toArray⟩)
  refine ⟨h2.os.trans hk.os, h2.tape.trans hk.tape, h2.output.trans hk.output, Nat.le_trans hk.size h2.size, fun k hk1 hk2 hk3 => ?_⟩
  rw [Below.heap_setCell w1 ⟨nb, 0, none⟩ _ k hk3]
  exact hk.block k hk1 hk2
set_option maxHeartbeats 1600000 in
theorem passG_any (v : Value) (f : Int) (w : World) :
    Calls Tryd.prog 44 #[v, fam5 f] w fun e w' => e = .returned (.bool true) ∧ Below w.heap.size w w' := by
  unfold fam5
  go_enter Tryd.func44, Tryd.ntmps44
  go_wp2
  go_ret
  exact ⟨rfl, (Below.refl _ _).alloc (Nat.le_refl _) _⟩
/-- The list behind, with ids where the families with ids have the family. -/
def lstI (f : Int) (adds : List Int) (r : List UInt8) : Option (List Nl) := decI f (decide (f ∈ adds)) r.length r
/-- What a gone's value is read as. -/
def tgI (adds : List Int) (l : List UInt8) : Except Int (Int × List Nl) :=
  if l.length < 3 then .error 4 else if tpF l = 0 then .error 5 else match lstI (tpF l) adds (l.drop 3) with | none => .error 4 | some R => .ok (tpF l, R)
/-- What a reach's value is read as. -/
def tkI (adds : List Int) (l : List UInt8) : Except Int (Int × List UInt8 × List Nl) :=
  if l.length < 3 then .error 4 else if tpF l = 0 then .error 5 else if okF (tpF l) (l.drop 3) then (match lstI (tpF l) adds ((l.drop 3).drop (cntI (l.drop 3) + 2)) with | none => .error 4 | some R => .ok (tpF l, hopF (tpF l) (l.drop 3), R)) else .error 4
end Go.Proofs.YtjliopclpjeieaaDoor
