/-
  ReadRefresh and the reference's.
-/
import Derived.Test.YtkaghjohkhlimabDoorMI
namespace Go.Proofs.YtkaghjohkhlimabDoor
open Go.RowKit
/-- What ReadRefresh answers. -/
def rrA (l : List UInt8) : Value :=
  match l with
  | [a, b, _, s] => if fmN ((a.toNat * 256 + b.toNat : Nat) : Int) (s.toNat : Int) = 0 then .tuple #[.int .i64 0, .int .i64 5] else .tuple #[.int .i64 (fmN ((a.toNat * 256 + b.toNat : Nat) : Int) (s.toNat : Int)), .int .i64 0]
  | _ => .tuple #[.int .i64 0, .int .i64 4]
theorem rrA_no {l : List UInt8} (h : l.length ≠ 4) : rrA l = .tuple #[.int .i64 0, .int .i64 4] := by
  unfold rrA
  split
  · simp at h
  · rfl
theorem four_of {l : List UInt8} (h : l.length = 4) : ∃ a b c s, l = [a, b, c, s] := by
  match l, h with
  | [a, b, c, s], _ => exact ⟨a, b, c, s, rfl⟩
theorem rr_no (l : List UInt8) (h : l.length ≠ 4) (w : World) : Calls Tryd.prog 9 #[.string ⟨l.toArray⟩] w fun e w' => e = .returned (rrA l) ∧ w' = w := by
  have hsz : (⟨l.toArray⟩ : ByteArray).size = l.length := rfl
  rw [rrA_no h]
  have g : ((l.length : Int) != 4) = true := by simp; omega
  clear h
  go_enter Tryd.func9, Tryd.ntmps9
  go_wp2
  go_ret2
  exact ⟨rfl, rfl⟩
/-- A reader that was just made. -/
structure RR (w wr : World) (l : List UInt8) : Prop where
  rd : RdrAt wr w.heap.size ⟨l.toArray⟩
  bel : Below w.heap.size w wr
theorem RR.next {w wr w' : World} {l l' : List UInt8} (h : RR w wr l) (hr : RdrAt w' w.heap.size ⟨l'.toArray⟩) (hb : Beside w.heap.size wr w') : RR w w' l' :=
  ⟨hr, h.bel.trans (hb.below (Nat.le_refl _) h.bel.size)⟩
theorem worth2 (a b : UInt8) : worth [a, b] = a.toNat * 256 + b.toNat := by simp [worth]
theorem rr_yes (a b c s : UInt8) (w : World) (hg : FamSizes w) : Calls Tryd.prog 9 #[.string ⟨[a, b, c, s].toArray⟩] w fun e w' => e = .returned (rrA [a, b, c, s]) ∧ Below w.heap.size w w' := by
  have hsz : (⟨[a, b, c, s].toArray⟩ : ByteArray).size = 4 := rfl
  have KN : Hid (_ : Prop) := new_any ⟨[a, b, c, s].toArray⟩ w
  have KA : Hid (∀ X, RdrAt X w.heap.size ⟨[a, b, c, s].toArray⟩ → Calls Tryd.prog 16 #[.pointer (some ⟨w.heap.size, 0, none⟩), .int .i64 2] X fun e w' => e = .returned (.tuple #[.int .u64 ((a.toNat * 256 + b.toNat : Nat) : Int), .bool true]) ∧ RdrAt w' w.heap.size ⟨[c, s].toArray⟩ ∧ Beside w.heap.size X w') := fun X h => by
    have := num_l w.heap.size [a, b, c, s] 2 X h (by omega) (by omega) (by simp)
    rw [← worth2]
    exact this
  have KB : Hid (∀ X, RdrAt X w.heap.size ⟨[c, s].toArray⟩ → Calls Tryd.prog 19 #[.pointer (some ⟨w.heap.size, 0, none⟩), .int .i64 1] X fun e w' => e = .returned (.tuple #[.string ⟨[c].toArray⟩, .bool true]) ∧ RdrAt w' w.heap.size ⟨[s].toArray⟩ ∧ Beside w.heap.size X w') := fun X h => by
    refine (take_yes w.heap.size ⟨[c, s].toArray⟩ 1 X h (by show 1 ≤ 2; omega)).mono ?_
    rintro e w1 ⟨rfl, rfl⟩
    exact ⟨rfl, h.set _, Beside.set _ _ _⟩
  have KC : Hid (∀ X, RdrAt X w.heap.size ⟨[s].toArray⟩ → Calls Tryd.prog 16 #[.pointer (some ⟨w.heap.size, 0, none⟩), .int .i64 1] X fun e w' => e = .returned (.tuple #[.int .u64 (s.toNat : Int), .bool true]) ∧ RdrAt w' w.heap.size ⟨([] : List UInt8).toArray⟩ ∧ Beside w.heap.size X w') := fun X h => by
    have := num_l w.heap.size [s] 1 X h (by omega) (by omega) (by simp)
    rw [← worth1]
    exact this
  have HG : Hid (FamSizes w) := hg
  have ha := a.toNat_lt
  have hb := b.toNat_lt
  have hs := s.toNat_lt
  have g1 : IntKind.u16.wrap ((a.toNat * 256 + b.toNat : Nat) : Int) = ((a.toNat * 256 + b.toNat : Nat) : Int) := by simp [IntKind.wrap, IntKind.signed, IntKind.bits]; omega
  have g2 : IntKind.u8.wrap (s.toNat : Int) = (s.toNat : Int) := by simp [IntKind.wrap, IntKind.signed, IntKind.bits]; omega
  have hR : rrA [a, b, c, s] = if fmN ((a.toNat * 256 + b.toNat : Nat) : Int) (s.toNat : Int) = 0 then .tuple #[.int .i64 0, .int .i64 5] else .tuple #[.int .i64 (fmN ((a.toNat * 256 + b.toNat : Nat) : Int) (s.toNat : Int)), .int .i64 0] := rfl
  generalize rrA [a, b, c, s] = R at *
  have HR : Hid (R = _) := hR
  generalize (⟨[a, b, c, s].toArray⟩ : ByteArray) = S at *
  generalize a.toNat * 256 + b.toNat = x at *
  generalize s.toNat = y at *
  clear ha hb hs hR hg
  go_enter Tryd.func9, Tryd.ntmps9
  go_wp2_with fail
  refine Calls.mono KN.out ?_
  rintro e w1 ⟨rfl, hr1, hb1, -⟩
  have HB1 : Hid (RdrAt w1 w.heap.size S ∧ Below w.heap.size w w1) := ⟨hr1, hb1⟩
  clear hr1 hb1 KN
  go_wp2_with fail
  refine Calls.mono (KA.out w1 HB1.out.1) ?_
  rintro e w2 ⟨rfl, hr2, hb2⟩
  have HB2 : Hid (RR w w2 [c, s]) := ⟨hr2, HB1.out.2.trans (hb2.below (Nat.le_refl _) HB1.out.2.size)⟩
  clear hr2 hb2 KA
  go_wp2_with fail
  refine Calls.mono (KB.out w2 HB2.out.rd) ?_
  rintro e w3 ⟨rfl, hr3, hb3⟩
  have HB3 : Hid (RR w w3 [s]) := HB2.out.next hr3 hb3
  clear hr3 hb3 KB
  go_wp2_with fail
  refine Calls.mono (KC.out w3 HB3.out.rd) ?_
  rintro e w4 ⟨rfl, hr4, hb4⟩
  have HB4 : Hid (RR w w4 []) := HB3.out.next hr4 hb4
  clear hr4 hb4 KC
  go_wp2_with fail
  refine Calls.mono (fam_any (x : Int) (y : Int) w4 (HG.out.below HB4.out.bel)) ?_
  rintro e w5 ⟨rfl, hb5⟩
  have HB5 : Hid (Below w.heap.size w w5) := HB4.out.bel.trans (hb5.mono HB4.out.bel.size)
  clear hb5
  by_cases hz : fmN (x : Int) (y : Int) = 0
  · have HE := HR.out
    rw [if_pos hz] at HE
    have HE2 : Hid (R = _) := HE
    clear HE
    rw [hz]
    go_wp2
    go_ret2
    exact ⟨by rw [HE2.out]; rfl, HB5.out⟩
  · have HE := HR.out
    rw [if_neg hz] at HE
    have HE2 : Hid (R = _) := HE
    have hz2 : (fmN (x : Int) (y : Int) == 0) = false := beq_eq_false_iff_ne.2 hz
    clear HE HR hz
    generalize fmN (x : Int) (y : Int) = f at *
    go_wp2
    go_ret2
    exact ⟨by rw [HE2.out]; rfl, HB5.out⟩
theorem rr_any (l : List UInt8) (w : World) (hg : FamSizes w) : Calls Tryd.prog 9 #[.string ⟨l.toArray⟩] w fun e w' => e = .returned (rrA l) ∧ Below w.heap.size w w' := by
  by_cases h : l.length = 4
  · obtain ⟨a, b, c, s, rfl⟩ := four_of h
    exact rr_yes a b c s w hg
  · refine (rr_no l h w).mono ?_
    rintro e w' ⟨rfl, rfl⟩
    exact ⟨rfl, Below.refl _ _⟩
end Go.Proofs.YtkaghjohkhlimabDoor
