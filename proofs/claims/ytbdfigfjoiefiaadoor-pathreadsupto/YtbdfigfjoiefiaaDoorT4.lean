/-
  Decode.
-/
import Derived.Test.YtbdfigfjoiefiaaDoorT3
import Derived.Test.YtbdfigfjoiefiaaDoorG1
namespace Go.Proofs.YtbdfigfjoiefiaaDoor
open Go.RowKit
/-- What Decode and Parse answer. -/
def PathOk (x : Option (List Sg)) (w : World) (e : Ending) (w' : World) : Prop :=
  Below w.heap.size w w' ∧ match x with
    | some L => ∃ v R, e = .returned (.tuple #[v, .int .i64 0]) ∧ sgs R = L ∧ OwnS w' w.heap.size v R
    | none => e = .returned (.tuple #[.slice none 0 0, .int .i64 4])
theorem inBytes_any (p : Nat) (sz : Nat) (l : List UInt8) (w : World) (h : RdrAt w p ⟨l.toArray⟩) :
    Calls Tryd.prog 59 #[.pointer (some ⟨p, 0, none⟩), .int .i64 (sz : Int)] w fun e w' => e = .returned (.func (.func 75) #[] #[.pointer (some ⟨w.heap.size, 0, none⟩), .pointer (some ⟨w.heap.size + 1, 0, none⟩)]) ∧ ClAt w' p w.heap.size (w.heap.size + 1) sz ∧ RdrAt w' p ⟨l.toArray⟩ ∧ Below w.heap.size w w' := by
  have hp := h.lt
  go_enter Tryd.func59, Tryd.ntmps59
  go_wp2
  go_ret
  have hb : ∀ o o', Below w.heap.size w ((w.alloc o).alloc o') := fun o o' => ((Below.refl _ _).alloc (Nat.le_refl _) o).alloc (by simp) o'
  refine ⟨by simp, ⟨by simp, by simp, by omega, by omega⟩, h.kept (hb _ _) hp, hb _ _⟩
set_option maxRecDepth 100000 in
theorem decode_x (l : List UInt8) (four : Bool) (w : World) (X : Option (List Sg)) (hX : decI (szN four) 16 l = X) :
    Calls Tryd.prog 33 #[.string ⟨l.toArray⟩, .bool four] w fun e w' => PathOk X w e w' := by
  have HX : Hid (_ = _) := hX
  clear hX
  go_enter Tryd.func33, Tryd.ntmps33
  go_wp2_with fail
  refine (new_any ⟨l.toArray⟩ w).mono ?_
  rintro e w1 ⟨rfl, hr1, hb1, hs1⟩
  have HR1 : Hid (RdrAt _ _ _) := hr1
  have HB1 : Hid (Below _ _ _) := hb1
  have HS1 : Hid (w1.heap.size = w.heap.size + 1) := hs1
  clear hr1 hb1 hs1
  go_wp2_with fail
  refine (sizeOf_any four w1).mono ?_
  rintro e w2 ⟨rfl, hw⟩
  obtain rfl : w1 = w2 := hw.symm
  clear hw
  have hz : 1 ≤ szN four ∧ szN four ≤ 4 := by cases four <;> decide
  go_wp2_with fail
  refine (inBytes_any _ (szN four) l w1 HR1.out).mono ?_
  rintro e w3 ⟨rfl, hc3, hr3, hb3⟩
  have HC3 : Hid (ClAt _ _ _ _ _) := hc3
  have HR3 : Hid (RdrAt _ _ _) := hr3
  have HB3 : Hid (Below w.heap.size w w3) := HB1.out.trans (hb3.mono (by have := HS1.out; omega))
  clear hc3 hr3 hb3 HB1 HR1
  have key := gather_any w.heap.size _ _ (szN four) l w3 HC3.out HR3.out hz.1 hz.2
  rw [HX.out] at key
  have KEY : Hid (Calls _ _ _ _ _) := key
  clear key HX
  go_wp2_with fail
  refine KEY.out.mono ?_
  rintro e w4 ⟨hb4, hx⟩
  have HB4 : Hid (Below w.heap.size w w4) := HB3.out.trans (hb4.below (Nat.le_refl _) HB3.out.size)
  have h3 := HB3.out.size
  clear KEY
  cases X with
  | some L =>
    obtain ⟨v, R, rfl, hR, ho⟩ := hx
    have HO : Hid (OwnS w4 w.heap.size v R) := ho.mono h3
    have HRR : Hid (sgs R = L) := hR
    clear hb4 ho hR
    go_wp2
    go_ret2
    exact ⟨HB4.out, _, R, rfl, HRR.out, HO.out⟩
  | none =>
    obtain rfl := hx
    clear hb4
    go_wp2
    go_ret2
    exact ⟨HB4.out, rfl⟩
theorem decode_any (l : List UInt8) (four : Bool) (w : World) : Calls Tryd.prog 33 #[.string ⟨l.toArray⟩, .bool four] w fun e w' => PathOk (decI (szN four) 16 l) w e w' := decode_x l four w _ rfl
end Go.Proofs.YtbdfigfjoiefiaaDoor
