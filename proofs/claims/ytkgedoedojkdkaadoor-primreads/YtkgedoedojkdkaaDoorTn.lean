/-
  A number read: ParseUint to the bases 10 and 16 of every text, and readNumber.
-/
import Derived.Test.YtkgedoedojkdkaaDoorTu
import Derived.Test.YtkgedoedojkdkaaDoorTh
import Derived.Test.YtkgedoedojkdkaaDoorB20
import Derived.Shelf.Pu.ParseUintPublic10
import Derived.Shelf.Pu.ErrVarParseUint
set_option linter.unusedVariables false
set_option linter.unusedSimpArgs false
set_option maxRecDepth 100000
namespace Go.Proofs.YtkgedoedojkdkaaDoor
open Go.RowKit
theorem errSyn {w : World} (h : ErrsAt w) : ∃ te pe, w.cell? ⟨6, 0, none⟩ = some (.iface te pe) := by
  obtain ⟨⟨a, b, t, fr, h1⟩, _⟩ := h
  exact ⟨a, b, by simp [World.cell?, h1]⟩
theorem errRng {w : World} (h : ErrsAt w) : ∃ te pe, w.cell? ⟨7, 0, none⟩ = some (.iface te pe) := by
  obtain ⟨_, ⟨a, b, t, fr, h1⟩⟩ := h
  exact ⟨a, b, by simp [World.cell?, h1]⟩
def IsErr (e : Ending) : Prop := ∃ t p, e = .returned (.iface t p)
set_option maxHeartbeats 2000000 in
theorem toErr_syn (fn s : ByteArray) (base bits : Int) (w : World) (hs : s.size ≤ 281474976710656) (hE : ErrsAt w) :
    Calls Tryd.prog 82 #[.string fn, .string s, .int .i64 base, .int .i64 bits, .iface 114 (.int .i64 2)] w fun e w' => IsErr e ∧ Below w.heap.size w w' := by
  have heq : ∀ W, (binOp .eql 93 (.iface 114 (.int .i64 2)) (.iface 114 (.int .i64 2))).run Tryd.prog W = .ok (.bool true) W := fun W => by kernel_rfl
  obtain ⟨te, pe, hv⟩ := errSyn hE
  have HC : Hid (_ : Prop) := show Calls Tryd.prog 96 #[.string fn, .string s] w _ from AnyPu.strconv_syntaxError { Tryd.laysPu14 with } fn s (.iface te pe) w hs hv (Or.inr ⟨te, pe, rfl⟩)
  clear hE hv
  go_enter Tryd.func82, Tryd.ntmps82
  go_wp2_with fail
  refine Calls.mono HC.out ?_
  rintro e w2 ⟨N, rfl, h1, h2, h3⟩
  go_wp2
  go_ret
  exact ⟨⟨_, _, rfl⟩, h3⟩
set_option maxHeartbeats 2000000 in
theorem toErr_rng (fn s : ByteArray) (base bits : Int) (w : World) (hs : s.size ≤ 281474976710656) (hE : ErrsAt w) :
    Calls Tryd.prog 82 #[.string fn, .string s, .int .i64 base, .int .i64 bits, .iface 114 (.int .i64 1)] w fun e w' => IsErr e ∧ Below w.heap.size w w' := by
  have heq : ∀ W, (binOp .eql 93 (.iface 114 (.int .i64 1)) (.iface 114 (.int .i64 2))).run Tryd.prog W = .ok (.bool false) W := fun W => by kernel_rfl
  have heq2 : ∀ W, (binOp .eql 93 (.iface 114 (.int .i64 1)) (.iface 114 (.int .i64 1))).run Tryd.prog W = .ok (.bool true) W := fun W => by kernel_rfl
  obtain ⟨te, pe, hv⟩ := errRng hE
  have HC : Hid (_ : Prop) := show Calls Tryd.prog 97 #[.string fn, .string s] w _ from AnyPu.strconv_rangeError { Tryd.laysPu14 with } fn s (.iface te pe) w hs hv (Or.inr ⟨te, pe, rfl⟩)
  clear hE hv
  go_enter Tryd.func82, Tryd.ntmps82
  go_wp2_with fail
  refine Calls.mono HC.out ?_
  rintro e w2 ⟨N, rfl, h1, h2, h3⟩
  go_wp2
  go_ret
  exact ⟨⟨_, _, rfl⟩, h3⟩
/-- What ParseUint answers. -/
def PuOk (o : Option Nat) (e : Ending) : Prop := match o with
  | some n => e = .returned (.tuple #[.int .u64 (n : Int), .nilIface])
  | none => ∃ v t p, e = .returned (.tuple #[.int .u64 v, .iface t p])
def o10 (bits : Nat) (l : List UInt8) : Option Nat := match Lib.parseUintB bits l with
  | .ok u => some u
  | _ => none
def o16 (l : List UInt8) : Option Nat := if l = [] then none else p16 0 l
theorem below_bw (w : World) (s : ByteArray) : Below w.heap.size w (Lib.bytesWorld w 5 s) := below_bytesWorld w s
theorem pu10_64 (s : ByteArray) (hs : s.size ≤ 281474976710656) (w : World) (hE : ErrsAt w) :
    Calls Tryd.prog 70 #[.string s, .int .i64 10, .int .i64 64] w fun e w' => PuOk (o10 64 s.data.toList) e ∧ Below w.heap.size w w' := by
  obtain ⟨⟨t1, p1, ty1, fr1, h1⟩, ⟨t2, p2, ty2, fr2, h2⟩⟩ := hE
  unfold o10
  cases hp : Lib.parseUintB 64 s.data.toList
  · exact (show Calls Tryd.prog 70 _ _ _ from Any.strconv_ParseUint_10_at64_ok Tryd.laysPu14 s (by omega) _ hp w).mono fun _ _ ⟨h3, h4⟩ => ⟨h3, by rcases h4 with rfl | rfl; exact Below.refl _ _; exact below_bw w s⟩
  · exact (show Calls Tryd.prog 70 _ _ _ from Any.strconv_ParseUint_10_at64_syntax_var Tryd.laysPu14 s hs hp t1 p1 w (var_at (by kernel_rfl) h1)).mono fun _ _ ⟨N, h3, _, _, h4⟩ => ⟨⟨_, _, _, h3⟩, h4⟩
  · exact (show Calls Tryd.prog 70 _ _ _ from Any.strconv_ParseUint_10_at64_range_var Tryd.laysPu14 s hs hp t2 p2 w (var_at (by kernel_rfl) h2)).mono fun _ _ ⟨N, h3, _, _, h4⟩ => ⟨⟨_, _, _, h3⟩, h4⟩
theorem pu10_8 (s : ByteArray) (hs : s.size ≤ 281474976710656) (w : World) (hE : ErrsAt w) :
    Calls Tryd.prog 70 #[.string s, .int .i64 10, .int .i64 8] w fun e w' => PuOk (o10 8 s.data.toList) e ∧ Below w.heap.size w w' := by
  obtain ⟨⟨t1, p1, ty1, fr1, h1⟩, ⟨t2, p2, ty2, fr2, h2⟩⟩ := hE
  unfold o10
  cases hp : Lib.parseUintB 8 s.data.toList
  · exact (show Calls Tryd.prog 70 _ _ _ from Any.strconv_ParseUint_10_at8_ok Tryd.laysPu14 s (by omega) _ hp w).mono fun _ _ ⟨h3, h4⟩ => ⟨h3, by rcases h4 with rfl | rfl; exact Below.refl _ _; exact below_bw w s⟩
  · exact (show Calls Tryd.prog 70 _ _ _ from Any.strconv_ParseUint_10_at8_syntax_var Tryd.laysPu14 s hs hp t1 p1 w (var_at (by kernel_rfl) h1)).mono fun _ _ ⟨N, h3, _, _, h4⟩ => ⟨⟨_, _, _, h3⟩, h4⟩
  · exact (show Calls Tryd.prog 70 _ _ _ from Any.strconv_ParseUint_10_at8_range_var Tryd.laysPu14 s hs hp t2 p2 w (var_at (by kernel_rfl) h2)).mono fun _ _ ⟨N, h3, _, _, h4⟩ => ⟨⟨_, _, _, h3⟩, h4⟩
set_option maxHeartbeats 2000000 in
theorem ipu16_none (w : World) : Calls Tryd.prog 81 #[.string ⟨#[]⟩, .int .i64 16, .int .i64 16] w fun e w' => e = .returned (.tuple #[.int .u64 0, .iface 114 (.int .i64 2)]) ∧ w' = w := by
  go_enter Tryd.func81, Tryd.ntmps81
  go_wp2
  go_ret2
  exact ⟨rfl, rfl⟩
/-- The inner ParseUint of every text. -/
theorem ipu16_any (s : ByteArray) (hs : s.size ≤ 281474976710656) (w : World) :
    Calls Tryd.prog 81 #[.string s, .int .i64 16, .int .i64 16] w fun e w' => PuI (o16 s.data.toList) e ∧ Below w.heap.size w w' := by
  by_cases h0 : s.size = 0
  · have hs0 : s = ⟨#[]⟩ := by
      apply ByteArray.ext
      exact Array.eq_empty_of_size_eq_zero h0
    subst hs0
    exact (ipu16_none w).mono fun e w' ⟨he, hw⟩ => ⟨by rw [he]; exact Or.inl rfl, by rw [hw]; exact Below.refl _ _⟩
  · have hne : s.data.toList ≠ [] := fun h => h0 (by rw [Lib.size_eq, h]; rfl)
    refine (ipu16 s h0 (by omega) w).mono fun e w' ⟨he, hw⟩ => ⟨?_, by rw [hw]; exact below_bw w s⟩
    unfold o16; rw [if_neg hne]; exact he
set_option maxHeartbeats 2000000 in
theorem pu16 (s : ByteArray) (hs : s.size ≤ 281474976710656) (w : World) (hE : ErrsAt w) :
    Calls Tryd.prog 70 #[.string s, .int .i64 16, .int .i64 16] w fun e w' => PuOk (o16 s.data.toList) e ∧ Below w.heap.size w w' := by
  have HI : Hid (∀ W, _) := fun W => ipu16_any s hs W
  have HS : Hid (∀ W, ErrsAt W → _) := fun W h => toErr_syn ⟨#[80, 97, 114, 115, 101, 85, 105, 110, 116]⟩ s 16 16 W hs h
  have HR : Hid (∀ W, ErrsAt W → _) := fun W h => toErr_rng ⟨#[80, 97, 114, 115, 101, 85, 105, 110, 116]⟩ s 16 16 W hs h
  have HE : Hid (ErrsAt w) := hE
  clear hE
  generalize o16 s.data.toList = o at *
  go_enter Tryd.func70, Tryd.ntmps70
  go_wp2_with fail
  refine (HI.out _).mono ?_
  rintro e w1 ⟨he, hb1⟩
  have HB : Hid (Below w.heap.size w w1) := hb1
  have HE1 : Hid (ErrsAt w1) := HE.out.below hb1
  clear hb1
  cases o with
  | some n =>
    obtain rfl := he
    go_wp2
    go_ret2
    exact ⟨rfl, HB.out⟩
  | none =>
    rcases he with rfl | rfl
    · go_wp2_with fail
      refine (HS.out _ HE1.out).mono ?_
      rintro e w2 ⟨⟨t, p, rfl⟩, hb2⟩
      go_wp2
      go_ret2
      exact ⟨⟨_, _, _, rfl⟩, HB.out.trans (hb2.mono HB.out.size)⟩
    · go_wp2_with fail
      refine (HR.out _ HE1.out).mono ?_
      rintro e w2 ⟨⟨t, p, rfl⟩, hb2⟩
      go_wp2
      go_ret2
      exact ⟨⟨_, _, _, rfl⟩, HB.out.trans (hb2.mono HB.out.size)⟩
end Go.Proofs.YtkgedoedojkdkaaDoor
