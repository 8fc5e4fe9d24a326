/-
  A community's text.
-/
import Derived.Test.YthaebbmekonacaaGreatDoorAT
import Derived.Laws.BitsAllLaws
set_option linter.unusedVariables false
set_option linter.unusedSimpArgs false
set_option maxRecDepth 100000
namespace Go.Proofs.YthaebbmekonacaaGreatDoor
open Go.RowKit
def comCells : Array Value := #[.int .u32 4294967041, .string ⟨#[110, 111, 45, 101, 120, 112, 111, 114, 116]⟩, .int .u32 4294967042, .string ⟨#[110, 111, 45, 97, 100, 118, 101, 114, 116, 105, 115, 101]⟩, .int .u32 4294967043, .string ⟨#[110, 111, 45, 101, 120, 112, 111, 114, 116, 45, 115, 117, 98, 99, 111, 110, 102, 101, 100]⟩]
def ComAt (w : World) : Prop := ∃ t fr, w.heap[2]? = some (.cells comCells t fr)
theorem ComAt.below {w w' : World} (h : ComAt w) (hb : Below w.heap.size w w') : ComAt w' := by
  obtain ⟨t, fr, h⟩ := h
  exact ⟨t, fr, (hb.block 2 (Array.getElem?_eq_some_iff.mp h).1).trans h⟩
/-- A community's text. -/
def comT (c : Nat) : List UInt8 := if c = 4294967041 then [110, 111, 45, 101, 120, 112, 111, 114, 116] else if c = 4294967042 then [110, 111, 45, 97, 100, 118, 101, 114, 116, 105, 115, 101] else if c = 4294967043 then [110, 111, 45, 101, 120, 112, 111, 114, 116, 45, 115, 117, 98, 99, 111, 110, 102, 101, 100] else Lib.decDigits (c / 65536) ++ ([58] ++ Lib.decDigits (c % 65536))
theorem info217 : (Tryz.prog.info? 217).map (·.size) = some comCells.size := by kernel_rfl
theorem cx0 (w : World) : (Instr.index 217 (.agg comCells) (.int .i64 0)).run Tryz.prog w = .ok (.agg #[.int .u32 4294967041, .string ⟨#[110, 111, 45, 101, 120, 112, 111, 114, 116]⟩]) w := by kernel_rfl
theorem cx1 (w : World) : (Instr.index 217 (.agg comCells) (.int .i64 1)).run Tryz.prog w = .ok (.agg #[.int .u32 4294967042, .string ⟨#[110, 111, 45, 97, 100, 118, 101, 114, 116, 105, 115, 101]⟩]) w := by kernel_rfl
theorem cx2 (w : World) : (Instr.index 217 (.agg comCells) (.int .i64 2)).run Tryz.prog w = .ok (.agg #[.int .u32 4294967043, .string ⟨#[110, 111, 45, 101, 120, 112, 111, 114, 116, 45, 115, 117, 98, 99, 111, 110, 102, 101, 100]⟩]) w := by kernel_rfl
theorem half_any (v : Nat) (hv : v < 65536) (w : World) (hp : PowAt w) : Calls Tryz.prog 160 #[.int .u32 (v : Int)] w fun e w' => e = .returned (.string ⟨(Lib.decDigits v).toArray⟩) ∧ Below w.heap.size w w' := by
  have hw : IntKind.u64.wrap (v : Int) = v := by rw [IntKind.wrap_u64]; omega
  go_enter Tryz.func160, Tryz.ntmps160
  go_wp2_with fail
  refine (fmt_any v (by omega) w hp).mono ?_
  rintro e w1 ⟨rfl, hb⟩
  go_wp2
  go_ret
  exact ⟨rfl, hb⟩
theorem ret_str {a b : ByteArray} (h : a = b) : Ending.returned (.string a) = .returned (.string b) := by rw [h]
theorem str_app (a b : List UInt8) : (⟨a.toArray⟩ : ByteArray) ++ ⟨b.toArray⟩ = ⟨(a ++ b).toArray⟩ := by
  apply ByteArray.ext; simp
theorem add_l (a b : List UInt8) (h : a.length + b.length ≤ 1000000) (W : World) : (Op.stringOp .add (⟨a.toArray⟩ : ByteArray) ⟨b.toArray⟩).run Tryz.prog W = .ok (.string ⟨(a ++ b).toArray⟩) W := by
  rw [run_string_add_sum W _ _ (by rw [show (ByteArray.mk a.toArray).size = a.length from List.size_toArray .., show (ByteArray.mk b.toArray).size = b.length from List.size_toArray ..]; omega), str_app]
theorem and16 (c : Nat) (h : c < 4294967296) : bits .and .u32 (c : Int) 65535 = ((c % 65536 : Nat) : Int) := by
  have := u32_and_nat c 65535 h (by decide)
  rw [show (c &&& 65535 : Nat) = c % 65536 from Nat.and_two_pow_sub_one_eq_mod c 16] at this
  exact this
set_option maxHeartbeats 2000000 in
theorem comText_any (c : Nat) (w : World) (hc : c < 4294967296) (ht : ComAt w) (hp : PowAt w) : Calls Tryz.prog 125 #[.int .u32 (c : Int)] w fun e w' => e = .returned (.string ⟨(comT c).toArray⟩) ∧ Below w.heap.size w w' := by
  obtain ⟨t, fr, h0⟩ := ht
  have H0 : Hid (w.heap[2]? = some (.cells comCells t fr)) := h0
  have HP : Hid (PowAt w) := hp
  have hc0 := cx0
  have hc1 := cx1
  have hc2 := cx2
  clear h0 hp
  have HB1 : Hid (∀ A, Below w.heap.size w (w.alloc (.cells A 216))) := fun A => (Below.refl _ _).alloc (Nat.le_refl _) _
  have HB2 : Hid (∀ A B, Below w.heap.size w ((w.alloc (.cells A 216)).alloc (.cells B 216))) := fun A B => ((Below.refl _ _).alloc (Nat.le_refl _) _).alloc (by simp) _
  have HB3 : Hid (∀ A B C, Below w.heap.size w (((w.alloc (.cells A 216)).alloc (.cells B 216)).alloc (.cells C 216))) := fun A B C => (((Below.refl _ _).alloc (Nat.le_refl _) _).alloc (by simp) _).alloc (by simp; omega) _
  by_cases h0 : c = 4294967041
  · have HT : Hid (comT c = [110, 111, 45, 101, 120, 112, 111, 114, 116]) := by unfold Hid comT; simp [h0]
    have q0 : ((4294967041 : Int) == (c : Int)) = true := by simp; omega
    generalize comT c = tx at *
    clear h0
    go_enter Tryz.func125, Tryz.ntmps125
    go_wp2_with (refine wpList_load_row rfl 217 _ rfl 2 rfl t _ fr _ H0.out Tryz.underlying217 rfl info217 ?_)
    refine wp_loop_rounds 1 ?_
    rw [rounds_succ]
    go_wp2_with fail
    go_ret
    exact ⟨by rw [HT.out]; rfl, HB1.out _⟩
  · skip
    by_cases h1 : c = 4294967042
    · have HT : Hid (comT c = [110, 111, 45, 97, 100, 118, 101, 114, 116, 105, 115, 101]) := by unfold Hid comT; simp [h1]
      have q0 : ((4294967041 : Int) == (c : Int)) = false := by simp; omega
      have q1 : ((4294967042 : Int) == (c : Int)) = true := by simp; omega
      generalize comT c = tx at *
      clear h1
      go_enter Tryz.func125, Tryz.ntmps125
      go_wp2_with (refine wpList_load_row rfl 217 _ rfl 2 rfl t _ fr _ H0.out Tryz.underlying217 rfl info217 ?_)
      refine wp_loop_rounds 2 ?_
      rw [rounds_succ]
      go_wp2_with fail
      rw [rounds_succ]
      go_wp2_with fail
      go_ret
      exact ⟨by rw [HT.out]; rfl, HB2.out _ _⟩
    · skip
      by_cases h2 : c = 4294967043
      · have HT : Hid (comT c = [110, 111, 45, 101, 120, 112, 111, 114, 116, 45, 115, 117, 98, 99, 111, 110, 102, 101, 100]) := by unfold Hid comT; simp [h2]
        have q0 : ((4294967041 : Int) == (c : Int)) = false := by simp; omega
        have q1 : ((4294967042 : Int) == (c : Int)) = false := by simp; omega
        have q2 : ((4294967043 : Int) == (c : Int)) = true := by simp; omega
        generalize comT c = tx at *
        clear h2
        go_enter Tryz.func125, Tryz.ntmps125
        go_wp2_with (refine wpList_load_row rfl 217 _ rfl 2 rfl t _ fr _ H0.out Tryz.underlying217 rfl info217 ?_)
        refine wp_loop_rounds 3 ?_
        rw [rounds_succ]
        go_wp2_with fail
        rw [rounds_succ]
        go_wp2_with fail
        rw [rounds_succ]
        go_wp2_with fail
        go_ret
        exact ⟨by rw [HT.out]; rfl, HB3.out _ _ _⟩
      · skip
        have HT : Hid (comT c = Lib.decDigits (c / 65536) ++ ([58] ++ Lib.decDigits (c % 65536))) := by unfold Hid comT; rw [if_neg h0, if_neg h1, if_neg h2]
        have q0 : ((4294967041 : Int) == (c : Int)) = false := by simp; omega
        have q1 : ((4294967042 : Int) == (c : Int)) = false := by simp; omega
        have q2 : ((4294967043 : Int) == (c : Int)) = false := by simp; omega
        have ha := and16 c hc
        have hd : (c : Int) / 65536 = ((c / 65536 : Nat) : Int) := by omega
        have z1 : c / 65536 < 65536 := by omega
        have z2 : c % 65536 < 65536 := by omega
        generalize comT c = tx at *
        generalize c / 65536 = a at *
        generalize c % 65536 = b at *
        clear h0 h1 h2 hc
        have HA : Hid (∀ W, PowAt W → Calls Tryz.prog 160 #[.int .u32 (a : Int)] W _) := fun W hp => half_any a z1 W hp
        have HC : Hid (∀ W, PowAt W → Calls Tryz.prog 160 #[.int .u32 (b : Int)] W _) := fun W hp => half_any b z2 W hp
        have d1 := dig_pow 4 a (by omega)
        have d2 := dig_pow 4 b (by omega)
        generalize Lib.decDigits a = A at *
        generalize Lib.decDigits b = B at *
        have a1 : ∀ W, (Op.stringOp .add (⟨A.toArray⟩ : ByteArray) ⟨#[58]⟩).run Tryz.prog W = .ok (.string ⟨(A ++ [58]).toArray⟩) W := fun W => add_l A [58] (by simp; omega) W
        have HL : Hid ((A ++ [58]) ++ B = A ++ ([58] ++ B)) := List.append_assoc ..
        have hL : (A ++ [58]).length ≤ 6 := by simp; omega
        generalize A ++ [58] = M at *
        have a2 := add_l M B (by omega)
        clear d1 d2 hL
        go_enter Tryz.func125, Tryz.ntmps125
        go_wp2_with (refine wpList_load_row rfl 217 _ rfl 2 rfl t _ fr _ H0.out Tryz.underlying217 rfl info217 ?_)
        refine wp_loop_rounds 4 ?_
        rw [rounds_succ]
        go_wp2_with fail
        rw [rounds_succ]
        go_wp2_with fail
        rw [rounds_succ]
        go_wp2_with fail
        rw [rounds_succ]
        go_wp2_with fail
        refine Calls.mono (HA.out _ (HP.out.below (HB3.out _ _ _))) ?_
        rintro e w1 ⟨rfl, hb1⟩
        have HX : Hid (Below w.heap.size w w1) := (HB3.out _ _ _).trans (hb1.mono (HB3.out _ _ _).size)
        clear hb1
        go_wp2_with fail
        refine Calls.mono (HC.out _ (HP.out.below HX.out)) ?_
        rintro e w2 ⟨rfl, hb2⟩
        go_wp2
        go_ret
        refine ⟨?_, HX.out.trans (hb2.mono HX.out.size)⟩
        rw [HT.out, ← HL.out]
        rfl
end Go.Proofs.YthaebbmekonacaaGreatDoor
