/-
  A keepalive, cut in two.
-/
import Derived.Test.YtfhapjhkjdifjaaGreatDoorT2
import Derived.Test.YtfhapjhkjdifjaaGreatDoormZ
namespace Go.Proofs.YtfhapjhkjdifjaaGreatDoor
open Go.RowKit
theorem hp_newT {W : World} {o : Obj} : (W.alloc o).heap[W.heap.size]? = some o := hp_new rfl
def m19 : List UInt8 := Fr.msgI ⟨4, []⟩
def s19 : Fr.St := (Fr.runI Fr.st0 (m19.take 7)).1
theorem k_make : Fr.mkAns 4 [] = .returned (.tuple #[.string ⟨m19.toArray⟩, .int .i64 0]) := Fr.make_ok ⟨4, []⟩ ⟨by decide, by decide, by decide, by decide⟩
theorem k_run1 : Fr.runI Fr.st0 (m19.take 7) = (s19, []) := by kernel_rfl
theorem k_run2 : Fr.runI s19 (m19.drop 7) = (Fr.st0, [⟨4, []⟩]) := by kernel_rfl
theorem k_sub : s19.sub = 0 := by kernel_rfl
set_option maxRecDepth 100000 in
set_option maxHeartbeats 3200000 in
theorem known12_any (w : World) (hs : Fr.SzAt w) : Calls Tryz.prog 4 #[] w fun e w' => e = .returned (.bool true) ∧ Below w.heap.size w w' := by
  have HW0 : Hid (0 < w.heap.size) := hs.lt
  have HZ : Hid (Fr.SzAt w) := hs
  have K1 : Hid (_ : Prop) := Fr.make_any 4 [] w hs (by simp)
  rw [k_make] at K1
  have KN : Hid (∀ X, _) := fun X => Ms.note_any 6 2 [] (by omega) (by omega) (by simp) X
  rw [show Ms.ntA 6 2 [] = .tuple #[.string ⟨#[6, 2]⟩, .int .i64 0] from rfl] at KN
  unfold Ms.ntC at KN
  have hsz : (⟨m19.toArray⟩ : ByteArray).size = 19 := rfl
  have hex := Fr.ext_take m19 7
  have hdr : (⟨m19.toArray⟩ : ByteArray).extract 7 19 = ⟨(m19.drop 7).toArray⟩ := Fr.ext_drop m19 7
  have hl1 : (m19.take 7).length ≤ 1000000 := by decide
  have hl2 : (m19.drop 7).length ≤ 1000000 := by decide
  have HR1 : Hid (_ = _) := k_run1
  have HR2 : Hid (_ = _) := k_run2
  generalize m19.take 7 = A at *
  generalize m19.drop 7 = B at *
  generalize m19 = M at *
  clear hs
  go_enter Tryz.func4, Tryz.ntmps4
  go_wp2_with fail
  refine Calls.mono K1.out ?_
  rintro e w1 ⟨rfl, hb1⟩
  have HB1 : Hid (Below w.heap.size w w1) := hb1
  clear hb1 K1
  go_wp2_with fail
  refine (Fr.new_any w1).mono ?_
  rintro e W ⟨p, b, rfl, hf1, hb2, hp, hb⟩
  have HF1 : Hid (Fr.FrAt W p b Fr.st0) := hf1
  have HPB : Hid (w.heap.size ≤ p ∧ w.heap.size ≤ b) := ⟨by have := HB1.out.size; omega, by have := HB1.out.size; omega⟩
  have HB2 : Hid (Below w.heap.size w W) := HB1.out.trans (hb2.mono HB1.out.size)
  clear hf1 hb2 hp hb
  go_wp2_with fail
  refine (Fr.put_fine p b Fr.st0 s19 A [] W HF1.out (HZ.out.below HB2.out) (by have := HW0.out; have := HPB.out; omega) (by have := HW0.out; have := HPB.out; omega) hl1 HR1.out k_sub).mono ?_
  rintro e w3 ⟨ad3, cp3, rfl, ho3, hf3, hbs3⟩
  have hba3 : Below w3.heap.size w3 (w3.alloc (.cells #[.int .i64 0, .int .u8 0, .int .u8 0] 37)) := (Below.refl _ _).alloc (Nat.le_refl _) _
  have HF3 : Hid (Fr.FrAt (w3.alloc (.cells #[.int .i64 0, .int .u8 0, .int .u8 0] 37)) p b s19) := hf3.below hba3 hf3.ltp hf3.buf.lt
  have HB3 : Hid (Below w.heap.size w w3) := HB2.out.trans (hbs3.below HPB.out.1 HPB.out.2 HB2.out.size)
  have HB3a : Hid (Below w.heap.size w (w3.alloc (.cells #[.int .i64 0, .int .u8 0, .int .u8 0] 37))) := HB3.out.alloc HB3.out.size _
  clear hba3 hf3 hbs3 ho3 HF1 HB2
  go_wp2_with fail
  refine (Fr.put_fine p b s19 Fr.st0 B [⟨4, []⟩] _ HF3.out (HZ.out.below HB3a.out) (by have := HW0.out; have := HPB.out; omega) (by have := HW0.out; have := HPB.out; omega) hl2 HR2.out rfl).mono ?_
  rintro e w4 ⟨ad4, cp4, rfl, ho4, hf4, hbs4⟩
  have HB4 : Hid (Below w.heap.size w w4) := HB3a.out.trans (hbs4.below HPB.out.1 HPB.out.2 HB3a.out.size)
  have HB4a : Hid (Below w.heap.size w (w4.alloc (.cells #[.int .i64 0, .int .u8 0, .int .u8 0] 37))) := HB4.out.alloc HB4.out.size _
  obtain ⟨ad', b4, o4, cap4, hv4, had4, _, hr4⟩ := Fr.OwnF.at ho4
  simp only [Value.slice.injEq] at hv4
  obtain ⟨rfl, _, rfl⟩ := hv4
  obtain rfl : ad4 = some ⟨b4, o4, none⟩ := by rcases had4 with h | h; exact h; simp at h
  have hk4 := (hr4 0 (by simp)).1
  clear hf4 hbs4 ho4 had4 hr4
  go_wp2_with fail
  refine Calls.mono (KN.out _) ?_
  rintro e w5 ⟨rfl, hb5⟩
  have HB5 : Hid (Below w.heap.size w w5) := HB4a.out.trans (hb5.mono HB4a.out.size)
  have hv5 : w5.heap[w4.heap.size]? = some (.cells #[.int .i64 0, .int .u8 0, .int .u8 0] 37 (0, 0)) := (hb5.block _ (by simp)).trans (hp_new rfl)
  have v0 := cl_row (i := 0) hv5 rfl
  have v1 := cl_row (i := 1) hv5 rfl
  have v2 := cl_row (i := 2) hv5 rfl
  have hk5 : w5.cell? ⟨b4, o4, none⟩ = some (.int .i64 4) := by
    have ha : (w4.alloc (.cells #[.int .i64 0, .int .u8 0, .int .u8 0] 37)).cell? ⟨b4, o4, none⟩ = some (.int .i64 4) := (((Below.refl w4.heap.size w4).alloc (Nat.le_refl _) _).cell (p := ⟨b4, o4, none⟩) (lt_of_cell hk4)).trans hk4
    exact (hb5.cell (p := ⟨b4, o4, none⟩) (lt_of_cell ha)).trans ha
  clear hb5 hv5 hk4
  go_wp2
  go_ret
  exact ⟨rfl, HB5.out⟩
end Go.Proofs.YtfhapjhkjdifjaaGreatDoor
