/-
  readNumber to the base 16, of the text of nought.
-/
import Derived.Test.YtfhbgpepkplbaaaGreatDoorProg
import Derived.WalkKit
import Derived.WalkSpells
import Derived.WalkLawsBesides
import Derived.Laws.IdiomStrings
import Derived.Below
import Derived.LoopN
import Derived.BigQuiet
import Derived.Lib.ConvBytes
import Derived.Laws.Rows
import Derived.Laws.BitsAllLaws
import Derived.Laws.BytesString
set_option maxRecDepth 100000
namespace Go.Proofs.YtfhbgpepkplbaaaGreatDoor
open Go.RowKit
theorem conv0 (w : World) : (convert 9 60 (.string ⟨#[48]⟩)).run Tryz.prog w = .ok (.slice (some ⟨w.heap.size, 0, none⟩) 1 (grownCap w 1 0 5)) (Lib.bytesWorld w 5 ⟨#[48]⟩) := by
  have := Lib.run_convert_string_bytes (P := Tryz.prog) w 9 60 5 ⟨#[48]⟩ Tryz.underlying9 Tryz.underlying60 Tryz.underlying5
  exact this
set_option maxHeartbeats 2000000 in
theorem pu16_0 (w : World) : Calls Tryz.prog 116 #[.string ⟨#[48]⟩, .int .i64 16, .int .i64 16] w fun e w' => e = .returned (.tuple #[.int .u64 0, .nilIface]) ∧ w' = Lib.bytesWorld w 5 ⟨#[48]⟩ := by
  have hc := conv0 w
  have hcell := Lib.bytesWorld_cell w 5 ⟨#[48]⟩ 0 (by decide)
  simp at hcell
  generalize Lib.bytesWorld w 5 ⟨#[48]⟩ = W at *
  generalize grownCap w 1 0 5 = cap at *
  go_enter Tryz.func116, Tryz.ntmps116
  go_wp2_with fail
  refine wp_loop_rounds 2 ?_
  rw [rounds_succ]
  go_wp2_with fail
  rw [rounds_succ]
  go_wp2_with fail
  go_ret2
  exact ⟨rfl, rfl⟩
theorem z174 (w : World) : (zeroValue 174).run Tryz.prog w = .ok (.agg (List.replicate 65 (Value.int .u8 0)).toArray) w := by kernel_rfl
/-- The one cell of the table of trailing noughts that is asked for. -/
def Deb (w : World) : Prop := ∃ k : Nat, k < 256 ∧ w.cell? ⟨7, 15, none⟩ = some (.int .u8 (k : Int))
theorem Deb.below {w w' : World} (h : Deb w) (hb : Below w.heap.size w w') : Deb w' := by
  obtain ⟨k, hk, hc⟩ := h
  refine ⟨k, hk, (hb.cell (p := ⟨7, 15, none⟩) ?_).trans hc⟩
  exact World.block_lt_of_cell? w _ hc
theorem cellB_new (w : World) (A : Array Value) (j : Nat) : (w.alloc (.cells A 174)).cell? ⟨w.heap.size, j, none⟩ = A[j]? := by
  simp only [World.cell?, heap_alloc_new]
  simp
theorem pow2_16 (w : World) : Calls Tryz.prog 142 #[.int .i64 16] w fun e w' => e = .returned (.bool true) ∧ w' = w := by
  have hb : bits BinOp.and IntKind.i64 16 15 = 0 := by decide
  go_enter Tryz.func142, Tryz.ntmps142
  go_wp2
  go_ret
  exact ⟨rfl, rfl⟩
theorem tz64_16 (w : World) (h : Deb w) : Calls Tryz.prog 149 #[.int .u64 16] w fun e w' => (∃ k : Nat, k < 256 ∧ e = .returned (.int .i64 (k : Int))) ∧ w' = w := by
  obtain ⟨k, hk, hc⟩ := h
  have h1 : IntKind.u64.wrap (-16) = 18446744073709551600 := by decide
  have h2 : bits BinOp.and IntKind.u64 16 18446744073709551600 = 16 := by decide +kernel
  have h3 : IntKind.u64.wrap (16 * 285870213051353865) = 4573923408821661840 := by decide
  go_enter Tryz.func149, Tryz.ntmps149
  go_wp2
  go_ret
  exact ⟨⟨k, hk, rfl⟩, rfl⟩
theorem tz_16 (w : World) (h : Deb w) : Calls Tryz.prog 143 #[.int .u64 16] w fun e w' => (∃ k : Nat, k < 256 ∧ e = .returned (.int .i64 (k : Int))) ∧ w' = w := by
  go_enter Tryz.func143, Tryz.ntmps143
  go_wp2_with fail
  refine (tz64_16 _ h).mono ?_
  rintro e w1 ⟨⟨k, hk, rfl⟩, hw⟩
  subst w1
  go_wp2
  go_ret
  exact ⟨⟨k, hk, rfl⟩, rfl⟩
set_option maxHeartbeats 2000000 in
theorem fb16_0 (w : World) (h : Deb w) : Calls Tryz.prog 133 #[.slice none 0 0, .int .u64 0, .int .i64 16, .bool false, .bool false] w fun e w' => e = .returned (.tuple #[.slice none 0 0, .string ⟨#[48]⟩]) ∧ Below w.heap.size w w' := by
  obtain ⟨Z, hZ⟩ : ∃ Z, Z = (List.replicate 65 (Value.int .u8 0)).toArray := ⟨_, rfl⟩
  have hz := fun w => z174 w
  rw [← hZ] at hz
  have hz64 : Z[64]? = some (.int .u8 0) := by rw [hZ]; rfl
  clear hZ
  have HD : Hid (Deb (w.alloc (.cells Z 174))) := h.below ((Below.refl _ _).alloc (Nat.le_refl _) _)
  have c64 : (w.alloc (.cells Z 174)).cell? ⟨w.heap.size, 64, none⟩ = some (.int .u8 0) := by
    simp only [World.cell?, heap_alloc_new]
    simpa using hz64
  have f64 : (w.alloc (.cells Z 174)).frozen? ⟨w.heap.size, 64, none⟩ = false := by
    simp only [World.frozen?, heap_alloc_new]
    simp
  have hcv : (convert 60 9 (.slice (some ⟨w.heap.size, 64, none⟩) 1 1)).run Tryz.prog (w.alloc (.cells (Z.setIfInBounds 64 (.int .u8 ((⟨#[48, 49, 50, 51, 52, 53, 54, 55, 56, 57, 97, 98, 99, 100, 101, 102, 103, 104, 105, 106, 107, 108, 109, 110, 111, 112, 113, 114, 115, 116, 117, 118, 119, 120, 121, 122]⟩ : ByteArray)[0].toNat : Int))) 174)) = .ok (.string ⟨#[48]⟩) (w.alloc (.cells (Z.setIfInBounds 64 (.int .u8 ((⟨#[48, 49, 50, 51, 52, 53, 54, 55, 56, 57, 97, 98, 99, 100, 101, 102, 103, 104, 105, 106, 107, 108, 109, 110, 111, 112, 113, 114, 115, 116, 117, 118, 119, 120, 121, 122]⟩ : ByteArray)[0].toNat : Int))) 174)) := by
    have hs : 64 < Z.size := (Array.getElem?_eq_some_iff.1 hz64).1
    have := run_convert_bytes_back (P := Tryz.prog) (w.alloc (.cells (Z.setIfInBounds 64 (.int .u8 ((⟨#[48, 49, 50, 51, 52, 53, 54, 55, 56, 57, 97, 98, 99, 100, 101, 102, 103, 104, 105, 106, 107, 108, 109, 110, 111, 112, 113, 114, 115, 116, 117, 118, 119, 120, 121, 122]⟩ : ByteArray)[0].toNat : Int))) 174)) 60 9 5 ⟨w.heap.size, 64, none⟩ 1 [48] Tryz.underlying60 Tryz.underlying5 Tryz.underlying9 (fun j hj => by
      obtain rfl : j = 0 := by simpa using hj
      rw [show Addr.add ⟨w.heap.size, 64, none⟩ 0 = ⟨w.heap.size, 64, none⟩ from rfl, cellB_new, Array.getElem?_setIfInBounds_self_of_lt hs]
      rfl)
    exact this
  have HBE : Hid (∀ A, Below w.heap.size w (w.alloc (.cells A 174))) := fun A => (Below.refl _ _).alloc (Nat.le_refl _) _
  clear h hz64
  go_enter Tryz.func133, Tryz.ntmps133
  go_wp2_with fail
  refine (pow2_16 _).mono ?_
  rintro e w1 ⟨rfl, hw⟩
  subst w1
  go_wp2_with fail
  refine (tz_16 _ HD.out).mono ?_
  rintro e w1 ⟨⟨k, hk, rfl⟩, hw⟩
  subst w1
  go_wp2_with fail
  refine wp_loop_rounds 1 ?_
  rw [rounds_succ]
  go_wp2_with fail
  go_ret2
  exact ⟨rfl, HBE.out _⟩
theorem fu16i_0 (w : World) (h : Deb w) : Calls Tryz.prog 118 #[.int .u64 0, .int .i64 16] w fun e w' => e = .returned (.string ⟨#[48]⟩) ∧ Below w.heap.size w w' := by
  go_enter Tryz.func118, Tryz.ntmps118
  go_wp2_with fail
  refine (fb16_0 _ h).mono ?_
  rintro e w1 ⟨rfl, hb⟩
  go_wp2
  go_ret
  exact ⟨rfl, hb⟩
theorem fu16_0 (w : World) (h : Deb w) : Calls Tryz.prog 112 #[.int .u64 0, .int .i64 16] w fun e w' => e = .returned (.string ⟨#[48]⟩) ∧ Below w.heap.size w w' := by
  go_enter Tryz.func112, Tryz.ntmps112
  go_wp2_with fail
  refine (fu16i_0 _ h).mono ?_
  rintro e w1 ⟨rfl, hb⟩
  go_wp2
  go_ret
  exact ⟨rfl, hb⟩
theorem bel_bytes (w : World) : Below w.heap.size w (Lib.bytesWorld w 5 ⟨#[48]⟩) :=
  ⟨rfl, rfl, rfl, by rw [Lib.bytesWorld_size]; omega, fun k hk => Lib.bytesWorld_at_old w 5 _ k hk⟩
theorem pu16s_0 (w : World) : Calls Tryz.prog 111 #[.string ⟨#[48]⟩, .int .i64 16, .int .i64 16] w fun e w' => e = .returned (.tuple #[.int .u64 0, .nilIface]) ∧ Below w.heap.size w w' := by
  have HB : Hid (_ : Prop) := bel_bytes w
  go_enter Tryz.func111, Tryz.ntmps111
  go_wp2_with fail
  refine (pu16_0 _).mono ?_
  rintro e w1 ⟨rfl, hw⟩
  subst w1
  go_wp2_with fail
  go_ret2
  exact ⟨rfl, HB.out⟩
theorem rn16_0 (w : World) (h : Deb w) : Calls Tryz.prog 101 #[.string ⟨#[48]⟩, .int .i64 16, .int .i64 16] w fun e w' => e = .returned (.tuple #[.int .u64 0, .bool true]) ∧ Below w.heap.size w w' := by
  go_enter Tryz.func101, Tryz.ntmps101
  go_wp2_with fail
  refine (pu16s_0 _).mono ?_
  rintro e w1 ⟨rfl, hb⟩
  have HD : Hid (Deb w1) := h.below hb
  have HB : Hid (_ : Prop) := hb
  clear hb
  go_wp2_with fail
  refine (fu16_0 _ HD.out).mono ?_
  rintro e w2 ⟨rfl, hb2⟩
  have HB2 : Hid (Below w.heap.size w w2) := HB.out.trans (hb2.mono HB.out.size)
  clear hb2
  go_wp2
  go_ret2
  exact ⟨rfl, HB2.out⟩
end Go.Proofs.YtfhbgpepkplbaaaGreatDoor
