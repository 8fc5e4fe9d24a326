/-
  MsgKnown.
-/
import Derived.Test.YtkaghjohkhlimabDoorML
namespace Go.Proofs.YtkaghjohkhlimabDoor
open Go.RowKit
theorem blk {w w' : World} {b : Nat} {x : Obj} (hb : Below w.heap.size w w') (h : w.heap[b]? = some x) : w'.heap[b]? = some x := (hb.block _ (lt_of_heap h)).trans h
theorem made_big (n : Nat) (h : n ≤ 100000) (w : World) : (Instr.makeSlice 33 (.int .i64 (n : Int)) (.int .i64 (n : Int))).run Tryd.prog w = .ok (.slice (some ⟨w.heap.size, 0, none⟩) n n) (w.alloc (.cells (madeCells #[.int .u8 0] n) 5)) := by
  obtain ⟨i0, hi, hz0, hz1, hz2⟩ := info_parts info5
  have h := run_make w 33 5 i0 (.int .u8 0) Tryd.underlying33 hi hz0 .i64 .i64 n n (by omega) (by omega) (by rw [hz2]; omega) (by omega)
  rw [hz1, Int.toNat_natCast, Nat.mul_one] at h
  exact h
theorem conv_big (n : Nat) (W : World) : (convert 33 9 (.slice (some ⟨W.heap.size, 0, none⟩) n n)).run Tryd.prog (W.alloc (.cells (madeCells #[.int .u8 0] n) 5)) = .ok (.string ⟨(List.replicate n (0 : UInt8)).toArray⟩) (W.alloc (.cells (madeCells #[.int .u8 0] n) 5)) := by
  refine conv_new W (List.replicate n 0) _ n _ rfl (by simp) (fun j hj => ?_)
  have hj' : j < n := by simpa using hj
  simp [madeCells, hj', Nat.mod_one]
/-- Bytes that are made and told as a text at once. -/
theorem big (n : Nat) (h : n ≤ 100000) : ∃ (C : Array Value), (∀ W : World, (Instr.makeSlice 33 (.int .i64 (n : Int)) (.int .i64 (n : Int))).run Tryd.prog W = .ok (.slice (some ⟨W.heap.size, 0, none⟩) n n) (W.alloc (.cells C 5))) ∧ (∀ W : World, (convert 33 9 (.slice (some ⟨W.heap.size, 0, none⟩) n n)).run Tryd.prog (W.alloc (.cells C 5)) = .ok (.string ⟨(List.replicate n (0 : UInt8)).toArray⟩) (W.alloc (.cells C 5))) :=
  ⟨_, made_big n h, conv_big n⟩
theorem s0a : vdV (szW 1 10) = .agg #[.int .i64 0, .int .u8 0, .int .u8 0] := by kernel_rfl
theorem s0b : vdV (szW 1 9) = .agg #[.int .i64 3, .int .u8 1, .int .u8 2] := by kernel_rfl
theorem s0c : vdV (szW 1 4078) = .agg #[.int .i64 3, .int .u8 1, .int .u8 2] := by kernel_rfl
theorem s1a : vdV (szW 2 4) = .agg #[.int .i64 0, .int .u8 0, .int .u8 0] := by kernel_rfl
theorem s1b : vdV (szW 2 3) = .agg #[.int .i64 3, .int .u8 1, .int .u8 2] := by kernel_rfl
theorem s1c : vdV (szW 2 4078) = .agg #[.int .i64 3, .int .u8 1, .int .u8 2] := by kernel_rfl
theorem s2a : vdV (szW 3 2) = .agg #[.int .i64 0, .int .u8 0, .int .u8 0] := by kernel_rfl
theorem s2b : vdV (szW 3 1) = .agg #[.int .i64 3, .int .u8 1, .int .u8 2] := by kernel_rfl
theorem s2c : vdV (szW 3 4078) = .agg #[.int .i64 3, .int .u8 1, .int .u8 2] := by kernel_rfl
theorem s3a : vdV (szW 4 0) = .agg #[.int .i64 0, .int .u8 0, .int .u8 0] := by kernel_rfl
theorem s3b : vdV (szW 4 (-1)) = .agg #[.int .i64 3, .int .u8 1, .int .u8 2] := by kernel_rfl
theorem s3c : vdV (szW 4 4078) = .agg #[.int .i64 3, .int .u8 1, .int .u8 2] := by kernel_rfl
theorem s4a : vdV (szW 5 4) = .agg #[.int .i64 0, .int .u8 0, .int .u8 0] := by kernel_rfl
theorem s4b : vdV (szW 5 3) = .agg #[.int .i64 3, .int .u8 1, .int .u8 2] := by kernel_rfl
theorem s4c : vdV (szW 5 4078) = .agg #[.int .i64 3, .int .u8 1, .int .u8 2] := by kernel_rfl
theorem s9 : vdV (szW 9 0) = .agg #[.int .i64 3, .int .u8 1, .int .u8 3] := by kernel_rfl
theorem s3 : vdV (szW 3 4077) = .agg #[.int .i64 0, .int .u8 0, .int .u8 0] := by kernel_rfl
theorem s5 : vdV (szW 5 5) = .agg #[.int .i64 3, .int .u8 1, .int .u8 2] := by kernel_rfl
/-- What stands in memory between the calls. -/
structure KnAt (w wr : World) : Prop where
  row : wr.heap[w.heap.size]? = some (.cells #[.int .i64 10, .int .i64 4, .int .i64 2, .int .i64 0, .int .i64 4] 3 (0, 0))
  bel : Below w.heap.size w wr
theorem KnAt.next {w wr w' : World} (h : KnAt w wr) (hb : Below wr.heap.size wr w') : KnAt w w' := ⟨blk hb h.row, h.bel.trans (hb.mono h.bel.size)⟩
set_option maxRecDepth 100000 in
set_option maxHeartbeats 6400000 in
theorem known_walk (w : World) (hg : FamSizes w) : Calls Tryd.prog 3 #[] w fun e w' => e = .returned (.bool true) ∧ Below w.heap.size w w' := by
  have HG : Hid (FamSizes w) := hg
  clear hg
  have hfd := fd2
  have HK0 : Hid (KnAt w (w.alloc (.cells #[.int .i64 10, .int .i64 4, .int .i64 2, .int .i64 0, .int .i64 4] 3))) := ⟨hp_new rfl, (Below.refl _ _).alloc (Nat.le_refl _) _⟩
  go_enter Tryd.func3, Tryd.ntmps3
  go_wp2_with fail
  go_loopw [2] (fun i wr => ∃ k : Nat, k ≤ 5 ∧ i = .int .i64 k ∧ KnAt w wr) (fun i _ => 5 - (intOf i).toNat)
  case atStart => exact ⟨0, by omega, rfl, HK0.out⟩
  case round =>
    clear HK0
    obtain ⟨k, hk, rfl, hK⟩ := hrel
    have HK : Hid (KnAt w wr) := hK
    clear hK
    have hc : k = 0 ∨ k = 1 ∨ k = 2 ∨ k = 3 ∨ k = 4 ∨ k = 5 := by omega
    rcases hc with rfl | rfl | rfl | rfl | rfl | rfl
    · clear hk
      have K1 : Hid (_ : Prop) := least_any 1 wr
      rw [show lN 1 = 10 from rfl, show isK 1 = true from rfl] at K1
      have K2 : Hid (∀ X, _) := fun X => msize_any 1 10 X
      rw [s0a] at K2
      have K3 : Hid (∀ X, _) := fun X => msize_any 1 9 X
      rw [s0b] at K3
      have K4 : Hid (∀ X, _) := fun X => msize_any 1 4078 X
      rw [s0c] at K4
      go_wp2_with fail
      refine Calls.mono K1.out ?_
      rintro e w1 ⟨rfl, hb1⟩
      have H1 : Hid (KnAt w w1) := HK.out.next hb1
      have c0 := cl_row (i := 0) H1.out.row rfl
      clear hb1 K1 HK
      go_wp2_with fail
      refine Calls.mono (K2.out _) ?_
      rintro e w2 ⟨rfl, hb2⟩
      have H2 : Hid (KnAt w w2) := H1.out.next hb2
      clear hb2 K2 H1 c0
      go_wp2_with fail
      refine Calls.mono (K3.out _) ?_
      rintro e w3 ⟨rfl, hb3⟩
      have H3 : Hid (KnAt w w3) := H2.out.next hb3
      clear hb3 K3 H2
      go_wp2_with fail
      refine Calls.mono (K4.out _) ?_
      rintro e w4 ⟨rfl, hb4⟩
      have H4 : Hid (KnAt w w4) := H3.out.next hb4
      clear hb4 K4 H3
      go_wp2
      go_roundw
      case rel => exact ⟨1, by omega, rfl, H4.out⟩
      case measure => simp [intOf]
    · clear hk
      have K1 : Hid (_ : Prop) := least_any 2 wr
      rw [show lN 2 = 4 from rfl, show isK 2 = true from rfl] at K1
      have K2 : Hid (∀ X, _) := fun X => msize_any 2 4 X
      rw [s1a] at K2
      have K3 : Hid (∀ X, _) := fun X => msize_any 2 3 X
      rw [s1b] at K3
      have K4 : Hid (∀ X, _) := fun X => msize_any 2 4078 X
      rw [s1c] at K4
      go_wp2_with fail
      refine Calls.mono K1.out ?_
      rintro e w1 ⟨rfl, hb1⟩
      have H1 : Hid (KnAt w w1) := HK.out.next hb1
      have c0 := cl_row (i := 1) H1.out.row rfl
      clear hb1 K1 HK
      go_wp2_with fail
      refine Calls.mono (K2.out _) ?_
      rintro e w2 ⟨rfl, hb2⟩
      have H2 : Hid (KnAt w w2) := H1.out.next hb2
      clear hb2 K2 H1 c0
      go_wp2_with fail
      refine Calls.mono (K3.out _) ?_
      rintro e w3 ⟨rfl, hb3⟩
      have H3 : Hid (KnAt w w3) := H2.out.next hb3
      clear hb3 K3 H2
      go_wp2_with fail
      refine Calls.mono (K4.out _) ?_
      rintro e w4 ⟨rfl, hb4⟩
      have H4 : Hid (KnAt w w4) := H3.out.next hb4
      clear hb4 K4 H3
      go_wp2
      go_roundw
      case rel => exact ⟨2, by omega, rfl, H4.out⟩
      case measure => simp [intOf]
    · clear hk
      have K1 : Hid (_ : Prop) := least_any 3 wr
      rw [show lN 3 = 2 from rfl, show isK 3 = true from rfl] at K1
      have K2 : Hid (∀ X, _) := fun X => msize_any 3 2 X
      rw [s2a] at K2
      have K3 : Hid (∀ X, _) := fun X => msize_any 3 1 X
      rw [s2b] at K3
      have K4 : Hid (∀ X, _) := fun X => msize_any 3 4078 X
      rw [s2c] at K4
      go_wp2_with fail
      refine Calls.mono K1.out ?_
      rintro e w1 ⟨rfl, hb1⟩
      have H1 : Hid (KnAt w w1) := HK.out.next hb1
      have c0 := cl_row (i := 2) H1.out.row rfl
      clear hb1 K1 HK
      go_wp2_with fail
      refine Calls.mono (K2.out _) ?_
      rintro e w2 ⟨rfl, hb2⟩
      have H2 : Hid (KnAt w w2) := H1.out.next hb2
      clear hb2 K2 H1 c0
      go_wp2_with fail
      refine Calls.mono (K3.out _) ?_
      rintro e w3 ⟨rfl, hb3⟩
      have H3 : Hid (KnAt w w3) := H2.out.next hb3
      clear hb3 K3 H2
      go_wp2_with fail
      refine Calls.mono (K4.out _) ?_
      rintro e w4 ⟨rfl, hb4⟩
      have H4 : Hid (KnAt w w4) := H3.out.next hb4
      clear hb4 K4 H3
      go_wp2
      go_roundw
      case rel => exact ⟨3, by omega, rfl, H4.out⟩
      case measure => simp [intOf]
    · clear hk
      have K1 : Hid (_ : Prop) := least_any 4 wr
      rw [show lN 4 = 0 from rfl, show isK 4 = true from rfl] at K1
      have K2 : Hid (∀ X, _) := fun X => msize_any 4 0 X
      rw [s3a] at K2
      have K3 : Hid (∀ X, _) := fun X => msize_any 4 (-1) X
      rw [s3b] at K3
      have K4 : Hid (∀ X, _) := fun X => msize_any 4 4078 X
      rw [s3c] at K4
      go_wp2_with fail
      refine Calls.mono K1.out ?_
      rintro e w1 ⟨rfl, hb1⟩
      have H1 : Hid (KnAt w w1) := HK.out.next hb1
      have c0 := cl_row (i := 3) H1.out.row rfl
      clear hb1 K1 HK
      go_wp2_with fail
      refine Calls.mono (K2.out _) ?_
      rintro e w2 ⟨rfl, hb2⟩
      have H2 : Hid (KnAt w w2) := H1.out.next hb2
      clear hb2 K2 H1 c0
      go_wp2_with fail
      refine Calls.mono (K3.out _) ?_
      rintro e w3 ⟨rfl, hb3⟩
      have H3 : Hid (KnAt w w3) := H2.out.next hb3
      clear hb3 K3 H2
      go_wp2_with fail
      refine Calls.mono (K4.out _) ?_
      rintro e w4 ⟨rfl, hb4⟩
      have H4 : Hid (KnAt w w4) := H3.out.next hb4
      clear hb4 K4 H3
      go_wp2
      go_roundw
      case rel => exact ⟨4, by omega, rfl, H4.out⟩
      case measure => simp [intOf]
    · clear hk
      have K1 : Hid (_ : Prop) := least_any 5 wr
      rw [show lN 5 = 4 from rfl, show isK 5 = true from rfl] at K1
      have K2 : Hid (∀ X, _) := fun X => msize_any 5 4 X
      rw [s4a] at K2
      have K3 : Hid (∀ X, _) := fun X => msize_any 5 3 X
      rw [s4b] at K3
      have K4 : Hid (∀ X, _) := fun X => msize_any 5 4078 X
      rw [s4c] at K4
      go_wp2_with fail
      refine Calls.mono K1.out ?_
      rintro e w1 ⟨rfl, hb1⟩
      have H1 : Hid (KnAt w w1) := HK.out.next hb1
      have c0 := cl_row (i := 4) H1.out.row rfl
      clear hb1 K1 HK
      go_wp2_with fail
      refine Calls.mono (K2.out _) ?_
      rintro e w2 ⟨rfl, hb2⟩
      have H2 : Hid (KnAt w w2) := H1.out.next hb2
      clear hb2 K2 H1 c0
      go_wp2_with fail
      refine Calls.mono (K3.out _) ?_
      rintro e w3 ⟨rfl, hb3⟩
      have H3 : Hid (KnAt w w3) := H2.out.next hb3
      clear hb3 K3 H2
      go_wp2_with fail
      refine Calls.mono (K4.out _) ?_
      rintro e w4 ⟨rfl, hb4⟩
      have H4 : Hid (KnAt w w4) := H3.out.next hb4
      clear hb4 K4 H3
      go_wp2
      go_roundw
      case rel => exact ⟨5, by omega, rfl, H4.out⟩
      case measure => simp [intOf]
    · clear hk
      obtain ⟨C1, m1, v1⟩ := big 4076 (by omega)
      replace m1 : ∀ W : World, (Instr.makeSlice 33 (.int .i64 4076) (.int .i64 4076)).run Tryd.prog W = .ok (.slice (some ⟨W.heap.size, 0, none⟩) 4076 4076) (W.alloc (.cells C1 5)) := m1
      obtain ⟨C2, m2, v2⟩ := big 4075 (by omega)
      replace m2 : ∀ W : World, (Instr.makeSlice 33 (.int .i64 4075) (.int .i64 4075)).run Tryd.prog W = .ok (.slice (some ⟨W.heap.size, 0, none⟩) 4075 4075) (W.alloc (.cells C2 5)) := m2
      obtain ⟨C3, m3, v3⟩ := big 4078 (by omega)
      replace m3 : ∀ W : World, (Instr.makeSlice 33 (.int .i64 4078) (.int .i64 4078)).run Tryd.prog W = .ok (.slice (some ⟨W.heap.size, 0, none⟩) 4078 4078) (W.alloc (.cells C3 5)) := m3
      have K1 : Hid (_ : Prop) := least_any 0 wr
      rw [show lN 0 = 0 from rfl, show isK 0 = false from rfl] at K1
      have K2 : Hid (∀ X, _) := fun X => note_any 0 0 [] (by omega) (by omega) (by simp) X
      rw [show ntA 0 0 [] = .tuple #[.string ⟨#[]⟩, .int .i64 2] from rfl] at K2
      have K3 : Hid (∀ X, _) := fun X => note_any 1 0 (List.replicate 4076 0) (by omega) (by omega) (by rw [List.length_replicate]; omega) X
      rw [show ntA 1 0 (List.replicate 4076 0) = .tuple #[.string ⟨#[]⟩, .int .i64 3] by unfold ntA; rw [if_neg (by omega), if_pos (by rw [List.length_replicate]; omega)]] at K3
      have K4 : Hid (∀ X, _) := fun X => note_any 1 0 (List.replicate 4075 0) (by omega) (by omega) (by rw [List.length_replicate]; omega) X
      rw [show ntA 1 0 (List.replicate 4075 0) = .tuple #[.string ⟨(ntL 1 0 (List.replicate 4075 0)).toArray⟩, .int .i64 0] by unfold ntA; rw [if_neg (by omega), if_neg (by rw [List.length_replicate]; omega)]] at K4
      have K5 : Hid (∀ X, _) := fun X => read_any [6] X
      rw [show rdA [6] = .tuple #[.agg (ntC 0 0 []), .int .i64 4] from rfl] at K5
      have K6 : Hid (∀ X, _) := fun X => read_any [0, 2] X
      rw [show rdA [0, 2] = .tuple #[.agg (ntC 0 0 []), .int .i64 4] from rfl] at K6
      have K7 : Hid (∀ X, _) := fun X => read_any (List.replicate 4078 0) X
      rw [show rdA (List.replicate 4078 0) = .tuple #[.agg (ntC 0 0 []), .int .i64 3] by unfold rdA; rw [if_pos (by rw [List.length_replicate]; omega)]] at K7
      have K8 : Hid (∀ X, FamSizes X → _) := fun X h => refresh_any 0 X h
      rw [show rfA 0 = .tuple #[.string ⟨#[]⟩, .int .i64 2] from rfl] at K8
      have K9 : Hid (∀ X, FamSizes X → _) := fun X h => rr_any [0, 2, 7, 1] X h
      rw [show rrA [0, 2, 7, 1] = .tuple #[.int .i64 2, .int .i64 0] from by kernel_rfl] at K9
      have KA : Hid (∀ X, FamSizes X → _) := fun X h => rr_any [0, 3, 0, 1] X h
      rw [show rrA [0, 3, 0, 1] = .tuple #[.int .i64 0, .int .i64 5] from by kernel_rfl] at KA
      have KB : Hid (∀ X, FamSizes X → _) := fun X h => rr_any [0, 2, 0] X h
      rw [show rrA [0, 2, 0] = .tuple #[.int .i64 0, .int .i64 4] from by kernel_rfl] at KB
      have KC : Hid (∀ X, FamSizes X → _) := fun X h => works_any X h
      have KD : Hid (∀ X, _) := fun X => msize_any 9 0 X
      rw [s9] at KD
      have KE : Hid (∀ X, _) := fun X => msize_any 3 4077 X
      rw [s3] at KE
      have KF : Hid (∀ X, _) := fun X => msize_any 5 5 X
      rw [s5] at KF
      unfold ntC at K2 K3 K4 K5 K6 K7
      generalize (⟨(ntL 1 0 (List.replicate 4075 0)).toArray⟩ : ByteArray) = S0 at *
      generalize (⟨(List.replicate 4076 (0 : UInt8)).toArray⟩ : ByteArray) = S1 at *
      generalize (⟨(List.replicate 4075 (0 : UInt8)).toArray⟩ : ByteArray) = S2 at *
      generalize (⟨(List.replicate 4078 (0 : UInt8)).toArray⟩ : ByteArray) = S3 at *
      have H0 : Hid (Below w.heap.size w wr) := HK.out.bel
      clear HK
      go_wp2_with fail
      refine Calls.mono (K1.out) ?_
      rintro e w1 ⟨rfl, hb1⟩
      have H1 : Hid (Below w.heap.size w w1) := H0.out.trans (hb1.mono H0.out.size)
      clear hb1 K1 H0
      go_wp2_with fail
      refine Calls.mono (K2.out _) ?_
      rintro e w2 ⟨rfl, hb2⟩
      have H2 : Hid (Below w.heap.size w w2) := H1.out.trans (hb2.mono H1.out.size)
      clear hb2 K2 H1
      have A3 : Hid (Below w.heap.size w (w2.alloc (.cells C1 5))) := (H2.out).alloc (H2.out).size (.cells C1 5)
      go_wp2_with fail
      refine Calls.mono (K3.out _) ?_
      rintro e w3 ⟨rfl, hb3⟩
      have H3 : Hid (Below w.heap.size w w3) := A3.out.trans (hb3.mono A3.out.size)
      clear hb3 K3 H2 A3
      have A4 : Hid (Below w.heap.size w (w3.alloc (.cells C2 5))) := (H3.out).alloc (H3.out).size (.cells C2 5)
      go_wp2_with fail
      refine Calls.mono (K4.out _) ?_
      rintro e w4 ⟨rfl, hb4⟩
      have H4 : Hid (Below w.heap.size w w4) := A4.out.trans (hb4.mono A4.out.size)
      clear hb4 K4 H3 A4
      go_wp2_with fail
      refine Calls.mono (K5.out _) ?_
      rintro e w5 ⟨rfl, hb5⟩
      have H5 : Hid (Below w.heap.size w w5) := H4.out.trans (hb5.mono H4.out.size)
      clear hb5 K5 H4
      have A6 : Hid (Below w.heap.size w (w5.alloc (.cells #[.int .u8 0, .int .u8 0, .string ⟨#[]⟩] 32))) := (H5.out).alloc (H5.out).size (.cells #[.int .u8 0, .int .u8 0, .string ⟨#[]⟩] 32)
      go_wp2_with fail
      refine Calls.mono (K6.out _) ?_
      rintro e w6 ⟨rfl, hb6⟩
      have H6 : Hid (Below w.heap.size w w6) := A6.out.trans (hb6.mono A6.out.size)
      clear hb6 K6 H5 A6
      have A7 : Hid (Below w.heap.size w ((w6.alloc (.cells #[.int .u8 0, .int .u8 0, .string ⟨#[]⟩] 32)).alloc (.cells C3 5))) := ((H6.out).alloc (H6.out).size (.cells #[.int .u8 0, .int .u8 0, .string ⟨#[]⟩] 32)).alloc ((H6.out).alloc (H6.out).size (.cells #[.int .u8 0, .int .u8 0, .string ⟨#[]⟩] 32)).size (.cells C3 5)
      have v3b : (convert 33 9 (.slice (some ⟨w6.heap.size + 1, 0, none⟩) 4078 4078)).run Tryd.prog ((w6.alloc (.cells #[.int .u8 0, .int .u8 0, .string ⟨#[]⟩] 32)).alloc (.cells C3 5)) = .ok (.string S3) ((w6.alloc (.cells #[.int .u8 0, .int .u8 0, .string ⟨#[]⟩] 32)).alloc (.cells C3 5)) := by
        have := v3 (w6.alloc (.cells #[.int .u8 0, .int .u8 0, .string ⟨#[]⟩] 32))
        rwa [show (w6.alloc (.cells #[.int .u8 0, .int .u8 0, .string ⟨#[]⟩] 32)).heap.size = w6.heap.size + 1 by simp] at this
      go_wp2_with fail
      refine Calls.mono (K7.out _) ?_
      rintro e w7 ⟨rfl, hb7⟩
      have H7 : Hid (Below w.heap.size w w7) := A7.out.trans (hb7.mono A7.out.size)
      clear hb7 K7 H6 A7
      have A8 : Hid (Below w.heap.size w (w7.alloc (.cells #[.int .u8 0, .int .u8 0, .string ⟨#[]⟩] 32))) := (H7.out).alloc (H7.out).size (.cells #[.int .u8 0, .int .u8 0, .string ⟨#[]⟩] 32)
      go_wp2_with fail
      refine Calls.mono (K8.out _ (HG.out.below A8.out)) ?_
      rintro e w8 ⟨rfl, hb8⟩
      have H8 : Hid (Below w.heap.size w w8) := A8.out.trans (hb8.mono A8.out.size)
      clear hb8 K8 H7 A8
      go_wp2_with fail
      refine Calls.mono (K9.out _ (HG.out.below H8.out)) ?_
      rintro e w9 ⟨rfl, hb9⟩
      have H9 : Hid (Below w.heap.size w w9) := H8.out.trans (hb9.mono H8.out.size)
      clear hb9 K9 H8
      go_wp2_with fail
      refine Calls.mono (KA.out _ (HG.out.below H9.out)) ?_
      rintro e w10 ⟨rfl, hb10⟩
      have H10 : Hid (Below w.heap.size w w10) := H9.out.trans (hb10.mono H9.out.size)
      clear hb10 KA H9
      go_wp2_with fail
      refine Calls.mono (KB.out _ (HG.out.below H10.out)) ?_
      rintro e w11 ⟨rfl, hb11⟩
      have H11 : Hid (Below w.heap.size w w11) := H10.out.trans (hb11.mono H10.out.size)
      clear hb11 KB H10
      go_wp2_with fail
      refine Calls.mono (KC.out _ (HG.out.below H11.out)) ?_
      rintro e w12 ⟨rfl, hb12⟩
      have H12 : Hid (Below w.heap.size w w12) := H11.out.trans (hb12.mono H11.out.size)
      clear hb12 KC H11
      go_wp2_with fail
      refine Calls.mono (KD.out _) ?_
      rintro e w13 ⟨rfl, hb13⟩
      have H13 : Hid (Below w.heap.size w w13) := H12.out.trans (hb13.mono H12.out.size)
      clear hb13 KD H12
      go_wp2_with fail
      refine Calls.mono (KE.out _) ?_
      rintro e w14 ⟨rfl, hb14⟩
      have H14 : Hid (Below w.heap.size w w14) := H13.out.trans (hb14.mono H13.out.size)
      clear hb14 KE H13
      go_wp2_with fail
      refine Calls.mono (KF.out _) ?_
      rintro e w15 ⟨rfl, hb15⟩
      have H15 : Hid (Below w.heap.size w w15) := H14.out.trans (hb15.mono H14.out.size)
      clear hb15 KF H14
      go_wp2
      go_ret
      exact ⟨rfl, H15.out⟩
end Go.Proofs.YtkaghjohkhlimabDoor
