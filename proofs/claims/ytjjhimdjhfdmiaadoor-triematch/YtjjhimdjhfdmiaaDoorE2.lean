/-
  The law's own maker of prefixes, whatever the small numbers.
-/
import Derived.Test.YtjjhimdjhfdmiaaDoorE1
import Derived.Test.YtjjhimdjhfdmiaaDoorM0
namespace Go.Proofs.YtjjhimdjhfdmiaaDoor
open Go.RowKit
/-- The bytes ahead of the cut. -/
def spB (n a : Nat) : List UInt8 := UInt8.ofNat a :: UInt8.ofNat (a * 16 % 256) :: List.replicate n 0
/-- The family, the address, the length that are made of small numbers. -/
def spF (fm : Nat) : Nat := 1 + fm % 2
def spS (fm a ln : Nat) : ByteArray := ⟨(msk (spB (if fm % 2 = 0 then 2 else 14) a) ((ln % 13 : Nat) : Int)).toArray⟩
theorem sp_chk (fm a ln : Nat) : chk (spF fm) (0 : Nat) (spS fm a ln) (ln % 13 : Nat) = 0 := by
  have h : fm % 2 = 0 ∨ fm % 2 = 1 := by omega
  unfold spF spS
  rcases h with h | h <;> rw [h]
  · exact chk_cut 1 0 _ _ (by decide) rfl (by omega) (by show _ ≤ 8 * 4; omega) (Or.inl rfl)
  · exact chk_cut 2 0 _ _ (by decide) rfl (by omega) (by show _ ≤ 8 * 16; omega) (Or.inl rfl)
theorem u8_of {x : Nat} (hx : x < 256) : ((UInt8.ofNat x).toNat : Int) = x := by
  rw [UInt8.toNat_ofNat', Nat.mod_eq_of_lt (by omega)]
theorem mkb4 (w : World) : (Instr.makeSlice 60 (.int .i64 4) (.int .i64 4)).run Tryd.prog w = .ok (.slice (some ⟨w.heap.size, 0, none⟩) 4 4) (w.alloc (.cells #[.int .u8 0, .int .u8 0, .int .u8 0, .int .u8 0] 5)) := by kernel_rfl
theorem spcv4 (w : World) (fm a ln : Nat) (v : Int) (ha : a < 256) : (convert 60 9 (.slice (some ⟨w.heap.size + 1 + 1, 0, none⟩) 4 4)).run Tryd.prog (((w.alloc (.cells #[.int .u8 fm, .int .u8 a, .int .u8 ln, .int .i16 v] 33)).alloc (.cells #[.int .i64 0, .int .u64 0, .string ⟨#[]⟩, .int .i64 0] 29)).alloc (.cells #[.int .u8 a, .int .u8 ((a : Int) * 16 % 256), .int .u8 0, .int .u8 0] 5)) = .ok (.string ⟨(spB 2 a).toArray⟩) (((w.alloc (.cells #[.int .u8 fm, .int .u8 a, .int .u8 ln, .int .i16 v] 33)).alloc (.cells #[.int .i64 0, .int .u64 0, .string ⟨#[]⟩, .int .i64 0] 29)).alloc (.cells #[.int .u8 a, .int .u8 ((a : Int) * 16 % 256), .int .u8 0, .int .u8 0] 5)) := by
  refine run_convert_bytes_back (P := Tryd.prog) _ 60 9 5 ⟨w.heap.size + 1 + 1, 0, none⟩ 4 (spB 2 a) Tryd.underlying60 Tryd.underlying5 Tryd.underlying9 (fun j hj => ?_)
  have hj' : j < 4 := hj
  rw [show Addr.add ⟨w.heap.size + 1 + 1, 0, none⟩ j = ⟨w.heap.size + 1 + 1, j, none⟩ from by unfold Addr.add; by_cases e : j = 0 <;> simp [e], World.cell?_alloc_at _ _ _ _ (by simp)]
  have c : j = 0 ∨ j = 1 ∨ j = 2 ∨ j = 3 := by omega
  rcases c with rfl | rfl | rfl | rfl
  · show some (Value.int .u8 (a : Int)) = some (.int .u8 ((UInt8.ofNat a).toNat : Int)); rw [u8_of ha]
  · show some (Value.int .u8 ((a : Int) * 16 % 256)) = some (.int .u8 ((UInt8.ofNat (a * 16 % 256)).toNat : Int)); rw [u8_of (by omega)]; simp
  all_goals rfl
set_option maxRecDepth 100000 in
set_option maxHeartbeats 800000 in
theorem of_4 (fm a ln : Nat) (v : Int) (w : World) (h : Tabs w) (hf : fm < 256) (ha : a < 256) (hl : ln < 256) (hm : fm % 2 = 0) :
    Calls Tryd.prog 9 #[.agg #[.int .u8 fm, .int .u8 a, .int .u8 ln, .int .i16 v]] w fun e w' => e = .returned (.agg #[.int .i64 (spF fm), .int .u64 0, .string (spS fm a ln), .int .i64 ((ln % 13 : Nat) : Int)]) ∧ Below w.heap.size w w' := by
  have hmi : (fm : Int) % 2 = 0 := by omega
  have HS : Hid (spS fm a ln = ⟨(msk (spB 2 a) ((ln % 13 : Nat) : Int)).toArray⟩) := by show spS fm a ln = _; unfold spS; rw [hm]; rfl
  have HF : Hid (spF fm = 1) := by show spF fm = 1; unfold spF; omega
  have hmk := mkb4
  have hcv := spcv4 w fm a ln v ha
  have hB1 : Below w.heap.size w ((w.alloc (.cells #[.int .u8 fm, .int .u8 a, .int .u8 ln, .int .i16 v] 33)).alloc (.cells #[.int .i64 0, .int .u64 0, .string ⟨#[]⟩, .int .i64 0] 29)) := ((Below.refl _ _).alloc (Nat.le_refl _) _).alloc (by simp) _
  clear hm
  go_enter Tryd.func9, Tryd.ntmps9
  go_wp2_with fail
  refine (size_any 1 _ (h.below hB1).sizes).mono ?_
  rintro e w' ⟨rfl, rfl⟩
  rw [show szOf 1 = 4 from rfl]
  go_wp2_with fail
  have hB2 : Below w.heap.size w (((w.alloc (.cells #[.int .u8 fm, .int .u8 a, .int .u8 ln, .int .i16 v] 33)).alloc (.cells #[.int .i64 0, .int .u64 0, .string ⟨#[]⟩, .int .i64 0] 29)).alloc (.cells #[.int .u8 a, .int .u8 ((a : Int) * 16 % 256), .int .u8 0, .int .u8 0] 5)) := hB1.alloc (by simp; omega) _
  have hz2 : w.heap.size + 1 < (((w.alloc (.cells #[.int .u8 fm, .int .u8 a, .int .u8 ln, .int .i16 v] 33)).alloc (.cells #[.int .i64 0, .int .u64 0, .string ⟨#[]⟩, .int .i64 0] 29)).alloc (.cells #[.int .u8 a, .int .u8 ((a : Int) * 16 % 256), .int .u8 0, .int .u8 0] 5)).heap.size := by simp
  have T2 := h.below hB2
  have pz : PfxAt (((w.alloc (.cells #[.int .u8 fm, .int .u8 a, .int .u8 ln, .int .i16 v] 33)).alloc (.cells #[.int .i64 0, .int .u64 0, .string ⟨#[]⟩, .int .i64 0] 29)).alloc (.cells #[.int .u8 a, .int .u8 ((a : Int) * 16 % 256), .int .u8 0, .int .u8 0] 5)) (w.heap.size + 1) 0 0 ⟨#[]⟩ 0 := (PfxAt.of_alloc (w.alloc _) _ 0 0 ⟨#[]⟩ 0 (by simp)).kept (B := w.heap.size + 1 + 1) ((Below.refl _ _).alloc (by simp) _) (by simp)
  clear hmk hcv hB1
  generalize ((w.alloc (.cells #[.int .u8 fm, .int .u8 a, .int .u8 ln, .int .i16 v] 33)).alloc (.cells #[.int .i64 0, .int .u64 0, .string ⟨#[]⟩, .int .i64 0] 29)).alloc (.cells #[.int .u8 a, .int .u8 ((a : Int) * 16 % 256), .int .u8 0, .int .u8 0] 5) = w2 at *
  have hck : chk 1 0 ⟨(spB 2 a).toArray⟩ 32 = 0 := chk_full 1 0 ⟨(spB 2 a).toArray⟩ (by decide) rfl (Or.inl rfl)
  refine (cut_yes 1 0 ⟨(spB 2 a).toArray⟩ 32 ((ln : Int) % 13) _ T2.sizes T2.rds hck (by omega) (by omega)).mono ?_
  rintro e w3 ⟨rfl, hb3⟩
  rw [show msk (⟨(spB 2 a).toArray⟩ : ByteArray).data.toList ((ln : Int) % 13) = msk (spB 2 a) ((ln % 13 : Nat) : Int) from by simp]
  obtain ⟨d0, d1, d2, d3, g0, g1, g2, g3⟩ := pz.kept hb3 hz2
  have hB3 := hB2.trans (hb3.mono hB2.size)
  have hs3 : w.heap.size + 1 < w3.heap.size := Nat.lt_of_lt_of_le hz2 hb3.size
  have ne : w3.heap.size ≠ w.heap.size + 1 := by omega
  clear hck hb3 hB2 hz2 T2 pz
  go_wp2
  refine bodyPost_ret (v := .agg #[.int .i64 1, .int .u64 0, .string ⟨(msk (spB 2 a) ((ln % 13 : Nat) : Int)).toArray⟩, .int .i64 ((ln : Int) % 13)]) (by simp [results, Tryd.results9, go_sem, d0, d1, d2, d3, hs3]) rfl ⟨?_, ?_⟩
  · rw [HS.out, HF.out]; rfl
  · have l1 : w.heap.size ≤ w.heap.size + 1 := Nat.le_succ _
    exact ((((hB3.setCell l1 _).setCell l1 _).setCell l1 _).setCell l1 _).alloc (by simp; omega) _
theorem mkb16 (w : World) : (Instr.makeSlice 60 (.int .i64 16) (.int .i64 16)).run Tryd.prog w = .ok (.slice (some ⟨w.heap.size, 0, none⟩) 16 16) (w.alloc (.cells #[.int .u8 0, .int .u8 0, .int .u8 0, .int .u8 0, .int .u8 0, .int .u8 0, .int .u8 0, .int .u8 0, .int .u8 0, .int .u8 0, .int .u8 0, .int .u8 0, .int .u8 0, .int .u8 0, .int .u8 0, .int .u8 0] 5)) := by kernel_rfl
theorem spcv16 (w : World) (fm a ln : Nat) (v : Int) (ha : a < 256) : (convert 60 9 (.slice (some ⟨w.heap.size + 1 + 1, 0, none⟩) 16 16)).run Tryd.prog (((w.alloc (.cells #[.int .u8 fm, .int .u8 a, .int .u8 ln, .int .i16 v] 33)).alloc (.cells #[.int .i64 0, .int .u64 0, .string ⟨#[]⟩, .int .i64 0] 29)).alloc (.cells #[.int .u8 a, .int .u8 ((a : Int) * 16 % 256), .int .u8 0, .int .u8 0, .int .u8 0, .int .u8 0, .int .u8 0, .int .u8 0, .int .u8 0, .int .u8 0, .int .u8 0, .int .u8 0, .int .u8 0, .int .u8 0, .int .u8 0, .int .u8 0] 5)) = .ok (.string ⟨(spB 14 a).toArray⟩) (((w.alloc (.cells #[.int .u8 fm, .int .u8 a, .int .u8 ln, .int .i16 v] 33)).alloc (.cells #[.int .i64 0, .int .u64 0, .string ⟨#[]⟩, .int .i64 0] 29)).alloc (.cells #[.int .u8 a, .int .u8 ((a : Int) * 16 % 256), .int .u8 0, .int .u8 0, .int .u8 0, .int .u8 0, .int .u8 0, .int .u8 0, .int .u8 0, .int .u8 0, .int .u8 0, .int .u8 0, .int .u8 0, .int .u8 0, .int .u8 0, .int .u8 0] 5)) := by
  refine run_convert_bytes_back (P := Tryd.prog) _ 60 9 5 ⟨w.heap.size + 1 + 1, 0, none⟩ 16 (spB 14 a) Tryd.underlying60 Tryd.underlying5 Tryd.underlying9 (fun j hj => ?_)
  have hj' : j < 16 := hj
  rw [show Addr.add ⟨w.heap.size + 1 + 1, 0, none⟩ j = ⟨w.heap.size + 1 + 1, j, none⟩ from by unfold Addr.add; by_cases e : j = 0 <;> simp [e], World.cell?_alloc_at _ _ _ _ (by simp)]
  have c : j = 0 ∨ j = 1 ∨ j = 2 ∨ j = 3 ∨ j = 4 ∨ j = 5 ∨ j = 6 ∨ j = 7 ∨ j = 8 ∨ j = 9 ∨ j = 10 ∨ j = 11 ∨ j = 12 ∨ j = 13 ∨ j = 14 ∨ j = 15 := by omega
  rcases c with rfl | rfl | rfl | rfl | rfl | rfl | rfl | rfl | rfl | rfl | rfl | rfl | rfl | rfl | rfl | rfl
  · show some (Value.int .u8 (a : Int)) = some (.int .u8 ((UInt8.ofNat a).toNat : Int)); rw [u8_of ha]
  · show some (Value.int .u8 ((a : Int) * 16 % 256)) = some (.int .u8 ((UInt8.ofNat (a * 16 % 256)).toNat : Int)); rw [u8_of (by omega)]; simp
  all_goals rfl
set_option maxRecDepth 100000 in
set_option maxHeartbeats 800000 in
theorem of_16 (fm a ln : Nat) (v : Int) (w : World) (h : Tabs w) (hf : fm < 256) (ha : a < 256) (hl : ln < 256) (hm : fm % 2 = 1) :
    Calls Tryd.prog 9 #[.agg #[.int .u8 fm, .int .u8 a, .int .u8 ln, .int .i16 v]] w fun e w' => e = .returned (.agg #[.int .i64 (spF fm), .int .u64 0, .string (spS fm a ln), .int .i64 ((ln % 13 : Nat) : Int)]) ∧ Below w.heap.size w w' := by
  have hmi : (fm : Int) % 2 = 1 := by omega
  have HS : Hid (spS fm a ln = ⟨(msk (spB 14 a) ((ln % 13 : Nat) : Int)).toArray⟩) := by show spS fm a ln = _; unfold spS; rw [hm]; rfl
  have HF : Hid (spF fm = 2) := by show spF fm = 2; unfold spF; omega
  have hmk := mkb16
  have hcv := spcv16 w fm a ln v ha
  have hB1 : Below w.heap.size w ((w.alloc (.cells #[.int .u8 fm, .int .u8 a, .int .u8 ln, .int .i16 v] 33)).alloc (.cells #[.int .i64 0, .int .u64 0, .string ⟨#[]⟩, .int .i64 0] 29)) := ((Below.refl _ _).alloc (Nat.le_refl _) _).alloc (by simp) _
  clear hm
  go_enter Tryd.func9, Tryd.ntmps9
  go_wp2_with fail
  refine (size_any 2 _ (h.below hB1).sizes).mono ?_
  rintro e w' ⟨rfl, rfl⟩
  rw [show szOf 2 = 16 from rfl]
  go_wp2_with fail
  have hB2 : Below w.heap.size w (((w.alloc (.cells #[.int .u8 fm, .int .u8 a, .int .u8 ln, .int .i16 v] 33)).alloc (.cells #[.int .i64 0, .int .u64 0, .string ⟨#[]⟩, .int .i64 0] 29)).alloc (.cells #[.int .u8 a, .int .u8 ((a : Int) * 16 % 256), .int .u8 0, .int .u8 0, .int .u8 0, .int .u8 0, .int .u8 0, .int .u8 0, .int .u8 0, .int .u8 0, .int .u8 0, .int .u8 0, .int .u8 0, .int .u8 0, .int .u8 0, .int .u8 0] 5)) := hB1.alloc (by simp; omega) _
  have hz2 : w.heap.size + 1 < (((w.alloc (.cells #[.int .u8 fm, .int .u8 a, .int .u8 ln, .int .i16 v] 33)).alloc (.cells #[.int .i64 0, .int .u64 0, .string ⟨#[]⟩, .int .i64 0] 29)).alloc (.cells #[.int .u8 a, .int .u8 ((a : Int) * 16 % 256), .int .u8 0, .int .u8 0, .int .u8 0, .int .u8 0, .int .u8 0, .int .u8 0, .int .u8 0, .int .u8 0, .int .u8 0, .int .u8 0, .int .u8 0, .int .u8 0, .int .u8 0, .int .u8 0] 5)).heap.size := by simp
  have T2 := h.below hB2
  have pz : PfxAt (((w.alloc (.cells #[.int .u8 fm, .int .u8 a, .int .u8 ln, .int .i16 v] 33)).alloc (.cells #[.int .i64 0, .int .u64 0, .string ⟨#[]⟩, .int .i64 0] 29)).alloc (.cells #[.int .u8 a, .int .u8 ((a : Int) * 16 % 256), .int .u8 0, .int .u8 0, .int .u8 0, .int .u8 0, .int .u8 0, .int .u8 0, .int .u8 0, .int .u8 0, .int .u8 0, .int .u8 0, .int .u8 0, .int .u8 0, .int .u8 0, .int .u8 0] 5)) (w.heap.size + 1) 0 0 ⟨#[]⟩ 0 := (PfxAt.of_alloc (w.alloc _) _ 0 0 ⟨#[]⟩ 0 (by simp)).kept (B := w.heap.size + 1 + 1) ((Below.refl _ _).alloc (by simp) _) (by simp)
  clear hmk hcv hB1
  generalize ((w.alloc (.cells #[.int .u8 fm, .int .u8 a, .int .u8 ln, .int .i16 v] 33)).alloc (.cells #[.int .i64 0, .int .u64 0, .string ⟨#[]⟩, .int .i64 0] 29)).alloc (.cells #[.int .u8 a, .int .u8 ((a : Int) * 16 % 256), .int .u8 0, .int .u8 0, .int .u8 0, .int .u8 0, .int .u8 0, .int .u8 0, .int .u8 0, .int .u8 0, .int .u8 0, .int .u8 0, .int .u8 0, .int .u8 0, .int .u8 0, .int .u8 0] 5) = w2 at *
  have hck : chk 2 0 ⟨(spB 14 a).toArray⟩ 128 = 0 := chk_full 2 0 ⟨(spB 14 a).toArray⟩ (by decide) rfl (Or.inl rfl)
  refine (cut_yes 2 0 ⟨(spB 14 a).toArray⟩ 128 ((ln : Int) % 13) _ T2.sizes T2.rds hck (by omega) (by omega)).mono ?_
  rintro e w3 ⟨rfl, hb3⟩
  rw [show msk (⟨(spB 14 a).toArray⟩ : ByteArray).data.toList ((ln : Int) % 13) = msk (spB 14 a) ((ln % 13 : Nat) : Int) from by simp]
  obtain ⟨d0, d1, d2, d3, g0, g1, g2, g3⟩ := pz.kept hb3 hz2
  have hB3 := hB2.trans (hb3.mono hB2.size)
  have hs3 : w.heap.size + 1 < w3.heap.size := Nat.lt_of_lt_of_le hz2 hb3.size
  have ne : w3.heap.size ≠ w.heap.size + 1 := by omega
  clear hck hb3 hB2 hz2 T2 pz
  go_wp2
  refine bodyPost_ret (v := .agg #[.int .i64 2, .int .u64 0, .string ⟨(msk (spB 14 a) ((ln % 13 : Nat) : Int)).toArray⟩, .int .i64 ((ln : Int) % 13)]) (by simp [results, Tryd.results9, go_sem, d0, d1, d2, d3, hs3]) rfl ⟨?_, ?_⟩
  · rw [HS.out, HF.out]; rfl
  · have l1 : w.heap.size ≤ w.heap.size + 1 := Nat.le_succ _
    exact ((((hB3.setCell l1 _).setCell l1 _).setCell l1 _).setCell l1 _).alloc (by simp; omega) _
theorem of_any (fm a ln : Nat) (v : Int) (w : World) (h : Tabs w) (hf : fm < 256) (ha : a < 256) (hl : ln < 256) :
    Calls Tryd.prog 9 #[.agg #[.int .u8 fm, .int .u8 a, .int .u8 ln, .int .i16 v]] w fun e w' => e = .returned (.agg #[.int .i64 (spF fm), .int .u64 ((0 : Nat) : Int), .string (spS fm a ln), .int .i64 ((ln % 13 : Nat) : Int)]) ∧ Below w.heap.size w w' := by
  have c : fm % 2 = 0 ∨ fm % 2 = 1 := by omega
  rcases c with c | c
  · exact of_4 fm a ln v w h hf ha hl c
  · exact of_16 fm a ln v w h hf ha hl c
end Go.Proofs.YtjjhimdjhfdmiaaDoor
