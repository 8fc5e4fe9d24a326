/-
  ReadNote and the reference's.
-/
import Derived.Test.YtkaghjohkhlimabDoorMF
namespace Go.Proofs.YtkaghjohkhlimabDoor
open Go.RowKit
theorem ext_l (l : List UInt8) (n : Nat) : (⟨l.toArray⟩ : ByteArray).extract n (⟨l.toArray⟩ : ByteArray).size = ⟨(l.drop n).toArray⟩ := by
  apply ByteArray.ext
  simp [list_size]
  exact List.take_of_length_le (by simp)
theorem num_l (p : Nat) (l : List UInt8) (n : Nat) (w : World) (h : RdrAt w p ⟨l.toArray⟩) (h0 : 1 ≤ n) (h1 : n ≤ 8) (hn : n ≤ l.length) :
    Calls Tryd.prog 16 #[.pointer (some ⟨p, 0, none⟩), .int .i64 (n : Int)] w fun e w' =>
      e = .returned (.tuple #[.int .u64 (worth (l.take n) : Int), .bool true]) ∧ RdrAt w' p ⟨(l.drop n).toArray⟩ ∧ Beside p w w' := by
  have := num_yes p ⟨l.toArray⟩ n w h h0 h1 hn
  rw [ext_l] at this
  exact this
theorem worth1 (c : UInt8) : worth [c] = c.toNat := by simp [worth]
/-- What is read so far: the reader behind the answer's block. -/
structure RN (w wr : World) (l : List UInt8) : Prop where
  rd : RdrAt wr (w.heap.size + 1) ⟨l.toArray⟩
  res : wr.heap[w.heap.size]? = some (.cells (ntC 0 0 []) 32 (0, 0))
  bel : Below w.heap.size w wr
theorem RN.next {w wr w' : World} {l l' : List UInt8} (h : RN w wr l) (hr : RdrAt w' (w.heap.size + 1) ⟨l'.toArray⟩) (hb : Beside (w.heap.size + 1) wr w') : RN w w' l' :=
  ⟨hr, (hb.block _ (lt_of_heap h.res) (by omega)).trans h.res, h.bel.trans (hb.below (by omega) h.bel.size)⟩
/-- What ReadNote answers. -/
def rdA (l : List UInt8) : Value :=
  if 4077 < l.length then .tuple #[.agg (ntC 0 0 []), .int .i64 3] else
  match l with
  | c :: s :: d => if c.toNat = 0 then .tuple #[.agg (ntC 0 0 []), .int .i64 4] else .tuple #[.agg (ntC c.toNat s.toNat d), .int .i64 0]
  | _ => .tuple #[.agg (ntC 0 0 []), .int .i64 4]
theorem ntC_one (c s : Nat) (d : List UInt8) : (ntC c s d).all (·.oneCell') = true := by simp [ntC, Value.oneCell']
theorem ntC_size (c s : Nat) (d : List UInt8) : (ntC c s d).size = 3 := rfl
set_option maxHeartbeats 800000 in
theorem read_long (l : List UInt8) (hl : 4077 < l.length) (w : World) : Calls Tryd.prog 7 #[.string ⟨l.toArray⟩] w fun e w' => e = .returned (rdA l) ∧ Below w.heap.size w w' := by
  have HA : Hid (rdA l = .tuple #[.agg (ntC 0 0 []), .int .i64 3]) := by unfold Hid rdA; rw [if_pos hl]
  have hsz : (⟨l.toArray⟩ : ByteArray).size = l.length := rfl
  have g1 : (4077 : Int) < (l.length : Int) := by omega
  have HR9 : Hid (RN w (w.alloc (.cells #[.int .u8 0, .int .u8 0, .string ⟨#[]⟩] 32)) [] ∨ ((w.alloc (.cells #[.int .u8 0, .int .u8 0, .string ⟨#[]⟩] 32)).heap[w.heap.size]? = some (.cells (ntC 0 0 []) 32 (0, 0)) ∧ Below w.heap.size w (w.alloc (.cells #[.int .u8 0, .int .u8 0, .string ⟨#[]⟩] 32)))) := Or.inr ⟨hp_new rfl, (Below.refl _ _).alloc (Nat.le_refl _) _⟩
  have HB : Hid (Below w.heap.size w (w.alloc (.cells #[.int .u8 0, .int .u8 0, .string ⟨#[]⟩] 32))) := (Below.refl _ _).alloc (Nat.le_refl _) _
  clear hl HR9
  go_enter Tryd.func7, Tryd.ntmps7
  go_wp2
  rw [HA.out]
  refine bodyPost_ret (v := .tuple #[.agg (ntC 0 0 []), .int .i64 3]) (by simp [results, Tryd.results7, go_sem, ntC]) rfl ⟨rfl, HB.out⟩
set_option maxHeartbeats 800000 in
theorem read_0 (l : List UInt8) (hl : l = []) (w : World) : Calls Tryd.prog 7 #[.string ⟨l.toArray⟩] w fun e w' => e = .returned (rdA l) ∧ Below w.heap.size w w' := by
  have HA : Hid (rdA l = .tuple #[.agg (ntC 0 0 []), .int .i64 4]) := by unfold Hid; rw [hl]; rfl
  have hle : l.length ≤ 4077 := by rw [hl]; simp
  have HL : Hid (l = []) := hl
  have hsz : (⟨l.toArray⟩ : ByteArray).size = l.length := rfl
  have g1 : decide ((4077 : Int) < (l.length : Int)) = false := by simp; omega
  have KN : Hid (_ : Prop) := new_any ⟨l.toArray⟩ (w.alloc (.cells #[.int .u8 0, .int .u8 0, .string ⟨#[]⟩] 32))
  have HB : Hid (Below w.heap.size w (w.alloc (.cells #[.int .u8 0, .int .u8 0, .string ⟨#[]⟩] 32))) := (Below.refl _ _).alloc (Nat.le_refl _) _
  have HS : Hid ((w.alloc (.cells #[.int .u8 0, .int .u8 0, .string ⟨#[]⟩] 32)).heap.size = w.heap.size + 1) := by simp [Hid]
  have HRS : Hid ((w.alloc (.cells #[.int .u8 0, .int .u8 0, .string ⟨#[]⟩] 32)).heap[w.heap.size]? = some (.cells (ntC 0 0 []) 32 (0, 0))) := hp_new rfl
  clear hl hle
  go_enter Tryd.func7, Tryd.ntmps7
  go_wp2_with fail
  refine Calls.mono KN.out ?_
  rintro e w1 ⟨rfl, hr1, hb1, hs1⟩
  rw [HS.out] at hr1 hb1 hs1
  rw [HS.out]
  have HR1 : Hid (RN w w1 l) := ⟨hr1, (hb1.block _ (by omega)).trans HRS.out, HB.out.trans (hb1.mono (by omega))⟩
  clear hr1 hb1 hs1
  go_wp2_with fail
  refine Calls.mono (num_no (w.heap.size + 1) ⟨l.toArray⟩ 1 w1 HR1.out.rd (by omega) (by omega) (by rw [HL.out]; decide)) ?_
  rintro e w2 ⟨rfl, hr2, hb2⟩
  have HR2 : Hid (RN w w2 l) := HR1.out.next hr2 hb2
  clear hr2 hb2
  go_wp2_with fail
  refine Calls.mono (num_no (w.heap.size + 1) ⟨l.toArray⟩ 1 w2 HR2.out.rd (by omega) (by omega) (by rw [HL.out]; decide)) ?_
  rintro e w3 ⟨rfl, hr3, hb3⟩
  have HR9 : Hid (RN w w3 l) := HR2.out.next hr3 hb3
  clear hr3 hb3
  go_wp2_with (refine wpList_store_row rfl 32 _ _ rfl w.heap.size (ntC 0 0 []) rfl rfl 32 _ HR9.out.res size30 rfl (ntC_one _ _ _) ?_)
  have hr := row_same w3 w.heap.size _ (ntC 0 0 []) HR9.out.res
  have c0 := cl_row (i := 0) (v := .int .u8 (0 : Nat)) hr rfl
  have c1 := cl_row (i := 1) (v := .int .u8 (0 : Nat)) hr rfl
  have c2 := cl_row (i := 2) (v := .string ⟨([] : List UInt8).toArray⟩) hr rfl
  have HB9 : Hid (Below w.heap.size w (w3.setRow w.heap.size (ntC 0 0 []))) := below_setRow HR9.out.bel (Nat.le_refl _) _
  rw [HA.out]
  generalize w3.setRow w.heap.size (ntC 0 0 []) = W9 at *
  refine bodyPost_ret (v := .tuple #[.agg (ntC 0 0 []), .int .i64 4]) (by simp [results, Tryd.results7, go_sem, c0, c1, c2, ntC]) rfl ⟨rfl, HB9.out⟩
set_option maxHeartbeats 800000 in
theorem read_1 (l : List UInt8) (c : UInt8) (hl : l = [c]) (w : World) : Calls Tryd.prog 7 #[.string ⟨l.toArray⟩] w fun e w' => e = .returned (rdA l) ∧ Below w.heap.size w w' := by
  have HA : Hid (rdA l = .tuple #[.agg (ntC 0 0 []), .int .i64 4]) := by unfold Hid; rw [hl]; rfl
  have hle : l.length ≤ 4077 := by rw [hl]; simp
  have HL : Hid (l = [c]) := hl
  have KA : Hid (∀ X, RdrAt X (w.heap.size + 1) ⟨l.toArray⟩ → Calls Tryd.prog 16 #[.pointer (some ⟨w.heap.size + 1, 0, none⟩), .int .i64 1] X fun e w' => e = .returned (.tuple #[.int .u64 (c.toNat : Int), .bool true]) ∧ RdrAt w' (w.heap.size + 1) ⟨([] : List UInt8).toArray⟩ ∧ Beside (w.heap.size + 1) X w') := fun X h => by
    have := num_l (w.heap.size + 1) l 1 X h (by omega) (by omega) (by rw [hl]; simp)
    rw [hl] at this
    simpa [worth1] using this
  have hsz : (⟨l.toArray⟩ : ByteArray).size = l.length := rfl
  have g1 : decide ((4077 : Int) < (l.length : Int)) = false := by simp; omega
  have KN : Hid (_ : Prop) := new_any ⟨l.toArray⟩ (w.alloc (.cells #[.int .u8 0, .int .u8 0, .string ⟨#[]⟩] 32))
  have HB : Hid (Below w.heap.size w (w.alloc (.cells #[.int .u8 0, .int .u8 0, .string ⟨#[]⟩] 32))) := (Below.refl _ _).alloc (Nat.le_refl _) _
  have HS : Hid ((w.alloc (.cells #[.int .u8 0, .int .u8 0, .string ⟨#[]⟩] 32)).heap.size = w.heap.size + 1) := by simp [Hid]
  have HRS : Hid ((w.alloc (.cells #[.int .u8 0, .int .u8 0, .string ⟨#[]⟩] 32)).heap[w.heap.size]? = some (.cells (ntC 0 0 []) 32 (0, 0))) := hp_new rfl
  clear hl hle
  go_enter Tryd.func7, Tryd.ntmps7
  go_wp2_with fail
  refine Calls.mono KN.out ?_
  rintro e w1 ⟨rfl, hr1, hb1, hs1⟩
  rw [HS.out] at hr1 hb1 hs1
  rw [HS.out]
  have HR1 : Hid (RN w w1 l) := ⟨hr1, (hb1.block _ (by omega)).trans HRS.out, HB.out.trans (hb1.mono (by omega))⟩
  clear hr1 hb1 hs1
  go_wp2_with fail
  refine Calls.mono (KA.out w1 HR1.out.rd) ?_
  rintro e w2 ⟨rfl, hr2, hb2⟩
  have HR2 : Hid (RN w w2 []) := HR1.out.next hr2 hb2
  clear hr2 hb2
  go_wp2_with fail
  refine Calls.mono (num_no (w.heap.size + 1) ⟨([] : List UInt8).toArray⟩ 1 w2 HR2.out.rd (by omega) (by omega) (by decide)) ?_
  rintro e w3 ⟨rfl, hr3, hb3⟩
  have HR9 : Hid (RN w w3 []) := HR2.out.next hr3 hb3
  clear hr3 hb3
  go_wp2_with (refine wpList_store_row rfl 32 _ _ rfl w.heap.size (ntC 0 0 []) rfl rfl 32 _ HR9.out.res size30 rfl (ntC_one _ _ _) ?_)
  have hr := row_same w3 w.heap.size _ (ntC 0 0 []) HR9.out.res
  have c0 := cl_row (i := 0) (v := .int .u8 (0 : Nat)) hr rfl
  have c1 := cl_row (i := 1) (v := .int .u8 (0 : Nat)) hr rfl
  have c2 := cl_row (i := 2) (v := .string ⟨([] : List UInt8).toArray⟩) hr rfl
  have HB9 : Hid (Below w.heap.size w (w3.setRow w.heap.size (ntC 0 0 []))) := below_setRow HR9.out.bel (Nat.le_refl _) _
  rw [HA.out]
  generalize w3.setRow w.heap.size (ntC 0 0 []) = W9 at *
  refine bodyPost_ret (v := .tuple #[.agg (ntC 0 0 []), .int .i64 4]) (by simp [results, Tryd.results7, go_sem, c0, c1, c2, ntC]) rfl ⟨rfl, HB9.out⟩
set_option maxHeartbeats 800000 in
theorem read_2 (l : List UInt8) (hle : l.length ≤ 4077) (c s : UInt8) (d : List UInt8) (hl : l = c :: s :: d) (hz : c.toNat = 0) (w : World) : Calls Tryd.prog 7 #[.string ⟨l.toArray⟩] w fun e w' => e = .returned (rdA l) ∧ Below w.heap.size w w' := by
  have HA : Hid (rdA l = .tuple #[.agg (ntC 0 0 []), .int .i64 4]) := by unfold Hid; rw [hl] at hle ⊢; unfold rdA; rw [if_neg (by omega)]; exact if_pos hz
  have HL : Hid (l = c :: s :: d) := hl
  have KA : Hid (∀ X, RdrAt X (w.heap.size + 1) ⟨l.toArray⟩ → Calls Tryd.prog 16 #[.pointer (some ⟨w.heap.size + 1, 0, none⟩), .int .i64 1] X fun e w' => e = .returned (.tuple #[.int .u64 (c.toNat : Int), .bool true]) ∧ RdrAt w' (w.heap.size + 1) ⟨(s :: d).toArray⟩ ∧ Beside (w.heap.size + 1) X w') := fun X h => by
    have := num_l (w.heap.size + 1) l 1 X h (by omega) (by omega) (by rw [hl]; simp)
    rw [hl] at this
    simpa [worth1] using this
  have KB : Hid (∀ X, RdrAt X (w.heap.size + 1) ⟨(s :: d).toArray⟩ → Calls Tryd.prog 16 #[.pointer (some ⟨w.heap.size + 1, 0, none⟩), .int .i64 1] X fun e w' => e = .returned (.tuple #[.int .u64 (s.toNat : Int), .bool true]) ∧ RdrAt w' (w.heap.size + 1) ⟨d.toArray⟩ ∧ Beside (w.heap.size + 1) X w') := fun X h => by
    have := num_l (w.heap.size + 1) (s :: d) 1 X h (by omega) (by omega) (by simp)
    simpa [worth1] using this
  have hc := c.toNat_lt
  have hs := s.toNat_lt
  have gz : (((c.toNat : Nat) : Int) == 0) = true := by simp [hz]
  have gc : IntKind.u8.wrap (c.toNat : Int) = (c.toNat : Int) := by simp [IntKind.wrap, IntKind.signed, IntKind.bits]; omega
  have gs : IntKind.u8.wrap (s.toNat : Int) = (s.toNat : Int) := by simp [IntKind.wrap, IntKind.signed, IntKind.bits]; omega
  have hsz : (⟨l.toArray⟩ : ByteArray).size = l.length := rfl
  have g1 : decide ((4077 : Int) < (l.length : Int)) = false := by simp; omega
  have KN : Hid (_ : Prop) := new_any ⟨l.toArray⟩ (w.alloc (.cells #[.int .u8 0, .int .u8 0, .string ⟨#[]⟩] 32))
  have HB : Hid (Below w.heap.size w (w.alloc (.cells #[.int .u8 0, .int .u8 0, .string ⟨#[]⟩] 32))) := (Below.refl _ _).alloc (Nat.le_refl _) _
  have HS : Hid ((w.alloc (.cells #[.int .u8 0, .int .u8 0, .string ⟨#[]⟩] 32)).heap.size = w.heap.size + 1) := by simp [Hid]
  have HRS : Hid ((w.alloc (.cells #[.int .u8 0, .int .u8 0, .string ⟨#[]⟩] 32)).heap[w.heap.size]? = some (.cells (ntC 0 0 []) 32 (0, 0))) := hp_new rfl
  generalize c.toNat = cn at *
  generalize s.toNat = sn at *
  clear hl hle hz hc hs
  go_enter Tryd.func7, Tryd.ntmps7
  go_wp2_with fail
  refine Calls.mono KN.out ?_
  rintro e w1 ⟨rfl, hr1, hb1, hs1⟩
  rw [HS.out] at hr1 hb1 hs1
  rw [HS.out]
  have HR1 : Hid (RN w w1 l) := ⟨hr1, (hb1.block _ (by omega)).trans HRS.out, HB.out.trans (hb1.mono (by omega))⟩
  clear hr1 hb1 hs1
  go_wp2_with fail
  refine Calls.mono (KA.out w1 HR1.out.rd) ?_
  rintro e w2 ⟨rfl, hr2, hb2⟩
  have HR2 : Hid (RN w w2 (s :: d)) := HR1.out.next hr2 hb2
  clear hr2 hb2
  go_wp2_with fail
  refine Calls.mono (KB.out w2 HR2.out.rd) ?_
  rintro e w3 ⟨rfl, hr3, hb3⟩
  have HR9 : Hid (RN w w3 d) := HR2.out.next hr3 hb3
  clear hr3 hb3
  go_wp2_with (refine wpList_store_row rfl 32 _ _ rfl w.heap.size (ntC 0 0 []) rfl rfl 32 _ HR9.out.res size30 rfl (ntC_one _ _ _) ?_)
  have hr := row_same w3 w.heap.size _ (ntC 0 0 []) HR9.out.res
  have c0 := cl_row (i := 0) (v := .int .u8 (0 : Nat)) hr rfl
  have c1 := cl_row (i := 1) (v := .int .u8 (0 : Nat)) hr rfl
  have c2 := cl_row (i := 2) (v := .string ⟨([] : List UInt8).toArray⟩) hr rfl
  have HB9 : Hid (Below w.heap.size w (w3.setRow w.heap.size (ntC 0 0 []))) := below_setRow HR9.out.bel (Nat.le_refl _) _
  rw [HA.out]
  generalize w3.setRow w.heap.size (ntC 0 0 []) = W9 at *
  refine bodyPost_ret (v := .tuple #[.agg (ntC 0 0 []), .int .i64 4]) (by simp [results, Tryd.results7, go_sem, c0, c1, c2, ntC]) rfl ⟨rfl, HB9.out⟩
set_option maxHeartbeats 800000 in
theorem read_3 (l : List UInt8) (hle : l.length ≤ 4077) (c s : UInt8) (d : List UInt8) (hl : l = c :: s :: d) (hz : c.toNat ≠ 0) (w : World) : Calls Tryd.prog 7 #[.string ⟨l.toArray⟩] w fun e w' => e = .returned (rdA l) ∧ Below w.heap.size w w' := by
  have HA : Hid (rdA l = .tuple #[.agg (ntC c.toNat s.toNat d), .int .i64 0]) := by unfold Hid; rw [hl] at hle ⊢; unfold rdA; rw [if_neg (by omega)]; exact if_neg hz
  have HL : Hid (l = c :: s :: d) := hl
  have KA : Hid (∀ X, RdrAt X (w.heap.size + 1) ⟨l.toArray⟩ → Calls Tryd.prog 16 #[.pointer (some ⟨w.heap.size + 1, 0, none⟩), .int .i64 1] X fun e w' => e = .returned (.tuple #[.int .u64 (c.toNat : Int), .bool true]) ∧ RdrAt w' (w.heap.size + 1) ⟨(s :: d).toArray⟩ ∧ Beside (w.heap.size + 1) X w') := fun X h => by
    have := num_l (w.heap.size + 1) l 1 X h (by omega) (by omega) (by rw [hl]; simp)
    rw [hl] at this
    simpa [worth1] using this
  have KB : Hid (∀ X, RdrAt X (w.heap.size + 1) ⟨(s :: d).toArray⟩ → Calls Tryd.prog 16 #[.pointer (some ⟨w.heap.size + 1, 0, none⟩), .int .i64 1] X fun e w' => e = .returned (.tuple #[.int .u64 (s.toNat : Int), .bool true]) ∧ RdrAt w' (w.heap.size + 1) ⟨d.toArray⟩ ∧ Beside (w.heap.size + 1) X w') := fun X h => by
    have := num_l (w.heap.size + 1) (s :: d) 1 X h (by omega) (by omega) (by simp)
    simpa [worth1] using this
  have hc := c.toNat_lt
  have hs := s.toNat_lt
  have gz : (((c.toNat : Nat) : Int) == 0) = false := beq_eq_false_iff_ne.2 (by omega)
  have gc : IntKind.u8.wrap (c.toNat : Int) = (c.toNat : Int) := by simp [IntKind.wrap, IntKind.signed, IntKind.bits]; omega
  have gs : IntKind.u8.wrap (s.toNat : Int) = (s.toNat : Int) := by simp [IntKind.wrap, IntKind.signed, IntKind.bits]; omega
  have hsz : (⟨l.toArray⟩ : ByteArray).size = l.length := rfl
  have g1 : decide ((4077 : Int) < (l.length : Int)) = false := by simp; omega
  have KN : Hid (_ : Prop) := new_any ⟨l.toArray⟩ (w.alloc (.cells #[.int .u8 0, .int .u8 0, .string ⟨#[]⟩] 32))
  have HB : Hid (Below w.heap.size w (w.alloc (.cells #[.int .u8 0, .int .u8 0, .string ⟨#[]⟩] 32))) := (Below.refl _ _).alloc (Nat.le_refl _) _
  have HS : Hid ((w.alloc (.cells #[.int .u8 0, .int .u8 0, .string ⟨#[]⟩] 32)).heap.size = w.heap.size + 1) := by simp [Hid]
  have HRS : Hid ((w.alloc (.cells #[.int .u8 0, .int .u8 0, .string ⟨#[]⟩] 32)).heap[w.heap.size]? = some (.cells (ntC 0 0 []) 32 (0, 0))) := hp_new rfl
  generalize c.toNat = cn at *
  generalize s.toNat = sn at *
  clear hl hle hz hc hs
  go_enter Tryd.func7, Tryd.ntmps7
  go_wp2_with fail
  refine Calls.mono KN.out ?_
  rintro e w1 ⟨rfl, hr1, hb1, hs1⟩
  rw [HS.out] at hr1 hb1 hs1
  rw [HS.out]
  have HR1 : Hid (RN w w1 l) := ⟨hr1, (hb1.block _ (by omega)).trans HRS.out, HB.out.trans (hb1.mono (by omega))⟩
  clear hr1 hb1 hs1
  go_wp2_with fail
  refine Calls.mono (KA.out w1 HR1.out.rd) ?_
  rintro e w2 ⟨rfl, hr2, hb2⟩
  have HR2 : Hid (RN w w2 (s :: d)) := HR1.out.next hr2 hb2
  clear hr2 hb2
  go_wp2_with fail
  refine Calls.mono (KB.out w2 HR2.out.rd) ?_
  rintro e w3 ⟨rfl, hr3, hb3⟩
  have HR3 : Hid (RN w w3 d) := HR2.out.next hr3 hb3
  clear hr3 hb3
  go_wp2_with fail
  refine Calls.mono (rest_any (w.heap.size + 1) d w3 HR3.out.rd) ?_
  rintro e w4 ⟨rfl, hb4⟩
  have HR9 : Hid ((w4.heap[w.heap.size]? = some (.cells (ntC 0 0 []) 32 (0, 0))) ∧ Below w.heap.size w w4) := ⟨(hb4.block _ (lt_of_heap HR3.out.res) (by omega)).trans HR3.out.res, HR3.out.bel.trans (hb4.below (by omega) HR3.out.bel.size)⟩
  clear hb4
  go_wp2_with (refine wpList_store_row rfl 32 _ _ rfl w.heap.size (ntC cn sn d) rfl rfl 32 _ HR9.out.1 size30 rfl (ntC_one _ _ _) ?_)
  have hr := row_same w4 w.heap.size _ (ntC cn sn d) HR9.out.1
  have c0 := cl_row (i := 0) (v := .int .u8 (cn : Nat)) hr rfl
  have c1 := cl_row (i := 1) (v := .int .u8 (sn : Nat)) hr rfl
  have c2 := cl_row (i := 2) (v := .string ⟨(d : List UInt8).toArray⟩) hr rfl
  have HB9 : Hid (Below w.heap.size w (w4.setRow w.heap.size (ntC cn sn d))) := below_setRow HR9.out.2 (Nat.le_refl _) _
  rw [HA.out]
  generalize w4.setRow w.heap.size (ntC cn sn d) = W9 at *
  refine bodyPost_ret (v := .tuple #[.agg (ntC cn sn d), .int .i64 0]) (by simp [results, Tryd.results7, go_sem, c0, c1, c2, ntC]) rfl ⟨rfl, HB9.out⟩
theorem read_any (l : List UInt8) (w : World) : Calls Tryd.prog 7 #[.string ⟨l.toArray⟩] w fun e w' => e = .returned (rdA l) ∧ Below w.heap.size w w' := by
  by_cases hl : 4077 < l.length
  · exact read_long l hl w
  · cases h : l with
    | nil => exact read_0 _ rfl w
    | cons c m =>
      cases h2 : m with
      | nil => exact read_1 _ c rfl w
      | cons s d =>
        have hle : (c :: s :: d).length ≤ 4077 := by rw [← h2, ← h]; omega
        by_cases hz : c.toNat = 0
        · exact read_2 _ hle c s d rfl hz w
        · exact read_3 _ hle c s d rfl hz w
end Go.Proofs.YtkaghjohkhlimabDoor
