/-
  ReadRefresh and the reference's.
-/
import Derived.Test.YtfhapjhkjdifjaaGreatDoorFC
import Derived.Deep.RegionHeld3
import Derived.Laws.StructEq
namespace Go.Proofs.YtfhapjhkjdifjaaGreatDoor.Ms
open Go.RowKit
theorem rest_any (p : Nat) (l : List UInt8) (w : World) (h : RdrAt w p ⟨l.toArray⟩) :
    Calls Tryz.prog 40 #[.pointer (some ⟨p, 0, none⟩)] w fun e w' => e = .returned (.string ⟨l.toArray⟩) ∧ Beside p w w' := by
  have HK : Hid (_ : Prop) := left_any p _ w h
  have HT : Hid (_ : Prop) := take_yes p ⟨l.toArray⟩ (⟨l.toArray⟩ : ByteArray).size w h (Nat.le_refl _)
  have hx : (⟨l.toArray⟩ : ByteArray).extract 0 (⟨l.toArray⟩ : ByteArray).size = ⟨l.toArray⟩ := by apply ByteArray.ext; simp
  rw [hx] at HT
  clear hx h
  go_enter Tryz.func40, Tryz.ntmps40
  go_wp2_with fail
  refine Calls.mono HK.out ?_
  rintro e w1 ⟨rfl, hw1⟩
  obtain rfl : w = w1 := hw1.symm
  clear hw1
  go_wp2_with fail
  refine Calls.mono HT.out ?_
  rintro e w2 ⟨rfl, rfl⟩
  go_wp2
  go_ret
  exact ⟨rfl, Beside.set _ _ _⟩
/-- The pair of a pair's family is that pair. -/
theorem fm_pair {x y : Int} (h : fmN x y ≠ 0) : (afN (fmN x y) : Int) = x ∧ (sfN (fmN x y) : Int) = y := by
  unfold fmN at *
  by_cases h1 : mt 1 x y = true
  · rw [if_pos h1]; unfold mt afs sfs at h1; simp at h1; exact ⟨by rw [← h1.1]; decide, by rw [← h1.2]; decide⟩
  · rw [if_neg h1] at h ⊢
    by_cases h2 : mt 2 x y = true
    · rw [if_pos h2]; unfold mt afs sfs at h2; simp at h2; exact ⟨by rw [← h2.1]; decide, by rw [← h2.2]; decide⟩
    · rw [if_neg h2] at h ⊢
      by_cases h3 : mt 3 x y = true
      · rw [if_pos h3]; unfold mt afs sfs at h3; simp at h3; exact ⟨by rw [← h3.1]; decide, by rw [← h3.2]; decide⟩
      · rw [if_neg h3] at h ⊢
        by_cases h4 : mt 4 x y = true
        · rw [if_pos h4]; unfold mt afs sfs at h4; simp at h4; exact ⟨by rw [← h4.1]; decide, by rw [← h4.2]; decide⟩
        · rw [if_neg h4] at h ⊢
          by_cases h5 : mt 5 x y = true
          · rw [if_pos h5]; unfold mt afs sfs at h5; simp at h5; exact ⟨by rw [← h5.1]; decide, by rw [← h5.2]; decide⟩
          · rw [if_neg h5] at h; exact absurd rfl h
end Go.Proofs.YtfhapjhkjdifjaaGreatDoor.Ms
namespace Go.Proofs.YtfhapjhkjdifjaaGreatDoor.Ms
open Go.RowKit
def isK (k : Int) : Bool := decide (1 ≤ k) && decide (k ≤ 5)
def lN (k : Int) : Int := if k = 1 then 10 else if k = 2 then 4 else if k = 3 then 2 else if k = 5 then 4 else 0
def fxK (k : Int) : Bool := decide (k = 4) || decide (k = 5)
def vdC (s : Int) : Array Value := if s = 0 then #[.int .i64 0, .int .u8 0, .int .u8 0] else #[.int .i64 3, .int .u8 1, .int .u8 s]
/-- What is wrong with a size: nothing (0), its length (2), its kind (3). -/
def szW (k b : Int) : Int := if isK k = false then 3 else if b < lN k ∨ 4077 < b ∨ (fxK k = true ∧ b ≠ lN k) then 2 else 0
theorem isK_cases {k : Int} (h : isK k = true) : k = 1 ∨ k = 2 ∨ k = 3 ∨ k = 4 ∨ k = 5 := by
  unfold isK at h; simp at h; omega
theorem size46 : (Tryz.prog.info? 97).map (·.size) = some 6 := by kernel_rfl
theorem size25 : (Tryz.prog.info? 37).map (·.size) = some 3 := by kernel_rfl
theorem size30 : (Tryz.prog.info? 55).map (·.size) = some 3 := by kernel_rfl
theorem leasts_any (w : World) : Calls Tryz.prog 45 #[] w fun e w' => e = .returned (.agg #[.int .i64 0, .int .i64 10, .int .i64 4, .int .i64 2, .int .i64 0, .int .i64 4]) ∧ Below w.heap.size w w' := by
  go_enter Tryz.func45, Tryz.ntmps45
  go_wp2
  refine bodyPost_ret (v := .agg #[.int .i64 0, .int .i64 10, .int .i64 4, .int .i64 2, .int .i64 0, .int .i64 4]) (results_cell_row (P := Tryz.prog) rfl _ _ w.heap.size 97 _ (0, 0) _ rfl (hp_new rfl) Tryz.underlying97 rfl size46) rfl ⟨rfl, (Below.refl _ _).alloc (Nat.le_refl _) _⟩
theorem isFixed_any (k : Int) (w : World) : Calls Tryz.prog 23 #[.int .i64 k] w fun e w' => e = .returned (.bool (fxK k)) ∧ w' = w := by
  by_cases h4 : k = 4
  · subst h4
    go_enter Tryz.func23, Tryz.ntmps23
    go_wp2
    go_ret
    exact ⟨rfl, rfl⟩
  · have g4 : (k == 4) = false := beq_eq_false_iff_ne.2 h4
    by_cases h5 : k = 5
    · subst h5
      clear h4 g4
      go_enter Tryz.func23, Tryz.ntmps23
      go_wp2
      go_ret
      exact ⟨rfl, rfl⟩
    · have g5 : (k == 5) = false := beq_eq_false_iff_ne.2 h5
      have e : fxK k = false := by unfold fxK; simp [h4, h5]
      rw [e]
      clear h4 h5 e
      go_enter Tryz.func23, Tryz.ntmps23
      go_wp2
      go_ret
      exact ⟨rfl, rfl⟩
theorem ix1 (w : World) : (Instr.index 97 (.agg #[.int .i64 0, .int .i64 10, .int .i64 4, .int .i64 2, .int .i64 0, .int .i64 4]) (.int .i64 1)).run Tryz.prog w = .ok (.int .i64 10) w := by kernel_rfl
theorem ix2 (w : World) : (Instr.index 97 (.agg #[.int .i64 0, .int .i64 10, .int .i64 4, .int .i64 2, .int .i64 0, .int .i64 4]) (.int .i64 2)).run Tryz.prog w = .ok (.int .i64 4) w := by kernel_rfl
theorem ix3 (w : World) : (Instr.index 97 (.agg #[.int .i64 0, .int .i64 10, .int .i64 4, .int .i64 2, .int .i64 0, .int .i64 4]) (.int .i64 3)).run Tryz.prog w = .ok (.int .i64 2) w := by kernel_rfl
theorem ix4 (w : World) : (Instr.index 97 (.agg #[.int .i64 0, .int .i64 10, .int .i64 4, .int .i64 2, .int .i64 0, .int .i64 4]) (.int .i64 4)).run Tryz.prog w = .ok (.int .i64 0) w := by kernel_rfl
theorem ix5 (w : World) : (Instr.index 97 (.agg #[.int .i64 0, .int .i64 10, .int .i64 4, .int .i64 2, .int .i64 0, .int .i64 4]) (.int .i64 5)).run Tryz.prog w = .ok (.int .i64 4) w := by kernel_rfl
theorem least_any (k : Int) (w : World) : Calls Tryz.prog 22 #[.int .i64 k] w fun e w' => e = .returned (.tuple #[.int .i64 (lN k), .bool (isK k)]) ∧ Below w.heap.size w w' := by
  cases h : isK k with
  | true =>
    have HK : Hid (_ : Prop) := leasts_any w
    have i1 := ix1
    have i2 := ix2
    have i3 := ix3
    have i4 := ix4
    have i5 := ix5
    rcases isK_cases h with rfl | rfl | rfl | rfl | rfl
    all_goals
      clear h
      go_enter Tryz.func22, Tryz.ntmps22
      go_wp2_with fail
      refine Calls.mono HK.out ?_
      rintro e w1 ⟨rfl, hb1⟩
      go_wp2
      go_ret2
      exact ⟨rfl, hb1⟩
  | false =>
    have h0 : lN k = 0 := by unfold isK at h; simp at h; unfold lN; rw [if_neg (by omega), if_neg (by omega), if_neg (by omega), if_neg (by omega)]
    rw [h0]
    clear h0
    by_cases h1 : k < 1
    · clear h
      go_enter Tryz.func22, Tryz.ntmps22
      go_wp2
      go_ret2
      exact ⟨rfl, Below.refl _ _⟩
    · have h2 : 5 < k := by unfold isK at h; simp at h; omega
      clear h
      go_enter Tryz.func22, Tryz.ntmps22
      go_wp2
      go_ret2
      exact ⟨rfl, Below.refl _ _⟩
/-- A verdict that is being made, in the block behind the answer's. -/
structure VAt (w wr : World) (s : Int) : Prop where
  row : wr.heap[w.heap.size + 1]? = some (.cells (vdC s) 37 (0, 0))
  res : wr.heap[w.heap.size]? = some (.cells (vdC 0) 37 (0, 0))
  bel : Below w.heap.size w wr
theorem VAt.next {w wr w' : World} {s : Int} (h : VAt w wr s) (hb : Below wr.heap.size wr w') : VAt w w' s :=
  ⟨(hb.block _ (lt_of_heap h.row)).trans h.row, (hb.block _ (lt_of_heap h.res)).trans h.res, h.bel.trans (hb.mono h.bel.size)⟩
theorem one25 (s : Int) : (vdC s).all (·.oneCell') = true := by unfold vdC; split <;> simp [Value.oneCell']
theorem wrong_no (sub : Int) (p : Nat) (w : World) :
    Calls Tryz.prog 21 #[.bool false, .int .u8 sub, .pointer (some ⟨p, 0, none⟩)] w fun e w' => e = .returned (.tuple #[]) ∧ w' = w := by
  go_enter Tryz.func21, Tryz.ntmps21
  go_wp2
  go_end0
  exact ⟨rfl, rfl⟩
theorem wrong_late (sub s : Int) (w wr : World) (hs : s ≠ 0) (h : VAt w wr s) (b : Bool) :
    Calls Tryz.prog 21 #[.bool b, .int .u8 sub, .pointer (some ⟨w.heap.size + 1, 0, none⟩)] wr fun e w' => e = .returned (.tuple #[]) ∧ w' = wr := by
  cases b with
  | false => exact wrong_no _ _ _
  | true =>
    have c0 : wr.cell? ⟨w.heap.size + 1, 0, none⟩ = some (.int .i64 3) := cl_row (i := 0) h.row (by unfold vdC; rw [if_neg hs]; rfl)
    clear h hs
    go_enter Tryz.func21, Tryz.ntmps21
    go_wp2
    go_end0
    exact ⟨rfl, rfl⟩
theorem wrong_yes (sub : Int) (w wr : World) (hs : sub ≠ 0) (h : VAt w wr 0) :
    Calls Tryz.prog 21 #[.bool true, .int .u8 sub, .pointer (some ⟨w.heap.size + 1, 0, none⟩)] wr fun e w' => e = .returned (.tuple #[]) ∧ VAt w w' sub := by
  have c0 : wr.cell? ⟨w.heap.size + 1, 0, none⟩ = some (.int .i64 0) := cl_row (i := 0) h.row rfl
  have HH : Hid (VAt w wr 0) := h
  have HS : Hid (vdC sub = #[.int .i64 3, .int .u8 1, .int .u8 sub]) := by unfold Hid vdC; rw [if_neg hs]
  clear h hs
  go_enter Tryz.func21, Tryz.ntmps21
  go_wp2_with (refine wpList_store_row rfl 37 _ _ rfl (w.heap.size + 1) #[.int .i64 3, .int .u8 1, .int .u8 sub] rfl rfl 37 _ HH.out.row size25 rfl (by simp [Value.oneCell']) ?_)
  go_end0
  refine ⟨rfl, ?_, ?_, below_setRow HH.out.bel (by omega) _⟩
  · rw [HS.out]; exact row_same _ _ _ _ HH.out.row
  · exact (row_other _ _ _ _ (by omega)).trans HH.out.res
end Go.Proofs.YtfhapjhkjdifjaaGreatDoor.Ms
namespace Go.Proofs.YtfhapjhkjdifjaaGreatDoor.Ms
open Go.RowKit
theorem app_l (a b : List UInt8) : (⟨a.toArray⟩ : ByteArray) ++ (⟨b.toArray⟩ : ByteArray) = ⟨(a ++ b).toArray⟩ := by
  apply ByteArray.ext
  rw [ByteArray.data_append]
  simp
theorem list_size (l : List UInt8) : (⟨l.toArray⟩ : ByteArray).size = l.length := rfl
theorem below_cell {w w' : World} {b i : Nat} {v : Value} (hb : Below w.heap.size w w') (h : w.cell? ⟨b, i, none⟩ = some v) : w'.cell? ⟨b, i, none⟩ = some v :=
  (hb.cell (p := ⟨b, i, none⟩) (lt_of_cell h)).trans h
theorem put_l (l : List UInt8) (v n : Nat) (w : World) (h0 : 1 ≤ n) (h1 : n ≤ 8) (hv : v < 256 ^ n) (hl : l.length ≤ 100000) :
    Calls Tryz.prog 41 #[.string ⟨l.toArray⟩, .int .u64 (v : Int), .int .i64 (n : Int)] w fun e w' => e = .returned (.string ⟨(l ++ laid v n).toArray⟩) ∧ Below w.heap.size w w' := by
  have HK : Hid (_ : Prop) := put_yes ⟨l.toArray⟩ v n w h0 h1 hv (by rw [list_size]; omega)
  rw [app_l] at HK
  clear h0 h1 hv hl
  go_enter Tryz.func41, Tryz.ntmps41
  go_wp2_with (go_at_call 66; refine Calls.mono HK.out ?_; rintro e w2 ⟨rfl, hb2⟩)
  go_ret
  exact ⟨rfl, hb2⟩
/-- A note's cells. -/
def ntC (c s : Nat) (d : List UInt8) : Array Value := #[.int .u8 (c : Int), .int .u8 (s : Int), .string ⟨d.toArray⟩]
/-- Told's answer. -/
def tdC (a : Int) (c s : Nat) : Array Value := if a = 3 then ntC c s [] else ntC 0 0 []
/-- A note's bytes. -/
def ntL (c s : Nat) (d : List UInt8) : List UInt8 := laid c 1 ++ laid s 1 ++ d
/-- What Note answers. -/
def ntA (c s : Nat) (d : List UInt8) : Value :=
  if c = 0 then .tuple #[.string ⟨#[]⟩, .int .i64 2] else if 4075 < d.length then .tuple #[.string ⟨#[]⟩, .int .i64 3] else .tuple #[.string ⟨(ntL c s d).toArray⟩, .int .i64 0]
set_option maxHeartbeats 1600000 in
theorem note_any (c s : Nat) (d : List UInt8) (hc : c < 256) (hs : s < 256) (hd : d.length ≤ 281474976710656) (w : World) : Calls Tryz.prog 15 #[.agg (ntC c s d)] w fun e w' => e = .returned (ntA c s d) ∧ Below w.heap.size w w' := by
  have hb : Below w.heap.size w (w.alloc (.cells #[.int .u8 (c : Int), .int .u8 (s : Int), .string ⟨d.toArray⟩] 55)) := (Below.refl _ _).alloc (Nat.le_refl _) _
  by_cases h0 : c = 0
  · have HA : Hid (ntA c s d = .tuple #[.string ⟨#[]⟩, .int .i64 2]) := by unfold Hid ntA; rw [if_pos h0]
    rw [HA.out]
    subst h0
    clear HA hc hs hd
    unfold ntC
    go_enter Tryz.func15, Tryz.ntmps15
    go_wp2
    go_ret2
    exact ⟨rfl, hb⟩
  · have g0 : ((c : Int) == 0) = false := beq_eq_false_iff_ne.2 (by omega)
    have hsz : (⟨d.toArray⟩ : ByteArray).size = d.length := rfl
    by_cases h1 : 4075 < d.length
    · have HA : Hid (ntA c s d = .tuple #[.string ⟨#[]⟩, .int .i64 3]) := by unfold Hid ntA; rw [if_neg h0, if_pos h1]
      have g1 : (4077 : Int) < 2 + (d.length : Int) := by omega
      have g2 : IntKind.i64.wrap (2 + (d.length : Int)) = 2 + (d.length : Int) := by simp [IntKind.wrap, IntKind.signed, IntKind.bits]; omega
      rw [HA.out]
      clear HA hc hs h1 h0
      unfold ntC
      go_enter Tryz.func15, Tryz.ntmps15
      go_wp2
      go_ret2
      exact ⟨rfl, hb⟩
    · have HA : Hid (ntA c s d = .tuple #[.string ⟨(ntL c s d).toArray⟩, .int .i64 0]) := by unfold Hid ntA; rw [if_neg h0, if_neg h1]
      have g1 : decide ((4077 : Int) < 2 + (d.length : Int)) = false := by simp; omega
      have g2 : IntKind.i64.wrap (2 + (d.length : Int)) = 2 + (d.length : Int) := by simp [IntKind.wrap, IntKind.signed, IntKind.bits]; omega
      rw [HA.out]
      have gc : IntKind.u64.wrap (c : Int) = (c : Int) := by simp [IntKind.wrap, IntKind.signed, IntKind.bits]; omega
      have gs : IntKind.u64.wrap (s : Int) = (s : Int) := by simp [IntKind.wrap, IntKind.signed, IntKind.bits]; omega
      have K1 : Hid (_ : Prop) := put_l [] c 1 (w.alloc (.cells #[.int .u8 (c : Int), .int .u8 (s : Int), .string ⟨d.toArray⟩] 55)) (by omega) (by omega) (by omega) (by simp)
      have K2 : Hid (∀ X, Calls Tryz.prog 41 #[.string ⟨(laid c 1).toArray⟩, .int .u64 (s : Int), .int .i64 1] X fun e w' => e = .returned (.string ⟨(laid c 1 ++ laid s 1).toArray⟩) ∧ Below X.heap.size X w') := fun X => put_l (laid c 1) s 1 X (by omega) (by omega) (by omega) (by rw [laid_length]; omega)
      have hap := app_l (laid c 1 ++ laid s 1) d
      have HE : Hid ((laid c 1 ++ laid s 1) ++ d = ntL c s d) := rfl
      have hs2 : (⟨(laid c 1 ++ laid s 1).toArray⟩ : ByteArray).size = 2 := by rw [list_size, List.length_append, laid_length, laid_length]
      have q0 : (w.alloc (.cells #[.int .u8 (c : Int), .int .u8 (s : Int), .string ⟨d.toArray⟩] 55)).cell? ⟨w.heap.size, 0, none⟩ = some (.int .u8 (c : Int)) := by simp
      have q1 : (w.alloc (.cells #[.int .u8 (c : Int), .int .u8 (s : Int), .string ⟨d.toArray⟩] 55)).cell? ⟨w.heap.size, 1, none⟩ = some (.int .u8 (s : Int)) := by simp
      have q2 : (w.alloc (.cells #[.int .u8 (c : Int), .int .u8 (s : Int), .string ⟨d.toArray⟩] 55)).cell? ⟨w.heap.size, 2, none⟩ = some (.string ⟨d.toArray⟩) := by simp
      rw [HE.out] at hap
      generalize ntL c s d = R at *
      generalize laid c 1 ++ laid s 1 = X2 at *
      have HB : Hid (Below _ _ _) := hb
      clear HA hc hs h1 h0 hb HE
      unfold ntC
      go_enter Tryz.func15, Tryz.ntmps15
      go_wp2_with fail
      refine Calls.mono K1.out ?_
      rintro e w1 ⟨rfl, hb1⟩
      have q1 := below_cell hb1 q1
      have q2 := below_cell hb1 q2
      have HB1 : Hid (Below w.heap.size w w1) := HB.out.trans (hb1.mono HB.out.size)
      clear hb1 q0 K1 HB
      go_wp2
      go_region_held (fun w' => w'.cell? ⟨w.heap.size, 1, none⟩ = some (.int .u8 (s : Int)) ∧ w'.cell? ⟨w.heap.size, 2, none⟩ = some (.string ⟨d.toArray⟩)) (go_keep)
        (first | (go_at_call 41; refine Calls.mono (K2.out _) ?_; rintro e w5 ⟨rfl, hb5⟩; have q1 := below_cell hb5 q1; have q2 := below_cell hb5 q2))
      all_goals go_wp2
      all_goals go_ret2
      all_goals exact ⟨rfl, (below_drewN HB1.out 1).trans (hb5.mono HB1.out.size)⟩
end Go.Proofs.YtfhapjhkjdifjaaGreatDoor.Ms
namespace Go.Proofs.YtfhapjhkjdifjaaGreatDoor.Ms
open Go.RowKit
theorem laid1 (c : Nat) : laid c 1 = [UInt8.ofNat c] := by simp [laid, byteAt]
theorem of_toNat {c : Nat} (h : c < 256) : ((UInt8.ofNat c).toNat : Int) = (c : Int) := by rw [UInt8.toNat_ofNat']; omega
/-- Bytes that were just made, as a text. -/
theorem conv_new (W : World) (l : List UInt8) (C : Array Value) (n b : Nat) (hb : b = W.heap.size) (hn : n = l.length) (hC : ∀ j (h : j < l.length), C[j]? = some (.int .u8 (l[j].toNat : Int))) :
    (convert 25 9 (.slice (some ⟨b, 0, none⟩) n n)).run Tryz.prog (W.alloc (.cells C 5)) = .ok (.string ⟨l.toArray⟩) (W.alloc (.cells C 5)) := by
  subst hb hn
  refine run_convert_bytes_back (P := Tryz.prog) _ 25 9 5 ⟨W.heap.size, 0, none⟩ _ l Tryz.underlying25 Tryz.underlying5 Tryz.underlying9 (fun j hj => ?_)
  rw [show Addr.add ⟨W.heap.size, 0, none⟩ j = ⟨W.heap.size, j, none⟩ from by unfold Addr.add; by_cases e : j = 0 <;> simp [e]]
  exact cl_row (hp_new rfl) (hC j hj)
end Go.Proofs.YtfhapjhkjdifjaaGreatDoor.Ms
namespace Go.Proofs.YtfhapjhkjdifjaaGreatDoor.Ms
open Go.RowKit
theorem ext_l (l : List UInt8) (n : Nat) : (⟨l.toArray⟩ : ByteArray).extract n (⟨l.toArray⟩ : ByteArray).size = ⟨(l.drop n).toArray⟩ := by
  apply ByteArray.ext
  simp [list_size]
  exact List.take_of_length_le (by simp)
theorem num_l (p : Nat) (l : List UInt8) (n : Nat) (w : World) (h : RdrAt w p ⟨l.toArray⟩) (h0 : 1 ≤ n) (h1 : n ≤ 8) (hn : n ≤ l.length) :
    Calls Tryz.prog 39 #[.pointer (some ⟨p, 0, none⟩), .int .i64 (n : Int)] w fun e w' =>
      e = .returned (.tuple #[.int .u64 (worth (l.take n) : Int), .bool true]) ∧ RdrAt w' p ⟨(l.drop n).toArray⟩ ∧ Beside p w w' := by
  have := num_yes p ⟨l.toArray⟩ n w h h0 h1 hn
  rw [ext_l] at this
  exact this
theorem worth1 (c : UInt8) : worth [c] = c.toNat := by simp [worth]
/-- What is read so far: the reader behind the answer's block. -/
structure RN (w wr : World) (l : List UInt8) : Prop where
  rd : RdrAt wr (w.heap.size + 1) ⟨l.toArray⟩
  res : wr.heap[w.heap.size]? = some (.cells (ntC 0 0 []) 55 (0, 0))
  bel : Below w.heap.size w wr
theorem RN.next {w wr w' : World} {l l' : List UInt8} (h : RN w wr l) (hr : RdrAt w' (w.heap.size + 1) ⟨l'.toArray⟩) (hb : Beside (w.heap.size + 1) wr w') : RN w w' l' :=
  ⟨hr, (hb.block _ (lt_of_heap h.res) (by omega)).trans h.res, h.bel.trans (hb.below (by omega) h.bel.size)⟩
/-- What ReadNote answers. -/
def rdA (l : List UInt8) : Value :=
  if 4077 < l.length then .tuple #[.agg (ntC 0 0 []), .int .i64 3] else
  match l with
  | c :: s :: d => if c.toNat = 0 then .tuple #[.agg (ntC 0 0 []), .int .i64 4] else .tuple #[.agg (ntC c.toNat s.toNat d), .int .i64 0]
  | _ => .tuple #[.agg (ntC 0 0 []), .int .i64 4]
theorem ntC_one (c s : Nat) (d : List UInt8) : (ntC c s d).all (·.oneCell') = true := by simp [ntC, Value.oneCell']
theorem ntC_size (c s : Nat) (d : List UInt8) : (ntC c s d).size = 3 := rfl
set_option maxHeartbeats 800000 in
theorem read_long (l : List UInt8) (hl : 4077 < l.length) (w : World) : Calls Tryz.prog 14 #[.string ⟨l.toArray⟩] w fun e w' => e = .returned (rdA l) ∧ Below w.heap.size w w' := by
  have HA : Hid (rdA l = .tuple #[.agg (ntC 0 0 []), .int .i64 3]) := by unfold Hid rdA; rw [if_pos hl]
  have hsz : (⟨l.toArray⟩ : ByteArray).size = l.length := rfl
  have g1 : (4077 : Int) < (l.length : Int) := by omega
  have HR9 : Hid (RN w (w.alloc (.cells #[.int .u8 0, .int .u8 0, .string ⟨#[]⟩] 55)) [] ∨ ((w.alloc (.cells #[.int .u8 0, .int .u8 0, .string ⟨#[]⟩] 55)).heap[w.heap.size]? = some (.cells (ntC 0 0 []) 55 (0, 0)) ∧ Below w.heap.size w (w.alloc (.cells #[.int .u8 0, .int .u8 0, .string ⟨#[]⟩] 55)))) := Or.inr ⟨hp_new rfl, (Below.refl _ _).alloc (Nat.le_refl _) _⟩
  have HB : Hid (Below w.heap.size w (w.alloc (.cells #[.int .u8 0, .int .u8 0, .string ⟨#[]⟩] 55))) := (Below.refl _ _).alloc (Nat.le_refl _) _
  clear hl HR9
  go_enter Tryz.func14, Tryz.ntmps14
  go_wp2
  rw [HA.out]
  refine bodyPost_ret (v := .tuple #[.agg (ntC 0 0 []), .int .i64 3]) (by simp [results, Tryz.results14, go_sem, ntC]) rfl ⟨rfl, HB.out⟩
set_option maxHeartbeats 800000 in
theorem read_0 (l : List UInt8) (hl : l = []) (w : World) : Calls Tryz.prog 14 #[.string ⟨l.toArray⟩] w fun e w' => e = .returned (rdA l) ∧ Below w.heap.size w w' := by
  have HA : Hid (rdA l = .tuple #[.agg (ntC 0 0 []), .int .i64 4]) := by unfold Hid; rw [hl]; rfl
  have hle : l.length ≤ 4077 := by rw [hl]; simp
  have HL : Hid (l = []) := hl
  have hsz : (⟨l.toArray⟩ : ByteArray).size = l.length := rfl
  have g1 : decide ((4077 : Int) < (l.length : Int)) = false := by simp; omega
  have KN : Hid (_ : Prop) := new_any ⟨l.toArray⟩ (w.alloc (.cells #[.int .u8 0, .int .u8 0, .string ⟨#[]⟩] 55))
  have HB : Hid (Below w.heap.size w (w.alloc (.cells #[.int .u8 0, .int .u8 0, .string ⟨#[]⟩] 55))) := (Below.refl _ _).alloc (Nat.le_refl _) _
  have HS : Hid ((w.alloc (.cells #[.int .u8 0, .int .u8 0, .string ⟨#[]⟩] 55)).heap.size = w.heap.size + 1) := by simp [Hid]
  have HRS : Hid ((w.alloc (.cells #[.int .u8 0, .int .u8 0, .string ⟨#[]⟩] 55)).heap[w.heap.size]? = some (.cells (ntC 0 0 []) 55 (0, 0))) := hp_new rfl
  clear hl hle
  go_enter Tryz.func14, Tryz.ntmps14
  go_wp2_with fail
  refine Calls.mono KN.out ?_
  rintro e w1 ⟨rfl, hr1, hb1, hs1⟩
  rw [HS.out] at hr1 hb1 hs1
  rw [HS.out]
  have HR1 : Hid (RN w w1 l) := ⟨hr1, (hb1.block _ (by omega)).trans HRS.out, HB.out.trans (hb1.mono (by omega))⟩
  clear hr1 hb1 hs1
  go_wp2_with fail
  refine Calls.mono (num_no (w.heap.size + 1) ⟨l.toArray⟩ 1 w1 HR1.out.rd (by omega) (by omega) (by rw [HL.out]; decide)) ?_
  rintro e w2 ⟨rfl, hr2, hb2⟩
  have HR2 : Hid (RN w w2 l) := HR1.out.next hr2 hb2
  clear hr2 hb2
  go_wp2_with fail
  refine Calls.mono (num_no (w.heap.size + 1) ⟨l.toArray⟩ 1 w2 HR2.out.rd (by omega) (by omega) (by rw [HL.out]; decide)) ?_
  rintro e w3 ⟨rfl, hr3, hb3⟩
  have HR9 : Hid (RN w w3 l) := HR2.out.next hr3 hb3
  clear hr3 hb3
  go_wp2_with (refine wpList_store_row rfl 55 _ _ rfl w.heap.size (ntC 0 0 []) rfl rfl 55 _ HR9.out.res size30 rfl (ntC_one _ _ _) ?_)
  have hr := row_same w3 w.heap.size _ (ntC 0 0 []) HR9.out.res
  have c0 := cl_row (i := 0) (v := .int .u8 (0 : Nat)) hr rfl
  have c1 := cl_row (i := 1) (v := .int .u8 (0 : Nat)) hr rfl
  have c2 := cl_row (i := 2) (v := .string ⟨([] : List UInt8).toArray⟩) hr rfl
  have HB9 : Hid (Below w.heap.size w (w3.setRow w.heap.size (ntC 0 0 []))) := below_setRow HR9.out.bel (Nat.le_refl _) _
  rw [HA.out]
  generalize w3.setRow w.heap.size (ntC 0 0 []) = W9 at *
  refine bodyPost_ret (v := .tuple #[.agg (ntC 0 0 []), .int .i64 4]) (by simp [results, Tryz.results14, go_sem, c0, c1, c2, ntC]) rfl ⟨rfl, HB9.out⟩
set_option maxHeartbeats 800000 in
theorem read_1 (l : List UInt8) (c : UInt8) (hl : l = [c]) (w : World) : Calls Tryz.prog 14 #[.string ⟨l.toArray⟩] w fun e w' => e = .returned (rdA l) ∧ Below w.heap.size w w' := by
  have HA : Hid (rdA l = .tuple #[.agg (ntC 0 0 []), .int .i64 4]) := by unfold Hid; rw [hl]; rfl
  have hle : l.length ≤ 4077 := by rw [hl]; simp
  have HL : Hid (l = [c]) := hl
  have KA : Hid (∀ X, RdrAt X (w.heap.size + 1) ⟨l.toArray⟩ → Calls Tryz.prog 39 #[.pointer (some ⟨w.heap.size + 1, 0, none⟩), .int .i64 1] X fun e w' => e = .returned (.tuple #[.int .u64 (c.toNat : Int), .bool true]) ∧ RdrAt w' (w.heap.size + 1) ⟨([] : List UInt8).toArray⟩ ∧ Beside (w.heap.size + 1) X w') := fun X h => by
    have := num_l (w.heap.size + 1) l 1 X h (by omega) (by omega) (by rw [hl]; simp)
    rw [hl] at this
    simpa [worth1] using this
  have hsz : (⟨l.toArray⟩ : ByteArray).size = l.length := rfl
  have g1 : decide ((4077 : Int) < (l.length : Int)) = false := by simp; omega
  have KN : Hid (_ : Prop) := new_any ⟨l.toArray⟩ (w.alloc (.cells #[.int .u8 0, .int .u8 0, .string ⟨#[]⟩] 55))
  have HB : Hid (Below w.heap.size w (w.alloc (.cells #[.int .u8 0, .int .u8 0, .string ⟨#[]⟩] 55))) := (Below.refl _ _).alloc (Nat.le_refl _) _
  have HS : Hid ((w.alloc (.cells #[.int .u8 0, .int .u8 0, .string ⟨#[]⟩] 55)).heap.size = w.heap.size + 1) := by simp [Hid]
  have HRS : Hid ((w.alloc (.cells #[.int .u8 0, .int .u8 0, .string ⟨#[]⟩] 55)).heap[w.heap.size]? = some (.cells (ntC 0 0 []) 55 (0, 0))) := hp_new rfl
  clear hl hle
  go_enter Tryz.func14, Tryz.ntmps14
  go_wp2_with fail
  refine Calls.mono KN.out ?_
  rintro e w1 ⟨rfl, hr1, hb1, hs1⟩
  rw [HS.out] at hr1 hb1 hs1
  rw [HS.out]
  have HR1 : Hid (RN w w1 l) := ⟨hr1, (hb1.block _ (by omega)).trans HRS.out, HB.out.trans (hb1.mono (by omega))⟩
  clear hr1 hb1 hs1
  go_wp2_with fail
  refine Calls.mono (KA.out w1 HR1.out.rd) ?_
  rintro e w2 ⟨rfl, hr2, hb2⟩
  have HR2 : Hid (RN w w2 []) := HR1.out.next hr2 hb2
  clear hr2 hb2
  go_wp2_with fail
  refine Calls.mono (num_no (w.heap.size + 1) ⟨([] : List UInt8).toArray⟩ 1 w2 HR2.out.rd (by omega) (by omega) (by decide)) ?_
  rintro e w3 ⟨rfl, hr3, hb3⟩
  have HR9 : Hid (RN w w3 []) := HR2.out.next hr3 hb3
  clear hr3 hb3
  go_wp2_with (refine wpList_store_row rfl 55 _ _ rfl w.heap.size (ntC 0 0 []) rfl rfl 55 _ HR9.out.res size30 rfl (ntC_one _ _ _) ?_)
  have hr := row_same w3 w.heap.size _ (ntC 0 0 []) HR9.out.res
  have c0 := cl_row (i := 0) (v := .int .u8 (0 : Nat)) hr rfl
  have c1 := cl_row (i := 1) (v := .int .u8 (0 : Nat)) hr rfl
  have c2 := cl_row (i := 2) (v := .string ⟨([] : List UInt8).toArray⟩) hr rfl
  have HB9 : Hid (Below w.heap.size w (w3.setRow w.heap.size (ntC 0 0 []))) := below_setRow HR9.out.bel (Nat.le_refl _) _
  rw [HA.out]
  generalize w3.setRow w.heap.size (ntC 0 0 []) = W9 at *
  refine bodyPost_ret (v := .tuple #[.agg (ntC 0 0 []), .int .i64 4]) (by simp [results, Tryz.results14, go_sem, c0, c1, c2, ntC]) rfl ⟨rfl, HB9.out⟩
set_option maxHeartbeats 800000 in
theorem read_2 (l : List UInt8) (hle : l.length ≤ 4077) (c s : UInt8) (d : List UInt8) (hl : l = c :: s :: d) (hz : c.toNat = 0) (w : World) : Calls Tryz.prog 14 #[.string ⟨l.toArray⟩] w fun e w' => e = .returned (rdA l) ∧ Below w.heap.size w w' := by
  have HA : Hid (rdA l = .tuple #[.agg (ntC 0 0 []), .int .i64 4]) := by unfold Hid; rw [hl] at hle ⊢; unfold rdA; rw [if_neg (by omega)]; exact if_pos hz
  have HL : Hid (l = c :: s :: d) := hl
  have KA : Hid (∀ X, RdrAt X (w.heap.size + 1) ⟨l.toArray⟩ → Calls Tryz.prog 39 #[.pointer (some ⟨w.heap.size + 1, 0, none⟩), .int .i64 1] X fun e w' => e = .returned (.tuple #[.int .u64 (c.toNat : Int), .bool true]) ∧ RdrAt w' (w.heap.size + 1) ⟨(s :: d).toArray⟩ ∧ Beside (w.heap.size + 1) X w') := fun X h => by
    have := num_l (w.heap.size + 1) l 1 X h (by omega) (by omega) (by rw [hl]; simp)
    rw [hl] at this
    simpa [worth1] using this
  have KB : Hid (∀ X, RdrAt X (w.heap.size + 1) ⟨(s :: d).toArray⟩ → Calls Tryz.prog 39 #[.pointer (some ⟨w.heap.size + 1, 0, none⟩), .int .i64 1] X fun e w' => e = .returned (.tuple #[.int .u64 (s.toNat : Int), .bool true]) ∧ RdrAt w' (w.heap.size + 1) ⟨d.toArray⟩ ∧ Beside (w.heap.size + 1) X w') := fun X h => by
    have := num_l (w.heap.size + 1) (s :: d) 1 X h (by omega) (by omega) (by simp)
    simpa [worth1] using this
  have hc := c.toNat_lt
  have hs := s.toNat_lt
  have gz : (((c.toNat : Nat) : Int) == 0) = true := by simp [hz]
  have gc : IntKind.u8.wrap (c.toNat : Int) = (c.toNat : Int) := by simp [IntKind.wrap, IntKind.signed, IntKind.bits]; omega
  have gs : IntKind.u8.wrap (s.toNat : Int) = (s.toNat : Int) := by simp [IntKind.wrap, IntKind.signed, IntKind.bits]; omega
  have hsz : (⟨l.toArray⟩ : ByteArray).size = l.length := rfl
  have g1 : decide ((4077 : Int) < (l.length : Int)) = false := by simp; omega
  have KN : Hid (_ : Prop) := new_any ⟨l.toArray⟩ (w.alloc (.cells #[.int .u8 0, .int .u8 0, .string ⟨#[]⟩] 55))
  have HB : Hid (Below w.heap.size w (w.alloc (.cells #[.int .u8 0, .int .u8 0, .string ⟨#[]⟩] 55))) := (Below.refl _ _).alloc (Nat.le_refl _) _
  have HS : Hid ((w.alloc (.cells #[.int .u8 0, .int .u8 0, .string ⟨#[]⟩] 55)).heap.size = w.heap.size + 1) := by simp [Hid]
  have HRS : Hid ((w.alloc (.cells #[.int .u8 0, .int .u8 0, .string ⟨#[]⟩] 55)).heap[w.heap.size]? = some (.cells (ntC 0 0 []) 55 (0, 0))) := hp_new rfl
  generalize c.toNat = cn at *
  generalize s.toNat = sn at *
  clear hl hle hz hc hs
  go_enter Tryz.func14, Tryz.ntmps14
  go_wp2_with fail
  refine Calls.mono KN.out ?_
  rintro e w1 ⟨rfl, hr1, hb1, hs1⟩
  rw [HS.out] at hr1 hb1 hs1
  rw [HS.out]
  have HR1 : Hid (RN w w1 l) := ⟨hr1, (hb1.block _ (by omega)).trans HRS.out, HB.out.trans (hb1.mono (by omega))⟩
  clear hr1 hb1 hs1
  go_wp2_with fail
  refine Calls.mono (KA.out w1 HR1.out.rd) ?_
  rintro e w2 ⟨rfl, hr2, hb2⟩
  have HR2 : Hid (RN w w2 (s :: d)) := HR1.out.next hr2 hb2
  clear hr2 hb2
  go_wp2_with fail
  refine Calls.mono (KB.out w2 HR2.out.rd) ?_
  rintro e w3 ⟨rfl, hr3, hb3⟩
  have HR9 : Hid (RN w w3 d) := HR2.out.next hr3 hb3
  clear hr3 hb3
  go_wp2_with (refine wpList_store_row rfl 55 _ _ rfl w.heap.size (ntC 0 0 []) rfl rfl 55 _ HR9.out.res size30 rfl (ntC_one _ _ _) ?_)
  have hr := row_same w3 w.heap.size _ (ntC 0 0 []) HR9.out.res
  have c0 := cl_row (i := 0) (v := .int .u8 (0 : Nat)) hr rfl
  have c1 := cl_row (i := 1) (v := .int .u8 (0 : Nat)) hr rfl
  have c2 := cl_row (i := 2) (v := .string ⟨([] : List UInt8).toArray⟩) hr rfl
  have HB9 : Hid (Below w.heap.size w (w3.setRow w.heap.size (ntC 0 0 []))) := below_setRow HR9.out.bel (Nat.le_refl _) _
  rw [HA.out]
  generalize w3.setRow w.heap.size (ntC 0 0 []) = W9 at *
  refine bodyPost_ret (v := .tuple #[.agg (ntC 0 0 []), .int .i64 4]) (by simp [results, Tryz.results14, go_sem, c0, c1, c2, ntC]) rfl ⟨rfl, HB9.out⟩
set_option maxHeartbeats 800000 in
theorem read_3 (l : List UInt8) (hle : l.length ≤ 4077) (c s : UInt8) (d : List UInt8) (hl : l = c :: s :: d) (hz : c.toNat ≠ 0) (w : World) : Calls Tryz.prog 14 #[.string ⟨l.toArray⟩] w fun e w' => e = .returned (rdA l) ∧ Below w.heap.size w w' := by
  have HA : Hid (rdA l = .tuple #[.agg (ntC c.toNat s.toNat d), .int .i64 0]) := by unfold Hid; rw [hl] at hle ⊢; unfold rdA; rw [if_neg (by omega)]; exact if_neg hz
  have HL : Hid (l = c :: s :: d) := hl
  have KA : Hid (∀ X, RdrAt X (w.heap.size + 1) ⟨l.toArray⟩ → Calls Tryz.prog 39 #[.pointer (some ⟨w.heap.size + 1, 0, none⟩), .int .i64 1] X fun e w' => e = .returned (.tuple #[.int .u64 (c.toNat : Int), .bool true]) ∧ RdrAt w' (w.heap.size + 1) ⟨(s :: d).toArray⟩ ∧ Beside (w.heap.size + 1) X w') := fun X h => by
    have := num_l (w.heap.size + 1) l 1 X h (by omega) (by omega) (by rw [hl]; simp)
    rw [hl] at this
    simpa [worth1] using this
  have KB : Hid (∀ X, RdrAt X (w.heap.size + 1) ⟨(s :: d).toArray⟩ → Calls Tryz.prog 39 #[.pointer (some ⟨w.heap.size + 1, 0, none⟩), .int .i64 1] X fun e w' => e = .returned (.tuple #[.int .u64 (s.toNat : Int), .bool true]) ∧ RdrAt w' (w.heap.size + 1) ⟨d.toArray⟩ ∧ Beside (w.heap.size + 1) X w') := fun X h => by
    have := num_l (w.heap.size + 1) (s :: d) 1 X h (by omega) (by omega) (by simp)
    simpa [worth1] using this
  have hc := c.toNat_lt
  have hs := s.toNat_lt
  have gz : (((c.toNat : Nat) : Int) == 0) = false := beq_eq_false_iff_ne.2 (by omega)
  have gc : IntKind.u8.wrap (c.toNat : Int) = (c.toNat : Int) := by simp [IntKind.wrap, IntKind.signed, IntKind.bits]; omega
  have gs : IntKind.u8.wrap (s.toNat : Int) = (s.toNat : Int) := by simp [IntKind.wrap, IntKind.signed, IntKind.bits]; omega
  have hsz : (⟨l.toArray⟩ : ByteArray).size = l.length := rfl
  have g1 : decide ((4077 : Int) < (l.length : Int)) = false := by simp; omega
  have KN : Hid (_ : Prop) := new_any ⟨l.toArray⟩ (w.alloc (.cells #[.int .u8 0, .int .u8 0, .string ⟨#[]⟩] 55))
  have HB : Hid (Below w.heap.size w (w.alloc (.cells #[.int .u8 0, .int .u8 0, .string ⟨#[]⟩] 55))) := (Below.refl _ _).alloc (Nat.le_refl _) _
  have HS : Hid ((w.alloc (.cells #[.int .u8 0, .int .u8 0, .string ⟨#[]⟩] 55)).heap.size = w.heap.size + 1) := by simp [Hid]
  have HRS : Hid ((w.alloc (.cells #[.int .u8 0, .int .u8 0, .string ⟨#[]⟩] 55)).heap[w.heap.size]? = some (.cells (ntC 0 0 []) 55 (0, 0))) := hp_new rfl
  generalize c.toNat = cn at *
  generalize s.toNat = sn at *
  clear hl hle hz hc hs
  go_enter Tryz.func14, Tryz.ntmps14
  go_wp2_with fail
  refine Calls.mono KN.out ?_
  rintro e w1 ⟨rfl, hr1, hb1, hs1⟩
  rw [HS.out] at hr1 hb1 hs1
  rw [HS.out]
  have HR1 : Hid (RN w w1 l) := ⟨hr1, (hb1.block _ (by omega)).trans HRS.out, HB.out.trans (hb1.mono (by omega))⟩
  clear hr1 hb1 hs1
  go_wp2_with fail
  refine Calls.mono (KA.out w1 HR1.out.rd) ?_
  rintro e w2 ⟨rfl, hr2, hb2⟩
  have HR2 : Hid (RN w w2 (s :: d)) := HR1.out.next hr2 hb2
  clear hr2 hb2
  go_wp2_with fail
  refine Calls.mono (KB.out w2 HR2.out.rd) ?_
  rintro e w3 ⟨rfl, hr3, hb3⟩
  have HR3 : Hid (RN w w3 d) := HR2.out.next hr3 hb3
  clear hr3 hb3
  go_wp2_with fail
  refine Calls.mono (rest_any (w.heap.size + 1) d w3 HR3.out.rd) ?_
  rintro e w4 ⟨rfl, hb4⟩
  have HR9 : Hid ((w4.heap[w.heap.size]? = some (.cells (ntC 0 0 []) 55 (0, 0))) ∧ Below w.heap.size w w4) := ⟨(hb4.block _ (lt_of_heap HR3.out.res) (by omega)).trans HR3.out.res, HR3.out.bel.trans (hb4.below (by omega) HR3.out.bel.size)⟩
  clear hb4
  go_wp2_with (refine wpList_store_row rfl 55 _ _ rfl w.heap.size (ntC cn sn d) rfl rfl 55 _ HR9.out.1 size30 rfl (ntC_one _ _ _) ?_)
  have hr := row_same w4 w.heap.size _ (ntC cn sn d) HR9.out.1
  have c0 := cl_row (i := 0) (v := .int .u8 (cn : Nat)) hr rfl
  have c1 := cl_row (i := 1) (v := .int .u8 (sn : Nat)) hr rfl
  have c2 := cl_row (i := 2) (v := .string ⟨(d : List UInt8).toArray⟩) hr rfl
  have HB9 : Hid (Below w.heap.size w (w4.setRow w.heap.size (ntC cn sn d))) := below_setRow HR9.out.2 (Nat.le_refl _) _
  rw [HA.out]
  generalize w4.setRow w.heap.size (ntC cn sn d) = W9 at *
  refine bodyPost_ret (v := .tuple #[.agg (ntC cn sn d), .int .i64 0]) (by simp [results, Tryz.results14, go_sem, c0, c1, c2, ntC]) rfl ⟨rfl, HB9.out⟩
theorem read_any (l : List UInt8) (w : World) : Calls Tryz.prog 14 #[.string ⟨l.toArray⟩] w fun e w' => e = .returned (rdA l) ∧ Below w.heap.size w w' := by
  by_cases hl : 4077 < l.length
  · exact read_long l hl w
  · cases h : l with
    | nil => exact read_0 _ rfl w
    | cons c m =>
      cases h2 : m with
      | nil => exact read_1 _ c rfl w
      | cons s d =>
        have hle : (c :: s :: d).length ≤ 4077 := by rw [← h2, ← h]; omega
        by_cases hz : c.toNat = 0
        · exact read_2 _ hle c s d rfl hz w
        · exact read_3 _ hle c s d rfl hz w
end Go.Proofs.YtfhapjhkjdifjaaGreatDoor.Ms
namespace Go.Proofs.YtfhapjhkjdifjaaGreatDoor.Ms
open Go.RowKit
/-- A refresh's bytes. -/
def rfL (f : Int) : List UInt8 := laid (afN f) 2 ++ laid 0 1 ++ laid (sfN f) 1
def rfA (f : Int) : Value := if isF f then .tuple #[.string ⟨(rfL f).toArray⟩, .int .i64 0] else .tuple #[.string ⟨#[]⟩, .int .i64 2]
theorem afN_lt (f : Int) : afN f < 256 := by unfold afN; split <;> (try split) <;> omega
theorem sfN_lt (f : Int) : sfN f < 256 := by unfold sfN; split <;> (try split) <;> (try split) <;> omega
theorem rf_four (f : Int) : rfL f = [0, UInt8.ofNat (afN f), 0, UInt8.ofNat (sfN f)] := by
  have h := afN_lt f
  show [UInt8.ofNat (afN f / 256), UInt8.ofNat (afN f / 1), UInt8.ofNat (0 / 1), UInt8.ofNat (sfN f / 1)] = _
  rw [Nat.div_eq_of_lt h]
  simp only [Nat.div_one]
  rfl
set_option maxHeartbeats 800000 in
theorem refresh_any (f : Int) (w : World) (hg : FamSizes w) : Calls Tryz.prog 17 #[.int .i64 f] w fun e w' => e = .returned (rfA f) ∧ Below w.heap.size w w' := by
  have HK : Hid (_ : Prop) := afi_any f w hg
  cases hf : isF f with
  | false =>
    rw [hf] at HK
    have HA : Hid (rfA f = .tuple #[.string ⟨#[]⟩, .int .i64 2]) := by unfold Hid rfA; rw [hf]; rfl
    rw [HA.out]
    clear hg hf HA
    go_enter Tryz.func17, Tryz.ntmps17
    go_wp2_with fail
    refine Calls.mono HK.out ?_
    rintro e w1 ⟨rfl, hb1⟩
    go_wp2
    go_ret2
    exact ⟨rfl, hb1⟩
  | true =>
    rw [hf] at HK
    have HA : Hid (rfA f = .tuple #[.string ⟨(rfL f).toArray⟩, .int .i64 0]) := by unfold Hid rfA; rw [hf]; rfl
    rw [HA.out]
    have ha := afN_lt f
    have hs := sfN_lt f
    have K1 : Hid (∀ X, _) := fun X => put_l [] (afN f) 2 X (by omega) (by omega) (by omega) (by simp)
    have K2 : Hid (∀ X, _) := fun X => put_l (laid (afN f) 2) 0 1 X (by omega) (by omega) (by omega) (by rw [laid_length]; omega)
    have K3 : Hid (∀ X, _) := fun X => put_l (laid (afN f) 2 ++ laid 0 1) (sfN f) 1 X (by omega) (by omega) (by omega) (by rw [List.length_append, laid_length, laid_length]; omega)
    have ga : IntKind.u64.wrap (afN f : Int) = (afN f : Int) := by simp [IntKind.wrap, IntKind.signed, IntKind.bits]; omega
    have gs : IntKind.u64.wrap (sfN f : Int) = (sfN f : Int) := by simp [IntKind.wrap, IntKind.signed, IntKind.bits]; omega
    rw [List.nil_append] at K1
    unfold rfL
    generalize laid (afN f) 2 ++ laid 0 1 ++ laid (sfN f) 1 = R3 at *
    generalize laid (afN f) 2 ++ laid 0 1 = R2 at *
    generalize laid (afN f) 2 = R1 at *
    generalize afN f = a at *
    generalize sfN f = s at *
    clear hg hf HA ha hs
    go_enter Tryz.func17, Tryz.ntmps17
    go_wp2_with fail
    refine Calls.mono HK.out ?_
    rintro e w1 ⟨rfl, hb1⟩
    have HB1 : Hid (Below w.heap.size w w1) := hb1
    clear hb1 HK
    go_wp2_with fail
    refine Calls.mono (K1.out _) ?_
    rintro e w2 ⟨rfl, hb2⟩
    have HB2 : Hid (Below w.heap.size w w2) := HB1.out.trans (hb2.mono HB1.out.size)
    clear hb2 K1
    go_wp2_with fail
    refine Calls.mono (K2.out _) ?_
    rintro e w3 ⟨rfl, hb3⟩
    have HB3 : Hid (Below w.heap.size w w3) := HB2.out.trans (hb3.mono HB2.out.size)
    clear hb3 K2
    go_wp2_with fail
    refine Calls.mono (K3.out _) ?_
    rintro e w4 ⟨rfl, hb4⟩
    have HB4 : Hid (Below w.heap.size w w4) := HB3.out.trans (hb4.mono HB3.out.size)
    clear hb4 K3
    go_wp2
    go_ret2
    exact ⟨rfl, HB4.out⟩
end Go.Proofs.YtfhapjhkjdifjaaGreatDoor.Ms
namespace Go.Proofs.YtfhapjhkjdifjaaGreatDoor.Ms
open Go.RowKit
/-- What ReadRefresh answers. -/
def rrA (l : List UInt8) : Value :=
  match l with
  | [a, b, _, s] => if fmN ((a.toNat * 256 + b.toNat : Nat) : Int) (s.toNat : Int) = 0 then .tuple #[.int .i64 0, .int .i64 5] else .tuple #[.int .i64 (fmN ((a.toNat * 256 + b.toNat : Nat) : Int) (s.toNat : Int)), .int .i64 0]
  | _ => .tuple #[.int .i64 0, .int .i64 4]
theorem rrA_no {l : List UInt8} (h : l.length ≠ 4) : rrA l = .tuple #[.int .i64 0, .int .i64 4] := by
  unfold rrA
  split
  · simp at h
  · rfl
theorem four_of {l : List UInt8} (h : l.length = 4) : ∃ a b c s, l = [a, b, c, s] := by
  match l, h with
  | [a, b, c, s], _ => exact ⟨a, b, c, s, rfl⟩
theorem rr_no (l : List UInt8) (h : l.length ≠ 4) (w : World) : Calls Tryz.prog 16 #[.string ⟨l.toArray⟩] w fun e w' => e = .returned (rrA l) ∧ w' = w := by
  have hsz : (⟨l.toArray⟩ : ByteArray).size = l.length := rfl
  rw [rrA_no h]
  have g : ((l.length : Int) != 4) = true := by simp; omega
  clear h
  go_enter Tryz.func16, Tryz.ntmps16
  go_wp2
  go_ret2
  exact ⟨rfl, rfl⟩
/-- A reader that was just made. -/
structure RR (w wr : World) (l : List UInt8) : Prop where
  rd : RdrAt wr w.heap.size ⟨l.toArray⟩
  bel : Below w.heap.size w wr
theorem RR.next {w wr w' : World} {l l' : List UInt8} (h : RR w wr l) (hr : RdrAt w' w.heap.size ⟨l'.toArray⟩) (hb : Beside w.heap.size wr w') : RR w w' l' :=
  ⟨hr, h.bel.trans (hb.below (Nat.le_refl _) h.bel.size)⟩
theorem worth2 (a b : UInt8) : worth [a, b] = a.toNat * 256 + b.toNat := by simp [worth]
theorem rr_yes (a b c s : UInt8) (w : World) (hg : FamSizes w) : Calls Tryz.prog 16 #[.string ⟨[a, b, c, s].toArray⟩] w fun e w' => e = .returned (rrA [a, b, c, s]) ∧ Below w.heap.size w w' := by
  have hsz : (⟨[a, b, c, s].toArray⟩ : ByteArray).size = 4 := rfl
  have KN : Hid (_ : Prop) := new_any ⟨[a, b, c, s].toArray⟩ w
  have KA : Hid (∀ X, RdrAt X w.heap.size ⟨[a, b, c, s].toArray⟩ → Calls Tryz.prog 39 #[.pointer (some ⟨w.heap.size, 0, none⟩), .int .i64 2] X fun e w' => e = .returned (.tuple #[.int .u64 ((a.toNat * 256 + b.toNat : Nat) : Int), .bool true]) ∧ RdrAt w' w.heap.size ⟨[c, s].toArray⟩ ∧ Beside w.heap.size X w') := fun X h => by
    have := num_l w.heap.size [a, b, c, s] 2 X h (by omega) (by omega) (by simp)
    rw [← worth2]
    exact this
  have KB : Hid (∀ X, RdrAt X w.heap.size ⟨[c, s].toArray⟩ → Calls Tryz.prog 42 #[.pointer (some ⟨w.heap.size, 0, none⟩), .int .i64 1] X fun e w' => e = .returned (.tuple #[.string ⟨[c].toArray⟩, .bool true]) ∧ RdrAt w' w.heap.size ⟨[s].toArray⟩ ∧ Beside w.heap.size X w') := fun X h => by
    refine (take_yes w.heap.size ⟨[c, s].toArray⟩ 1 X h (by show 1 ≤ 2; omega)).mono ?_
    rintro e w1 ⟨rfl, rfl⟩
    exact ⟨rfl, h.set _, Beside.set _ _ _⟩
  have KC : Hid (∀ X, RdrAt X w.heap.size ⟨[s].toArray⟩ → Calls Tryz.prog 39 #[.pointer (some ⟨w.heap.size, 0, none⟩), .int .i64 1] X fun e w' => e = .returned (.tuple #[.int .u64 (s.toNat : Int), .bool true]) ∧ RdrAt w' w.heap.size ⟨([] : List UInt8).toArray⟩ ∧ Beside w.heap.size X w') := fun X h => by
    have := num_l w.heap.size [s] 1 X h (by omega) (by omega) (by simp)
    rw [← worth1]
    exact this
  have HG : Hid (FamSizes w) := hg
  have ha := a.toNat_lt
  have hb := b.toNat_lt
  have hs := s.toNat_lt
  have g1 : IntKind.u16.wrap ((a.toNat * 256 + b.toNat : Nat) : Int) = ((a.toNat * 256 + b.toNat : Nat) : Int) := by simp [IntKind.wrap, IntKind.signed, IntKind.bits]; omega
  have g2 : IntKind.u8.wrap (s.toNat : Int) = (s.toNat : Int) := by simp [IntKind.wrap, IntKind.signed, IntKind.bits]; omega
  have hR : rrA [a, b, c, s] = if fmN ((a.toNat * 256 + b.toNat : Nat) : Int) (s.toNat : Int) = 0 then .tuple #[.int .i64 0, .int .i64 5] else .tuple #[.int .i64 (fmN ((a.toNat * 256 + b.toNat : Nat) : Int) (s.toNat : Int)), .int .i64 0] := rfl
  generalize rrA [a, b, c, s] = R at *
  have HR : Hid (R = _) := hR
  generalize (⟨[a, b, c, s].toArray⟩ : ByteArray) = S at *
  generalize a.toNat * 256 + b.toNat = x at *
  generalize s.toNat = y at *
  clear ha hb hs hR hg
  go_enter Tryz.func16, Tryz.ntmps16
  go_wp2_with fail
  refine Calls.mono KN.out ?_
  rintro e w1 ⟨rfl, hr1, hb1, -⟩
  have HB1 : Hid (RdrAt w1 w.heap.size S ∧ Below w.heap.size w w1) := ⟨hr1, hb1⟩
  clear hr1 hb1 KN
  go_wp2_with fail
  refine Calls.mono (KA.out w1 HB1.out.1) ?_
  rintro e w2 ⟨rfl, hr2, hb2⟩
  have HB2 : Hid (RR w w2 [c, s]) := ⟨hr2, HB1.out.2.trans (hb2.below (Nat.le_refl _) HB1.out.2.size)⟩
  clear hr2 hb2 KA
  go_wp2_with fail
  refine Calls.mono (KB.out w2 HB2.out.rd) ?_
  rintro e w3 ⟨rfl, hr3, hb3⟩
  have HB3 : Hid (RR w w3 [s]) := HB2.out.next hr3 hb3
  clear hr3 hb3 KB
  go_wp2_with fail
  refine Calls.mono (KC.out w3 HB3.out.rd) ?_
  rintro e w4 ⟨rfl, hr4, hb4⟩
  have HB4 : Hid (RR w w4 []) := HB3.out.next hr4 hb4
  clear hr4 hb4 KC
  go_wp2_with fail
  refine Calls.mono (fam_any (x : Int) (y : Int) w4 (HG.out.below HB4.out.bel)) ?_
  rintro e w5 ⟨rfl, hb5⟩
  have HB5 : Hid (Below w.heap.size w w5) := HB4.out.bel.trans (hb5.mono HB4.out.bel.size)
  clear hb5
  by_cases hz : fmN (x : Int) (y : Int) = 0
  · have HE := HR.out
    rw [if_pos hz] at HE
    have HE2 : Hid (R = _) := HE
    clear HE
    rw [hz]
    go_wp2
    go_ret2
    exact ⟨by rw [HE2.out]; rfl, HB5.out⟩
  · have HE := HR.out
    rw [if_neg hz] at HE
    have HE2 : Hid (R = _) := HE
    have hz2 : (fmN (x : Int) (y : Int) == 0) = false := beq_eq_false_iff_ne.2 hz
    clear HE HR hz
    generalize fmN (x : Int) (y : Int) = f at *
    go_wp2
    go_ret2
    exact ⟨by rw [HE2.out]; rfl, HB5.out⟩
theorem rr_any (l : List UInt8) (w : World) (hg : FamSizes w) : Calls Tryz.prog 16 #[.string ⟨l.toArray⟩] w fun e w' => e = .returned (rrA l) ∧ Below w.heap.size w w' := by
  by_cases h : l.length = 4
  · obtain ⟨a, b, c, s, rfl⟩ := four_of h
    exact rr_yes a b c s w hg
  · refine (rr_no l h w).mono ?_
    rintro e w' ⟨rfl, rfl⟩
    exact ⟨rfl, Below.refl _ _⟩
end Go.Proofs.YtfhapjhkjdifjaaGreatDoor.Ms
