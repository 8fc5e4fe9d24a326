/-
  The reference's bytes of one told prefix, and their number.
-/
import Derived.Test.YtfhbgpepkplbaaaGreatDoorH3td
import Derived.Test.YtfhbgpepkplbaaaGreatDoorH3tl
import Derived.Test.YtfhbgpepkplbaaaGreatDoorH3tn
import Derived.Test.YtfhbgpepkplbaaaGreatDoorH3fd
import Derived.Test.YtfhbgpepkplbaaaGreatDoorH3fl
import Derived.Test.YtfhbgpepkplbaaaGreatDoorH3fn
namespace Go.Proofs.YtfhbgpepkplbaaaGreatDoor
open Go.RowKit
theorem one_any (f : Int) (add : Bool) (r : Nat) (s : ByteArray) (l id lb : Nat) (w : World) (hl : l ≤ 8 * s.size) (hs : s.size ≤ 16) (hid : id < 4294967296) (hlb : lb ≤ 1048575) (hr : r < 18446744073709551616) :
    Calls Tryz.prog 26 #[.agg #[.int .i64 f, .int .u64 (r : Int), .string s, .int .i64 (l : Int), .int .u32 (id : Int), .int .u32 (lb : Int)], .bool add] w fun e w' => e = .returned (.string ⟨(nlE f add r s l id lb).toArray⟩) ∧ Below w.heap.size w w' := by
  cases hd : dst f with
  | true =>
    have hl2 : lab f = true := by unfold lab; rw [hd]; simp
    cases add with
    | true => exact one_td f r s l id lb w hl hs hid hlb hr hl2 hd
    | false => exact one_fd f r s l id lb w hl hs hid hlb hr hl2 hd
  | false =>
    cases hl2 : lab f with
    | true =>
      cases add with
      | true => exact one_tl f r s l id lb w hl hs hid hlb hr hl2 hd
      | false => exact one_fl f r s l id lb w hl hs hid hlb hr hl2 hd
    | false =>
      cases add with
      | true => exact one_tn f r s l id lb w hl hs hid hlb hr hl2 hd
      | false => exact one_fn f r s l id lb w hl hs hid hlb hr hl2 hd
theorem nlE_len (f : Int) (add : Bool) (r : Nat) (s : ByteArray) (l id lb : Nat) (h : l ≤ 8 * s.size) : ((nlE f add r s l id lb).length : Int) = nsz f l add := by
  unfold nlE nsz
  rw [byN_nat]
  simp only [List.length_append, laid_length, List.length_take]
  rw [show s.data.toList.length = s.size by simp]
  omega
/-- A told prefix, as one value. -/
def nv (n : Nl) : Value := .agg #[.int .i64 n.f, .int .u64 n.r, .string n.s, .int .i64 n.l, .int .u32 n.id, .int .u32 n.lb]
set_option maxRecDepth 100000 in
set_option maxHeartbeats 1600000 in
theorem rsize_any (f r : Int) (s : ByteArray) (l id lb : Int) (add : Bool) (w : World) (hs : s.size ≤ maxLen) (hr0 : 0 ≤ r) (hr1 : r < 18446744073709551616) (hi0 : 0 ≤ id) (hi1 : id < 4294967296) (hb0 : 0 ≤ lb) :
    Calls Tryz.prog 8 #[.agg #[.int .i64 f, .int .u64 r, .string s, .int .i64 l, .int .u32 id, .int .u32 lb], .bool add] w fun e w' => e = szAns f r s l lb add ∧ Below w.heap.size w w' := by
  have HBA : Hid (Below w.heap.size w (w.alloc (.cells #[.int .i64 f, .int .u64 r, .string s, .int .i64 l, .int .u32 id, .int .u32 lb] 27))) := (Below.refl _ _).alloc (Nat.le_refl _) _
  have KM : Hid (_ : Prop) := rmay_any f r s l id lb (w.alloc (.cells #[.int .i64 f, .int .u64 r, .string s, .int .i64 l, .int .u32 id, .int .u32 lb] 27)) hs
  by_cases h0 : nchk f r s l lb = 0
  · rw [h0] at KM
    simp only [decide_true] at KM
    have HS : Hid (szAns f r s l lb add = .returned (.tuple #[.int .i64 (nsz f l add), .int .i64 0])) := by unfold Hid szAns; rw [if_pos h0]
    obtain ⟨hc, hlb, _⟩ := nchk_zero h0
    obtain ⟨_, hz, hl0, hl1, _, _⟩ := chk_zero hc
    have hsb := szOf_bd f
    obtain ⟨r, rfl⟩ := Int.eq_ofNat_of_zero_le hr0
    obtain ⟨id, rfl⟩ := Int.eq_ofNat_of_zero_le hi0
    obtain ⟨lb, rfl⟩ := Int.eq_ofNat_of_zero_le hb0
    obtain ⟨l, rfl⟩ := Int.eq_ofNat_of_zero_le hl0
    have KO : Hid (∀ w, _) := fun w => one_any f add r s l id lb w (by omega) (by omega) (by omega) (by omega) (by omega)
    have HE : Hid (((nlE f add r s l id lb).length : Int) = nsz f l add) := nlE_len f add r s l id lb (by omega)
    clear h0 hc hlb hz hl0 hl1 hsb hs hr0 hr1 hi0 hi1 hb0
    generalize nlE f add r s l id lb = E at *
    go_enter Tryz.func8, Tryz.ntmps8
    go_wp2_with fail
    refine Calls.mono KM.out ?_
    rintro e w1 ⟨rfl, hb1⟩
    have c0 : w1.cell? ⟨w.heap.size, 0, none⟩ = some (.int .i64 f) := cell2 hb1 (by simp)
    have c1 : w1.cell? ⟨w.heap.size, 1, none⟩ = some (.int .u64 (r : Int)) := cell2 hb1 (by simp)
    have c2 : w1.cell? ⟨w.heap.size, 2, none⟩ = some (.string s) := cell2 hb1 (by simp)
    have c3 : w1.cell? ⟨w.heap.size, 3, none⟩ = some (.int .i64 (l : Int)) := cell2 hb1 (by simp)
    have c4 : w1.cell? ⟨w.heap.size, 4, none⟩ = some (.int .u32 (id : Int)) := cell2 hb1 (by simp)
    have c5 : w1.cell? ⟨w.heap.size, 5, none⟩ = some (.int .u32 (lb : Int)) := cell2 hb1 (by simp)
    have HB1 : Hid (Below w.heap.size w w1) := HBA.out.trans (hb1.mono HBA.out.size)
    clear hb1 KM HBA
    go_wp2_with fail
    refine Calls.mono (KO.out _) ?_
    rintro e w2 ⟨rfl, hb2⟩
    have HB2 : Hid (Below w.heap.size w w2) := HB1.out.trans (hb2.mono HB1.out.size)
    clear hb2 c0 c1 c2 c3 c4 c5 HB1 KO
    go_wp2
    go_ret2
    exact ⟨by rw [HS.out, ← HE.out]; rfl, HB2.out⟩
  · have HS : Hid (szAns f r s l lb add = .returned (.tuple #[.int .i64 0, .int .i64 2])) := by unfold Hid szAns; rw [if_neg h0]
    simp only [h0, decide_false] at KM
    clear h0 hs hr0 hr1 hi0 hi1 hb0
    go_enter Tryz.func8, Tryz.ntmps8
    go_wp2_with fail
    refine Calls.mono KM.out ?_
    rintro e w1 ⟨rfl, hb1⟩
    have HB1 : Hid (Below w.heap.size w w1) := HBA.out.trans (hb1.mono HBA.out.size)
    clear hb1 KM HBA
    go_wp2
    go_ret2
    exact ⟨by rw [HS.out]; rfl, HB1.out⟩
end Go.Proofs.YtfhbgpepkplbaaaGreatDoor
