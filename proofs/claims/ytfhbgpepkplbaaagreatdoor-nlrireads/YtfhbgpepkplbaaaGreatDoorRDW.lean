/-
  The example of works, the reference's Same, and NlriReads: the walk.
-/
import Derived.Test.YtfhbgpepkplbaaaGreatDoorE3
import Derived.BigQuiet
import Derived.Test.YtfhbgpepkplbaaaGreatDoorShelf
import Derived.Test.YtfhbgpepkplbaaaGreatDoorB10
import Derived.Test.YtfhbgpepkplbaaaGreatDoorB16
import Derived.LoopN
import Derived.Test.YtfhbgpepkplbaaaGreatDoorQGc
namespace Go.Proofs.YtfhbgpepkplbaaaGreatDoor
open Go.RowKit
/-- Two told prefixes are one. -/
def eqN (a b : Nl) : Bool := decide (a.f = b.f) && (decide (a.r = b.r) && (decide (a.s = b.s) && (decide (a.l = b.l) && (decide (a.id = b.id) && decide (a.lb = b.lb)))))
theorem eqN_iff (a b : Nl) : eqN a b = true ↔ a = b := by
  obtain ⟨f, r, s, l, i, b1⟩ := a
  obtain ⟨f', r', s', l', i', b2⟩ := b
  simp [eqN]
/-- Two lists are one. -/
def sameL (A B : List Nl) : Bool := decide (A.length = B.length) && (A.zip B).all fun p => eqN p.1 p.2
theorem sameL_len {A B : List Nl} (h : A.length ≠ B.length) : sameL A B = false := by simp [sameL, h]
theorem sameL_no {A B : List Nl} (k : Nat) (h1 : k < A.length) (h2 : k < B.length) (h : eqN A[k] B[k] = false) : sameL A B = false := by
  unfold sameL
  rw [Bool.and_eq_false_iff]
  right
  rw [List.all_eq_false]
  exact ⟨(A[k], B[k]), List.mem_iff_getElem.mpr ⟨k, by simp; omega, by simp⟩, by simp [h]⟩
theorem sameL_yes {A B : List Nl} (h0 : A.length = B.length) (h : ∀ k (h1 : k < A.length) (h2 : k < B.length), eqN A[k] B[k] = true) : sameL A B = true := by
  unfold sameL
  rw [Bool.and_eq_true, List.all_eq_true]
  refine ⟨by simpa using h0, fun p hp => ?_⟩
  obtain ⟨k, hk, rfl⟩ := List.mem_iff_getElem.mp hp
  simp only [List.length_zip] at hk
  simp only [List.getElem_zip]
  exact h k (by omega) (by omega)
set_option maxRecDepth 100000 in
set_option maxHeartbeats 3200000 in
theorem rsame_any (va vb : Value) (A B : List Nl) (w : World) (ha : NlsAt w va A) (hb : NlsAt w vb B) (hA : A.length ≤ 1000000000) :
    Calls Tryz.prog 17 #[va, vb] w fun e w' => e = .returned (.bool (sameL A B)) ∧ Below w.heap.size w w' := by
  obtain ⟨ada, ba, offa, capa, rfl, hada, _, hra⟩ := ha
  obtain ⟨adb, bb, offb, capb, rfl, hadb, _, hrb⟩ := hb
  have HRA : Hid (RowN _ _ _ _) := hra
  have HRB : Hid (RowN _ _ _ _) := hrb
  clear hra hrb
  by_cases hl : A.length = B.length
  · rw [← hl]
    have HL : Hid (A.length = B.length) := hl
    go_enter Tryz.func17, Tryz.ntmps17
    go_wp2
    go_loopw [5] (fun i wr => ∃ n : Nat, n ≤ A.length ∧ i = .int .i64 n ∧ Below w.heap.size w wr ∧ ∀ k (h1 : k < A.length) (h2 : k < B.length), k < n → eqN A[k] B[k] = true) (fun i _ => A.length - (intOf i).toNat)
    case atStart => exact ⟨0, Nat.zero_le _, rfl, Below.refl _ _, fun k _ _ h => by omega⟩
    case round =>
      obtain ⟨n, hn, rfl, hb, hall⟩ := hrel
      have HALL : Hid (∀ k (h1 : k < A.length) (h2 : k < B.length), k < n → eqN A[k] B[k] = true) := hall
      have HB : Hid (Below _ _ _) := hb
      clear hall
      by_cases hlt : n < A.length
      · have hltb : n < B.length := by omega
        obtain rfl : ada = some ⟨ba, offa, none⟩ := by rcases hada with h | h; exact h; omega
        obtain rfl : adb = some ⟨bb, offb, none⟩ := by rcases hadb with h | h; exact h; omega
        obtain ⟨c0, c1, c2, c3, c4, c5⟩ := (HRA.out.below hb) n hlt
        obtain ⟨d0, d1, d2, d3, d4, d5⟩ := (HRB.out.below hb) n hltb
        have HN : Hid (eqN A[n] B[n] = false → sameL A B = false) := sameL_no n hlt hltb
        have HY : Hid (eqN A[n] B[n] = true → ∀ k (h1 : k < A.length) (h2 : k < B.length), k < n + 1 → eqN A[k] B[k] = true) := fun h k h1 h2 hk => by
          by_cases e : k = n
          · subst e; exact h
          · exact HALL.out k h1 h2 (by omega)
        generalize A[n] = ma at *
        generalize B[n] = mb at *
        clear hb hada hadb HALL hl hltb
        cases he : eqN ma mb with
        | true =>
          obtain rfl := (eqN_iff ma mb).1 he
          have HY' : Hid (_ : Prop) := HY.out he
          clear HN HY he
          obtain ⟨mf, mr, ms, ml, mid, mlb⟩ := ma
          simp only at c0 c1 c2 c3 c4 c5 d0 d1 d2 d3 d4 d5
          go_wp2
          go_region_held (fun w' => w'.cell? ⟨ba, offa + n * 6, none⟩ = some (.int .i64 mf) ∧ w'.cell? ⟨ba, offa + n * 6 + 1, none⟩ = some (.int .u64 mr) ∧ w'.cell? ⟨ba, offa + n * 6 + 2, none⟩ = some (.string ms) ∧ w'.cell? ⟨ba, offa + n * 6 + 3, none⟩ = some (.int .i64 ml) ∧ w'.cell? ⟨ba, offa + n * 6 + 4, none⟩ = some (.int .u32 mid) ∧ w'.cell? ⟨ba, offa + n * 6 + 5, none⟩ = some (.int .u32 mlb) ∧ w'.cell? ⟨bb, offb + n * 6, none⟩ = some (.int .i64 mf) ∧ w'.cell? ⟨bb, offb + n * 6 + 1, none⟩ = some (.int .u64 mr) ∧ w'.cell? ⟨bb, offb + n * 6 + 2, none⟩ = some (.string ms) ∧ w'.cell? ⟨bb, offb + n * 6 + 3, none⟩ = some (.int .i64 ml) ∧ w'.cell? ⟨bb, offb + n * 6 + 4, none⟩ = some (.int .u32 mid) ∧ w'.cell? ⟨bb, offb + n * 6 + 5, none⟩ = some (.int .u32 mlb)) (go_keep) (fail)
          go_wp2
          go_roundw
          case rel => exact ⟨n + 1, by omega, by go_num, HB.out.drew, HY'.out⟩
          case measure => simp [intOf]; omega
        | false =>
          have HS : Hid (sameL A B = false) := HN.out he
          have hne : ¬ ma = mb := fun h => by rw [(eqN_iff ma mb).2 h] at he; cases he
          clear HN HY he
          obtain ⟨mf, mr, ms, ml, mid, mlb⟩ := ma
          obtain ⟨nf, nr, ns, nl, nid, nlb⟩ := mb
          simp only at c0 c1 c2 c3 c4 c5 d0 d1 d2 d3 d4 d5
          simp only [Nl.mk.injEq] at hne
          by_cases e0 : mf = nf
          rotate_left
          · have e' : (mf == nf) = false := by simpa using e0
            clear hne
            go_wp2
            go_region_held (fun w' => w'.cell? ⟨ba, offa + n * 6, none⟩ = some (.int .i64 mf) ∧ w'.cell? ⟨ba, offa + n * 6 + 1, none⟩ = some (.int .u64 mr) ∧ w'.cell? ⟨ba, offa + n * 6 + 2, none⟩ = some (.string ms) ∧ w'.cell? ⟨ba, offa + n * 6 + 3, none⟩ = some (.int .i64 ml) ∧ w'.cell? ⟨ba, offa + n * 6 + 4, none⟩ = some (.int .u32 mid) ∧ w'.cell? ⟨ba, offa + n * 6 + 5, none⟩ = some (.int .u32 mlb) ∧ w'.cell? ⟨bb, offb + n * 6, none⟩ = some (.int .i64 nf) ∧ w'.cell? ⟨bb, offb + n * 6 + 1, none⟩ = some (.int .u64 nr) ∧ w'.cell? ⟨bb, offb + n * 6 + 2, none⟩ = some (.string ns) ∧ w'.cell? ⟨bb, offb + n * 6 + 3, none⟩ = some (.int .i64 nl) ∧ w'.cell? ⟨bb, offb + n * 6 + 4, none⟩ = some (.int .u32 nid) ∧ w'.cell? ⟨bb, offb + n * 6 + 5, none⟩ = some (.int .u32 nlb)) (go_keep) (fail)
            go_wp2
            go_ret
            exact ⟨ret_bool HS.out.symm, HB.out.drew⟩
          subst e0
          by_cases e1 : mr = nr
          rotate_left
          · have e' : (mr == nr) = false := by simpa using e1
            clear hne
            go_wp2
            go_region_held (fun w' => w'.cell? ⟨ba, offa + n * 6, none⟩ = some (.int .i64 mf) ∧ w'.cell? ⟨ba, offa + n * 6 + 1, none⟩ = some (.int .u64 mr) ∧ w'.cell? ⟨ba, offa + n * 6 + 2, none⟩ = some (.string ms) ∧ w'.cell? ⟨ba, offa + n * 6 + 3, none⟩ = some (.int .i64 ml) ∧ w'.cell? ⟨ba, offa + n * 6 + 4, none⟩ = some (.int .u32 mid) ∧ w'.cell? ⟨ba, offa + n * 6 + 5, none⟩ = some (.int .u32 mlb) ∧ w'.cell? ⟨bb, offb + n * 6, none⟩ = some (.int .i64 mf) ∧ w'.cell? ⟨bb, offb + n * 6 + 1, none⟩ = some (.int .u64 nr) ∧ w'.cell? ⟨bb, offb + n * 6 + 2, none⟩ = some (.string ns) ∧ w'.cell? ⟨bb, offb + n * 6 + 3, none⟩ = some (.int .i64 nl) ∧ w'.cell? ⟨bb, offb + n * 6 + 4, none⟩ = some (.int .u32 nid) ∧ w'.cell? ⟨bb, offb + n * 6 + 5, none⟩ = some (.int .u32 nlb)) (go_keep) (fail)
            go_wp2
            go_ret
            exact ⟨ret_bool HS.out.symm, HB.out.drew⟩
          subst e1
          by_cases e2 : ms = ns
          rotate_left
          · have e' : (ms.toList == ns.toList) = false := by
              rw [ByteArray.toList_eq, ByteArray.toList_eq]
              simp only [beq_eq_false_iff_ne, ne_eq]
              intro h
              exact e2 (ByteArray.ext (Array.ext' h))
            clear hne
            go_wp2
            go_region_held (fun w' => w'.cell? ⟨ba, offa + n * 6, none⟩ = some (.int .i64 mf) ∧ w'.cell? ⟨ba, offa + n * 6 + 1, none⟩ = some (.int .u64 mr) ∧ w'.cell? ⟨ba, offa + n * 6 + 2, none⟩ = some (.string ms) ∧ w'.cell? ⟨ba, offa + n * 6 + 3, none⟩ = some (.int .i64 ml) ∧ w'.cell? ⟨ba, offa + n * 6 + 4, none⟩ = some (.int .u32 mid) ∧ w'.cell? ⟨ba, offa + n * 6 + 5, none⟩ = some (.int .u32 mlb) ∧ w'.cell? ⟨bb, offb + n * 6, none⟩ = some (.int .i64 mf) ∧ w'.cell? ⟨bb, offb + n * 6 + 1, none⟩ = some (.int .u64 mr) ∧ w'.cell? ⟨bb, offb + n * 6 + 2, none⟩ = some (.string ns) ∧ w'.cell? ⟨bb, offb + n * 6 + 3, none⟩ = some (.int .i64 nl) ∧ w'.cell? ⟨bb, offb + n * 6 + 4, none⟩ = some (.int .u32 nid) ∧ w'.cell? ⟨bb, offb + n * 6 + 5, none⟩ = some (.int .u32 nlb)) (go_keep) (fail)
            go_wp2
            go_ret
            exact ⟨ret_bool HS.out.symm, HB.out.drew⟩
          subst e2
          by_cases e3 : ml = nl
          rotate_left
          · have e' : (ml == nl) = false := by simpa using e3
            clear hne
            go_wp2
            go_region_held (fun w' => w'.cell? ⟨ba, offa + n * 6, none⟩ = some (.int .i64 mf) ∧ w'.cell? ⟨ba, offa + n * 6 + 1, none⟩ = some (.int .u64 mr) ∧ w'.cell? ⟨ba, offa + n * 6 + 2, none⟩ = some (.string ms) ∧ w'.cell? ⟨ba, offa + n * 6 + 3, none⟩ = some (.int .i64 ml) ∧ w'.cell? ⟨ba, offa + n * 6 + 4, none⟩ = some (.int .u32 mid) ∧ w'.cell? ⟨ba, offa + n * 6 + 5, none⟩ = some (.int .u32 mlb) ∧ w'.cell? ⟨bb, offb + n * 6, none⟩ = some (.int .i64 mf) ∧ w'.cell? ⟨bb, offb + n * 6 + 1, none⟩ = some (.int .u64 mr) ∧ w'.cell? ⟨bb, offb + n * 6 + 2, none⟩ = some (.string ms) ∧ w'.cell? ⟨bb, offb + n * 6 + 3, none⟩ = some (.int .i64 nl) ∧ w'.cell? ⟨bb, offb + n * 6 + 4, none⟩ = some (.int .u32 nid) ∧ w'.cell? ⟨bb, offb + n * 6 + 5, none⟩ = some (.int .u32 nlb)) (go_keep) (fail)
            go_wp2
            go_ret
            exact ⟨ret_bool HS.out.symm, HB.out.drew⟩
          subst e3
          by_cases e4 : mid = nid
          rotate_left
          · have e' : (mid == nid) = false := by simpa using e4
            clear hne
            go_wp2
            go_region_held (fun w' => w'.cell? ⟨ba, offa + n * 6, none⟩ = some (.int .i64 mf) ∧ w'.cell? ⟨ba, offa + n * 6 + 1, none⟩ = some (.int .u64 mr) ∧ w'.cell? ⟨ba, offa + n * 6 + 2, none⟩ = some (.string ms) ∧ w'.cell? ⟨ba, offa + n * 6 + 3, none⟩ = some (.int .i64 ml) ∧ w'.cell? ⟨ba, offa + n * 6 + 4, none⟩ = some (.int .u32 mid) ∧ w'.cell? ⟨ba, offa + n * 6 + 5, none⟩ = some (.int .u32 mlb) ∧ w'.cell? ⟨bb, offb + n * 6, none⟩ = some (.int .i64 mf) ∧ w'.cell? ⟨bb, offb + n * 6 + 1, none⟩ = some (.int .u64 mr) ∧ w'.cell? ⟨bb, offb + n * 6 + 2, none⟩ = some (.string ms) ∧ w'.cell? ⟨bb, offb + n * 6 + 3, none⟩ = some (.int .i64 ml) ∧ w'.cell? ⟨bb, offb + n * 6 + 4, none⟩ = some (.int .u32 nid) ∧ w'.cell? ⟨bb, offb + n * 6 + 5, none⟩ = some (.int .u32 nlb)) (go_keep) (fail)
            go_wp2
            go_ret
            exact ⟨ret_bool HS.out.symm, HB.out.drew⟩
          subst e4
          by_cases e5 : mlb = nlb
          rotate_left
          · have e' : (mlb == nlb) = false := by simpa using e5
            clear hne
            go_wp2
            go_region_held (fun w' => w'.cell? ⟨ba, offa + n * 6, none⟩ = some (.int .i64 mf) ∧ w'.cell? ⟨ba, offa + n * 6 + 1, none⟩ = some (.int .u64 mr) ∧ w'.cell? ⟨ba, offa + n * 6 + 2, none⟩ = some (.string ms) ∧ w'.cell? ⟨ba, offa + n * 6 + 3, none⟩ = some (.int .i64 ml) ∧ w'.cell? ⟨ba, offa + n * 6 + 4, none⟩ = some (.int .u32 mid) ∧ w'.cell? ⟨ba, offa + n * 6 + 5, none⟩ = some (.int .u32 mlb) ∧ w'.cell? ⟨bb, offb + n * 6, none⟩ = some (.int .i64 mf) ∧ w'.cell? ⟨bb, offb + n * 6 + 1, none⟩ = some (.int .u64 mr) ∧ w'.cell? ⟨bb, offb + n * 6 + 2, none⟩ = some (.string ms) ∧ w'.cell? ⟨bb, offb + n * 6 + 3, none⟩ = some (.int .i64 ml) ∧ w'.cell? ⟨bb, offb + n * 6 + 4, none⟩ = some (.int .u32 mid) ∧ w'.cell? ⟨bb, offb + n * 6 + 5, none⟩ = some (.int .u32 nlb)) (go_keep) (fail)
            go_wp2
            go_ret
            exact ⟨ret_bool HS.out.symm, HB.out.drew⟩
          subst e5
          exact absurd ⟨rfl, rfl, rfl, rfl, rfl, rfl⟩ hne
      · obtain rfl : n = A.length := by omega
        have HS : Hid (sameL A B = true) := sameL_yes HL.out fun k h1 h2 => HALL.out k h1 h2 h1
        clear hb hada hadb HALL hl
        go_wp2
        go_ret
        exact ⟨ret_bool HS.out.symm, HB.out⟩
  · have hl' : ((A.length : Int) == (B.length : Int)) = false := by simp; omega
    have HS : Hid (sameL A B = false) := sameL_len hl
    go_enter Tryz.func17, Tryz.ntmps17
    go_wp2
    go_ret
    exact ⟨ret_bool HS.out.symm, Below.refl _ _⟩
end Go.Proofs.YtfhbgpepkplbaaaGreatDoor
namespace Go.Proofs.YtfhbgpepkplbaaaGreatDoor
open Go.RowKit

theorem fu57_small (u : Nat) (h : u < 100) (w : World) :
    Calls Tryz.prog 118 #[.int .u64 u, .int .i64 10] w fun e w' => e = .returned (.string ⟨(Lib.decDigits u).toArray⟩) ∧ w' = w := by
  go_enter Tryz.func118, Tryz.ntmps118
  go_wp2_with (go_at_call 130; refine (Tryz.internal_strconv_small u h _).mono ?_; rintro e w' ⟨rfl, rfl⟩)
  go_ret
  exact ⟨rfl, rfl⟩
theorem fu_small (u : Nat) (h : u < 100) (w : World) :
    Calls Tryz.prog 112 #[.int .u64 u, .int .i64 10] w fun e w' => e = .returned (.string ⟨(Lib.decDigits u).toArray⟩) ∧ w' = w := by
  go_enter Tryz.func112, Tryz.ntmps112
  go_wp2_with (go_at_call 118; refine (fu57_small u h _).mono ?_; rintro e w' ⟨rfl, rfl⟩)
  go_ret
  exact ⟨rfl, rfl⟩
theorem below_freeze {B : Nat} {a w : World} (h : Below B a w) (p : Addr) (n : Nat) (hp : B ≤ p.block) : Below B a (w.freeze p n) := by
  unfold World.freeze
  split
  · exact h
  · exact h.trans ⟨rfl, rfl, rfl, by simp, fun k hk => by simp only [Array.getElem?_modify]; rw [if_neg (by omega)]⟩
theorem below_bytesWorld (w : World) (s : ByteArray) : Below w.heap.size w (Lib.bytesWorld w 5 s) := by
  unfold Lib.bytesWorld
  exact below_freeze ((Below.refl _ _).drew.alloc (Nat.le_refl _) _) _ _ (Nat.le_refl _)
theorem below_drewN' {B : Nat} {a w : World} (h : Below B a w) (n : Nat) : Below B a (w.drewN n) := ⟨h.os, h.tape, h.output, h.size, h.block⟩
theorem rn64_ok (s : ByteArray) (u : Nat) (hs : s.size ≤ 1000000) (hp : Lib.parseUintB 64 s.data.toList = .ok u) (hu : u < 100) (hd : Lib.decDigits u = s.toList) (w : World) :
    Calls Tryz.prog 101 #[.string s, .int .i64 10, .int .i64 64] w fun e w' => e = .returned (.tuple #[.int .u64 u, .bool true]) ∧ Below w.heap.size w w' := by
  have HP : Hid (Lib.parseUintB 64 s.data.toList = .ok u) := hp
  clear hp
  go_enter Tryz.func101, Tryz.ntmps101
  go_wp2_with fail
  refine (Tryz.strconv_ParseUint_10_at64_ok s (by omega) u HP.out _).mono ?_
  rintro e w1 ⟨rfl, hw⟩
  have hb : Below w.heap.size w w1 := by
    rcases hw with rfl | rfl
    · exact Below.refl _ _
    · exact below_bytesWorld w s
  clear hw
  go_wp2_with (go_at_call 112; refine (fu_small u hu _).mono ?_; rintro e w' ⟨rfl, rfl⟩)
  go_ret2
  exact ⟨rfl, hb⟩
theorem rn8_ok (s : ByteArray) (u : Nat) (hs : s.size ≤ 1000000) (hp : Lib.parseUintB 8 s.data.toList = .ok u) (hu : u < 100) (hd : Lib.decDigits u = s.toList) (w : World) :
    Calls Tryz.prog 101 #[.string s, .int .i64 10, .int .i64 8] w fun e w' => e = .returned (.tuple #[.int .u64 u, .bool true]) ∧ Below w.heap.size w w' := by
  have HP : Hid (Lib.parseUintB 8 s.data.toList = .ok u) := hp
  clear hp
  go_enter Tryz.func101, Tryz.ntmps101
  go_wp2_with fail
  refine (Tryz.strconv_ParseUint_10_at8_ok s (by omega) u HP.out _).mono ?_
  rintro e w1 ⟨rfl, hw⟩
  have hb : Below w.heap.size w w1 := by
    rcases hw with rfl | rfl
    · exact Below.refl _ _
    · exact below_bytesWorld w s
  clear hw
  go_wp2_with (go_at_call 112; refine (fu_small u hu _).mono ?_; rintro e w' ⟨rfl, rfl⟩)
  go_ret2
  exact ⟨rfl, hb⟩
end Go.Proofs.YtfhbgpepkplbaaaGreatDoor
namespace Go.Proofs.YtfhbgpepkplbaaaGreatDoor
open Go.RowKit
/-- "10.1.0.0" -/
def txt : ByteArray := ⟨#[49, 48, 46, 49, 46, 48, 46, 48]⟩
theorem split_w (w : World) (m : Int) (hm : w.cell? ⟨2, 0, none⟩ = some (.int .i64 m)) :
    Calls Tryz.prog 119 #[.string ⟨#[49, 48, 46, 49, 46, 48, 46, 48]⟩, .string ⟨#[46]⟩, .int .i64 5] w fun e w' => e = .returned (.slice (some ⟨w.heap.size, 0, none⟩) 4 5) ∧
      w' = w.alloc (.cells #[.string ⟨#[49, 48]⟩, .string ⟨#[49]⟩, .string ⟨#[48]⟩, .string ⟨#[48]⟩, .string ⟨#[]⟩] 9) := by
  have h := Tryz.strings_SplitN ⟨#[49, 48, 46, 49, 46, 48, 46, 48]⟩ ⟨#[46]⟩ 5 m w (by decide) hm (by decide) (by decide) (by decide)
  have e1 : Lib.splitB ⟨#[46]⟩ 0 (min 5 ((⟨#[49, 48, 46, 49, 46, 48, 46, 48]⟩ : ByteArray).size + 1) - 1) ⟨#[49, 48, 46, 49, 46, 48, 46, 48]⟩ = [⟨#[49, 48]⟩, ⟨#[49]⟩, ⟨#[48]⟩, ⟨#[48]⟩] := by decide +kernel
  rw [e1] at h
  exact h
theorem infoB5 : (Tryz.prog.info? 5).map (fun i => (i.zero, i.size, i.bytes)) = some (some (.int .u8 0), 1, 1) := by kernel_rfl
/-- What the loop over the words finds in memory. -/
structure RdAt (w wr : World) : Prop where
  s0 : wr.cell? ⟨w.heap.size, 0, none⟩ = some (.string ⟨#[46]⟩)
  s1 : wr.cell? ⟨w.heap.size, 1, none⟩ = some (.int .i64 4)
  s2 : wr.cell? ⟨w.heap.size, 2, none⟩ = some (.int .i64 1)
  s3 : wr.cell? ⟨w.heap.size, 3, none⟩ = some (.int .i64 10)
  w0 : wr.cell? ⟨w.heap.size + 1, 0, none⟩ = some (.string ⟨#[49, 48]⟩)
  w1 : wr.cell? ⟨w.heap.size + 1, 1, none⟩ = some (.string ⟨#[49]⟩)
  w2 : wr.cell? ⟨w.heap.size + 1, 2, none⟩ = some (.string ⟨#[48]⟩)
  w3 : wr.cell? ⟨w.heap.size + 1, 3, none⟩ = some (.string ⟨#[48]⟩)
  bel : Below w.heap.size w wr
  sz : w.heap.size + 1 + 1 ≤ wr.heap.size
theorem RdAt.kept {w wr w' : World} (h : RdAt w wr) (hb : Below (w.heap.size + 1 + 1) wr w') : RdAt w w' := by
  have a : w.heap.size < w.heap.size + 1 + 1 := by omega
  have b : w.heap.size + 1 < w.heap.size + 1 + 1 := by omega
  exact ⟨(hb.cell (p := ⟨_, _, none⟩) a).trans h.s0, (hb.cell (p := ⟨_, _, none⟩) a).trans h.s1, (hb.cell (p := ⟨_, _, none⟩) a).trans h.s2, (hb.cell (p := ⟨_, _, none⟩) a).trans h.s3,
    (hb.cell (p := ⟨_, _, none⟩) b).trans h.w0, (hb.cell (p := ⟨_, _, none⟩) b).trans h.w1, (hb.cell (p := ⟨_, _, none⟩) b).trans h.w2, (hb.cell (p := ⟨_, _, none⟩) b).trans h.w3,
    h.bel.trans (hb.mono (by omega)), Nat.le_trans h.sz hb.size⟩
theorem ownsRow_below {w w' : World} {base : Nat} {e : TypeId} {size : Nat} {v : Value} {n : Nat} {xs : List Value} (h : w.ownsRow base e size v n xs) (hb : Below w.heap.size w w') : w'.ownsRow base e size v n xs := by
  obtain ⟨h1, h2⟩ := h
  refine ⟨h1, ?_⟩
  rcases h2 with h2 | ⟨g, cap, cur, hv, hg, hh, r⟩
  · exact Or.inl h2
  · exact Or.inr ⟨g, cap, cur, hv, hg, (hb.block g (lt_of_heap hh)).trans hh, r⟩
theorem cell_new1 (w : World) (v : Value) (t : TypeId) : ∀ j u, [v][j]? = some u → (w.alloc (.cells #[v] t)).cell? (Addr.add ⟨w.heap.size, 0, none⟩ j) = some u := by
  intro j u hj
  match j, hj with
  | 0, hj => simp at hj; subst hj; simp [Addr.add]
theorem one_u8 (n : Int) : ∀ u ∈ [Value.int .u8 n], u.oneCell' = true := by
  intro u hu; simp at hu; subst hu; rfl
theorem owned_bytes {w : World} {base : Nat} {v : Value} (l : List UInt8) (h0 : l.length ≠ 0) (h : w.ownsRow base 5 1 v l.length (l.map fun b => Value.int .u8 (b.toNat : Int))) :
    ∃ g cap, v = .slice (some ⟨g, 0, none⟩) l.length cap ∧ ∀ j (hj : j < l.length), w.cell? (Addr.add ⟨g, 0, none⟩ j) = some (.int .u8 (l[j].toNat : Int)) := by
  have h' := h
  obtain ⟨h1, h2⟩ := h
  rcases h2 with ⟨_, h2⟩ | ⟨g, cap, cur, hv, hg, hh, r⟩
  · exact absurd h2 h0
  · refine ⟨g, cap, hv, fun j hj => h'.cells (g := g) (by rw [hv]; rfl) j _ ?_⟩
    rw [List.getElem?_map, List.getElem?_eq_getElem hj]; rfl
set_option maxRecDepth 100000 in
set_option maxHeartbeats 1600000 in
theorem read_w (w : World) (h : Tabs w) :
    Calls Tryz.prog 113 #[.agg #[.string ⟨#[46]⟩, .int .i64 4, .int .i64 1, .int .i64 10], .string ⟨#[49, 48, 46, 49, 46, 48, 46, 48]⟩] w fun e w' => e = .returned (.tuple #[.string ⟨#[10, 1, 0, 0]⟩, .bool true]) ∧ Below w.heap.size w w' := by
  obtain ⟨_, _, ⟨m, hm⟩⟩ := h
  have l3 : 2 < w.heap.size := lt_of_cell hm
  obtain ⟨i0, hi, hz0, hz1, hz2⟩ := info_parts infoB5
  go_enter Tryz.func113, Tryz.ntmps113
  go_wp2_with (go_at_call 119; refine (split_w _ m ?_).mono ?_; (rw [World.cell?_alloc_past _ _ _ l3]; exact hm); rintro e w' ⟨rfl, rfl⟩)
  refine with_world (fun wx => RdAt w wx) ?_ ?_
  · have hb : Below w.heap.size w ((w.alloc (.cells #[.string ⟨#[46]⟩, .int .i64 4, .int .i64 1, .int .i64 10] 147)).alloc (.cells #[.string ⟨#[49, 48]⟩, .string ⟨#[49]⟩, .string ⟨#[48]⟩, .string ⟨#[48]⟩, .string ⟨#[]⟩] 9)) := ((Below.refl _ _).alloc (Nat.le_refl _) _).alloc (by simp) _
    refine ⟨?_, ?_, ?_, ?_, ?_, ?_, ?_, ?_, hb, by simp⟩
    all_goals first | (rw [World.cell?_alloc_past _ _ _ (by simp), World.cell?_alloc_at _ _ _ _ rfl]; rfl) | (rw [World.cell?_alloc_at _ _ _ _ (by simp)]; rfl)
  intro wx hx
  clear hm l3
  go_loopw [7, 27] (fun v i wr => ∃ k : Nat, k ≤ 4 ∧ i = .int .i64 k ∧ RdAt w wr ∧ wr.ownsRow (w.heap.size + 1 + 1) 5 1 v k (([10, 1, 0, 0] : List UInt8).take k |>.map (fun b => Value.int .u8 (b.toNat : Int)))) (fun _ i _ => 4 - (intOf i).toNat)
  case atStart => exact ⟨0, by omega, rfl, hx, World.ownsRow_nil _ _ _ _⟩
  case round =>
    obtain ⟨k, hk, rfl, hr, hown⟩ := hrel
    have hk' : k = 0 ∨ k = 1 ∨ k = 2 ∨ k = 3 ∨ k = 4 := by omega
    clear hk hx
    have s0 := hr.s0
    have s1 := hr.s1
    have s2 := hr.s2
    have s3 := hr.s3
    rcases hk' with rfl | rfl | rfl | rfl | rfl
    · have wk := hr.w0
      go_wp2_with fail
      refine (rn8_ok ⟨#[49, 48]⟩ 10 (by decide) (by decide +kernel) (by decide) (by decide +kernel) _).mono ?_
      rintro e w1 ⟨rfl, hb1⟩
      have hr1 := hr.kept (hb1.mono hr.sz)
      have hown1 := ownsRow_below hown hb1
      have t2 := hr1.s2
      clear hown hr wk s0 s1 s2 s3 hb1
      have hsz1 := hr1.sz
      go_wp2_with fail
      refine wp_loop_rounds 2 ?_
      rw [rounds_succ]
      go_wp2_with (at_builtin; refine wpList_append_own _ rfl _ _ 60 rfl (w.heap.size + 1 + 1) 5 i0 (.int .u8 0) 1 1 Tryz.underlying60 hi hz0 hz1 hz2 rfl (by decide) _ _ _ rfl (hown1.alloc _) ⟨w1.heap.size, 0, none⟩ 1 1 [.int .u8 10] rfl rfl (cell_new1 _ _ _) (one_u8 _) (by decide) (by decide) (by simp; omega) ?_; intro v' w2 hown2 hgrow _)
      have hr2 : RdAt w w2 := hr1.kept (((Below.refl _ _).alloc hsz1 _).grown hgrow (by simp; omega) (fun k e => (hown1.lt k e).1))
      clear hgrow hown1 hr1 t2
      rw [rounds_succ]
      go_wp2
      go_roundw
      case rel => exact ⟨1, by omega, by go_num, hr2, by simpa using hown2⟩
      case measure => simp [intOf]
    · have wk := hr.w1
      go_wp2_with fail
      refine (rn8_ok ⟨#[49]⟩ 1 (by decide) (by decide +kernel) (by decide) (by decide +kernel) _).mono ?_
      rintro e w1 ⟨rfl, hb1⟩
      have hr1 := hr.kept (hb1.mono hr.sz)
      have hown1 := ownsRow_below hown hb1
      have t2 := hr1.s2
      clear hown hr wk s0 s1 s2 s3 hb1
      have hsz1 := hr1.sz
      go_wp2_with fail
      refine wp_loop_rounds 2 ?_
      rw [rounds_succ]
      go_wp2_with (at_builtin; refine wpList_append_own _ rfl _ _ 60 rfl (w.heap.size + 1 + 1) 5 i0 (.int .u8 0) 1 1 Tryz.underlying60 hi hz0 hz1 hz2 rfl (by decide) _ _ _ rfl (hown1.alloc _) ⟨w1.heap.size, 0, none⟩ 1 1 [.int .u8 1] rfl rfl (cell_new1 _ _ _) (one_u8 _) (by decide) (by decide) (by simp; omega) ?_; intro v' w2 hown2 hgrow _)
      have hr2 : RdAt w w2 := hr1.kept (((Below.refl _ _).alloc hsz1 _).grown hgrow (by simp; omega) (fun k e => (hown1.lt k e).1))
      clear hgrow hown1 hr1 t2
      rw [rounds_succ]
      go_wp2
      go_roundw
      case rel => exact ⟨2, by omega, by go_num, hr2, by simpa using hown2⟩
      case measure => simp [intOf]
    · have wk := hr.w2
      go_wp2_with fail
      refine (rn8_ok ⟨#[48]⟩ 0 (by decide) (by decide +kernel) (by decide) (by decide +kernel) _).mono ?_
      rintro e w1 ⟨rfl, hb1⟩
      have hr1 := hr.kept (hb1.mono hr.sz)
      have hown1 := ownsRow_below hown hb1
      have t2 := hr1.s2
      clear hown hr wk s0 s1 s2 s3 hb1
      have hsz1 := hr1.sz
      go_wp2_with fail
      refine wp_loop_rounds 2 ?_
      rw [rounds_succ]
      go_wp2_with (at_builtin; refine wpList_append_own _ rfl _ _ 60 rfl (w.heap.size + 1 + 1) 5 i0 (.int .u8 0) 1 1 Tryz.underlying60 hi hz0 hz1 hz2 rfl (by decide) _ _ _ rfl (hown1.alloc _) ⟨w1.heap.size, 0, none⟩ 1 1 [.int .u8 0] rfl rfl (cell_new1 _ _ _) (one_u8 _) (by decide) (by decide) (by simp; omega) ?_; intro v' w2 hown2 hgrow _)
      have hr2 : RdAt w w2 := hr1.kept (((Below.refl _ _).alloc hsz1 _).grown hgrow (by simp; omega) (fun k e => (hown1.lt k e).1))
      clear hgrow hown1 hr1 t2
      rw [rounds_succ]
      go_wp2
      go_roundw
      case rel => exact ⟨3, by omega, by go_num, hr2, by simpa using hown2⟩
      case measure => simp [intOf]
    · have wk := hr.w3
      go_wp2_with fail
      refine (rn8_ok ⟨#[48]⟩ 0 (by decide) (by decide +kernel) (by decide) (by decide +kernel) _).mono ?_
      rintro e w1 ⟨rfl, hb1⟩
      have hr1 := hr.kept (hb1.mono hr.sz)
      have hown1 := ownsRow_below hown hb1
      have t2 := hr1.s2
      clear hown hr wk s0 s1 s2 s3 hb1
      have hsz1 := hr1.sz
      go_wp2_with fail
      refine wp_loop_rounds 2 ?_
      rw [rounds_succ]
      go_wp2_with (at_builtin; refine wpList_append_own _ rfl _ _ 60 rfl (w.heap.size + 1 + 1) 5 i0 (.int .u8 0) 1 1 Tryz.underlying60 hi hz0 hz1 hz2 rfl (by decide) _ _ _ rfl (hown1.alloc _) ⟨w1.heap.size, 0, none⟩ 1 1 [.int .u8 0] rfl rfl (cell_new1 _ _ _) (one_u8 _) (by decide) (by decide) (by simp; omega) ?_; intro v' w2 hown2 hgrow _)
      have hr2 : RdAt w w2 := hr1.kept (((Below.refl _ _).alloc hsz1 _).grown hgrow (by simp; omega) (fun k e => (hown1.lt k e).1))
      clear hgrow hown1 hr1 t2
      rw [rounds_succ]
      go_wp2
      go_roundw
      case rel => exact ⟨4, by omega, by go_num, hr2, by simpa using hown2⟩
      case measure => simp [intOf]
    · have hv := owned_bytes [10, 1, 0, 0] (by decide) hown
      obtain ⟨g, cap, rfl, hcs⟩ := hv
      have hback := run_convert_bytes_back (P := Tryz.prog) wr 60 9 5 ⟨g, 0, none⟩ cap [10, 1, 0, 0] Tryz.underlying60 Tryz.underlying5 Tryz.underlying9 hcs
      simp only [List.length_cons, List.length_nil] at hback
      clear hcs hown
      go_wp2
      go_ret2
      exact ⟨rfl, hr.bel⟩
end Go.Proofs.YtfhbgpepkplbaaaGreatDoor
namespace Go.Proofs.YtfhbgpepkplbaaaGreatDoor
open Go.RowKit
theorem info73 : (Tryz.prog.info? 148).map (·.size) = some stCells.size := by kernel_rfl
theorem sx0 (w : World) : (Instr.index 148 (.agg stCells) (.int .i64 0)).run Tryz.prog w = .ok (.agg #[.string ⟨#[46]⟩, .int .i64 4, .int .i64 1, .int .i64 10]) w := by kernel_rfl
theorem sx1 (w : World) : (Instr.index 148 (.agg stCells) (.int .i64 1)).run Tryz.prog w = .ok (.agg #[.string ⟨#[58]⟩, .int .i64 8, .int .i64 2, .int .i64 16]) w := by kernel_rfl
set_option maxRecDepth 100000 in
set_option maxHeartbeats 800000 in
theorem addr_w (w : World) (h : Tabs w) :
    Calls Tryz.prog 102 #[.string ⟨#[49, 48, 46, 49, 46, 48, 46, 48]⟩] w fun e w' => e = .returned (.tuple #[.string ⟨#[10, 1, 0, 0]⟩, .int .i64 0]) ∧ Below w.heap.size w w' := by
  have h' := h
  obtain ⟨_, ⟨t, fr, h0⟩, _⟩ := h
  have H0 : Hid (w.heap[1]? = some (.cells stCells t fr)) := h0
  clear h0
  go_enter Tryz.func102, Tryz.ntmps102
  go_wp2_with (refine wpList_load_row rfl 148 _ rfl 1 rfl t _ fr _ H0.out Tryz.underlying148 rfl info73 ?_)
  have hsx := sx0
  refine wp_loop_rounds 1 ?_
  rw [rounds_succ]
  go_wp2_with (go_at_call 113; refine (read_w _ (h'.below ((Below.refl _ _).alloc (Nat.le_refl _) _))).mono ?_; rintro e w1 ⟨rfl, hb1⟩)
  go_ret2
  exact ⟨rfl, ((Below.refl _ _).alloc (Nat.le_refl _) _).trans (Below.mono (by assumption) (by simp))⟩
/-- Cut at a text that is there. -/
theorem cut_c (s sep : ByteArray) (a b : List UInt8) (w : World) (h : Tabs w) (hs : s.size < 4294967281) (hc : Lib.cut s.data.toList sep.data.toList = (a, b, true)) :
    Calls Tryz.prog 99 #[.string s, .string sep] w fun e w' => e = .returned (.tuple #[.string ⟨a.toArray⟩, .string ⟨b.toArray⟩, .bool true]) ∧ Below w.heap.size w w' := by
  obtain ⟨_, _, ⟨m, hm⟩⟩ := h
  have c := Tryz.strings_Cut s sep m w hs hm
  rw [hc] at c
  refine c.mono ?_
  rintro e w' ⟨rfl, n, rfl⟩
  exact ⟨rfl, below_drewN' (Below.refl _ _) n⟩
set_option maxRecDepth 100000 in
set_option maxHeartbeats 800000 in
theorem prefix_w (w : World) (h : Tabs w) :
    Calls Tryz.prog 78 #[.string ⟨#[118, 112, 110, 52, 32, 55, 32, 49, 48, 46, 49, 46, 48, 46, 48, 47, 49, 54]⟩] w fun e w' =>
      e = .returned (.tuple #[.agg #[.int .i64 4, .int .u64 7, .string ⟨#[10, 1, 0, 0]⟩, .int .i64 16], .bool true]) ∧ Below w.heap.size w w' := by
  go_enter Tryz.func78, Tryz.ntmps78
  go_wp2_with fail
  refine (cut_c _ _ [118, 112, 110, 52] [55, 32, 49, 48, 46, 49, 46, 48, 46, 48, 47, 49, 54] _ ?_ (by decide) (by decide +kernel)).mono ?_
  · exact h.below ((Below.refl _ _).alloc (Nat.le_refl _) _)
  rintro e w1 ⟨rfl, hb1⟩
  have hB1 : Below w.heap.size w w1 := ((Below.refl _ _).alloc (Nat.le_refl _) _).trans (hb1.mono (by simp))
  have h1 := h.below hB1
  have z1 := (PfxAt.of_alloc w _ 0 0 ⟨#[]⟩ 0 rfl).kept hb1 (by simp)
  have hs1 : w.heap.size < w1.heap.size := by have := hb1.size; simp at this; omega
  have fm : famOf [118, 112, 110, 52] = 4 := by decide +kernel
  go_wp2_with fail
  refine (named_any _ _ h1).mono ?_
  rintro e w2 ⟨rfl, hb2⟩
  rw [show famOf (⟨#[118, 112, 110, 52]⟩ : ByteArray).toList = 4 from by rw [ByteArray.toList_eq]; exact fm]
  have h2 := h1.below hb2
  have z2 := z1.kept hb2 hs1
  have hs2 := Nat.lt_of_lt_of_le hs1 hb2.size
  have c14 := h2.rds.c4
  have hB2 := hB1.trans (hb2.mono hB1.size)
  clear z1 h1 hb1 hb2 hs1 fm hB1
  go_wp2_with fail
  refine (cut_c _ _ [55] [49, 48, 46, 49, 46, 48, 46, 48, 47, 49, 54] _ h2 (by decide) (by decide +kernel)).mono ?_
  rintro e w3 ⟨rfl, hb3⟩
  have h3 := h2.below hb3
  have z3 := z2.kept hb3 hs2
  have hs3 := Nat.lt_of_lt_of_le hs2 hb3.size
  have hB3 := hB2.trans (hb3.mono hB2.size)
  clear z2 h2 hb3 hs2 c14 hB2
  go_wp2_with fail
  refine (rn64_ok _ 7 (by decide) (by decide +kernel) (by decide) (by decide +kernel) _).mono ?_
  rintro e w4 ⟨rfl, hb4⟩
  have h4 := h3.below hb4
  have z4 := z3.kept hb4 hs3
  have hs4 := Nat.lt_of_lt_of_le hs3 hb4.size
  have hB4 := hB3.trans (hb4.mono hB3.size)
  clear z3 h3 hb4 hs3 hB3
  go_wp2_with fail
  refine (cut_c _ _ [49, 48, 46, 49, 46, 48, 46, 48] [49, 54] _ h4 (by decide) (by decide +kernel)).mono ?_
  rintro e w5 ⟨rfl, hb5⟩
  have h5 := h4.below hb5
  have z5 := z4.kept hb5 hs4
  have hs5 := Nat.lt_of_lt_of_le hs4 hb5.size
  have hB5 := hB4.trans (hb5.mono hB4.size)
  clear z4 h4 hb5 hs4 hB4
  go_wp2_with fail
  refine (addr_w _ h5).mono ?_
  rintro e w6 ⟨rfl, hb6⟩
  have z6 := z5.kept hb6 hs5
  have hs6 := Nat.lt_of_lt_of_le hs5 hb6.size
  have hB6 := hB5.trans (hb6.mono hB5.size)
  clear z5 h5 hb6 hs5 hB5
  go_wp2_with fail
  refine (rn8_ok _ 16 (by decide) (by decide +kernel) (by decide) (by decide +kernel) _).mono ?_
  rintro e w7 ⟨rfl, hb7⟩
  obtain ⟨d0, d1, d2, d3, g0, g1, g2, g3⟩ := z6.kept hb7 hs6
  have hB7 := hB6.trans (hb7.mono hB6.size)
  clear z6 hb7 hs6 hB6
  go_wp2
  refine bodyPost_ret (v := .tuple #[.agg #[.int .i64 4, .int .u64 7, .string ⟨#[10, 1, 0, 0]⟩, .int .i64 16], .bool true]) (by simp [results, Tryz.results78, go_sem, d0, d1, d2, d3]) rfl ⟨rfl, ?_⟩
  exact (((hB7.setCell (Nat.le_refl _) _).setCell (Nat.le_refl _) _).setCell (Nat.le_refl _) _).setCell (Nat.le_refl _) _
set_option maxRecDepth 100000 in
set_option maxHeartbeats 800000 in
theorem parse_w (w : World) (h : Tabs w) :
    Calls Tryz.prog 46 #[.string ⟨#[118, 112, 110, 52, 32, 55, 32, 49, 48, 46, 49, 46, 48, 46, 48, 47, 49, 54]⟩] w fun e w' =>
      e = .returned (.tuple #[.agg #[.int .i64 4, .int .u64 7, .string ⟨#[10, 1, 0, 0]⟩, .int .i64 16], .int .i64 0]) ∧ Below w.heap.size w w' := by
  have hc : chk 4 7 ⟨#[10, 1, 0, 0]⟩ 16 = 0 := by decide +kernel
  have HC : Hid (chk 4 7 ⟨#[10, 1, 0, 0]⟩ 16 = 0) := hc
  clear hc
  go_enter Tryz.func46, Tryz.ntmps46
  go_wp2_with fail
  refine (prefix_w _ (h.below ((Below.refl _ _).alloc (Nat.le_refl _) _))).mono ?_
  rintro e w1 ⟨rfl, hb1⟩
  have hB1 : Below w.heap.size w w1 := ((Below.refl _ _).alloc (Nat.le_refl _) _).trans (hb1.mono (by simp))
  have h1 := h.below hB1
  have z1 := (PfxAt.of_alloc w _ 0 0 ⟨#[]⟩ 0 rfl).kept hb1 (by simp)
  have hs1 : w.heap.size < w1.heap.size := by have := hb1.size; simp at this; omega
  go_wp2_with fail
  have h2 := h1.below ((Below.refl w1.heap.size w1).alloc (Nat.le_refl _) (.cells #[.int .i64 4, .int .u64 7, .string ⟨#[10, 1, 0, 0]⟩, .int .i64 16] 24))
  refine (check_any 4 7 ⟨#[10, 1, 0, 0]⟩ 16 _ h2.sizes h2.rds).mono ?_
  rintro e w2 ⟨rfl, hb2⟩
  rw [HC.out]
  have hbb : Below w1.heap.size w1 w2 := ((Below.refl _ _).alloc (Nat.le_refl _) _).trans (hb2.mono (by simp))
  obtain ⟨p0, p1, p2, p3, _, _, _, _⟩ := (PfxAt.of_alloc w1 _ 4 7 ⟨#[10, 1, 0, 0]⟩ 16 rfl).kept hb2 (by simp)
  obtain ⟨d0, d1, d2, d3, g0, g1, g2, g3⟩ := z1.kept hbb hs1
  have hB2 := hB1.trans (hbb.mono hB1.size)
  have ne : w1.heap.size ≠ w.heap.size := by omega
  clear h1 h2 z1 hb1 hb2 hbb hB1
  go_wp2
  refine bodyPost_ret (v := .tuple #[.agg #[.int .i64 4, .int .u64 7, .string ⟨#[10, 1, 0, 0]⟩, .int .i64 16], .int .i64 0]) (by simp [results, Tryz.results46, go_sem, d0, d1, d2, d3]) rfl ⟨rfl, ?_⟩
  exact (((hB2.setCell (Nat.le_refl _) _).setCell (Nat.le_refl _) _).setCell (Nat.le_refl _) _).setCell (Nat.le_refl _) _
end Go.Proofs.YtfhbgpepkplbaaaGreatDoor
namespace Go.Proofs.YtfhbgpepkplbaaaGreatDoor
open Go.RowKit
theorem split_W (w : World) (m : Int) (hm : w.cell? ⟨2, 0, none⟩ = some (.int .i64 m)) :
    Calls Tryz.prog 119 #[.string ⟨#[49, 48, 46, 48, 46, 48, 46, 48]⟩, .string ⟨#[46]⟩, .int .i64 5] w fun e w' => e = .returned (.slice (some ⟨w.heap.size, 0, none⟩) 4 5) ∧
      w' = w.alloc (.cells #[.string ⟨#[49, 48]⟩, .string ⟨#[48]⟩, .string ⟨#[48]⟩, .string ⟨#[48]⟩, .string ⟨#[]⟩] 9) := by
  have h := Tryz.strings_SplitN ⟨#[49, 48, 46, 48, 46, 48, 46, 48]⟩ ⟨#[46]⟩ 5 m w (by decide) hm (by decide) (by decide) (by decide)
  have e1 : Lib.splitB ⟨#[46]⟩ 0 (min 5 ((⟨#[49, 48, 46, 48, 46, 48, 46, 48]⟩ : ByteArray).size + 1) - 1) ⟨#[49, 48, 46, 48, 46, 48, 46, 48]⟩ = [⟨#[49, 48]⟩, ⟨#[48]⟩, ⟨#[48]⟩, ⟨#[48]⟩] := by decide +kernel
  rw [e1] at h
  exact h
/-- What the loop over the words finds in memory. -/
structure RdAt_W (w wr : World) : Prop where
  s0 : wr.cell? ⟨w.heap.size, 0, none⟩ = some (.string ⟨#[46]⟩)
  s1 : wr.cell? ⟨w.heap.size, 1, none⟩ = some (.int .i64 4)
  s2 : wr.cell? ⟨w.heap.size, 2, none⟩ = some (.int .i64 1)
  s3 : wr.cell? ⟨w.heap.size, 3, none⟩ = some (.int .i64 10)
  w0 : wr.cell? ⟨w.heap.size + 1, 0, none⟩ = some (.string ⟨#[49, 48]⟩)
  w1 : wr.cell? ⟨w.heap.size + 1, 1, none⟩ = some (.string ⟨#[48]⟩)
  w2 : wr.cell? ⟨w.heap.size + 1, 2, none⟩ = some (.string ⟨#[48]⟩)
  w3 : wr.cell? ⟨w.heap.size + 1, 3, none⟩ = some (.string ⟨#[48]⟩)
  bel : Below w.heap.size w wr
  sz : w.heap.size + 1 + 1 ≤ wr.heap.size
theorem RdAt_W.kept {w wr w' : World} (h : RdAt_W w wr) (hb : Below (w.heap.size + 1 + 1) wr w') : RdAt_W w w' := by
  have a : w.heap.size < w.heap.size + 1 + 1 := by omega
  have b : w.heap.size + 1 < w.heap.size + 1 + 1 := by omega
  exact ⟨(hb.cell (p := ⟨_, _, none⟩) a).trans h.s0, (hb.cell (p := ⟨_, _, none⟩) a).trans h.s1, (hb.cell (p := ⟨_, _, none⟩) a).trans h.s2, (hb.cell (p := ⟨_, _, none⟩) a).trans h.s3,
    (hb.cell (p := ⟨_, _, none⟩) b).trans h.w0, (hb.cell (p := ⟨_, _, none⟩) b).trans h.w1, (hb.cell (p := ⟨_, _, none⟩) b).trans h.w2, (hb.cell (p := ⟨_, _, none⟩) b).trans h.w3,
    h.bel.trans (hb.mono (by omega)), Nat.le_trans h.sz hb.size⟩
set_option maxRecDepth 100000 in
set_option maxHeartbeats 1600000 in
theorem read_W (w : World) (h : Tabs w) :
    Calls Tryz.prog 113 #[.agg #[.string ⟨#[46]⟩, .int .i64 4, .int .i64 1, .int .i64 10], .string ⟨#[49, 48, 46, 48, 46, 48, 46, 48]⟩] w fun e w' => e = .returned (.tuple #[.string ⟨#[10, 0, 0, 0]⟩, .bool true]) ∧ Below w.heap.size w w' := by
  obtain ⟨_, _, ⟨m, hm⟩⟩ := h
  have l3 : 2 < w.heap.size := lt_of_cell hm
  obtain ⟨i0, hi, hz0, hz1, hz2⟩ := info_parts infoB5
  go_enter Tryz.func113, Tryz.ntmps113
  go_wp2_with (go_at_call 119; refine (split_W _ m ?_).mono ?_; (rw [World.cell?_alloc_past _ _ _ l3]; exact hm); rintro e w' ⟨rfl, rfl⟩)
  refine with_world (fun wx => RdAt_W w wx) ?_ ?_
  · have hb : Below w.heap.size w ((w.alloc (.cells #[.string ⟨#[46]⟩, .int .i64 4, .int .i64 1, .int .i64 10] 147)).alloc (.cells #[.string ⟨#[49, 48]⟩, .string ⟨#[48]⟩, .string ⟨#[48]⟩, .string ⟨#[48]⟩, .string ⟨#[]⟩] 9)) := ((Below.refl _ _).alloc (Nat.le_refl _) _).alloc (by simp) _
    refine ⟨?_, ?_, ?_, ?_, ?_, ?_, ?_, ?_, hb, by simp⟩
    all_goals first | (rw [World.cell?_alloc_past _ _ _ (by simp), World.cell?_alloc_at _ _ _ _ rfl]; rfl) | (rw [World.cell?_alloc_at _ _ _ _ (by simp)]; rfl)
  intro wx hx
  clear hm l3
  go_loopw [7, 27] (fun v i wr => ∃ k : Nat, k ≤ 4 ∧ i = .int .i64 k ∧ RdAt_W w wr ∧ wr.ownsRow (w.heap.size + 1 + 1) 5 1 v k (([10, 0, 0, 0] : List UInt8).take k |>.map (fun b => Value.int .u8 (b.toNat : Int)))) (fun _ i _ => 4 - (intOf i).toNat)
  case atStart => exact ⟨0, by omega, rfl, hx, World.ownsRow_nil _ _ _ _⟩
  case round =>
    obtain ⟨k, hk, rfl, hr, hown⟩ := hrel
    have hk' : k = 0 ∨ k = 1 ∨ k = 2 ∨ k = 3 ∨ k = 4 := by omega
    clear hk hx
    have s0 := hr.s0
    have s1 := hr.s1
    have s2 := hr.s2
    have s3 := hr.s3
    rcases hk' with rfl | rfl | rfl | rfl | rfl
    · have wk := hr.w0
      go_wp2_with fail
      refine (rn8_ok ⟨#[49, 48]⟩ 10 (by decide) (by decide +kernel) (by decide) (by decide +kernel) _).mono ?_
      rintro e w1 ⟨rfl, hb1⟩
      have hr1 := hr.kept (hb1.mono hr.sz)
      have hown1 := ownsRow_below hown hb1
      have t2 := hr1.s2
      clear hown hr wk s0 s1 s2 s3 hb1
      have hsz1 := hr1.sz
      go_wp2_with fail
      refine wp_loop_rounds 2 ?_
      rw [rounds_succ]
      go_wp2_with (at_builtin; refine wpList_append_own _ rfl _ _ 60 rfl (w.heap.size + 1 + 1) 5 i0 (.int .u8 0) 1 1 Tryz.underlying60 hi hz0 hz1 hz2 rfl (by decide) _ _ _ rfl (hown1.alloc _) ⟨w1.heap.size, 0, none⟩ 1 1 [.int .u8 10] rfl rfl (cell_new1 _ _ _) (one_u8 _) (by decide) (by decide) (by simp; omega) ?_; intro v' w2 hown2 hgrow _)
      have hr2 : RdAt_W w w2 := hr1.kept (((Below.refl _ _).alloc hsz1 _).grown hgrow (by simp; omega) (fun k e => (hown1.lt k e).1))
      clear hgrow hown1 hr1 t2
      rw [rounds_succ]
      go_wp2
      go_roundw
      case rel => exact ⟨1, by omega, by go_num, hr2, by simpa using hown2⟩
      case measure => simp [intOf]
    · have wk := hr.w1
      go_wp2_with fail
      refine (rn8_ok ⟨#[48]⟩ 0 (by decide) (by decide +kernel) (by decide) (by decide +kernel) _).mono ?_
      rintro e w1 ⟨rfl, hb1⟩
      have hr1 := hr.kept (hb1.mono hr.sz)
      have hown1 := ownsRow_below hown hb1
      have t2 := hr1.s2
      clear hown hr wk s0 s1 s2 s3 hb1
      have hsz1 := hr1.sz
      go_wp2_with fail
      refine wp_loop_rounds 2 ?_
      rw [rounds_succ]
      go_wp2_with (at_builtin; refine wpList_append_own _ rfl _ _ 60 rfl (w.heap.size + 1 + 1) 5 i0 (.int .u8 0) 1 1 Tryz.underlying60 hi hz0 hz1 hz2 rfl (by decide) _ _ _ rfl (hown1.alloc _) ⟨w1.heap.size, 0, none⟩ 1 1 [.int .u8 0] rfl rfl (cell_new1 _ _ _) (one_u8 _) (by decide) (by decide) (by simp; omega) ?_; intro v' w2 hown2 hgrow _)
      have hr2 : RdAt_W w w2 := hr1.kept (((Below.refl _ _).alloc hsz1 _).grown hgrow (by simp; omega) (fun k e => (hown1.lt k e).1))
      clear hgrow hown1 hr1 t2
      rw [rounds_succ]
      go_wp2
      go_roundw
      case rel => exact ⟨2, by omega, by go_num, hr2, by simpa using hown2⟩
      case measure => simp [intOf]
    · have wk := hr.w2
      go_wp2_with fail
      refine (rn8_ok ⟨#[48]⟩ 0 (by decide) (by decide +kernel) (by decide) (by decide +kernel) _).mono ?_
      rintro e w1 ⟨rfl, hb1⟩
      have hr1 := hr.kept (hb1.mono hr.sz)
      have hown1 := ownsRow_below hown hb1
      have t2 := hr1.s2
      clear hown hr wk s0 s1 s2 s3 hb1
      have hsz1 := hr1.sz
      go_wp2_with fail
      refine wp_loop_rounds 2 ?_
      rw [rounds_succ]
      go_wp2_with (at_builtin; refine wpList_append_own _ rfl _ _ 60 rfl (w.heap.size + 1 + 1) 5 i0 (.int .u8 0) 1 1 Tryz.underlying60 hi hz0 hz1 hz2 rfl (by decide) _ _ _ rfl (hown1.alloc _) ⟨w1.heap.size, 0, none⟩ 1 1 [.int .u8 0] rfl rfl (cell_new1 _ _ _) (one_u8 _) (by decide) (by decide) (by simp; omega) ?_; intro v' w2 hown2 hgrow _)
      have hr2 : RdAt_W w w2 := hr1.kept (((Below.refl _ _).alloc hsz1 _).grown hgrow (by simp; omega) (fun k e => (hown1.lt k e).1))
      clear hgrow hown1 hr1 t2
      rw [rounds_succ]
      go_wp2
      go_roundw
      case rel => exact ⟨3, by omega, by go_num, hr2, by simpa using hown2⟩
      case measure => simp [intOf]
    · have wk := hr.w3
      go_wp2_with fail
      refine (rn8_ok ⟨#[48]⟩ 0 (by decide) (by decide +kernel) (by decide) (by decide +kernel) _).mono ?_
      rintro e w1 ⟨rfl, hb1⟩
      have hr1 := hr.kept (hb1.mono hr.sz)
      have hown1 := ownsRow_below hown hb1
      have t2 := hr1.s2
      clear hown hr wk s0 s1 s2 s3 hb1
      have hsz1 := hr1.sz
      go_wp2_with fail
      refine wp_loop_rounds 2 ?_
      rw [rounds_succ]
      go_wp2_with (at_builtin; refine wpList_append_own _ rfl _ _ 60 rfl (w.heap.size + 1 + 1) 5 i0 (.int .u8 0) 1 1 Tryz.underlying60 hi hz0 hz1 hz2 rfl (by decide) _ _ _ rfl (hown1.alloc _) ⟨w1.heap.size, 0, none⟩ 1 1 [.int .u8 0] rfl rfl (cell_new1 _ _ _) (one_u8 _) (by decide) (by decide) (by simp; omega) ?_; intro v' w2 hown2 hgrow _)
      have hr2 : RdAt_W w w2 := hr1.kept (((Below.refl _ _).alloc hsz1 _).grown hgrow (by simp; omega) (fun k e => (hown1.lt k e).1))
      clear hgrow hown1 hr1 t2
      rw [rounds_succ]
      go_wp2
      go_roundw
      case rel => exact ⟨4, by omega, by go_num, hr2, by simpa using hown2⟩
      case measure => simp [intOf]
    · have hv := owned_bytes [10, 0, 0, 0] (by decide) hown
      obtain ⟨g, cap, rfl, hcs⟩ := hv
      have hback := run_convert_bytes_back (P := Tryz.prog) wr 60 9 5 ⟨g, 0, none⟩ cap [10, 0, 0, 0] Tryz.underlying60 Tryz.underlying5 Tryz.underlying9 hcs
      simp only [List.length_cons, List.length_nil] at hback
      clear hcs hown
      go_wp2
      go_ret2
      exact ⟨rfl, hr.bel⟩
set_option maxRecDepth 100000 in
set_option maxHeartbeats 800000 in
theorem addr_W (w : World) (h : Tabs w) :
    Calls Tryz.prog 102 #[.string ⟨#[49, 48, 46, 48, 46, 48, 46, 48]⟩] w fun e w' => e = .returned (.tuple #[.string ⟨#[10, 0, 0, 0]⟩, .int .i64 0]) ∧ Below w.heap.size w w' := by
  have h' := h
  obtain ⟨_, ⟨t, fr, h0⟩, _⟩ := h
  have H0 : Hid (w.heap[1]? = some (.cells stCells t fr)) := h0
  clear h0
  go_enter Tryz.func102, Tryz.ntmps102
  go_wp2_with (refine wpList_load_row rfl 148 _ rfl 1 rfl t _ fr _ H0.out Tryz.underlying148 rfl info73 ?_)
  have hsx := sx0
  refine wp_loop_rounds 1 ?_
  rw [rounds_succ]
  go_wp2_with (go_at_call 113; refine (read_W _ (h'.below ((Below.refl _ _).alloc (Nat.le_refl _) _))).mono ?_; rintro e w1 ⟨rfl, hb1⟩)
  go_ret2
  exact ⟨rfl, ((Below.refl _ _).alloc (Nat.le_refl _) _).trans (Below.mono (by assumption) (by simp))⟩
set_option maxRecDepth 100000 in
set_option maxHeartbeats 800000 in
theorem prefixr_W (w : World) (h : Tabs w) :
    Calls Tryz.prog 78 #[.string ⟨#[118, 112, 110, 52, 32, 55, 32, 49, 48, 46, 48, 46, 48, 46, 48, 47, 56]⟩] w fun e w' =>
      e = .returned (.tuple #[.agg #[.int .i64 4, .int .u64 7, .string ⟨#[10, 0, 0, 0]⟩, .int .i64 8], .bool true]) ∧ Below w.heap.size w w' := by
  go_enter Tryz.func78, Tryz.ntmps78
  go_wp2_with fail
  refine (cut_c _ _ [118, 112, 110, 52] [55, 32, 49, 48, 46, 48, 46, 48, 46, 48, 47, 56] _ ?_ (by decide) (by decide +kernel)).mono ?_
  · exact h.below ((Below.refl _ _).alloc (Nat.le_refl _) _)
  rintro e w1 ⟨rfl, hb1⟩
  have hB1 : Below w.heap.size w w1 := ((Below.refl _ _).alloc (Nat.le_refl _) _).trans (hb1.mono (by simp))
  have h1 := h.below hB1
  have z1 := (PfxAt.of_alloc w _ 0 0 ⟨#[]⟩ 0 rfl).kept hb1 (by simp)
  have hs1 : w.heap.size < w1.heap.size := by have := hb1.size; simp at this; omega
  have fm : famOf [118, 112, 110, 52] = 4 := by decide +kernel
  go_wp2_with fail
  refine (named_any _ _ h1).mono ?_
  rintro e w2 ⟨rfl, hb2⟩
  rw [show famOf (⟨#[118, 112, 110, 52]⟩ : ByteArray).toList = 4 from by rw [ByteArray.toList_eq]; exact fm]
  have h2 := h1.below hb2
  have z2 := z1.kept hb2 hs1
  have hs2 := Nat.lt_of_lt_of_le hs1 hb2.size
  have c14 := h2.rds.c4
  have hB2 := hB1.trans (hb2.mono hB1.size)
  clear z1 h1 hb1 hb2 hs1 fm hB1
  go_wp2_with fail
  refine (cut_c _ _ [55] [49, 48, 46, 48, 46, 48, 46, 48, 47, 56] _ h2 (by decide) (by decide +kernel)).mono ?_
  rintro e w3 ⟨rfl, hb3⟩
  have h3 := h2.below hb3
  have z3 := z2.kept hb3 hs2
  have hs3 := Nat.lt_of_lt_of_le hs2 hb3.size
  have hB3 := hB2.trans (hb3.mono hB2.size)
  clear z2 h2 hb3 hs2 c14 hB2
  go_wp2_with fail
  refine (rn64_ok _ 7 (by decide) (by decide +kernel) (by decide) (by decide +kernel) _).mono ?_
  rintro e w4 ⟨rfl, hb4⟩
  have h4 := h3.below hb4
  have z4 := z3.kept hb4 hs3
  have hs4 := Nat.lt_of_lt_of_le hs3 hb4.size
  have hB4 := hB3.trans (hb4.mono hB3.size)
  clear z3 h3 hb4 hs3 hB3
  go_wp2_with fail
  refine (cut_c _ _ [49, 48, 46, 48, 46, 48, 46, 48] [56] _ h4 (by decide) (by decide +kernel)).mono ?_
  rintro e w5 ⟨rfl, hb5⟩
  have h5 := h4.below hb5
  have z5 := z4.kept hb5 hs4
  have hs5 := Nat.lt_of_lt_of_le hs4 hb5.size
  have hB5 := hB4.trans (hb5.mono hB4.size)
  clear z4 h4 hb5 hs4 hB4
  go_wp2_with fail
  refine (addr_W _ h5).mono ?_
  rintro e w6 ⟨rfl, hb6⟩
  have z6 := z5.kept hb6 hs5
  have hs6 := Nat.lt_of_lt_of_le hs5 hb6.size
  have hB6 := hB5.trans (hb6.mono hB5.size)
  clear z5 h5 hb6 hs5 hB5
  go_wp2_with fail
  refine (rn8_ok _ 8 (by decide) (by decide +kernel) (by decide) (by decide +kernel) _).mono ?_
  rintro e w7 ⟨rfl, hb7⟩
  obtain ⟨d0, d1, d2, d3, g0, g1, g2, g3⟩ := z6.kept hb7 hs6
  have hB7 := hB6.trans (hb7.mono hB6.size)
  clear z6 hb7 hs6 hB6
  go_wp2
  refine bodyPost_ret (v := .tuple #[.agg #[.int .i64 4, .int .u64 7, .string ⟨#[10, 0, 0, 0]⟩, .int .i64 8], .bool true]) (by simp [results, Tryz.results78, go_sem, d0, d1, d2, d3]) rfl ⟨rfl, ?_⟩
  exact (((hB7.setCell (Nat.le_refl _) _).setCell (Nat.le_refl _) _).setCell (Nat.le_refl _) _).setCell (Nat.le_refl _) _
set_option maxRecDepth 100000 in
set_option maxHeartbeats 800000 in
theorem parse_W (w : World) (h : Tabs w) :
    Calls Tryz.prog 46 #[.string ⟨#[118, 112, 110, 52, 32, 55, 32, 49, 48, 46, 48, 46, 48, 46, 48, 47, 56]⟩] w fun e w' =>
      e = .returned (.tuple #[.agg #[.int .i64 4, .int .u64 7, .string ⟨#[10, 0, 0, 0]⟩, .int .i64 8], .int .i64 0]) ∧ Below w.heap.size w w' := by
  have hc : chk 4 7 ⟨#[10, 0, 0, 0]⟩ 8 = 0 := by decide +kernel
  have HC : Hid (chk 4 7 ⟨#[10, 0, 0, 0]⟩ 8 = 0) := hc
  clear hc
  go_enter Tryz.func46, Tryz.ntmps46
  go_wp2_with fail
  refine (prefixr_W _ (h.below ((Below.refl _ _).alloc (Nat.le_refl _) _))).mono ?_
  rintro e w1 ⟨rfl, hb1⟩
  have hB1 : Below w.heap.size w w1 := ((Below.refl _ _).alloc (Nat.le_refl _) _).trans (hb1.mono (by simp))
  have h1 := h.below hB1
  have z1 := (PfxAt.of_alloc w _ 0 0 ⟨#[]⟩ 0 rfl).kept hb1 (by simp)
  have hs1 : w.heap.size < w1.heap.size := by have := hb1.size; simp at this; omega
  go_wp2_with fail
  have h2 := h1.below ((Below.refl w1.heap.size w1).alloc (Nat.le_refl _) (.cells #[.int .i64 4, .int .u64 7, .string ⟨#[10, 0, 0, 0]⟩, .int .i64 8] 24))
  refine (check_any 4 7 ⟨#[10, 0, 0, 0]⟩ 8 _ h2.sizes h2.rds).mono ?_
  rintro e w2 ⟨rfl, hb2⟩
  rw [HC.out]
  have hbb : Below w1.heap.size w1 w2 := ((Below.refl _ _).alloc (Nat.le_refl _) _).trans (hb2.mono (by simp))
  obtain ⟨p0, p1, p2, p3, _, _, _, _⟩ := (PfxAt.of_alloc w1 _ 4 7 ⟨#[10, 0, 0, 0]⟩ 8 rfl).kept hb2 (by simp)
  obtain ⟨d0, d1, d2, d3, g0, g1, g2, g3⟩ := z1.kept hbb hs1
  have hB2 := hB1.trans (hbb.mono hB1.size)
  have ne : w1.heap.size ≠ w.heap.size := by omega
  clear h1 h2 z1 hb1 hb2 hbb hB1
  go_wp2
  refine bodyPost_ret (v := .tuple #[.agg #[.int .i64 4, .int .u64 7, .string ⟨#[10, 0, 0, 0]⟩, .int .i64 8], .int .i64 0]) (by simp [results, Tryz.results46, go_sem, d0, d1, d2, d3]) rfl ⟨rfl, ?_⟩
  exact (((hB2.setCell (Nat.le_refl _) _).setCell (Nat.le_refl _) _).setCell (Nat.le_refl _) _).setCell (Nat.le_refl _) _
end Go.Proofs.YtfhbgpepkplbaaaGreatDoor
namespace Go.Proofs.YtfhbgpepkplbaaaGreatDoor
open Go.RowKit
def nW : Nl := ⟨4, 7, ⟨#[10, 0, 0, 0]⟩, 8, 0, 1000⟩
def bW : List UInt8 := [96, 0, 62, 129, 0, 0, 0, 0, 0, 0, 0, 7, 10]
theorem encW : encAns 4 false [nW] = .returned (.tuple #[.string ⟨#[96, 0, 62, 129, 0, 0, 0, 0, 0, 0, 0, 7, 10]⟩, .int .i64 0]) := by kernel_rfl
theorem decW : decI 4 false 13 bW = some [nW] := by kernel_rfl
theorem wfW : ∀ n ∈ [nW], NlWf n := by
  intro n hn
  obtain rfl : n = nW := by simpa using hn
  exact ⟨by decide, by decide, by decide, by decide, by decide, by decide, by decide⟩
set_option maxRecDepth 100000 in
theorem of_W (w : World) (h : Tabs w) :
    Calls Tryz.prog 22 #[.string ⟨#[118, 112, 110, 52, 32, 55, 32, 49, 48, 46, 48, 46, 48, 46, 48, 47, 56]⟩, .int .u32 0, .int .u32 1000] w fun e w' => e = .returned (.agg #[.int .i64 4, .int .u64 7, .string ⟨#[10, 0, 0, 0]⟩, .int .i64 8, .int .u32 0, .int .u32 1000]) ∧ Below w.heap.size w w' := by
  have hba : Below w.heap.size w (w.alloc (.cells #[.int .i64 0, .int .u64 0, .string ⟨#[]⟩, .int .i64 0, .int .u32 0, .int .u32 0] 27)) := (Below.refl _ _).alloc (Nat.le_refl _) _
  have HK : Hid (_ : Prop) := parse_W _ (h.below hba)
  have HBA : Hid (Below _ _ _) := hba
  clear hba h
  go_enter Tryz.func22, Tryz.ntmps22
  go_wp2_with fail
  refine Calls.mono HK.out ?_
  rintro e w1 ⟨rfl, hb1⟩
  have hs : (w.alloc (.cells #[.int .i64 0, .int .u64 0, .string ⟨#[]⟩, .int .i64 0, .int .u32 0, .int .u32 0] 27)).heap.size = w.heap.size + 1 := by simp
  have HB1 : Hid (Below w.heap.size w (w1.alloc (.cells #[.int .i64 4, .int .u64 7, .string ⟨#[10, 0, 0, 0]⟩, .int .i64 8] 24))) := (HBA.out.trans (hb1.mono (by omega))).alloc (Nat.le_trans HBA.out.size hb1.size) _
  have hb2 : Below (w.heap.size + 1) (w.alloc (.cells #[.int .i64 0, .int .u64 0, .string ⟨#[]⟩, .int .i64 0, .int .u32 0, .int .u32 0] 27)) (w1.alloc (.cells #[.int .i64 4, .int .u64 7, .string ⟨#[10, 0, 0, 0]⟩, .int .i64 8] 24)) := by
    rw [hs] at hb1
    exact hb1.alloc (by have := hb1.size; rw [hs] at this; exact this) _
  have z : ∀ i, i < 6 → (w1.alloc (.cells #[.int .i64 4, .int .u64 7, .string ⟨#[10, 0, 0, 0]⟩, .int .i64 8] 24)).frozen? ⟨w.heap.size, i, none⟩ = false := fun i _ => (hb2.frozen (p := ⟨w.heap.size, i, none⟩) (by simp)).trans (by simp)
  have z0 : (w1.alloc (.cells #[.int .i64 4, .int .u64 7, .string ⟨#[10, 0, 0, 0]⟩, .int .i64 8] 24)).cell? ⟨w.heap.size, 0, none⟩ = some (.int .i64 0) := (hb2.cell (p := ⟨w.heap.size, 0, none⟩) (by simp)).trans (by simp)
  have z1 : (w1.alloc (.cells #[.int .i64 4, .int .u64 7, .string ⟨#[10, 0, 0, 0]⟩, .int .i64 8] 24)).cell? ⟨w.heap.size, 1, none⟩ = some (.int .u64 0) := (hb2.cell (p := ⟨w.heap.size, 1, none⟩) (by simp)).trans (by simp)
  have z2 : (w1.alloc (.cells #[.int .i64 4, .int .u64 7, .string ⟨#[10, 0, 0, 0]⟩, .int .i64 8] 24)).cell? ⟨w.heap.size, 2, none⟩ = some (.string ⟨#[]⟩) := (hb2.cell (p := ⟨w.heap.size, 2, none⟩) (by simp)).trans (by simp)
  have z3 : (w1.alloc (.cells #[.int .i64 4, .int .u64 7, .string ⟨#[10, 0, 0, 0]⟩, .int .i64 8] 24)).cell? ⟨w.heap.size, 3, none⟩ = some (.int .i64 0) := (hb2.cell (p := ⟨w.heap.size, 3, none⟩) (by simp)).trans (by simp)
  have z4 : (w1.alloc (.cells #[.int .i64 4, .int .u64 7, .string ⟨#[10, 0, 0, 0]⟩, .int .i64 8] 24)).cell? ⟨w.heap.size, 4, none⟩ = some (.int .u32 0) := (hb2.cell (p := ⟨w.heap.size, 4, none⟩) (by simp)).trans (by simp)
  have z5 : (w1.alloc (.cells #[.int .i64 4, .int .u64 7, .string ⟨#[10, 0, 0, 0]⟩, .int .i64 8] 24)).cell? ⟨w.heap.size, 5, none⟩ = some (.int .u32 0) := (hb2.cell (p := ⟨w.heap.size, 5, none⟩) (by simp)).trans (by simp)
  have y0 := z 0 (by omega)
  have y1 := z 1 (by omega)
  have y2 := z 2 (by omega)
  have y3 := z 3 (by omega)
  have y4 := z 4 (by omega)
  have y5 := z 5 (by omega)
  clear hb1 hb2 z HBA hs
  go_wp2
  refine bodyPost_ret (v := .agg #[.int .i64 4, .int .u64 7, .string ⟨#[10, 0, 0, 0]⟩, .int .i64 8, .int .u32 0, .int .u32 1000]) (by simp [results, Tryz.results22, go_sem, z0, z1, z2, z3, z4, z5]) rfl ⟨rfl, ?_⟩
  exact (((((HB1.out.setCell (Nat.le_refl _) _).setCell (Nat.le_refl _) _).setCell (Nat.le_refl _) _).setCell (Nat.le_refl _) _).setCell (Nat.le_refl _) _).setCell (Nat.le_refl _) _
set_option maxRecDepth 100000 in
set_option maxHeartbeats 3200000 in
theorem works_any (w : World) (h : Tabs w) : Calls Tryz.prog 13 #[] w fun e w' => e = .returned (.bool true) ∧ Below w.heap.size w w' := by
  have HT : Hid (Tabs w) := h
  clear h
  go_enter Tryz.func13, Tryz.ntmps13
  go_wp2_with fail
  refine (of_W w HT.out).mono ?_
  rintro e w1 ⟨rfl, hb1⟩
  obtain ⟨C, hC⟩ : ∃ C : Array Value, C = #[.int .i64 4, .int .u64 7, .string ⟨#[10, 0, 0, 0]⟩, .int .i64 8, .int .u32 0, .int .u32 1000] := ⟨_, rfl⟩
  have HB2 : Hid (Below w.heap.size w ((w1.alloc (.cells #[.int .i64 4, .int .u64 7, .string ⟨#[10, 0, 0, 0]⟩, .int .i64 8, .int .u32 0, .int .u32 1000] 27)).alloc (.cells #[.int .i64 4, .int .u64 7, .string ⟨#[10, 0, 0, 0]⟩, .int .i64 8, .int .u32 0, .int .u32 1000] 27))) := (hb1.alloc hb1.size _).alloc (Nat.le_trans hb1.size (by simp)) _
  have h1 : ((w1.alloc (.cells #[.int .i64 4, .int .u64 7, .string ⟨#[10, 0, 0, 0]⟩, .int .i64 8, .int .u32 0, .int .u32 1000] 27)).alloc (.cells #[.int .i64 4, .int .u64 7, .string ⟨#[10, 0, 0, 0]⟩, .int .i64 8, .int .u32 0, .int .u32 1000] 27)).heap[w1.heap.size]? = some (.cells #[.int .i64 4, .int .u64 7, .string ⟨#[10, 0, 0, 0]⟩, .int .i64 8, .int .u32 0, .int .u32 1000] 27 (0, 0)) := by
    show ((w1.heap.push _).push _)[w1.heap.size]? = _
    rw [Array.getElem?_push, if_neg (by simp), Array.getElem?_push, if_pos rfl]
  have h2 : ((w1.alloc (.cells #[.int .i64 4, .int .u64 7, .string ⟨#[10, 0, 0, 0]⟩, .int .i64 8, .int .u32 0, .int .u32 1000] 27)).alloc (.cells #[.int .i64 4, .int .u64 7, .string ⟨#[10, 0, 0, 0]⟩, .int .i64 8, .int .u32 0, .int .u32 1000] 27)).heap[w1.heap.size + 1]? = some (.cells #[.int .i64 4, .int .u64 7, .string ⟨#[10, 0, 0, 0]⟩, .int .i64 8, .int .u32 0, .int .u32 1000] 27 (0, 0)) := by
    show ((w1.heap.push _).push _)[w1.heap.size + 1]? = _
    rw [Array.getElem?_push, if_pos (by simp)]
  have HE : Hid (∀ W, Below w.heap.size w W → W.heap[w1.heap.size + 1]? = some (.cells #[.int .i64 4, .int .u64 7, .string ⟨#[10, 0, 0, 0]⟩, .int .i64 8, .int .u32 0, .int .u32 1000] 27 (0, 0)) → Calls Tryz.prog 15 #[.slice (some ⟨w1.heap.size + 1, 0, none⟩) 1 1, .int .i64 4, .bool false] W fun e w' => e = .returned (.tuple #[.string ⟨#[96, 0, 62, 129, 0, 0, 0, 0, 0, 0, 0, 7, 10]⟩, .int .i64 0]) ∧ Below W.heap.size W w') := fun W hW hh => by
    have hx := encode_any 4 false (.slice (some ⟨w1.heap.size + 1, 0, none⟩) 1 1) [nW] W (HT.out.below hW).sizes (HT.out.below hW).rds (by decide) ⟨some ⟨w1.heap.size + 1, 0, none⟩, w1.heap.size + 1, 0, 1, rfl, Or.inl rfl, by decide, fun j hj => by
      obtain rfl : j = 0 := by simp at hj; exact hj
      exact ⟨cell_row hh rfl, cell_row hh rfl, cell_row hh rfl, cell_row hh rfl, cell_row hh rfl, cell_row hh rfl⟩⟩ wfW (by decide)
    rw [encW] at hx
    exact hx
  have HD : Hid (∀ W, Below w.heap.size w W → Calls Tryz.prog 20 #[.string ⟨#[96, 0, 62, 129, 0, 0, 0, 0, 0, 0, 0, 7, 10]⟩, .int .i64 4, .bool false] W fun e w' => DecOk (some [nW]) W e w') := fun W hW => by
    have hx := decode_any 4 false bW W (HT.out.below hW).sizes (by decide) (by decide)
    rw [show bW.length = 13 from rfl, decW] at hx
    exact hx
  clear hb1 HT hC
  have H12 : Hid (_ ∧ _) := ⟨h1, h2⟩
  clear h1 h2
  go_wp2_with fail
  refine Calls.mono (HE.out _ HB2.out H12.out.2) ?_
  rintro e w3 ⟨rfl, hb3⟩
  have HB3 : Hid (Below w.heap.size w w3) := HB2.out.trans (hb3.mono HB2.out.size)
  have k1 : w3.heap[w1.heap.size]? = some (.cells #[.int .i64 4, .int .u64 7, .string ⟨#[10, 0, 0, 0]⟩, .int .i64 8, .int .u32 0, .int .u32 1000] 27 (0, 0)) := (hb3.block _ (Array.getElem?_eq_some_iff.mp H12.out.1).1).trans H12.out.1
  have K1 : Hid (_ = _) := k1
  clear hb3 k1 H12 HE HB2
  go_wp2_with fail
  refine Calls.mono (HD.out _ HB3.out) ?_
  rintro e w4 ⟨hb4, v4, rfl, ho4⟩
  have HB4 : Hid (Below w.heap.size w w4) := HB3.out.trans (hb4.mono HB3.out.size)
  have k4 : w4.heap[w1.heap.size]? = some (.cells #[.int .i64 4, .int .u64 7, .string ⟨#[10, 0, 0, 0]⟩, .int .i64 8, .int .u32 0, .int .u32 1000] 27 (0, 0)) := (hb4.block _ (Array.getElem?_eq_some_iff.mp K1.out).1).trans K1.out
  obtain ⟨ad, b, off, cap, rfl, had, _, hrow⟩ := ho4.at
  obtain rfl : ad = some ⟨b, off, none⟩ := by rcases had with h | h; exact h; exact absurd h (by decide)
  obtain ⟨c0, c1, c2, c3, c4, c5⟩ := hrow 0 (by decide)
  simp only [List.getElem_cons_zero, Nat.zero_mul, Nat.add_zero, nW, List.length_cons, List.length_nil] at c0 c1 c2 c3 c4 c5 ⊢
  have d0 : w4.cell? ⟨w1.heap.size, 0, none⟩ = some (.int .i64 4) := cell_row k4 rfl
  have d1 : w4.cell? ⟨w1.heap.size, 1, none⟩ = some (.int .u64 7) := cell_row k4 rfl
  have d2 : w4.cell? ⟨w1.heap.size, 2, none⟩ = some (.string ⟨#[10, 0, 0, 0]⟩) := cell_row k4 rfl
  have d3 : w4.cell? ⟨w1.heap.size, 3, none⟩ = some (.int .i64 8) := cell_row k4 rfl
  have d4 : w4.cell? ⟨w1.heap.size, 4, none⟩ = some (.int .u32 0) := cell_row k4 rfl
  have d5 : w4.cell? ⟨w1.heap.size, 5, none⟩ = some (.int .u32 1000) := cell_row k4 rfl
  clear hb4 ho4 hrow k4 K1 HD HB3 had
  generalize w1.heap.size = q at *
  go_wp2
  go_quiet (fail)
  go_wp2
  go_ret
  exact ⟨rfl, below_drewN HB4.out _⟩
end Go.Proofs.YtfhbgpepkplbaaaGreatDoor
namespace Go.Proofs.YtfhbgpepkplbaaaGreatDoor
open Go.RowKit
theorem sameL_self7 (A : List Nl) : sameL A A = true := sameL_yes rfl fun _ _ _ => (eqN_iff _ _).2 rfl
theorem rdecode_arg (f : Int) (add : Bool) (s : ByteArray) (w : World) (hz : szOf f = 0) :
    Calls Tryz.prog 21 #[.string s, .int .i64 f, .bool add] w fun e w' => e = .returned (.tuple #[.slice none 0 0, .int .i64 2]) ∧ w' = w := by
  have K : Hid (Calls Tryz.prog 37 #[.int .i64 f] w fun e w' => e = .returned (.int .i64 0) ∧ w' = w) := by unfold Hid; rw [← hz]; exact refsize_any f w
  clear hz
  go_enter Tryz.func21, Tryz.ntmps21
  go_wp2_with fail
  refine Calls.mono K.out ?_
  rintro e w1 ⟨rfl, rfl⟩
  go_wp2
  go_ret2
  exact ⟨rfl, rfl⟩
/-- What both Decodes answer, as one form. -/
def rX (x : Option (List Nl)) : List Nl := match x with | none => [] | some R => R
def eX (x : Option (List Nl)) : Int := match x with | none => 4 | some _ => 0
def rD (f : Int) (add : Bool) (l : List UInt8) : List Nl := if szOf f = 0 then [] else rX (decI f add l.length l)
def eD (f : Int) (add : Bool) (l : List UInt8) : Int := if szOf f = 0 then 2 else eX (decI f add l.length l)
theorem dec_one {x : Option (List Nl)} {w : World} {e : Ending} {w' : World} (h : DecOk x w e w') : ∃ ad c, e = .returned (.tuple #[.slice ad (rX x).length c, .int .i64 (eX x)]) ∧ OwnN w' w.heap.size (.slice ad (rX x).length c) (rX x) ∧ Below w.heap.size w w' := by
  obtain ⟨hb, h⟩ := h
  cases x with
  | none => exact ⟨none, 0, h, World.ownsRow_nil _ _ _ _, hb⟩
  | some R =>
    obtain ⟨v, rfl, ho⟩ := h
    obtain ⟨ad, c, rfl⟩ := slice_of_owns ho
    exact ⟨ad, c, rfl, ho, hb⟩
theorem dec_len (f : Int) (add : Bool) : ∀ (n : Nat) (l : List UInt8) (R : List Nl), decI f add n l = some R → R.length ≤ n := by
  intro n
  induction n with
  | zero =>
    intro l R h
    unfold decI at h
    split at h
    · injection h with h; subst h; simp
    · cases h
  | succ n ih =>
    intro l R h
    unfold decI at h
    split at h
    · injection h with h; subst h; simp
    · split at h
      · cases hd : decI f add n (restI f add l) with
        | none => rw [hd] at h; cases h
        | some R' =>
          rw [hd] at h
          simp only [Option.map_some, Option.some.injEq] at h
          subst h
          have := ih _ _ hd
          simp; omega
      · cases h
theorem rD_len (f : Int) (add : Bool) (l : List UInt8) : (rD f add l).length ≤ l.length := by
  unfold rD
  split
  · simp
  · cases h : decI f add l.length l with
    | none => simp [rX]
    | some R => exact dec_len _ _ _ _ _ h
theorem both (k : Nat) (f : Int) (add : Bool) (l : List UInt8) (w : World) (h0 : szOf f = 0 → Calls Tryz.prog k #[.string ⟨l.toArray⟩, .int .i64 f, .bool add] w fun e w' => e = .returned (.tuple #[.slice none 0 0, .int .i64 2]) ∧ w' = w) (h1 : szOf f ≠ 0 → Calls Tryz.prog k #[.string ⟨l.toArray⟩, .int .i64 f, .bool add] w fun e w' => DecOk (decI f add l.length l) w e w') :
    Calls Tryz.prog k #[.string ⟨l.toArray⟩, .int .i64 f, .bool add] w fun e w' => ∃ ad c, e = .returned (.tuple #[.slice ad (rD f add l).length c, .int .i64 (eD f add l)]) ∧ OwnN w' w.heap.size (.slice ad (rD f add l).length c) (rD f add l) ∧ Below w.heap.size w w' := by
  by_cases hz : szOf f = 0
  · refine (h0 hz).mono ?_
    rintro e w' ⟨rfl, rfl⟩
    unfold rD eD
    rw [if_pos hz, if_pos hz]
    exact ⟨none, 0, rfl, World.ownsRow_nil _ _ _ _, Below.refl _ _⟩
  · refine (h1 hz).mono ?_
    intro e w' h
    unfold rD eD
    rw [if_neg hz, if_neg hz]
    exact dec_one h
theorem ext_take7 (c : List UInt8) (n : Nat) : (⟨c.toArray⟩ : ByteArray).extract 0 n = ⟨(c.take n).toArray⟩ := by
  apply ByteArray.ext
  rw [ByteArray.data_extract]
  apply Array.toList_inj.1
  simp
theorem hp_new7 {W : World} {o : Obj} {n : Nat} (hn : n = W.heap.size) : (W.alloc o).heap[n]? = some o := by
  subst hn
  show (W.heap.push o)[W.heap.size]? = some o
  simp
theorem cl_row7 {w : World} {k i : Nat} {cs : Array Value} {t : TypeId} {v : Value} (hk : w.heap[k]? = some (.cells cs t (0, 0))) (hi : cs[i]? = some v) : w.cell? ⟨k, i, none⟩ = some v := by
  rw [World.cell?, hk]
  exact hi
set_option maxRecDepth 100000 in
set_option maxHeartbeats 1600000 in
theorem reads_walk (s : ByteArray) (f : Int) (add : Bool) (w : World) (hT : Tabs w) (hs : s.size ≤ maxLen) : Calls Tryz.prog 5 #[.string s, .agg #[.int .i64 f, .bool add]] w fun e w' => e = .returned (.bool true) ∧ Below w.heap.size w w' := by
  unfold maxLen at hs
  have hmin : min (s.size : Int) 3000 = ((min s.size 3000 : Nat) : Int) := by omega
  have hm1 : min s.size 3000 ≤ s.size := by omega
  have hm1' : ((min s.size 3000 : Nat) : Int) ≤ s.size := by omega
  have hex : s.extract 0 (min s.size 3000) = ⟨(s.data.toList.take (min s.size 3000)).toArray⟩ := ext_take7 s.data.toList _
  have hck : (s.data.toList.take (min s.size 3000)).length ≤ 3000 := by rw [List.length_take]; omega
  generalize min s.size 3000 = mm at *
  generalize s.data.toList.take mm = l at *
  have HT : Hid (Tabs w) := hT
  have hr := rD_len f add l
  have hr1 : (rD f add l).length ≤ 3000 := by omega
  have KD : Hid (∀ W, Below w.heap.size w W → Calls Tryz.prog 20 #[.string ⟨l.toArray⟩, .int .i64 f, .bool add] W fun e w' => ∃ ad c, e = .returned (.tuple #[.slice ad (rD f add l).length c, .int .i64 (eD f add l)]) ∧ OwnN w' W.heap.size (.slice ad (rD f add l).length c) (rD f add l) ∧ Below W.heap.size W w') := fun W hW => both 20 f add l W (fun hz => decode_arg f add _ W (HT.out.below hW).sizes hz) (fun hz => decode_any f add l W (HT.out.below hW).sizes hz (by omega))
  have KR : Hid (∀ W, Below w.heap.size w W → Calls Tryz.prog 21 #[.string ⟨l.toArray⟩, .int .i64 f, .bool add] W fun e w' => ∃ ad c, e = .returned (.tuple #[.slice ad (rD f add l).length c, .int .i64 (eD f add l)]) ∧ OwnN w' W.heap.size (.slice ad (rD f add l).length c) (rD f add l) ∧ Below W.heap.size W w') := fun W hW => both 21 f add l W (fun hz => rdecode_arg f add _ W hz) (fun hz => rdecode_any f add l W hz (by omega))
  generalize rD f add l = R at *
  generalize eD f add l = er at *
  have hb0 : Below w.heap.size w (w.alloc (.cells #[.int .i64 f, .bool add] 37)) := (Below.refl _ _).alloc (Nat.le_refl _) _
  have hrow : (w.alloc (.cells #[.int .i64 f, .bool add] 37)).heap[w.heap.size]? = some (.cells #[.int .i64 f, .bool add] 37 (0, 0)) := hp_new7 rfl
  have HB0 : Hid (Below w.heap.size w (w.alloc (.cells #[.int .i64 f, .bool add] 37))) := hb0
  have HR0 : Hid ((w.alloc (.cells #[.int .i64 f, .bool add] 37)).heap[w.heap.size]? = some (.cells #[.int .i64 f, .bool add] 37 (0, 0))) := hrow
  clear hr hb0 hrow hT
  go_enter Tryz.func5, Tryz.ntmps5
  go_wp2_with fail
  generalize w.alloc (.cells #[.int .i64 f, .bool add] 37) = w0 at *
  refine Calls.mono (KD.out w0 HB0.out) ?_
  rintro e w1 ⟨ad1, c1, rfl, ho1, hb1⟩
  have HO1 : Hid (OwnN w1 w0.heap.size (.slice ad1 R.length c1) R) := ho1
  have HB1 : Hid (Below w.heap.size w w1) := HB0.out.trans (hb1.mono HB0.out.size)
  have HR1 : Hid (w1.heap[w.heap.size]? = some (.cells #[.int .i64 f, .bool add] 37 (0, 0))) := (hb1.block _ (Array.getElem?_eq_some_iff.mp HR0.out).1).trans HR0.out
  have y0 : w1.cell? ⟨w.heap.size, 0, none⟩ = some (.int .i64 f) := cl_row7 HR1.out rfl
  have y1 : w1.cell? ⟨w.heap.size, 1, none⟩ = some (.bool add) := cl_row7 HR1.out rfl
  clear ho1 hb1 HR0 KD
  go_wp2_with fail
  refine Calls.mono (KR.out w1 HB1.out) ?_
  rintro e w2 ⟨ad2, c2, rfl, ho2, hb2⟩
  have HO2 : Hid (OwnN w2 w1.heap.size (.slice ad2 R.length c2) R) := ho2
  have HO12 : Hid (OwnN w2 w0.heap.size (.slice ad1 R.length c1) R) := owns_below HO1.out hb2
  have HB2 : Hid (Below w.heap.size w w2) := HB1.out.trans (hb2.mono HB1.out.size)
  have KS : Hid (Calls Tryz.prog 17 #[.slice ad1 R.length c1, .slice ad2 R.length c2] w2 fun e w' => e = .returned (.bool true) ∧ Below w2.heap.size w2 w') := by
    have k := rsame_any _ _ R R w2 (OwnN.at HO12.out) (OwnN.at HO2.out) (by omega)
    rw [sameL_self7] at k
    exact k
  clear ho2 hb2 HO1 HR1 y0 y1 KR
  go_wp2_with fail
  refine Calls.mono KS.out ?_
  rintro e w3 ⟨rfl, hb3⟩
  have HB3 : Hid (Below w.heap.size w w3) := HB2.out.trans (hb3.mono HB2.out.size)
  clear hb3 KS HO12 HO2
  go_wp2_with fail
  refine (works_any w3 (HT.out.below HB3.out)).mono ?_
  rintro e w4 ⟨rfl, hb4⟩
  go_wp2
  go_ret
  exact ⟨rfl, HB3.out.trans (hb4.mono HB3.out.size)⟩
end Go.Proofs.YtfhbgpepkplbaaaGreatDoor
