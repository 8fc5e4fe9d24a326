/-
  The reference's Same of told prefixes.
-/
import Derived.Test.YtfhbgpepkplbaaaGreatDoorE3
import Derived.BigQuiet
namespace Go.Proofs.YtfhbgpepkplbaaaGreatDoor
open Go.RowKit
/-- Two told prefixes are one. -/
def eqN (a b : Nl) : Bool := decide (a.f = b.f) && (decide (a.r = b.r) && (decide (a.s = b.s) && (decide (a.l = b.l) && (decide (a.id = b.id) && decide (a.lb = b.lb)))))
theorem eqN_iff (a b : Nl) : eqN a b = true ↔ a = b := by
  obtain ⟨f, r, s, l, i, b1⟩ := a
  obtain ⟨f', r', s', l', i', b2⟩ := b
  simp [eqN]
/-- Two lists are one. -/
def sameL (A B : List Nl) : Bool := decide (A.length = B.length) && (A.zip B).all fun p => eqN p.1 p.2
theorem sameL_len {A B : List Nl} (h : A.length ≠ B.length) : sameL A B = false := by simp [sameL, h]
theorem sameL_no {A B : List Nl} (k : Nat) (h1 : k < A.length) (h2 : k < B.length) (h : eqN A[k] B[k] = false) : sameL A B = false := by
  unfold sameL
  rw [Bool.and_eq_false_iff]
  right
  rw [List.all_eq_false]
  exact ⟨(A[k], B[k]), List.mem_iff_getElem.mpr ⟨k, by simp; omega, by simp⟩, by simp [h]⟩
theorem sameL_yes {A B : List Nl} (h0 : A.length = B.length) (h : ∀ k (h1 : k < A.length) (h2 : k < B.length), eqN A[k] B[k] = true) : sameL A B = true := by
  unfold sameL
  rw [Bool.and_eq_true, List.all_eq_true]
  refine ⟨by simpa using h0, fun p hp => ?_⟩
  obtain ⟨k, hk, rfl⟩ := List.mem_iff_getElem.mp hp
  simp only [List.length_zip] at hk
  simp only [List.getElem_zip]
  exact h k (by omega) (by omega)
set_option maxRecDepth 100000 in
set_option maxHeartbeats 3200000 in
theorem rsame_any (va vb : Value) (A B : List Nl) (w : World) (ha : NlsAt w va A) (hb : NlsAt w vb B) (hA : A.length ≤ 1000000000) :
    Calls Tryz.prog 17 #[va, vb] w fun e w' => e = .returned (.bool (sameL A B)) ∧ Below w.heap.size w w' := by
  obtain ⟨ada, ba, offa, capa, rfl, hada, _, hra⟩ := ha
  obtain ⟨adb, bb, offb, capb, rfl, hadb, _, hrb⟩ := hb
  have HRA : Hid (RowN _ _ _ _) := hra
  have HRB : Hid (RowN _ _ _ _) := hrb
  clear hra hrb
  by_cases hl : A.length = B.length
  · rw [← hl]
    have HL : Hid (A.length = B.length) := hl
    go_enter Tryz.func17, Tryz.ntmps17
    go_wp2
    go_loopw [5] (fun i wr => ∃ n : Nat, n ≤ A.length ∧ i = .int .i64 n ∧ Below w.heap.size w wr ∧ ∀ k (h1 : k < A.length) (h2 : k < B.length), k < n → eqN A[k] B[k] = true) (fun i _ => A.length - (intOf i).toNat)
    case atStart => exact ⟨0, Nat.zero_le _, rfl, Below.refl _ _, fun k _ _ h => by omega⟩
    case round =>
      obtain ⟨n, hn, rfl, hb, hall⟩ := hrel
      have HALL : Hid (∀ k (h1 : k < A.length) (h2 : k < B.length), k < n → eqN A[k] B[k] = true) := hall
      have HB : Hid (Below _ _ _) := hb
      clear hall
      by_cases hlt : n < A.length
      · have hltb : n < B.length := by omega
        obtain rfl : ada = some ⟨ba, offa, none⟩ := by rcases hada with h | h; exact h; omega
        obtain rfl : adb = some ⟨bb, offb, none⟩ := by rcases hadb with h | h; exact h; omega
        obtain ⟨c0, c1, c2, c3, c4, c5⟩ := (HRA.out.below hb) n hlt
        obtain ⟨d0, d1, d2, d3, d4, d5⟩ := (HRB.out.below hb) n hltb
        have HN : Hid (eqN A[n] B[n] = false → sameL A B = false) := sameL_no n hlt hltb
        have HY : Hid (eqN A[n] B[n] = true → ∀ k (h1 : k < A.length) (h2 : k < B.length), k < n + 1 → eqN A[k] B[k] = true) := fun h k h1 h2 hk => by
          by_cases e : k = n
          · subst e; exact h
          · exact HALL.out k h1 h2 (by omega)
        generalize A[n] = ma at *
        generalize B[n] = mb at *
        clear hb hada hadb HALL hl hltb
        cases he : eqN ma mb with
        | true =>
          obtain rfl := (eqN_iff ma mb).1 he
          have HY' : Hid (_ : Prop) := HY.out he
          clear HN HY he
          obtain ⟨mf, mr, ms, ml, mid, mlb⟩ := ma
          simp only at c0 c1 c2 c3 c4 c5 d0 d1 d2 d3 d4 d5
          go_wp2
          go_region_held (fun w' => w'.cell? ⟨ba, offa + n * 6, none⟩ = some (.int .i64 mf) ∧ w'.cell? ⟨ba, offa + n * 6 + 1, none⟩ = some (.int .u64 mr) ∧ w'.cell? ⟨ba, offa + n * 6 + 2, none⟩ = some (.string ms) ∧ w'.cell? ⟨ba, offa + n * 6 + 3, none⟩ = some (.int .i64 ml) ∧ w'.cell? ⟨ba, offa + n * 6 + 4, none⟩ = some (.int .u32 mid) ∧ w'.cell? ⟨ba, offa + n * 6 + 5, none⟩ = some (.int .u32 mlb) ∧ w'.cell? ⟨bb, offb + n * 6, none⟩ = some (.int .i64 mf) ∧ w'.cell? ⟨bb, offb + n * 6 + 1, none⟩ = some (.int .u64 mr) ∧ w'.cell? ⟨bb, offb + n * 6 + 2, none⟩ = some (.string ms) ∧ w'.cell? ⟨bb, offb + n * 6 + 3, none⟩ = some (.int .i64 ml) ∧ w'.cell? ⟨bb, offb + n * 6 + 4, none⟩ = some (.int .u32 mid) ∧ w'.cell? ⟨bb, offb + n * 6 + 5, none⟩ = some (.int .u32 mlb)) (go_keep) (fail)
          go_wp2
          go_roundw
          case rel => exact ⟨n + 1, by omega, by go_num, HB.out.drew, HY'.out⟩
          case measure => simp [intOf]; omega
        | false =>
          have HS : Hid (sameL A B = false) := HN.out he
          have hne : ¬ ma = mb := fun h => by rw [(eqN_iff ma mb).2 h] at he; cases he
          clear HN HY he
          obtain ⟨mf, mr, ms, ml, mid, mlb⟩ := ma
          obtain ⟨nf, nr, ns, nl, nid, nlb⟩ := mb
          simp only at c0 c1 c2 c3 c4 c5 d0 d1 d2 d3 d4 d5
          simp only [Nl.mk.injEq] at hne
          by_cases e0 : mf = nf
          rotate_left
          · have e' : (mf == nf) = false := by simpa using e0
            clear hne
            go_wp2
            go_region_held (fun w' => w'.cell? ⟨ba, offa + n * 6, none⟩ = some (.int .i64 mf) ∧ w'.cell? ⟨ba, offa + n * 6 + 1, none⟩ = some (.int .u64 mr) ∧ w'.cell? ⟨ba, offa + n * 6 + 2, none⟩ = some (.string ms) ∧ w'.cell? ⟨ba, offa + n * 6 + 3, none⟩ = some (.int .i64 ml) ∧ w'.cell? ⟨ba, offa + n * 6 + 4, none⟩ = some (.int .u32 mid) ∧ w'.cell? ⟨ba, offa + n * 6 + 5, none⟩ = some (.int .u32 mlb) ∧ w'.cell? ⟨bb, offb + n * 6, none⟩ = some (.int .i64 nf) ∧ w'.cell? ⟨bb, offb + n * 6 + 1, none⟩ = some (.int .u64 nr) ∧ w'.cell? ⟨bb, offb + n * 6 + 2, none⟩ = some (.string ns) ∧ w'.cell? ⟨bb, offb + n * 6 + 3, none⟩ = some (.int .i64 nl) ∧ w'.cell? ⟨bb, offb + n * 6 + 4, none⟩ = some (.int .u32 nid) ∧ w'.cell? ⟨bb, offb + n * 6 + 5, none⟩ = some (.int .u32 nlb)) (go_keep) (fail)
            go_wp2
            go_ret
            exact ⟨ret_bool HS.out.symm, HB.out.drew⟩
          subst e0
          by_cases e1 : mr = nr
          rotate_left
          · have e' : (mr == nr) = false := by simpa using e1
            clear hne
            go_wp2
            go_region_held (fun w' => w'.cell? ⟨ba, offa + n * 6, none⟩ = some (.int .i64 mf) ∧ w'.cell? ⟨ba, offa + n * 6 + 1, none⟩ = some (.int .u64 mr) ∧ w'.cell? ⟨ba, offa + n * 6 + 2, none⟩ = some (.string ms) ∧ w'.cell? ⟨ba, offa + n * 6 + 3, none⟩ = some (.int .i64 ml) ∧ w'.cell? ⟨ba, offa + n * 6 + 4, none⟩ = some (.int .u32 mid) ∧ w'.cell? ⟨ba, offa + n * 6 + 5, none⟩ = some (.int .u32 mlb) ∧ w'.cell? ⟨bb, offb + n * 6, none⟩ = some (.int .i64 mf) ∧ w'.cell? ⟨bb, offb + n * 6 + 1, none⟩ = some (.int .u64 nr) ∧ w'.cell? ⟨bb, offb + n * 6 + 2, none⟩ = some (.string ns) ∧ w'.cell? ⟨bb, offb + n * 6 + 3, none⟩ = some (.int .i64 nl) ∧ w'.cell? ⟨bb, offb + n * 6 + 4, none⟩ = some (.int .u32 nid) ∧ w'.cell? ⟨bb, offb + n * 6 + 5, none⟩ = some (.int .u32 nlb)) (go_keep) (fail)
            go_wp2
            go_ret
            exact ⟨ret_bool HS.out.symm, HB.out.drew⟩
          subst e1
          by_cases e2 : ms = ns
          rotate_left
          · have e' : (ms.toList == ns.toList) = false := by
              rw [ByteArray.toList_eq, ByteArray.toList_eq]
              simp only [beq_eq_false_iff_ne, ne_eq]
              intro h
              exact e2 (ByteArray.ext (Array.ext' h))
            clear hne
            go_wp2
            go_region_held (fun w' => w'.cell? ⟨ba, offa + n * 6, none⟩ = some (.int .i64 mf) ∧ w'.cell? ⟨ba, offa + n * 6 + 1, none⟩ = some (.int .u64 mr) ∧ w'.cell? ⟨ba, offa + n * 6 + 2, none⟩ = some (.string ms) ∧ w'.cell? ⟨ba, offa + n * 6 + 3, none⟩ = some (.int .i64 ml) ∧ w'.cell? ⟨ba, offa + n * 6 + 4, none⟩ = some (.int .u32 mid) ∧ w'.cell? ⟨ba, offa + n * 6 + 5, none⟩ = some (.int .u32 mlb) ∧ w'.cell? ⟨bb, offb + n * 6, none⟩ = some (.int .i64 mf) ∧ w'.cell? ⟨bb, offb + n * 6 + 1, none⟩ = some (.int .u64 mr) ∧ w'.cell? ⟨bb, offb + n * 6 + 2, none⟩ = some (.string ns) ∧ w'.cell? ⟨bb, offb + n * 6 + 3, none⟩ = some (.int .i64 nl) ∧ w'.cell? ⟨bb, offb + n * 6 + 4, none⟩ = some (.int .u32 nid) ∧ w'.cell? ⟨bb, offb + n * 6 + 5, none⟩ = some (.int .u32 nlb)) (go_keep) (fail)
            go_wp2
            go_ret
            exact ⟨ret_bool HS.out.symm, HB.out.drew⟩
          subst e2
          by_cases e3 : ml = nl
          rotate_left
          · have e' : (ml == nl) = false := by simpa using e3
            clear hne
            go_wp2
            go_region_held (fun w' => w'.cell? ⟨ba, offa + n * 6, none⟩ = some (.int .i64 mf) ∧ w'.cell? ⟨ba, offa + n * 6 + 1, none⟩ = some (.int .u64 mr) ∧ w'.cell? ⟨ba, offa + n * 6 + 2, none⟩ = some (.string ms) ∧ w'.cell? ⟨ba, offa + n * 6 + 3, none⟩ = some (.int .i64 ml) ∧ w'.cell? ⟨ba, offa + n * 6 + 4, none⟩ = some (.int .u32 mid) ∧ w'.cell? ⟨ba, offa + n * 6 + 5, none⟩ = some (.int .u32 mlb) ∧ w'.cell? ⟨bb, offb + n * 6, none⟩ = some (.int .i64 mf) ∧ w'.cell? ⟨bb, offb + n * 6 + 1, none⟩ = some (.int .u64 mr) ∧ w'.cell? ⟨bb, offb + n * 6 + 2, none⟩ = some (.string ms) ∧ w'.cell? ⟨bb, offb + n * 6 + 3, none⟩ = some (.int .i64 nl) ∧ w'.cell? ⟨bb, offb + n * 6 + 4, none⟩ = some (.int .u32 nid) ∧ w'.cell? ⟨bb, offb + n * 6 + 5, none⟩ = some (.int .u32 nlb)) (go_keep) (fail)
            go_wp2
            go_ret
            exact ⟨ret_bool HS.out.symm, HB.out.drew⟩
          subst e3
          by_cases e4 : mid = nid
          rotate_left
          · have e' : (mid == nid) = false := by simpa using e4
            clear hne
            go_wp2
            go_region_held (fun w' => w'.cell? ⟨ba, offa + n * 6, none⟩ = some (.int .i64 mf) ∧ w'.cell? ⟨ba, offa + n * 6 + 1, none⟩ = some (.int .u64 mr) ∧ w'.cell? ⟨ba, offa + n * 6 + 2, none⟩ = some (.string ms) ∧ w'.cell? ⟨ba, offa + n * 6 + 3, none⟩ = some (.int .i64 ml) ∧ w'.cell? ⟨ba, offa + n * 6 + 4, none⟩ = some (.int .u32 mid) ∧ w'.cell? ⟨ba, offa + n * 6 + 5, none⟩ = some (.int .u32 mlb) ∧ w'.cell? ⟨bb, offb + n * 6, none⟩ = some (.int .i64 mf) ∧ w'.cell? ⟨bb, offb + n * 6 + 1, none⟩ = some (.int .u64 mr) ∧ w'.cell? ⟨bb, offb + n * 6 + 2, none⟩ = some (.string ms) ∧ w'.cell? ⟨bb, offb + n * 6 + 3, none⟩ = some (.int .i64 ml) ∧ w'.cell? ⟨bb, offb + n * 6 + 4, none⟩ = some (.int .u32 nid) ∧ w'.cell? ⟨bb, offb + n * 6 + 5, none⟩ = some (.int .u32 nlb)) (go_keep) (fail)
            go_wp2
            go_ret
            exact ⟨ret_bool HS.out.symm, HB.out.drew⟩
          subst e4
          by_cases e5 : mlb = nlb
          rotate_left
          · have e' : (mlb == nlb) = false := by simpa using e5
            clear hne
            go_wp2
            go_region_held (fun w' => w'.cell? ⟨ba, offa + n * 6, none⟩ = some (.int .i64 mf) ∧ w'.cell? ⟨ba, offa + n * 6 + 1, none⟩ = some (.int .u64 mr) ∧ w'.cell? ⟨ba, offa + n * 6 + 2, none⟩ = some (.string ms) ∧ w'.cell? ⟨ba, offa + n * 6 + 3, none⟩ = some (.int .i64 ml) ∧ w'.cell? ⟨ba, offa + n * 6 + 4, none⟩ = some (.int .u32 mid) ∧ w'.cell? ⟨ba, offa + n * 6 + 5, none⟩ = some (.int .u32 mlb) ∧ w'.cell? ⟨bb, offb + n * 6, none⟩ = some (.int .i64 mf) ∧ w'.cell? ⟨bb, offb + n * 6 + 1, none⟩ = some (.int .u64 mr) ∧ w'.cell? ⟨bb, offb + n * 6 + 2, none⟩ = some (.string ms) ∧ w'.cell? ⟨bb, offb + n * 6 + 3, none⟩ = some (.int .i64 ml) ∧ w'.cell? ⟨bb, offb + n * 6 + 4, none⟩ = some (.int .u32 mid) ∧ w'.cell? ⟨bb, offb + n * 6 + 5, none⟩ = some (.int .u32 nlb)) (go_keep) (fail)
            go_wp2
            go_ret
            exact ⟨ret_bool HS.out.symm, HB.out.drew⟩
          subst e5
          exact absurd ⟨rfl, rfl, rfl, rfl, rfl, rfl⟩ hne
      · obtain rfl : n = A.length := by omega
        have HS : Hid (sameL A B = true) := sameL_yes HL.out fun k h1 h2 => HALL.out k h1 h2 h1
        clear hb hada hadb HALL hl
        go_wp2
        go_ret
        exact ⟨ret_bool HS.out.symm, HB.out⟩
  · have hl' : ((A.length : Int) == (B.length : Int)) = false := by simp; omega
    have HS : Hid (sameL A B = false) := sameL_len hl
    go_enter Tryz.func17, Tryz.ntmps17
    go_wp2
    go_ret
    exact ⟨ret_bool HS.out.symm, Below.refl _ _⟩
end Go.Proofs.YtfhbgpepkplbaaaGreatDoor
