/-
  Two lists of conditions, of actions: are they the same?
-/
import Derived.Test.YthaebbmekonacaaGreatDoorD1
import Derived.Laws.StructEq
set_option linter.unusedVariables false
set_option linter.unusedSimpArgs false
set_option maxRecDepth 100000
namespace Go.Proofs.YthaebbmekonacaaGreatDoor
open Go.RowKit
theorem below_dr {B : Nat} {a w : World} (h : Below B a w) (n : Nat) : Below B a (w.drewN n) := ⟨h.os, h.tape, h.output, h.size, h.block⟩
/-- Two lists, one by one. -/
def eqL {α : Type} (f : α → α → Bool) : List α → List α → Bool
  | [], [] => true
  | a :: l, b :: m => f a b && eqL f l m
  | _, _ => false
theorem eqL_at {α : Type} (f : α → α → Bool) (L M : List α) (k : Nat) (h : k < L.length) (h' : k < M.length) : eqL f (L.drop k) (M.drop k) = (f L[k] M[k] && eqL f (L.drop (k + 1)) (M.drop (k + 1))) := by
  rw [List.drop_eq_getElem_cons h, List.drop_eq_getElem_cons h']; rfl
theorem eqL_end {α : Type} (f : α → α → Bool) (L M : List α) (h : L.length = M.length) : eqL f (L.drop L.length) (M.drop L.length) = true := by
  rw [List.drop_eq_nil_of_le (Nat.le_refl _), List.drop_eq_nil_of_le (by omega)]; rfl
theorem eqL_len {α : Type} (f : α → α → Bool) (L M : List α) (h : L.length ≠ M.length) : eqL f L M = false := by
  induction L generalizing M with
  | nil => cases M with
    | nil => simp at h
    | cons a M => rfl
  | cons a L ih => cases M with
    | nil => rfl
    | cons b M => simp only [eqL]; rw [ih M (by simpa using h), Bool.and_false]
theorem eqL_refl {α : Type} (f : α → α → Bool) (hf : ∀ a, f a a = true) (L : List α) : eqL f L L = true := by
  induction L with
  | nil => rfl
  | cons a L ih => simp only [eqL]; rw [hf, ih]; rfl
def eqC (a b : Cd) : Bool := a.k == b.k && (a.nt == b.nt && (a.nm.toList == b.nm.toList && a.n == b.n))
def eqA (a b : Ac) : Bool := a.k == b.k && (a.nm.toList == b.nm.toList && (a.n == b.n && a.ad.toList == b.ad.toList))
theorem neqC (xk yk : Int) (xt yt : Bool) (xs ys : ByteArray) (xn yn : Int) (W : World) : (binOp .neq 37 (.agg #[.int .i64 xk, .bool xt, .string xs, .int .i64 xn]) (.agg #[.int .i64 yk, .bool yt, .string ys, .int .i64 yn])).run Tryz.prog W = .ok (.bool (!(xk == yk && (xt == yt && (xs.toList == ys.toList && xn == yn))))) W := by
  by_cases e1 : xk = yk <;> by_cases e2 : xt = yt <;> by_cases e3 : xs.toList = ys.toList <;> by_cases e4 : xn = yn
  all_goals go_simp
theorem neqA (xk yk : Int) (xs ys : ByteArray) (xn yn : Nat) (xa ya : ByteArray) (W : World) : (binOp .neq 40 (.agg #[.int .i64 xk, .string xs, .int .u32 (xn : Int), .string xa]) (.agg #[.int .i64 yk, .string ys, .int .u32 (yn : Int), .string ya])).run Tryz.prog W = .ok (.bool (!(xk == yk && (xs.toList == ys.toList && (xn == yn && xa.toList == ya.toList))))) W := by
  by_cases e1 : xk = yk <;> by_cases e2 : xs.toList = ys.toList <;> by_cases e3 : xn = yn <;> by_cases e4 : xa.toList = ya.toList
  all_goals
    have e5 : ((xn : Int) = (yn : Int)) = (xn = yn) := propext Int.ofNat_inj
    go_simp
    try simp [e5, e3]
theorem eqlC (xk yk : Int) (xt yt : Bool) (xs ys : ByteArray) (xn yn : Int) (W : World) : (binOp .eql 37 (.agg #[.int .i64 xk, .bool xt, .string xs, .int .i64 xn]) (.agg #[.int .i64 yk, .bool yt, .string ys, .int .i64 yn])).run Tryz.prog W = .ok (.bool ((xk == yk && (xt == yt && (xs.toList == ys.toList && xn == yn))))) W := by
  by_cases e1 : xk = yk <;> by_cases e2 : xt = yt <;> by_cases e3 : xs.toList = ys.toList <;> by_cases e4 : xn = yn
  all_goals go_simp
theorem eqlA (xk yk : Int) (xs ys : ByteArray) (xn yn : Nat) (xa ya : ByteArray) (W : World) : (binOp .eql 40 (.agg #[.int .i64 xk, .string xs, .int .u32 (xn : Int), .string xa]) (.agg #[.int .i64 yk, .string ys, .int .u32 (yn : Int), .string ya])).run Tryz.prog W = .ok (.bool ((xk == yk && (xs.toList == ys.toList && (xn == yn && xa.toList == ya.toList))))) W := by
  by_cases e1 : xk = yk <;> by_cases e2 : xs.toList = ys.toList <;> by_cases e3 : xn = yn <;> by_cases e4 : xa.toList = ya.toList
  all_goals
    have e5 : ((xn : Int) = (yn : Int)) = (xn = yn) := propext Int.ofNat_inj
    go_simp
    try simp [e5, e3]
theorem eqC_refl (a : Cd) : eqC a a = true := by simp [eqC]
theorem eqA_refl (a : Ac) : eqA a a = true := by simp [eqA]
set_option maxHeartbeats 1600000 in
theorem equalCd (v u : Value) (L M : List Cd) (w : World) (hv : CdAt w v L) (hu : CdAt w u M) (hlen : L.length ≤ 1152921504606846976) (hlen2 : M.length ≤ 1152921504606846976) :
    Calls Tryz.prog 103 #[v, u] w fun e w' => e = .returned (.bool (eqL eqC L M)) ∧ Below w.heap.size w w' := by
  obtain ⟨ad, b, off, cap, rfl, had, hcap, hrow⟩ := hv
  obtain ⟨ad2, b2, off2, cap2, rfl, had2, hcap2, hrow2⟩ := hu
  have HR : Hid (_ : Prop) := hrow
  have HS : Hid (_ : Prop) := hrow2
  clear hrow hrow2
  by_cases hl : L.length = M.length
  · obtain ⟨n, hn⟩ : ∃ n, L.length = n := ⟨_, rfl⟩
    have hm : M.length = n := by omega
    have HZ : Hid (eqL eqC (L.drop n) (M.drop n) = true) := by unfold Hid; rw [← hn]; exact eqL_end eqC L M hl
    have HN : Hid (L.length = n ∧ M.length = n) := ⟨hn, hm⟩
    rw [hn] at had hcap hlen ⊢
    rw [hm] at had2 hcap2 hlen2 ⊢
    clear hn hm hl
    obtain ⟨z, hz⟩ : ∃ z, eqL eqC L M = z := ⟨_, rfl⟩
    rw [hz]
    have HE : Hid (_ = z) := hz
    clear hz
    go_enter Tryz.func103, Tryz.ntmps103
    go_wp2
    go_loopw [5, 13] (fun x5 i wr => ∃ (k : Nat), k ≤ n ∧ i = .int .i64 k ∧ Below w.heap.size w wr ∧ eqL eqC (L.drop k) (M.drop k) = z) (fun _ i _ => n - (intOf i).toNat)
    case atStart => exact ⟨0, Nat.zero_le _, rfl, Below.refl _ _, HE.out⟩
    case round =>
      obtain ⟨k, hk, rfl, hb, hre⟩ := hrel
      have HB : Hid (Below w.heap.size w wr) := hb
      have HQ : Hid (_ = z) := hre
      clear hb hre
      by_cases hlt : k < n
      · obtain rfl : ad = some ⟨b, off, none⟩ := by
          rcases had with h | h
          · exact h
          · omega
        obtain rfl : ad2 = some ⟨b2, off2, none⟩ := by
          rcases had2 with h | h
          · exact h
          · omega
        have k1 : k < L.length := by rw [HN.out.1]; exact hlt
        have k2 : k < M.length := by rw [HN.out.2]; exact hlt
        have c0 := below_cell HB.out (HR.out k k1).1
        have c1 := below_cell HB.out (HR.out k k1).2.1
        have c2 := below_cell HB.out (HR.out k k1).2.2.1
        have c3 := below_cell HB.out (HR.out k k1).2.2.2
        have d0 := below_cell HB.out (HS.out k k2).1
        have d1 := below_cell HB.out (HS.out k k2).2.1
        have d2 := below_cell HB.out (HS.out k k2).2.2.1
        have d3 := below_cell HB.out (HS.out k k2).2.2.2
        rw [eqL_at eqC L M k k1 k2] at HQ
        obtain ⟨q, hq⟩ : ∃ q, eqC L[k] M[k] = q := ⟨_, rfl⟩
        rw [hq] at HQ
        unfold eqC at hq
        have HF : Hid (_ = q) := hq
        clear hq
        have HY : Hid (∃ y, eqL eqC (L.drop (k + 1)) (M.drop (k + 1)) = y) := ⟨_, rfl⟩
        obtain ⟨y, hy⟩ := HY.out
        rw [hy] at HQ
        have HY2 : Hid (_ = y) := hy
        clear hy HY
        generalize L[k].k = xk at *
        generalize M[k].k = yk at *
        generalize L[k].nt = xnt at *
        generalize M[k].nt = ynt at *
        generalize L[k].nm = xnm at *
        generalize M[k].nm = ynm at *
        generalize L[k].n = xn at *
        generalize M[k].n = yn at *
        clear k1 k2
        have i1 : (k : Int) < (n : Int) := by omega
        have hne : ∀ W, _ = _ := fun W => neqC xk yk xnt ynt xnm ynm xn yn W
        simp only [HF.out] at hne
        clear HF
        cases q
        · go_wp2
          go_region
          go_wp2
          go_ret
          exact ⟨ret_bool HQ.out, below_dr HB.out 1⟩
        · go_wp2
          go_region
          go_wp2
          go_roundw
          case rel => exact ⟨k + 1, by omega, by go_num, below_dr HB.out 1, HY2.out.trans HQ.out⟩
          case measure => simp [intOf]; omega
      · obtain rfl : k = n := by omega
        go_wp2
        go_ret
        exact ⟨ret_bool (by rw [← HQ.out]; exact HZ.out.symm), HB.out⟩
  · have H : Hid (eqL eqC L M = false) := eqL_len eqC L M hl
    generalize eqL eqC L M = z at *
    clear HR HS
    generalize L.length = n at *
    generalize M.length = m at *
    go_enter Tryz.func103, Tryz.ntmps103
    go_wp2
    go_ret
    exact ⟨ret_bool H.out.symm, Below.refl _ _⟩
set_option maxHeartbeats 1600000 in
theorem equalAc (v u : Value) (L M : List Ac) (w : World) (hv : AcAt w v L) (hu : AcAt w u M) (hlen : L.length ≤ 1152921504606846976) (hlen2 : M.length ≤ 1152921504606846976) :
    Calls Tryz.prog 104 #[v, u] w fun e w' => e = .returned (.bool (eqL eqA L M)) ∧ Below w.heap.size w w' := by
  obtain ⟨ad, b, off, cap, rfl, had, hcap, hrow⟩ := hv
  obtain ⟨ad2, b2, off2, cap2, rfl, had2, hcap2, hrow2⟩ := hu
  have HR : Hid (_ : Prop) := hrow
  have HS : Hid (_ : Prop) := hrow2
  clear hrow hrow2
  by_cases hl : L.length = M.length
  · obtain ⟨n, hn⟩ : ∃ n, L.length = n := ⟨_, rfl⟩
    have hm : M.length = n := by omega
    have HZ : Hid (eqL eqA (L.drop n) (M.drop n) = true) := by unfold Hid; rw [← hn]; exact eqL_end eqA L M hl
    have HN : Hid (L.length = n ∧ M.length = n) := ⟨hn, hm⟩
    rw [hn] at had hcap hlen ⊢
    rw [hm] at had2 hcap2 hlen2 ⊢
    clear hn hm hl
    obtain ⟨z, hz⟩ : ∃ z, eqL eqA L M = z := ⟨_, rfl⟩
    rw [hz]
    have HE : Hid (_ = z) := hz
    clear hz
    go_enter Tryz.func104, Tryz.ntmps104
    go_wp2
    go_loopw [5, 13] (fun x5 i wr => ∃ (k : Nat), k ≤ n ∧ i = .int .i64 k ∧ Below w.heap.size w wr ∧ eqL eqA (L.drop k) (M.drop k) = z) (fun _ i _ => n - (intOf i).toNat)
    case atStart => exact ⟨0, Nat.zero_le _, rfl, Below.refl _ _, HE.out⟩
    case round =>
      obtain ⟨k, hk, rfl, hb, hre⟩ := hrel
      have HB : Hid (Below w.heap.size w wr) := hb
      have HQ : Hid (_ = z) := hre
      clear hb hre
      by_cases hlt : k < n
      · obtain rfl : ad = some ⟨b, off, none⟩ := by
          rcases had with h | h
          · exact h
          · omega
        obtain rfl : ad2 = some ⟨b2, off2, none⟩ := by
          rcases had2 with h | h
          · exact h
          · omega
        have k1 : k < L.length := by rw [HN.out.1]; exact hlt
        have k2 : k < M.length := by rw [HN.out.2]; exact hlt
        have c0 := below_cell HB.out (HR.out k k1).1
        have c1 := below_cell HB.out (HR.out k k1).2.1
        have c2 := below_cell HB.out (HR.out k k1).2.2.1
        have c3 := below_cell HB.out (HR.out k k1).2.2.2
        have d0 := below_cell HB.out (HS.out k k2).1
        have d1 := below_cell HB.out (HS.out k k2).2.1
        have d2 := below_cell HB.out (HS.out k k2).2.2.1
        have d3 := below_cell HB.out (HS.out k k2).2.2.2
        rw [eqL_at eqA L M k k1 k2] at HQ
        obtain ⟨q, hq⟩ : ∃ q, eqA L[k] M[k] = q := ⟨_, rfl⟩
        rw [hq] at HQ
        unfold eqA at hq
        have HF : Hid (_ = q) := hq
        clear hq
        have HY : Hid (∃ y, eqL eqA (L.drop (k + 1)) (M.drop (k + 1)) = y) := ⟨_, rfl⟩
        obtain ⟨y, hy⟩ := HY.out
        rw [hy] at HQ
        have HY2 : Hid (_ = y) := hy
        clear hy HY
        generalize L[k].k = xk at *
        generalize M[k].k = yk at *
        generalize L[k].nm = xnm at *
        generalize M[k].nm = ynm at *
        generalize L[k].n = xn at *
        generalize M[k].n = yn at *
        generalize L[k].ad = xad at *
        generalize M[k].ad = yad at *
        clear k1 k2
        have i1 : (k : Int) < (n : Int) := by omega
        have hne : ∀ W, _ = _ := fun W => neqA xk yk xnm ynm xn yn xad yad W
        simp only [HF.out] at hne
        clear HF
        cases q
        · go_wp2
          go_region
          go_wp2
          go_ret
          exact ⟨ret_bool HQ.out, below_dr HB.out 1⟩
        · go_wp2
          go_region
          go_wp2
          go_roundw
          case rel => exact ⟨k + 1, by omega, by go_num, below_dr HB.out 1, HY2.out.trans HQ.out⟩
          case measure => simp [intOf]; omega
      · obtain rfl : k = n := by omega
        go_wp2
        go_ret
        exact ⟨ret_bool (by rw [← HQ.out]; exact HZ.out.symm), HB.out⟩
  · have H : Hid (eqL eqA L M = false) := eqL_len eqA L M hl
    generalize eqL eqA L M = z at *
    clear HR HS
    generalize L.length = n at *
    generalize M.length = m at *
    go_enter Tryz.func104, Tryz.ntmps104
    go_wp2
    go_ret
    exact ⟨ret_bool H.out.symm, Below.refl _ _⟩
end Go.Proofs.YthaebbmekonacaaGreatDoor
