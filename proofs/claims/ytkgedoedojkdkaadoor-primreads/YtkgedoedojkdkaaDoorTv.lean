/-
  A number read by the reference, to the bases 10 and 16.
-/
import Derived.Test.YtkgedoedojkdkaaDoorTq
set_option linter.unusedVariables false
set_option linter.unusedSimpArgs false
set_option maxRecDepth 100000
namespace Go.Proofs.YtkgedoedojkdkaaDoor
open Go.RowKit
/-- The value of a sign, as the reference takes it. -/
def dq (c : UInt8) : Nat := if 48 ≤ c.toNat ∧ c.toNat ≤ 57 then c.toNat - 48 else if 97 ≤ c.toNat ∧ c.toNat ≤ 102 then c.toNat - 87 else 99
def vl (b : Nat) (l : List UInt8) (i : Nat) : Nat := (l.take i).foldl (fun a c => a * b + dq c) 0
theorem vl_succ (b : Nat) (l : List UInt8) (i : Nat) (h : i < l.length) : vl b l (i + 1) = vl b l i * b + dq l[i] := by
  unfold vl; rw [List.take_succ_eq_append_getElem h, List.foldl_append]; rfl
theorem vl_le (b : Nat) (l : List UInt8) (i : Nat) (h : i ≤ l.length) (hb : 1 ≤ b) : vl b l i ≤ vl b l l.length := by
  induction hn : l.length - i generalizing i with
  | zero =>
    obtain rfl : i = l.length := by omega
    exact Nat.le_refl _
  | succ n ih =>
    have h2 := ih (i + 1) (by omega) (by omega)
    rw [vl_succ b l i (by omega)] at h2
    have : vl b l i * 1 ≤ vl b l i * b := Nat.mul_le_mul_left _ hb
    omega
theorem dq_dg (d : Nat) (h : d < 16) : dq (dg d) = d := by
  rcases (show d = 0 ∨ d = 1 ∨ d = 2 ∨ d = 3 ∨ d = 4 ∨ d = 5 ∨ d = 6 ∨ d = 7 ∨ d = 8 ∨ d = 9 ∨ d = 10 ∨ d = 11 ∨ d = 12 ∨ d = 13 ∨ d = 14 ∨ d = 15 by omega) with rfl | rfl | rfl | rfl | rfl | rfl | rfl | rfl | rfl | rfl | rfl | rfl | rfl | rfl | rfl | rfl <;> decide +kernel
theorem Digs.val {b : Nat} {D : Nat → List UInt8} (h : Digs b D) (hb : 2 ≤ b) (hb2 : b ≤ 16) (u : Nat) : vl b (D u) (D u).length = u ∧ ∀ c ∈ D u, dq c < b := by
  induction u using Nat.strongRecOn with
  | _ u ih =>
    by_cases hl : u < b
    · rw [h.low u hl]
      refine ⟨?_, fun c hc => ?_⟩
      · simp [vl, dq_dg u (by omega)]
      · simp at hc; subst hc; rw [dq_dg u (by omega)]; exact hl
    · have hd : u / b < u := Nat.div_lt_self (by omega) (by omega)
      obtain ⟨h1, h2⟩ := ih (u / b) hd
      have hm : u % b < b := Nat.mod_lt _ (by omega)
      rw [h.high u hl]
      refine ⟨?_, fun c hc => ?_⟩
      · rw [List.length_append, List.length_singleton, vl_succ _ _ _ (by simp), List.getElem_concat_length (by rfl), dq_dg _ (by omega)]
        have : vl b (D (u / b) ++ [dg (u % b)]) (D (u / b)).length = vl b (D (u / b)) (D (u / b)).length := by unfold vl; rw [List.take_left', List.take_length] <;> rfl
        rw [this, h1]
        exact Nat.div_add_mod' u b
      · rcases List.mem_append.1 hc with hc | hc
        · exact h2 c hc
        · simp at hc; subst hc; rw [dq_dg _ (by omega)]; exact hm
theorem Digs.ne {b : Nat} {D : Nat → List UInt8} (h : Digs b D) (hb : 2 ≤ b) (u : Nat) : 0 < (D u).length := by
  by_cases hl : u < b
  · rw [h.low u hl]; simp
  · rw [h.high u hl]; simp
theorem dig_twenty (u : Nat) (h : u < 18446744073709551616) : (Lib.decDigits u).length ≤ 20 := dig_pow 19 u (by omega)
theorem hex_twenty (u : Nat) (h : u < 18446744073709551616) : (hexD u).length ≤ 20 := Nat.le_trans (hexD_len u 15 (by omega)) (by omega)
/-- What Read answers. -/
def RdOk (D : Nat → List UInt8) (M : Nat) (s : ByteArray) (w : World) (e : Ending) (w' : World) : Prop :=
  ∃ (v : Nat) (b : Bool), v < 18446744073709551616 ∧ e = .returned (.tuple #[.int .u64 (v : Int), .bool b]) ∧ Below w.heap.size w w' ∧ (b = true → s.data.toList = D v ∧ v ≤ M) ∧ ∀ u, u ≤ M → s.data.toList = D u → v = u ∧ b = true
theorem eqS (t s : ByteArray) : (t.toList == s.toList) = true → s.data.toList = t.data.toList := fun h => by
  rw [beq_iff_eq, ByteArray.toList_eq, ByteArray.toList_eq] at h; exact h.symm
set_option maxHeartbeats 2000000 in
theorem rread10 (M : Nat) (hM : M < 18446744073709551616) (hM2 : 16 ≤ M) (s : ByteArray) (w : World) (hs : s.size ≤ 281474976710656) :
    Calls Tryd.prog 50 #[.string s, .int .u64 10, .int .u64 (M : Int)] w (RdOk Lib.decDigits M s w) := by
  have HV : Hid (∀ u, vl 10 (Lib.decDigits u) (Lib.decDigits u).length = u ∧ ∀ c ∈ Lib.decDigits u, dq c < 10) := fun u => Digs.val digs10 (by omega) (by omega) u
  have HL : Hid (∀ u, u ≤ M → s.data.toList = Lib.decDigits u → 0 < s.size ∧ s.size ≤ 20) := fun u hu h => by
    have h1 := congrArg List.length h
    have h2 : s.data.toList.length = s.size := by simp
    have h3 := Digs.ne digs10 (by omega) u
    have h4 := dig_twenty u (by omega)
    omega
  by_cases h0 : s.size = 0
  · have HE : Hid (RdOk Lib.decDigits M s w (.returned (.tuple #[.int .u64 0, .bool false])) w) := ⟨0, false, by omega, rfl, Below.refl _ _, (fun h => by cases h), fun u hu h => by have := HL.out u hu h; omega⟩
    have h0i : (s.size : Int) = 0 := by omega
    clear h0 hM hM2 hs HL HV
    go_enter Tryd.func50, Tryd.ntmps50
    go_wp2
    go_ret2
    exact HE.out
  by_cases h20 : 20 < s.size
  · have HE : Hid (RdOk Lib.decDigits M s w (.returned (.tuple #[.int .u64 0, .bool false])) w) := ⟨0, false, by omega, rfl, Below.refl _ _, (fun h => by cases h), fun u hu h => by have := HL.out u hu h; omega⟩
    have h0i : ((s.size : Int) == 0) = false := by rw [beq_eq_false_iff_ne]; omega
    have h20i : (20 : Int) < (s.size : Int) := by omega
    clear h0 h20 hM hM2 hs HL HV
    go_enter Tryd.func50, Tryd.ntmps50
    go_wp2
    go_ret2
    exact HE.out
  have h0i : ((s.size : Int) == 0) = false := by rw [beq_eq_false_iff_ne]; omega
  have h20i : ¬ ((20 : Int) < (s.size : Int)) := by omega
  have HNo : Hid (∀ w', Below w.heap.size w w' → (∀ u, u ≤ M → ¬ (s.data.toList = Lib.decDigits u)) → RdOk Lib.decDigits M s w (.returned (.tuple #[.int .u64 0, .bool false])) w') := fun w' hb h => ⟨0, false, by omega, rfl, hb, (fun h => by cases h), fun u hu e => absurd e (h u hu)⟩
  clear h0 h20 HL
  go_enter Tryd.func50, Tryd.ntmps50
  go_wp2
  clear h0i h20i
  go_loopw [8, 9] (fun t i wr => ∃ (k v : Nat), k ≤ s.size ∧ i = .int .i64 (k : Int) ∧ t = .int .u64 (v : Int) ∧ v ≤ M ∧ v = vl 10 s.data.toList k ∧ Below w.heap.size w wr) (fun _ i _ => s.size - (intOf i).toNat)
  case atStart => exact ⟨0, 0, by omega, rfl, rfl, by omega, by simp [vl], Below.refl _ _⟩
  case round =>
    obtain ⟨k, v, hk, rfl, rfl, hv, hpv, hb⟩ := hrel
    have HB : Hid (Below w.heap.size w wr) := hb
    have HPV : Hid (v = vl 10 s.data.toList k) := hpv
    clear hb hpv
    by_cases hlt : k < s.size
    · have hll : k < s.data.toList.length := by simpa using hlt
      have hge : s.data.toList[k] = s[k] := rfl
      have HS : Hid (vl 10 s.data.toList (k + 1) = vl 10 s.data.toList k * 10 + dq s[k]) := by
        have := vl_succ 10 s.data.toList k hll
        rw [hge] at this; exact this
      have HDig : Hid (∀ u, s.data.toList = Lib.decDigits u → dq s[k] < 10) := fun u e => by
        have hm : s[k] ∈ s.data.toList := by rw [← hge]; exact List.getElem_mem hll
        rw [e] at hm
        exact (HV.out u).2 _ hm
      have HLe : Hid (∀ u, s.data.toList = Lib.decDigits u → vl 10 s.data.toList (k + 1) ≤ u) := fun u e => by
        have h1 := vl_le 10 s.data.toList (k + 1) (by omega) (by omega)
        have h2 := (HV.out u).1
        rw [← e] at h2
        omega
      have h8 := s[k].toNat_lt
      obtain ⟨c, hc⟩ : ∃ c, s[k].toNat = c := ⟨_, rfl⟩
      obtain ⟨q, hq⟩ : ∃ q, dq s[k] = q := ⟨_, rfl⟩
      have hcq : q = if 48 ≤ c ∧ c ≤ 57 then c - 48 else if 97 ≤ c ∧ c ≤ 102 then c - 87 else 99 := by rw [← hq, ← hc]; rfl
      rw [hq] at HS HDig
      rw [hc] at h8
      clear hge hq
      by_cases hd : 48 ≤ c ∧ c ≤ 57
      · rw [if_pos hd] at hcq
        have g1 : (48 : Int) ≤ (c : Int) := by omega
        have g2 : (c : Int) ≤ 57 := by omega
        have g4 : ¬ ((97 : Int) ≤ (c : Int)) := by omega
        have g5 : ¬ ((10 : Int) ≤ (c : Int) - 48) := by omega
        by_cases hgt : (M - q) / 10 < v
        · have HNN : Hid (∀ u, u ≤ M → ¬ (s.data.toList = Lib.decDigits u)) := fun u hu e => by
            have h1 := HLe.out u e
            have h2 := HS.out
            have h3 := HPV.out
            rw [← h3] at h2
            omega
          have g3 : ((M : Int) - ((c : Int) - 48)) / 10 < (v : Int) := by omega
          clear hcq hgt
          go_wp2
          go_ret2
          exact HNo.out _ HB.out HNN.out
        · have g3 : ¬ (((M : Int) - ((c : Int) - 48)) / 10 < (v : Int)) := by omega
          have hle : v * 10 + q ≤ M := by omega
          have HV2 : Hid (v * 10 + q = vl 10 s.data.toList (k + 1)) := by unfold Hid; rw [HS.out, ← HPV.out]
          have HQ : Hid ((q : Int) = (c : Int) - 48) := by unfold Hid; omega
          clear hcq hgt
          go_wp2
          go_roundw
          case rel => exact ⟨k + 1, v * 10 + q, by omega, by go_num, by have := HQ.out; go_num, by omega, HV2.out, HB.out⟩
          case measure => simp [intOf]; omega
      · rw [if_neg hd] at hcq
        by_cases h97 : 97 ≤ c ∧ c ≤ 102
        · rw [if_pos h97] at hcq
          have g1 : (48 : Int) ≤ (c : Int) := by omega
          have g2 : ¬ ((c : Int) ≤ 57) := by omega
          have g6 : (97 : Int) ≤ (c : Int) := by omega
          have g7 : (c : Int) ≤ 102 := by omega
          have g8 : (10 : Int) ≤ (c : Int) - 97 + 10 := by omega
          have HNN : Hid (∀ u, u ≤ M → ¬ (s.data.toList = Lib.decDigits u)) := fun u _ e => by have := HDig.out u e; omega
          clear hcq
          go_wp2
          go_ret2
          exact HNo.out _ HB.out HNN.out
        · rw [if_neg h97] at hcq
          by_cases h48 : c < 48
          · have g1 : ¬ ((48 : Int) ≤ (c : Int)) := by omega
            have g2 : ¬ ((97 : Int) ≤ (c : Int)) := by omega
            have HNN : Hid (∀ u, u ≤ M → ¬ (s.data.toList = Lib.decDigits u)) := fun u _ e => by have := HDig.out u e; omega
            clear hcq
            go_wp2
            go_ret2
            exact HNo.out _ HB.out HNN.out
          · have g1 : (48 : Int) ≤ (c : Int) := by omega
            have g2 : ¬ ((c : Int) ≤ 57) := by omega
            by_cases h97' : c < 97
            · have g3 : ¬ ((97 : Int) ≤ (c : Int)) := by omega
              have HNN : Hid (∀ u, u ≤ M → ¬ (s.data.toList = Lib.decDigits u)) := fun u _ e => by have := HDig.out u e; omega
              clear hcq
              go_wp2
              go_ret2
              exact HNo.out _ HB.out HNN.out
            · have g3 : (97 : Int) ≤ (c : Int) := by omega
              have g4 : ¬ ((c : Int) ≤ 102) := by omega
              have HNN : Hid (∀ u, u ≤ M → ¬ (s.data.toList = Lib.decDigits u)) := fun u _ e => by have := HDig.out u e; omega
              clear hcq
              go_wp2
              go_ret2
              exact HNo.out _ HB.out HNN.out
    · obtain rfl : k = s.size := by omega
      have HFin : Hid (∀ w', Below w.heap.size w w' → RdOk Lib.decDigits M s w (.returned (.tuple #[.int .u64 (v : Int), .bool ((⟨(Lib.decDigits v).toArray⟩ : ByteArray).toList == s.toList)])) w') := fun w' hb => ⟨v, _, by omega, rfl, hb, (fun h => ⟨eqS _ _ h, hv⟩), fun u _ e => by
        have h1 := HPV.out
        have h2 : s.size = (Lib.decDigits u).length := by rw [← e]; simp
        rw [h2, e, (HV.out u).1] at h1
        subst h1
        exact ⟨rfl, by rw [beq_iff_eq, ByteArray.toList_eq, ByteArray.toList_eq, e]⟩⟩
      clear HPV HNo
      go_wp2_with fail
      refine (rnum10 v (by omega) wr).mono ?_
      rintro e w1 ⟨rfl, hb1⟩
      generalize (⟨(Lib.decDigits v).toArray⟩ : ByteArray) = dt at *
      go_wp2
      go_ret2
      exact HFin.out _ (HB.out.trans (hb1.mono HB.out.size))
set_option maxHeartbeats 2000000 in
theorem rread16 (M : Nat) (hM : M < 18446744073709551616) (hM2 : 16 ≤ M) (s : ByteArray) (w : World) (hs : s.size ≤ 281474976710656) :
    Calls Tryd.prog 50 #[.string s, .int .u64 16, .int .u64 (M : Int)] w (RdOk hexD M s w) := by
  have HV : Hid (∀ u, vl 16 (hexD u) (hexD u).length = u ∧ ∀ c ∈ hexD u, dq c < 16) := fun u => Digs.val digs16 (by omega) (by omega) u
  have HL : Hid (∀ u, u ≤ M → s.data.toList = hexD u → 0 < s.size ∧ s.size ≤ 20) := fun u hu h => by
    have h1 := congrArg List.length h
    have h2 : s.data.toList.length = s.size := by simp
    have h3 := Digs.ne digs16 (by omega) u
    have h4 := hex_twenty u (by omega)
    omega
  by_cases h0 : s.size = 0
  · have HE : Hid (RdOk hexD M s w (.returned (.tuple #[.int .u64 0, .bool false])) w) := ⟨0, false, by omega, rfl, Below.refl _ _, (fun h => by cases h), fun u hu h => by have := HL.out u hu h; omega⟩
    have h0i : (s.size : Int) = 0 := by omega
    clear h0 hM hM2 hs HL HV
    go_enter Tryd.func50, Tryd.ntmps50
    go_wp2
    go_ret2
    exact HE.out
  by_cases h20 : 20 < s.size
  · have HE : Hid (RdOk hexD M s w (.returned (.tuple #[.int .u64 0, .bool false])) w) := ⟨0, false, by omega, rfl, Below.refl _ _, (fun h => by cases h), fun u hu h => by have := HL.out u hu h; omega⟩
    have h0i : ((s.size : Int) == 0) = false := by rw [beq_eq_false_iff_ne]; omega
    have h20i : (20 : Int) < (s.size : Int) := by omega
    clear h0 h20 hM hM2 hs HL HV
    go_enter Tryd.func50, Tryd.ntmps50
    go_wp2
    go_ret2
    exact HE.out
  have h0i : ((s.size : Int) == 0) = false := by rw [beq_eq_false_iff_ne]; omega
  have h20i : ¬ ((20 : Int) < (s.size : Int)) := by omega
  have HNo : Hid (∀ w', Below w.heap.size w w' → (∀ u, u ≤ M → ¬ (s.data.toList = hexD u)) → RdOk hexD M s w (.returned (.tuple #[.int .u64 0, .bool false])) w') := fun w' hb h => ⟨0, false, by omega, rfl, hb, (fun h => by cases h), fun u hu e => absurd e (h u hu)⟩
  clear h0 h20 HL
  go_enter Tryd.func50, Tryd.ntmps50
  go_wp2
  clear h0i h20i
  go_loopw [8, 9] (fun t i wr => ∃ (k v : Nat), k ≤ s.size ∧ i = .int .i64 (k : Int) ∧ t = .int .u64 (v : Int) ∧ v ≤ M ∧ v = vl 16 s.data.toList k ∧ Below w.heap.size w wr) (fun _ i _ => s.size - (intOf i).toNat)
  case atStart => exact ⟨0, 0, by omega, rfl, rfl, by omega, by simp [vl], Below.refl _ _⟩
  case round =>
    obtain ⟨k, v, hk, rfl, rfl, hv, hpv, hb⟩ := hrel
    have HB : Hid (Below w.heap.size w wr) := hb
    have HPV : Hid (v = vl 16 s.data.toList k) := hpv
    clear hb hpv
    by_cases hlt : k < s.size
    · have hll : k < s.data.toList.length := by simpa using hlt
      have hge : s.data.toList[k] = s[k] := rfl
      have HS : Hid (vl 16 s.data.toList (k + 1) = vl 16 s.data.toList k * 16 + dq s[k]) := by
        have := vl_succ 16 s.data.toList k hll
        rw [hge] at this; exact this
      have HDig : Hid (∀ u, s.data.toList = hexD u → dq s[k] < 16) := fun u e => by
        have hm : s[k] ∈ s.data.toList := by rw [← hge]; exact List.getElem_mem hll
        rw [e] at hm
        exact (HV.out u).2 _ hm
      have HLe : Hid (∀ u, s.data.toList = hexD u → vl 16 s.data.toList (k + 1) ≤ u) := fun u e => by
        have h1 := vl_le 16 s.data.toList (k + 1) (by omega) (by omega)
        have h2 := (HV.out u).1
        rw [← e] at h2
        omega
      have h8 := s[k].toNat_lt
      obtain ⟨c, hc⟩ : ∃ c, s[k].toNat = c := ⟨_, rfl⟩
      obtain ⟨q, hq⟩ : ∃ q, dq s[k] = q := ⟨_, rfl⟩
      have hcq : q = if 48 ≤ c ∧ c ≤ 57 then c - 48 else if 97 ≤ c ∧ c ≤ 102 then c - 87 else 99 := by rw [← hq, ← hc]; rfl
      rw [hq] at HS HDig
      rw [hc] at h8
      clear hge hq
      by_cases hd : 48 ≤ c ∧ c ≤ 57
      · rw [if_pos hd] at hcq
        have g1 : (48 : Int) ≤ (c : Int) := by omega
        have g2 : (c : Int) ≤ 57 := by omega
        have g4 : ¬ ((97 : Int) ≤ (c : Int)) := by omega
        have g5 : ¬ ((16 : Int) ≤ (c : Int) - 48) := by omega
        by_cases hgt : (M - q) / 16 < v
        · have HNN : Hid (∀ u, u ≤ M → ¬ (s.data.toList = hexD u)) := fun u hu e => by
            have h1 := HLe.out u e
            have h2 := HS.out
            have h3 := HPV.out
            rw [← h3] at h2
            omega
          have g3 : ((M : Int) - ((c : Int) - 48)) / 16 < (v : Int) := by omega
          clear hcq hgt
          go_wp2
          go_ret2
          exact HNo.out _ HB.out HNN.out
        · have g3 : ¬ (((M : Int) - ((c : Int) - 48)) / 16 < (v : Int)) := by omega
          have hle : v * 16 + q ≤ M := by omega
          have HV2 : Hid (v * 16 + q = vl 16 s.data.toList (k + 1)) := by unfold Hid; rw [HS.out, ← HPV.out]
          have HQ : Hid ((q : Int) = (c : Int) - 48) := by unfold Hid; omega
          clear hcq hgt
          go_wp2
          go_roundw
          case rel => exact ⟨k + 1, v * 16 + q, by omega, by go_num, by have := HQ.out; go_num, by omega, HV2.out, HB.out⟩
          case measure => simp [intOf]; omega
      · rw [if_neg hd] at hcq
        by_cases h97 : 97 ≤ c ∧ c ≤ 102
        · rw [if_pos h97] at hcq
          have g1 : (48 : Int) ≤ (c : Int) := by omega
          have g2 : ¬ ((c : Int) ≤ 57) := by omega
          have g6 : (97 : Int) ≤ (c : Int) := by omega
          have g7 : (c : Int) ≤ 102 := by omega
          have g8 : ¬ ((16 : Int) ≤ (c : Int) - 97 + 10) := by omega
          by_cases hgt : (M - q) / 16 < v
          · have HNN : Hid (∀ u, u ≤ M → ¬ (s.data.toList = hexD u)) := fun u hu e => by
              have h1 := HLe.out u e
              have h2 := HS.out
              have h3 := HPV.out
              rw [← h3] at h2
              omega
            have g3 : ((M : Int) - ((c : Int) - 97 + 10)) / 16 < (v : Int) := by omega
            clear hcq hgt
            go_wp2
            go_ret2
            exact HNo.out _ HB.out HNN.out
          · have g3 : ¬ (((M : Int) - ((c : Int) - 97 + 10)) / 16 < (v : Int)) := by omega
            have hle : v * 16 + q ≤ M := by omega
            have HV2 : Hid (v * 16 + q = vl 16 s.data.toList (k + 1)) := by unfold Hid; rw [HS.out, ← HPV.out]
            have HQ : Hid ((q : Int) = (c : Int) - 97 + 10) := by unfold Hid; omega
            clear hcq hgt
            go_wp2
            go_roundw
            case rel => exact ⟨k + 1, v * 16 + q, by omega, by go_num, by have := HQ.out; go_num, by omega, HV2.out, HB.out⟩
            case measure => simp [intOf]; omega
        · rw [if_neg h97] at hcq
          by_cases h48 : c < 48
          · have g1 : ¬ ((48 : Int) ≤ (c : Int)) := by omega
            have g2 : ¬ ((97 : Int) ≤ (c : Int)) := by omega
            have HNN : Hid (∀ u, u ≤ M → ¬ (s.data.toList = hexD u)) := fun u _ e => by have := HDig.out u e; omega
            clear hcq
            go_wp2
            go_ret2
            exact HNo.out _ HB.out HNN.out
          · have g1 : (48 : Int) ≤ (c : Int) := by omega
            have g2 : ¬ ((c : Int) ≤ 57) := by omega
            by_cases h97' : c < 97
            · have g3 : ¬ ((97 : Int) ≤ (c : Int)) := by omega
              have HNN : Hid (∀ u, u ≤ M → ¬ (s.data.toList = hexD u)) := fun u _ e => by have := HDig.out u e; omega
              clear hcq
              go_wp2
              go_ret2
              exact HNo.out _ HB.out HNN.out
            · have g3 : (97 : Int) ≤ (c : Int) := by omega
              have g4 : ¬ ((c : Int) ≤ 102) := by omega
              have HNN : Hid (∀ u, u ≤ M → ¬ (s.data.toList = hexD u)) := fun u _ e => by have := HDig.out u e; omega
              clear hcq
              go_wp2
              go_ret2
              exact HNo.out _ HB.out HNN.out
    · obtain rfl : k = s.size := by omega
      have HFin : Hid (∀ w', Below w.heap.size w w' → RdOk hexD M s w (.returned (.tuple #[.int .u64 (v : Int), .bool ((⟨(hexD v).toArray⟩ : ByteArray).toList == s.toList)])) w') := fun w' hb => ⟨v, _, by omega, rfl, hb, (fun h => ⟨eqS _ _ h, hv⟩), fun u _ e => by
        have h1 := HPV.out
        have h2 : s.size = (hexD u).length := by rw [← e]; simp
        rw [h2, e, (HV.out u).1] at h1
        subst h1
        exact ⟨rfl, by rw [beq_iff_eq, ByteArray.toList_eq, ByteArray.toList_eq, e]⟩⟩
      clear HPV HNo
      go_wp2_with fail
      refine (rnum16 v (by omega) wr).mono ?_
      rintro e w1 ⟨rfl, hb1⟩
      generalize (⟨(hexD v).toArray⟩ : ByteArray) = dt at *
      go_wp2
      go_ret2
      exact HFin.out _ (HB.out.trans (hb1.mono HB.out.size))
end Go.Proofs.YtkgedoedojkdkaaDoor
