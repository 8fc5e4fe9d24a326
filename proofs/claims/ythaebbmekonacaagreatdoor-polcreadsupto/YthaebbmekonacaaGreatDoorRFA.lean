/-
  The reference reads numbers, families and addresses, and cuts a text.
-/
import Derived.Test.YthaebbmekonacaaGreatDoorQB
import Derived.Test.YthaebbmekonacaaGreatDoorAD
set_option linter.unusedVariables false
set_option linter.unusedSimpArgs false
set_option maxRecDepth 100000
namespace Go.Proofs.YthaebbmekonacaaGreatDoor.Ad
open Go.RowKit
def famOf (l : List UInt8) : Int := if ([] == l) = true then 0 else if ([118, 52] == l) = true then 1 else if ([118, 54] == l) = true then 2 else if ([108, 52] == l) = true then 3 else if ([118, 112, 110, 52] == l) = true then 4 else if ([118, 112, 110, 54] == l) = true then 5 else 0
/-- What Read answers. -/
def RdOk (D : Nat → List UInt8) (M : Nat) (s : ByteArray) (w : World) (e : Ending) (w' : World) : Prop :=
  ∃ (v : Nat) (b : Bool), v < 18446744073709551616 ∧ e = .returned (.tuple #[.int .u64 (v : Int), .bool b]) ∧ Below w.heap.size w w' ∧ (b = true → s.data.toList = D v ∧ v ≤ M) ∧ ∀ u, u ≤ M → s.data.toList = D u → v = u ∧ b = true
theorem eqS (t s : ByteArray) : (t.toList == s.toList) = true → s.data.toList = t.data.toList := fun h => by
  rw [beq_iff_eq, ByteArray.toList_eq, ByteArray.toList_eq] at h; exact h.symm
set_option maxHeartbeats 2000000 in
theorem rread10 (M : Nat) (hM : M < 18446744073709551616) (hM2 : 16 ≤ M) (s : ByteArray) (w : World) (hs : s.size ≤ 281474976710656) :
    Calls Tryz.prog 139 #[.string s, .int .u64 10, .int .u64 (M : Int)] w (RdOk Lib.decDigits M s w) := by
  have HV : Hid (∀ u, vl 10 (Lib.decDigits u) (Lib.decDigits u).length = u ∧ ∀ c ∈ Lib.decDigits u, dq c < 10) := fun u => Digs.val digs10 (by omega) (by omega) u
  have HL : Hid (∀ u, u ≤ M → s.data.toList = Lib.decDigits u → 0 < s.size ∧ s.size ≤ 20) := fun u hu h => by
    have h1 := congrArg List.length h
    have h2 : s.data.toList.length = s.size := by simp
    have h3 := Digs.ne digs10 (by omega) u
    have h4 := dig_twenty u (by omega)
    omega
  by_cases h0 : s.size = 0
  · have HE : Hid (RdOk Lib.decDigits M s w (.returned (.tuple #[.int .u64 0, .bool false])) w) := ⟨0, false, by omega, rfl, Below.refl _ _, (fun h => by cases h), fun u hu h => by have := HL.out u hu h; omega⟩
    have h0i : (s.size : Int) = 0 := by omega
    clear h0 hM hM2 hs HL HV
    go_enter Tryz.func139, Tryz.ntmps139
    go_wp2
    go_ret2
    exact HE.out
  by_cases h20 : 20 < s.size
  · have HE : Hid (RdOk Lib.decDigits M s w (.returned (.tuple #[.int .u64 0, .bool false])) w) := ⟨0, false, by omega, rfl, Below.refl _ _, (fun h => by cases h), fun u hu h => by have := HL.out u hu h; omega⟩
    have h0i : ((s.size : Int) == 0) = false := by rw [beq_eq_false_iff_ne]; omega
    have h20i : (20 : Int) < (s.size : Int) := by omega
    clear h0 h20 hM hM2 hs HL HV
    go_enter Tryz.func139, Tryz.ntmps139
    go_wp2
    go_ret2
    exact HE.out
  have h0i : ((s.size : Int) == 0) = false := by rw [beq_eq_false_iff_ne]; omega
  have h20i : ¬ ((20 : Int) < (s.size : Int)) := by omega
  have HNo : Hid (∀ w', Below w.heap.size w w' → (∀ u, u ≤ M → ¬ (s.data.toList = Lib.decDigits u)) → RdOk Lib.decDigits M s w (.returned (.tuple #[.int .u64 0, .bool false])) w') := fun w' hb h => ⟨0, false, by omega, rfl, hb, (fun h => by cases h), fun u hu e => absurd e (h u hu)⟩
  clear h0 h20 HL
  go_enter Tryz.func139, Tryz.ntmps139
  go_wp2
  clear h0i h20i
  go_loopw [8, 9] (fun t i wr => ∃ (k v : Nat), k ≤ s.size ∧ i = .int .i64 (k : Int) ∧ t = .int .u64 (v : Int) ∧ v ≤ M ∧ v = vl 10 s.data.toList k ∧ Below w.heap.size w wr) (fun _ i _ => s.size - (intOf i).toNat)
  case atStart => exact ⟨0, 0, by omega, rfl, rfl, by omega, by simp [vl], Below.refl _ _⟩
  case round =>
    obtain ⟨k, v, hk, rfl, rfl, hv, hpv, hb⟩ := hrel
    have HB : Hid (Below w.heap.size w wr) := hb
    have HPV : Hid (v = vl 10 s.data.toList k) := hpv
    clear hb hpv
    by_cases hlt : k < s.size
    · have hll : k < s.data.toList.length := by simpa using hlt
      have hge : s.data.toList[k] = s[k] := rfl
      have HS : Hid (vl 10 s.data.toList (k + 1) = vl 10 s.data.toList k * 10 + dq s[k]) := by
        have := vl_succ 10 s.data.toList k hll
        rw [hge] at this; exact this
      have HDig : Hid (∀ u, s.data.toList = Lib.decDigits u → dq s[k] < 10) := fun u e => by
        have hm : s[k] ∈ s.data.toList := by rw [← hge]; exact List.getElem_mem hll
        rw [e] at hm
        exact (HV.out u).2 _ hm
      have HLe : Hid (∀ u, s.data.toList = Lib.decDigits u → vl 10 s.data.toList (k + 1) ≤ u) := fun u e => by
        have h1 := vl_le 10 s.data.toList (k + 1) (by omega) (by omega)
        have h2 := (HV.out u).1
        rw [← e] at h2
        omega
      have h8 := s[k].toNat_lt
      obtain ⟨c, hc⟩ : ∃ c, s[k].toNat = c := ⟨_, rfl⟩
      obtain ⟨q, hq⟩ : ∃ q, dq s[k] = q := ⟨_, rfl⟩
      have hcq : q = if 48 ≤ c ∧ c ≤ 57 then c - 48 else if 97 ≤ c ∧ c ≤ 102 then c - 87 else 99 := by rw [← hq, ← hc]; rfl
      rw [hq] at HS HDig
      rw [hc] at h8
      clear hge hq
      by_cases hd : 48 ≤ c ∧ c ≤ 57
      · rw [if_pos hd] at hcq
        have g1 : (48 : Int) ≤ (c : Int) := by omega
        have g2 : (c : Int) ≤ 57 := by omega
        have g4 : ¬ ((97 : Int) ≤ (c : Int)) := by omega
        have g5 : ¬ ((10 : Int) ≤ (c : Int) - 48) := by omega
        by_cases hgt : (M - q) / 10 < v
        · have HNN : Hid (∀ u, u ≤ M → ¬ (s.data.toList = Lib.decDigits u)) := fun u hu e => by
            have h1 := HLe.out u e
            have h2 := HS.out
            have h3 := HPV.out
            rw [← h3] at h2
            omega
          have g3 : ((M : Int) - ((c : Int) - 48)) / 10 < (v : Int) := by omega
          clear hcq hgt
          go_wp2
          go_ret2
          exact HNo.out _ HB.out HNN.out
        · have g3 : ¬ (((M : Int) - ((c : Int) - 48)) / 10 < (v : Int)) := by omega
          have hle : v * 10 + q ≤ M := by omega
          have HV2 : Hid (v * 10 + q = vl 10 s.data.toList (k + 1)) := by unfold Hid; rw [HS.out, ← HPV.out]
          have HQ : Hid ((q : Int) = (c : Int) - 48) := by unfold Hid; omega
          clear hcq hgt
          go_wp2
          go_roundw
          case rel => exact ⟨k + 1, v * 10 + q, by omega, by go_num, by have := HQ.out; go_num, by omega, HV2.out, HB.out⟩
          case measure => simp [intOf]; omega
      · rw [if_neg hd] at hcq
        by_cases h97 : 97 ≤ c ∧ c ≤ 102
        · rw [if_pos h97] at hcq
          have g1 : (48 : Int) ≤ (c : Int) := by omega
          have g2 : ¬ ((c : Int) ≤ 57) := by omega
          have g6 : (97 : Int) ≤ (c : Int) := by omega
          have g7 : (c : Int) ≤ 102 := by omega
          have g8 : (10 : Int) ≤ (c : Int) - 97 + 10 := by omega
          have HNN : Hid (∀ u, u ≤ M → ¬ (s.data.toList = Lib.decDigits u)) := fun u _ e => by have := HDig.out u e; omega
          clear hcq
          go_wp2
          go_ret2
          exact HNo.out _ HB.out HNN.out
        · rw [if_neg h97] at hcq
          by_cases h48 : c < 48
          · have g1 : ¬ ((48 : Int) ≤ (c : Int)) := by omega
            have g2 : ¬ ((97 : Int) ≤ (c : Int)) := by omega
            have HNN : Hid (∀ u, u ≤ M → ¬ (s.data.toList = Lib.decDigits u)) := fun u _ e => by have := HDig.out u e; omega
            clear hcq
            go_wp2
            go_ret2
            exact HNo.out _ HB.out HNN.out
          · have g1 : (48 : Int) ≤ (c : Int) := by omega
            have g2 : ¬ ((c : Int) ≤ 57) := by omega
            by_cases h97' : c < 97
            · have g3 : ¬ ((97 : Int) ≤ (c : Int)) := by omega
              have HNN : Hid (∀ u, u ≤ M → ¬ (s.data.toList = Lib.decDigits u)) := fun u _ e => by have := HDig.out u e; omega
              clear hcq
              go_wp2
              go_ret2
              exact HNo.out _ HB.out HNN.out
            · have g3 : (97 : Int) ≤ (c : Int) := by omega
              have g4 : ¬ ((c : Int) ≤ 102) := by omega
              have HNN : Hid (∀ u, u ≤ M → ¬ (s.data.toList = Lib.decDigits u)) := fun u _ e => by have := HDig.out u e; omega
              clear hcq
              go_wp2
              go_ret2
              exact HNo.out _ HB.out HNN.out
    · obtain rfl : k = s.size := by omega
      have HFin : Hid (∀ w', Below w.heap.size w w' → RdOk Lib.decDigits M s w (.returned (.tuple #[.int .u64 (v : Int), .bool ((⟨(Lib.decDigits v).toArray⟩ : ByteArray).toList == s.toList)])) w') := fun w' hb => ⟨v, _, by omega, rfl, hb, (fun h => ⟨eqS _ _ h, hv⟩), fun u _ e => by
        have h1 := HPV.out
        have h2 : s.size = (Lib.decDigits u).length := by rw [← e]; simp
        rw [h2, e, (HV.out u).1] at h1
        subst h1
        exact ⟨rfl, by rw [beq_iff_eq, ByteArray.toList_eq, ByteArray.toList_eq, e]⟩⟩
      clear HPV HNo
      go_wp2_with fail
      refine (rnum10 v (by omega) wr).mono ?_
      rintro e w1 ⟨rfl, hb1⟩
      generalize (⟨(Lib.decDigits v).toArray⟩ : ByteArray) = dt at *
      go_wp2
      go_ret2
      exact HFin.out _ (HB.out.trans (hb1.mono HB.out.size))
set_option maxHeartbeats 2000000 in
theorem rread16 (M : Nat) (hM : M < 18446744073709551616) (hM2 : 16 ≤ M) (s : ByteArray) (w : World) (hs : s.size ≤ 281474976710656) :
    Calls Tryz.prog 139 #[.string s, .int .u64 16, .int .u64 (M : Int)] w (RdOk hexD M s w) := by
  have HV : Hid (∀ u, vl 16 (hexD u) (hexD u).length = u ∧ ∀ c ∈ hexD u, dq c < 16) := fun u => Digs.val digs16 (by omega) (by omega) u
  have HL : Hid (∀ u, u ≤ M → s.data.toList = hexD u → 0 < s.size ∧ s.size ≤ 20) := fun u hu h => by
    have h1 := congrArg List.length h
    have h2 : s.data.toList.length = s.size := by simp
    have h3 := Digs.ne digs16 (by omega) u
    have h4 := hex_twenty u (by omega)
    omega
  by_cases h0 : s.size = 0
  · have HE : Hid (RdOk hexD M s w (.returned (.tuple #[.int .u64 0, .bool false])) w) := ⟨0, false, by omega, rfl, Below.refl _ _, (fun h => by cases h), fun u hu h => by have := HL.out u hu h; omega⟩
    have h0i : (s.size : Int) = 0 := by omega
    clear h0 hM hM2 hs HL HV
    go_enter Tryz.func139, Tryz.ntmps139
    go_wp2
    go_ret2
    exact HE.out
  by_cases h20 : 20 < s.size
  · have HE : Hid (RdOk hexD M s w (.returned (.tuple #[.int .u64 0, .bool false])) w) := ⟨0, false, by omega, rfl, Below.refl _ _, (fun h => by cases h), fun u hu h => by have := HL.out u hu h; omega⟩
    have h0i : ((s.size : Int) == 0) = false := by rw [beq_eq_false_iff_ne]; omega
    have h20i : (20 : Int) < (s.size : Int) := by omega
    clear h0 h20 hM hM2 hs HL HV
    go_enter Tryz.func139, Tryz.ntmps139
    go_wp2
    go_ret2
    exact HE.out
  have h0i : ((s.size : Int) == 0) = false := by rw [beq_eq_false_iff_ne]; omega
  have h20i : ¬ ((20 : Int) < (s.size : Int)) := by omega
  have HNo : Hid (∀ w', Below w.heap.size w w' → (∀ u, u ≤ M → ¬ (s.data.toList = hexD u)) → RdOk hexD M s w (.returned (.tuple #[.int .u64 0, .bool false])) w') := fun w' hb h => ⟨0, false, by omega, rfl, hb, (fun h => by cases h), fun u hu e => absurd e (h u hu)⟩
  clear h0 h20 HL
  go_enter Tryz.func139, Tryz.ntmps139
  go_wp2
  clear h0i h20i
  go_loopw [8, 9] (fun t i wr => ∃ (k v : Nat), k ≤ s.size ∧ i = .int .i64 (k : Int) ∧ t = .int .u64 (v : Int) ∧ v ≤ M ∧ v = vl 16 s.data.toList k ∧ Below w.heap.size w wr) (fun _ i _ => s.size - (intOf i).toNat)
  case atStart => exact ⟨0, 0, by omega, rfl, rfl, by omega, by simp [vl], Below.refl _ _⟩
  case round =>
    obtain ⟨k, v, hk, rfl, rfl, hv, hpv, hb⟩ := hrel
    have HB : Hid (Below w.heap.size w wr) := hb
    have HPV : Hid (v = vl 16 s.data.toList k) := hpv
    clear hb hpv
    by_cases hlt : k < s.size
    · have hll : k < s.data.toList.length := by simpa using hlt
      have hge : s.data.toList[k] = s[k] := rfl
      have HS : Hid (vl 16 s.data.toList (k + 1) = vl 16 s.data.toList k * 16 + dq s[k]) := by
        have := vl_succ 16 s.data.toList k hll
        rw [hge] at this; exact this
      have HDig : Hid (∀ u, s.data.toList = hexD u → dq s[k] < 16) := fun u e => by
        have hm : s[k] ∈ s.data.toList := by rw [← hge]; exact List.getElem_mem hll
        rw [e] at hm
        exact (HV.out u).2 _ hm
      have HLe : Hid (∀ u, s.data.toList = hexD u → vl 16 s.data.toList (k + 1) ≤ u) := fun u e => by
        have h1 := vl_le 16 s.data.toList (k + 1) (by omega) (by omega)
        have h2 := (HV.out u).1
        rw [← e] at h2
        omega
      have h8 := s[k].toNat_lt
      obtain ⟨c, hc⟩ : ∃ c, s[k].toNat = c := ⟨_, rfl⟩
      obtain ⟨q, hq⟩ : ∃ q, dq s[k] = q := ⟨_, rfl⟩
      have hcq : q = if 48 ≤ c ∧ c ≤ 57 then c - 48 else if 97 ≤ c ∧ c ≤ 102 then c - 87 else 99 := by rw [← hq, ← hc]; rfl
      rw [hq] at HS HDig
      rw [hc] at h8
      clear hge hq
      by_cases hd : 48 ≤ c ∧ c ≤ 57
      · rw [if_pos hd] at hcq
        have g1 : (48 : Int) ≤ (c : Int) := by omega
        have g2 : (c : Int) ≤ 57 := by omega
        have g4 : ¬ ((97 : Int) ≤ (c : Int)) := by omega
        have g5 : ¬ ((16 : Int) ≤ (c : Int) - 48) := by omega
        by_cases hgt : (M - q) / 16 < v
        · have HNN : Hid (∀ u, u ≤ M → ¬ (s.data.toList = hexD u)) := fun u hu e => by
            have h1 := HLe.out u e
            have h2 := HS.out
            have h3 := HPV.out
            rw [← h3] at h2
            omega
          have g3 : ((M : Int) - ((c : Int) - 48)) / 16 < (v : Int) := by omega
          clear hcq hgt
          go_wp2
          go_ret2
          exact HNo.out _ HB.out HNN.out
        · have g3 : ¬ (((M : Int) - ((c : Int) - 48)) / 16 < (v : Int)) := by omega
          have hle : v * 16 + q ≤ M := by omega
          have HV2 : Hid (v * 16 + q = vl 16 s.data.toList (k + 1)) := by unfold Hid; rw [HS.out, ← HPV.out]
          have HQ : Hid ((q : Int) = (c : Int) - 48) := by unfold Hid; omega
          clear hcq hgt
          go_wp2
          go_roundw
          case rel => exact ⟨k + 1, v * 16 + q, by omega, by go_num, by have := HQ.out; go_num, by omega, HV2.out, HB.out⟩
          case measure => simp [intOf]; omega
      · rw [if_neg hd] at hcq
        by_cases h97 : 97 ≤ c ∧ c ≤ 102
        · rw [if_pos h97] at hcq
          have g1 : (48 : Int) ≤ (c : Int) := by omega
          have g2 : ¬ ((c : Int) ≤ 57) := by omega
          have g6 : (97 : Int) ≤ (c : Int) := by omega
          have g7 : (c : Int) ≤ 102 := by omega
          have g8 : ¬ ((16 : Int) ≤ (c : Int) - 97 + 10) := by omega
          by_cases hgt : (M - q) / 16 < v
          · have HNN : Hid (∀ u, u ≤ M → ¬ (s.data.toList = hexD u)) := fun u hu e => by
              have h1 := HLe.out u e
              have h2 := HS.out
              have h3 := HPV.out
              rw [← h3] at h2
              omega
            have g3 : ((M : Int) - ((c : Int) - 97 + 10)) / 16 < (v : Int) := by omega
            clear hcq hgt
            go_wp2
            go_ret2
            exact HNo.out _ HB.out HNN.out
          · have g3 : ¬ (((M : Int) - ((c : Int) - 97 + 10)) / 16 < (v : Int)) := by omega
            have hle : v * 16 + q ≤ M := by omega
            have HV2 : Hid (v * 16 + q = vl 16 s.data.toList (k + 1)) := by unfold Hid; rw [HS.out, ← HPV.out]
            have HQ : Hid ((q : Int) = (c : Int) - 97 + 10) := by unfold Hid; omega
            clear hcq hgt
            go_wp2
            go_roundw
            case rel => exact ⟨k + 1, v * 16 + q, by omega, by go_num, by have := HQ.out; go_num, by omega, HV2.out, HB.out⟩
            case measure => simp [intOf]; omega
        · rw [if_neg h97] at hcq
          by_cases h48 : c < 48
          · have g1 : ¬ ((48 : Int) ≤ (c : Int)) := by omega
            have g2 : ¬ ((97 : Int) ≤ (c : Int)) := by omega
            have HNN : Hid (∀ u, u ≤ M → ¬ (s.data.toList = hexD u)) := fun u _ e => by have := HDig.out u e; omega
            clear hcq
            go_wp2
            go_ret2
            exact HNo.out _ HB.out HNN.out
          · have g1 : (48 : Int) ≤ (c : Int) := by omega
            have g2 : ¬ ((c : Int) ≤ 57) := by omega
            by_cases h97' : c < 97
            · have g3 : ¬ ((97 : Int) ≤ (c : Int)) := by omega
              have HNN : Hid (∀ u, u ≤ M → ¬ (s.data.toList = hexD u)) := fun u _ e => by have := HDig.out u e; omega
              clear hcq
              go_wp2
              go_ret2
              exact HNo.out _ HB.out HNN.out
            · have g3 : (97 : Int) ≤ (c : Int) := by omega
              have g4 : ¬ ((c : Int) ≤ 102) := by omega
              have HNN : Hid (∀ u, u ≤ M → ¬ (s.data.toList = hexD u)) := fun u _ e => by have := HDig.out u e; omega
              clear hcq
              go_wp2
              go_ret2
              exact HNo.out _ HB.out HNN.out
    · obtain rfl : k = s.size := by omega
      have HFin : Hid (∀ w', Below w.heap.size w w' → RdOk hexD M s w (.returned (.tuple #[.int .u64 (v : Int), .bool ((⟨(hexD v).toArray⟩ : ByteArray).toList == s.toList)])) w') := fun w' hb => ⟨v, _, by omega, rfl, hb, (fun h => ⟨eqS _ _ h, hv⟩), fun u _ e => by
        have h1 := HPV.out
        have h2 : s.size = (hexD u).length := by rw [← e]; simp
        rw [h2, e, (HV.out u).1] at h1
        subst h1
        exact ⟨rfl, by rw [beq_iff_eq, ByteArray.toList_eq, ByteArray.toList_eq, e]⟩⟩
      clear HPV HNo
      go_wp2_with fail
      refine (rnum16 v (by omega) wr).mono ?_
      rintro e w1 ⟨rfl, hb1⟩
      generalize (⟨(hexD v).toArray⟩ : ByteArray) = dt at *
      go_wp2
      go_ret2
      exact HFin.out _ (HB.out.trans (hb1.mono HB.out.size))
end Go.Proofs.YthaebbmekonacaaGreatDoor.Ad
set_option linter.unusedVariables false
set_option linter.unusedSimpArgs false
set_option maxRecDepth 100000
namespace Go.Proofs.YthaebbmekonacaaGreatDoor.Ad
open Go.RowKit
/-- What has been cut off when k places have been looked at. -/
structure SpI (c : UInt8) (l : List UInt8) (k : Nat) (acc : List (List UInt8)) (st : Nat) : Prop where
  pre : l.take st = flat c acc
  le : st ≤ k
  kl : k ≤ l.length
  fr : Free c acc
  cur : c ∉ (l.take k).drop st
theorem SpI.start (c : UInt8) (l : List UInt8) : SpI c l 0 [] 0 := ⟨rfl, Nat.le_refl _, Nat.zero_le _, fun x h => by simp at h, by simp⟩
theorem SpI.skip {c : UInt8} {l : List UInt8} {k : Nat} {acc : List (List UInt8)} {st : Nat} (h : SpI c l k acc st) (hk : k < l.length) (hc : l[k] ≠ c) : SpI c l (k + 1) acc st := by
  refine ⟨h.pre, by have := h.le; omega, hk, h.fr, ?_⟩
  rw [List.take_succ_eq_append_getElem hk, List.drop_append_of_le_length (by simp; have := h.le; omega)]
  intro hm
  rcases List.mem_append.1 hm with e | e
  · exact h.cur e
  · simp at e; exact hc e.symm
theorem cut_here {l : List UInt8} {st k : Nat} (h : st ≤ k) : l.take st ++ (l.take k).drop st = l.take k := by
  rw [show l.take st = (l.take k).take st by rw [List.take_take, Nat.min_eq_left h], List.take_append_drop]
theorem SpI.push {c : UInt8} {l : List UInt8} {k : Nat} {acc : List (List UInt8)} {st : Nat} (h : SpI c l k acc st) (hk : k < l.length) (hc : l[k] = c) : SpI c l (k + 1) (acc ++ [(l.take k).drop st]) (k + 1) := by
  refine ⟨?_, Nat.le_refl _, hk, h.fr.app h.cur, ?_⟩
  · rw [flat_app, ← h.pre, cut_here h.le, List.take_succ_eq_append_getElem hk, hc]
  · rw [List.drop_eq_nil_of_le (by rw [List.length_take]; exact Nat.min_le_left _ _)]; simp
theorem SpI.done {c : UInt8} {l : List UInt8} {acc : List (List UInt8)} {st : Nat} (h : SpI c l l.length acc st) : l = flat c acc ++ (l.take l.length).drop st ∧ Free c (acc ++ [(l.take l.length).drop st]) := by
  refine ⟨?_, h.fr.app h.cur⟩
  rw [← h.pre, cut_here h.le, List.take_length]
/-- The cells of texts. -/
def cellsT (l : List (List UInt8)) : List Value := l.map fun x => .string ⟨x.toArray⟩
theorem infoT9 : (Tryz.prog.info? 9).map (fun i => (i.zero, i.size, i.bytes)) = some (some (.string ⟨#[]⟩), 1, 16) := by kernel_rfl
theorem one_str (s : ByteArray) : ∀ u ∈ [Value.string s], u.oneCell' = true := by
  intro u h; simp at h; subst h; rfl
theorem sub_bytes (s : ByteArray) (a b : Nat) : s.extract a b = ⟨((s.data.toList.take b).drop a).toArray⟩ := by
  apply ByteArray.ext
  apply Array.toList_inj.mp
  simp [List.drop_take]
theorem flat_len (c : UInt8) (A : List (List UInt8)) : A.length ≤ (flat c A).length := by
  induction A with
  | nil => simp
  | cons x A ih => rw [flat_cons]; simp; omega
theorem SpI.len {c : UInt8} {l : List UInt8} {k : Nat} {acc : List (List UInt8)} {st : Nat} (h : SpI c l k acc st) : acc.length ≤ l.length := by
  have := flat_len c acc
  rw [← h.pre] at this
  simp at this
  omega
/-- What Split answers. -/
def SpAns (c : UInt8) (l : List UInt8) (base : Nat) (e : Ending) (w' : World) : Prop := ∃ v A z, e = .returned v ∧ l = flat c A ++ z ∧ Free c (A ++ [z]) ∧ w'.ownsRow base 9 1 v (A ++ [z]).length (cellsT (A ++ [z]))
set_option maxHeartbeats 4000000 in
theorem split_any (s : ByteArray) (c : UInt8) (w : World) (hs : s.size ≤ 4294967296) :
    Calls Tryz.prog 51 #[.string s, .int .u8 (c.toNat : Int)] w fun e w' => SpAns c s.data.toList w.heap.size e w' ∧ Below w.heap.size w w' := by
  obtain ⟨i0, hi, hz0, hz1, hz2⟩ := info_parts infoT9
  go_enter Tryz.func51, Tryz.ntmps51
  go_wp2
  go_loopw [5, 6, 7] (fun t st i wr => ∃ (k : Nat) (acc : List (List UInt8)) (p : Nat), i = .int .i64 (k : Int) ∧ st = .int .i64 (p : Int) ∧ wr.ownsRow w.heap.size 9 1 t acc.length (cellsT acc) ∧ Below w.heap.size w wr ∧ ((k ≤ s.size ∧ SpI c s.data.toList k acc p) ∨ (k = s.size + 1 ∧ p = s.size + 1 ∧ ∃ A z, acc = A ++ [z] ∧ s.data.toList = flat c A ++ z ∧ Free c (A ++ [z])))) (fun _ _ i _ => s.size + 1 - (intOf i).toNat)
  case atStart => exact ⟨0, [], 0, rfl, rfl, World.ownsRow_nil _ _ _ _, Below.refl _ _, Or.inl ⟨Nat.zero_le _, SpI.start _ _⟩⟩
  case round =>
    obtain ⟨k, acc, p, rfl, rfl, hown, hb, hph⟩ := hrel
    obtain ⟨ad, cp, rfl⟩ := slice_of_owns hown
    have HO : Hid (World.ownsRow _ _ _ _ _ _ _) := hown
    have HB : Hid (Below w.heap.size w wr) := hb
    have hll : s.data.toList.length = s.size := by simp
    clear hown hb
    rcases hph with ⟨hk, hsp⟩ | ⟨rfl, rfl, A, z, rfl, h1, h2⟩
    · have hki : (k : Int) ≤ (s.size : Int) := by omega
      have hacc := hsp.len
      have hpk := hsp.le
      have hs0 := HB.out.size
      have hsl : ∀ W, (Instr.slice 9 (.string s) (some (.int .i64 (p : Int))) (some (.int .i64 (k : Int))) none).run Tryz.prog W = .ok (.string ⟨((s.data.toList.take k).drop p).toArray⟩) W := fun W => by
        rw [run_slice_string W 9 _ .i64 .i64 (p : Int) (k : Int) Tryz.underlying9 (by omega) (by omega) (by omega), Int.toNat_natCast, Int.toNat_natCast, sub_bytes]
      by_cases hend : k = s.size
      · have hd := (show SpI c s.data.toList s.data.toList.length acc p by rw [hll, ← hend]; exact hsp).done
        rw [hll, ← hend] at hd
        have HD : Hid (_ ∧ _) := hd
        have hKe : ((k : Int) == (s.size : Int)) = true := by rw [beq_iff_eq]; omega
        have HKe : Hid (k = s.size) := hend
        clear hd hsp hpk hend
        generalize (s.data.toList.take k).drop p = piece at *
        go_wp2_with (at_builtin; refine wpList_append_own _ rfl _ _ 105 rfl w.heap.size 9 i0 (.string ⟨#[]⟩) 1 16 Tryz.underlying105 hi hz0 hz1 hz2 rfl (by decide) _ _ _ rfl (HO.out.alloc _) ⟨wr.heap.size, 0, none⟩ 1 1 [.string ⟨piece.toArray⟩] rfl rfl (cell_new1 _ _ _) (one_str _) (by unfold maxLen; omega) (by omega) (Nat.le_trans hs0 (by simp)) ?_; intro v5 w5 hown5 hgrow5 _)
        have hg5 := (World.grownBy_alloc wr _ _).trans hgrow5
        have HO5 : Hid (w5.ownsRow w.heap.size 9 1 v5 (acc ++ [piece]).length (cellsT (acc ++ [piece]))) := by
          unfold Hid
          rw [List.length_append, List.length_singleton, show cellsT (acc ++ [piece]) = cellsT acc ++ [.string ⟨piece.toArray⟩] by simp [cellsT]]
          exact hown5
        have HB5 : Hid (Below w.heap.size w w5) := HB.out.grown hg5 hs0 (fun j hj => (HO.out.lt j hj).1)
        clear hown5 hgrow5 hg5
        try go_wp2
        go_roundw
        case rel => exact ⟨k + 1, acc ++ [piece], k + 1, by go_num, by go_num, HO5.out, HB5.out, Or.inr ⟨by rw [HKe.out], by rw [HKe.out], acc, piece, rfl, HD.out.1, HD.out.2⟩⟩
        case measure => simp [intOf] <;> omega
      · have hk2 : k < s.size := by omega
        have hne : ((k : Int) == (s.size : Int)) = false := by rw [beq_eq_false_iff_ne]; omega
        have hkl : k < s.data.toList.length := by omega
        by_cases hat : s[k] = c
        · have hp := hsp.push hkl (show s.data.toList[k] = c from hat)
          have HP : Hid (SpI _ _ _ _ _) := hp
          have hb2 : ((s[k].toNat : Int) == (c.toNat : Int)) = true := by rw [beq_iff_eq, hat]
          clear hp hsp hpk hend hat
          generalize (s.data.toList.take k).drop p = piece at *
          go_wp2_with (at_builtin; refine wpList_append_own _ rfl _ _ 105 rfl w.heap.size 9 i0 (.string ⟨#[]⟩) 1 16 Tryz.underlying105 hi hz0 hz1 hz2 rfl (by decide) _ _ _ rfl (HO.out.alloc _) ⟨wr.heap.size, 0, none⟩ 1 1 [.string ⟨piece.toArray⟩] rfl rfl (cell_new1 _ _ _) (one_str _) (by unfold maxLen; omega) (by omega) (Nat.le_trans hs0 (by simp)) ?_; intro v5 w5 hown5 hgrow5 _)
          have hg5 := (World.grownBy_alloc wr _ _).trans hgrow5
          have HO5 : Hid (w5.ownsRow w.heap.size 9 1 v5 (acc ++ [piece]).length (cellsT (acc ++ [piece]))) := by
            unfold Hid
            rw [List.length_append, List.length_singleton, show cellsT (acc ++ [piece]) = cellsT acc ++ [.string ⟨piece.toArray⟩] by simp [cellsT]]
            exact hown5
          have HB5 : Hid (Below w.heap.size w w5) := HB.out.grown hg5 hs0 (fun j hj => (HO.out.lt j hj).1)
          clear hown5 hgrow5 hg5
          try go_wp2
          go_roundw
          case rel => exact ⟨k + 1, acc ++ [piece], k + 1, by go_num, by go_num, HO5.out, HB5.out, Or.inl ⟨by omega, HP.out⟩⟩
          case measure => simp [intOf] <;> omega
        · have hp := hsp.skip hkl (show s.data.toList[k] ≠ c from hat)
          have HP : Hid (SpI _ _ _ _ _) := hp
          have hb2 : ((s[k].toNat : Int) == (c.toNat : Int)) = false := by
            rw [beq_eq_false_iff_ne]; intro h; exact hat (UInt8.toNat_inj.1 (by omega))
          clear hp hsp hpk hend hat hsl
          go_wp2
          go_roundw
          case rel => exact ⟨k + 1, acc, p, by go_num, rfl, HO.out, HB.out, Or.inl ⟨by omega, HP.out⟩⟩
          case measure => simp [intOf] <;> omega
    · have hge : ¬ ((s.size : Int) + 1 ≤ (s.size : Int)) := by omega
      have H1 : Hid (_ ∧ _) := And.intro h1 h2
      clear h1 h2
      go_wp2
      go_ret
      exact ⟨⟨.slice ad (A.length + 1) cp, A, z, rfl, H1.out.1, H1.out.2, by simpa using HO.out⟩, HB.out⟩
end Go.Proofs.YthaebbmekonacaaGreatDoor.Ad
set_option linter.unusedVariables false
set_option linter.unusedSimpArgs false
set_option maxRecDepth 100000
namespace Go.Proofs.YthaebbmekonacaaGreatDoor.Ad
open Go.RowKit
/-- All of them read, by a relation. -/
def AllD (D : Nat → List UInt8) (M : Nat) (P : List (List UInt8)) (ns : List Nat) (k : Nat) : Prop := ns.length = k ∧ k ≤ P.length ∧ ∀ j (h : j < ns.length) (h2 : j < P.length), P[j] = D ns[j] ∧ ns[j] ≤ M
theorem AllD.next {D : Nat → List UInt8} {M : Nat} {P : List (List UInt8)} {ns : List Nat} {k : Nat} (h : AllD D M P ns k) (hk : k < P.length) {n : Nat} (hn : P[k] = D n ∧ n ≤ M) : AllD D M P (ns ++ [n]) (k + 1) := by
  obtain ⟨h1, h2, h3⟩ := h
  refine ⟨by simp [h1], hk, fun j hj hj2 => ?_⟩
  by_cases e : j < ns.length
  · rw [List.getElem_append_left e]; exact h3 j e hj2
  · simp at hj
    obtain rfl : j = ns.length := by omega
    rw [List.getElem_concat_length rfl]
    subst h1; exact hn
theorem AllD.map {D : Nat → List UInt8} {M : Nat} {P : List (List UInt8)} {ns : List Nat} (h : AllD D M P ns P.length) : P = ns.map D ∧ ∀ n ∈ ns, n ≤ M := by
  obtain ⟨h1, h2, h3⟩ := h
  refine ⟨List.ext_getElem (by simp [h1]) fun i h4 h5 => ?_, fun n hn => ?_⟩
  · simp only [List.getElem_map]
    exact (h3 i (by simpa using h5) h4).1
  · obtain ⟨i, hi, rfl⟩ := List.getElem_of_mem hn
    exact (h3 i hi (by omega)).2
/-- The pieces of a text are known, if it is joined of numbers. -/
theorem sp_back {b : Nat} {D : Nat → List UInt8} (hD : Digs b D) (hb : 2 ≤ b) (hb2 : b ≤ 16) {c : UInt8} (hc : Mark c) {l : List UInt8} {A : List (List UInt8)} {z : List UInt8} (h1 : l = flat c A ++ z) (h2 : Free c (A ++ [z])) (ns : List Nat) (hn : ns ≠ []) (h : l = Lib.join (ns.map D) [c]) : A ++ [z] = ns.map D := by
  obtain ⟨B, y, rfl⟩ := last_apart ns hn
  simp only [List.map_append, List.map_cons, List.map_nil] at h ⊢
  rw [join_flat] at h
  have hf := fun u => hD.free hb hb2 hc u
  obtain ⟨e1, e2⟩ := flat_inj c A (B.map D) z (D y) (fun x hx => h2 x (List.mem_append_left _ hx)) (free_map hf B) (h2 z (by simp)) (hf y) (by rw [← h1, h])
  rw [e1, e2]
theorem sty_yes {b : Nat} {D : Nat → List UInt8} (hD : Digs b D) (hb : 2 ≤ b) (hb2 : b ≤ 16) {M cnt : Nat} (h1 : 1 ≤ cnt) {c : UInt8} (hc : Mark c) {l : List UInt8} {A : List (List UInt8)} {z : List UInt8} (hl : l = flat c A ++ z) {ns : List Nat} (hA : AllD D M (A ++ [z]) ns cnt) (hn : (A ++ [z]).length = cnt) : StyP D M cnt c l (some ns) := by
  rw [← hn] at hA
  obtain ⟨q1, q2⟩ := hA.map
  have hj : l = Lib.join (ns.map D) [c] := by rw [← q1, join_flat]; exact hl
  have hlen : ns.length = cnt := by rw [hA.1, hn]
  refine ⟨fun ms e => ?_, fun ms p1 p2 p3 => ?_⟩
  · obtain rfl := Option.some.inj e
    exact ⟨hlen, q2, hj⟩
  · rw [joined_inj hD hb hb2 hc ns ms (by intro e; rw [e] at hlen; simp at hlen; omega) (by intro e; rw [e] at p1; simp at p1; omega) (by rw [← hj, p3])]
theorem sty_len {b : Nat} {D : Nat → List UInt8} (hD : Digs b D) (hb : 2 ≤ b) (hb2 : b ≤ 16) {M cnt : Nat} (h1 : 1 ≤ cnt) {c : UInt8} (hc : Mark c) {l : List UInt8} {A : List (List UInt8)} {z : List UInt8} (hl : l = flat c A ++ z) (hfr : Free c (A ++ [z])) (hn : (A ++ [z]).length ≠ cnt) : StyP D M cnt c l none := by
  refine ⟨(fun ms e => by cases e), fun ms p1 p2 p3 => ?_⟩
  have := congrArg List.length (sp_back hD hb hb2 hc hl hfr ms (by intro e; rw [e] at p1; simp at p1; omega) p3)
  rw [List.length_map] at this
  exact absurd (by omega) hn
theorem sty_bad {b : Nat} {D : Nat → List UInt8} (hD : Digs b D) (hb : 2 ≤ b) (hb2 : b ≤ 16) {M cnt : Nat} (h1 : 1 ≤ cnt) {c : UInt8} (hc : Mark c) {l : List UInt8} {A : List (List UInt8)} {z : List UInt8} (hl : l = flat c A ++ z) (hfr : Free c (A ++ [z])) {j : Nat} (hj : j < (A ++ [z]).length) (hn : ∀ u, u ≤ M → (A ++ [z])[j] ≠ D u) : StyP D M cnt c l none := by
  refine ⟨(fun ms e => by cases e), fun ms p1 p2 p3 => ?_⟩
  have hm := sp_back hD hb hb2 hc hl hfr ms (by intro e; rw [e] at p1; simp at p1; omega) p3
  have hjm : j < ms.length := by
    have := congrArg List.length hm
    rw [List.length_map] at this; omega
  refine absurd ?_ (hn ms[j] (p2 _ (List.getElem_mem hjm)))
  have h3 : (A ++ [z])[j]'hj = (ms.map D)[j]'(by simpa using hjm) := by simp only [hm]
  rw [h3, List.getElem_map]
theorem long_no (l : List UInt8) (h : 40 < l.length) : AdP none l := ⟨(fun b e => by cases e), fun b _ e => by have := adT_len b; rw [← e] at this; omega⟩
/-- Four pieces by points: no eight by colons. -/
theorem no_eight {l : List UInt8} {A : List (List UInt8)} {z : List UInt8} (hl : l = flat 46 A ++ z) (hn : (A ++ [z]).length = 4) : StyP hexD 65535 8 58 l none := by
  refine ⟨(fun ms e => by cases e), fun ms p1 p2 p3 => ?_⟩
  have hm : (46 : UInt8) ∈ l := by
    match A, hn with
    | [], hn => simp at hn
    | x :: A, _ => rw [hl, flat_cons]; simp
  rw [p3] at hm
  exact absurd hm (no46 ms)
theorem row_at {w : World} {base : Nat} {ad : Option Addr} {n c : Nat} {L : List (List UInt8)} (h : w.ownsRow base 9 1 (.slice ad n c) n (cellsT L)) (hn : n = L.length) (h1 : 1 ≤ n) : ∃ g, ad = some ⟨g, 0, none⟩ ∧ base ≤ g ∧ ∀ j (hj : j < L.length), w.cell? ⟨g, j, none⟩ = some (.string ⟨(L[j]).toArray⟩) := by
  have h' := h
  obtain ⟨_, h2 | ⟨g, cap, cur, hv, hg, hh, r⟩⟩ := h
  · exfalso; omega
  · have e : ad = some ⟨g, 0, none⟩ := by injection hv
    refine ⟨g, e, hg, fun j hj => ?_⟩
    have := h'.cells (g := g) (by rw [hv]; rfl) j (.string ⟨(L[j]).toArray⟩) (by rw [cellsT, List.getElem?_map, List.getElem?_eq_getElem hj]; rfl)
    rw [show Addr.add ⟨g, 0, none⟩ j = ⟨g, j, none⟩ from by unfold Addr.add; by_cases e : j = 0 <;> simp [e]] at this
    exact this
end Go.Proofs.YthaebbmekonacaaGreatDoor.Ad
set_option linter.unusedVariables false
set_option linter.unusedSimpArgs false
set_option maxRecDepth 100000
namespace Go.Proofs.YthaebbmekonacaaGreatDoor.Ad
open Go.RowKit
theorem lst_size' (x : List UInt8) : (⟨x.toArray⟩ : ByteArray).size = x.length := List.size_toArray ..
theorem piece_len {c : UInt8} {l : List UInt8} {A : List (List UInt8)} {z : List UInt8} (h : l = flat c A ++ z) : ∀ x ∈ A ++ [z], x.length ≤ l.length := by
  intro x hx
  rw [h]
  rcases List.mem_append.1 hx with e | e
  · obtain ⟨s, t, rfl⟩ := List.append_of_mem e
    simp [flat]; omega
  · simp at e; rw [e]; simp
theorem two_u8 (a b : Int) : ∀ u ∈ [Value.int .u8 a, Value.int .u8 b], u.oneCell' = true := by
  intro u h; simp at h; rcases h with rfl | rfl <;> rfl
theorem cell_new2 (w : World) (v v2 : Value) (t : TypeId) : ∀ j u, [v, v2][j]? = some u → (w.alloc (.cells #[v, v2] t)).cell? (Addr.add ⟨w.heap.size, 0, none⟩ j) = some u := by
  intro j u hj
  match j, hj with
  | 0, hj => simp at hj; subst hj; simp [Addr.add]
  | 1, hj => simp at hj; subst hj; simp [Addr.add]
def AdAns (l : List UInt8) (e : Ending) : Prop := ∃ o, AdP o l ∧ e = .returned (adV o)
set_option maxHeartbeats 4000000 in
theorem raddrL (s : ByteArray) (hs : s.size ≤ maxLen) (w : World) :
    Calls Tryz.prog 98 #[.string s] w fun e w' => AdAns s.data.toList e ∧ Below w.heap.size w w' := by
  unfold maxLen at hs
  obtain ⟨i0, hi, hz0, hz1, hz2⟩ := info_parts info5c
  by_cases h40 : 40 < s.size
  · have HN : Hid (AdP none s.data.toList) := long_no _ (by simpa using h40)
    have h40i : (40 : Int) < (s.size : Int) := by omega
    clear h40 hi hz0 hz1 hz2
    go_enter Tryz.func98, Tryz.ntmps98
    go_wp2
    go_ret2
    exact ⟨⟨none, HN.out, rfl⟩, Below.refl _ _⟩
  have h40i : ¬ ((40 : Int) < (s.size : Int)) := by omega
  have HS4 : Hid (∀ W, _) := fun W => split_any s 46 W (by omega)
  have HS8 : Hid (∀ W, _) := fun W => split_any s 58 W (by omega)
  have HR10 : Hid (∀ (x : List UInt8), x.length ≤ 40 → ∀ W, _) := fun x hx W => rread10 255 (by decide) (by decide) ⟨x.toArray⟩ W (by rw [lst_size']; omega)
  have HR16 : Hid (∀ (x : List UInt8), x.length ≤ 40 → ∀ W, _) := fun x hx W => rread16 65535 (by decide) (by decide) ⟨x.toArray⟩ W (by rw [lst_size']; omega)
  have hll : s.data.toList.length ≤ 40 := by have : s.data.toList.length = s.size := by simp
                                             omega
  have HLL : Hid (s.data.toList.length ≤ 40) := hll
  clear hll
  go_enter Tryz.func98, Tryz.ntmps98
  go_wp2_with fail
  refine Calls.mono (HS4.out _) ?_
  rintro e w1 ⟨⟨v4, A, z, rfl, hl4, hf4, ho4⟩, hb1⟩
  obtain ⟨ad4, c4, rfl⟩ := slice_of_owns ho4
  have HP4 : Hid (∀ x ∈ A ++ [z], x.length ≤ 40) := fun x hx => Nat.le_trans (piece_len hl4 x hx) HLL.out
  generalize hP : A ++ [z] = P4 at *
  have HPe : Hid (A ++ [z] = P4) := hP
  have HO4 : Hid (World.ownsRow _ _ _ _ _ _ _) := ho4
  have HL4 : Hid (_ ∧ _) := And.intro hl4 hf4
  clear hP
  have HB1 : Hid (Below _ _ _) := hb1
  clear ho4 hl4 hf4 hb1 HS4
  go_wp2_with fail
  refine Calls.mono (HS8.out _) ?_
  rintro e w2 ⟨⟨v8, B, y, rfl, hl8, hf8, ho8⟩, hb2⟩
  obtain ⟨ad8, c8, rfl⟩ := slice_of_owns ho8
  have HP8 : Hid (∀ x ∈ B ++ [y], x.length ≤ 40) := fun x hx => Nat.le_trans (piece_len hl8 x hx) HLL.out
  generalize hQ : B ++ [y] = P8 at *
  have HQe : Hid (B ++ [y] = P8) := hQ
  clear hQ
  have HO8 : Hid (World.ownsRow _ _ _ _ _ _ _) := ho8
  have HL8 : Hid (_ ∧ _) := And.intro hl8 hf8
  have HO42 : Hid (World.ownsRow _ _ _ _ _ _ _) := ownsRow_below HO4.out hb2
  have HB2 : Hid (Below w.heap.size w w2) := HB1.out.trans (hb2.mono HB1.out.size)
  have HSz : Hid (w1.heap.size ≤ w2.heap.size) := hb2.size
  clear ho8 hl8 hf8 hb2 HO4 HB1 HS8 HLL
  by_cases hlen : P4.length = 4
  · have hl1 : ((P4.length : Int) == 4) = true := by rw [beq_iff_eq]; omega
    obtain ⟨g, rfl, hg, hcell⟩ := row_at HO42.out rfl (by omega)
    have HCe : Hid (∀ j (hj : j < P4.length), w2.cell? ⟨g, j, none⟩ = some (.string ⟨(P4[j]).toArray⟩)) := hcell
    have HG : Hid (g < w2.heap.size) := lt_of_cell (hcell 0 (by omega))
    have HLen : Hid (P4.length = 4) := hlen
    clear hg hcell hlen
    go_wp2_with fail
    go_loopw [6, 7, 8, 9] (fun x6 x7 xn xo wr => ∃ (k : Nat) (ns : List Nat), x7 = .int .i64 (k : Int) ∧ k ≤ 4 ∧ AllD Lib.decDigits 255 P4 ns k ∧ wr.ownsRow w2.heap.size 5 1 x6 (enc1 ns).length (byV (enc1 ns)) ∧ Below w2.heap.size w2 wr) (fun _ x7 _ _ _ => 4 - (intOf x7).toNat)
    case atStart => exact ⟨0, [], rfl, Nat.zero_le _, ⟨rfl, Nat.zero_le _, fun j h => by simp at h⟩, World.ownsRow_nil _ _ _ _, Below.refl _ _⟩
    case round =>
      obtain ⟨k, ns, rfl, hk, hall, hown, hbel⟩ := hrel
      obtain ⟨ad, c, rfl⟩ := slice_of_owns hown
      have HA : Hid (AllD _ _ _ _ _) := hall
      have HO : Hid (World.ownsRow _ _ _ _ _ _ _) := hown
      have HW : Hid (Below w2.heap.size w2 wr) := hbel
      clear hall hown hbel
      have hlen4 : ns.length = k := HA.out.1
      by_cases hlt : k < 4
      · have hkP : k < P4.length := by rw [HLen.out]; exact hlt
        have cw := (HW.out.cell (p := ⟨g, k, none⟩) HG.out).trans (HCe.out k hkP)
        have hR := HR10.out P4[k] (HP4.out _ (List.getElem_mem hkP)) wr
        have HR1 : Hid (Calls _ _ _ _ _) := hR
        have hNx : ∀ n, P4[k] = Lib.decDigits n ∧ n ≤ 255 → AllD Lib.decDigits 255 P4 (ns ++ [n]) (k + 1) := fun n h => HA.out.next hkP h
        have hBd : (∀ u, u ≤ 255 → P4[k] ≠ Lib.decDigits u) → AdP none s.data.toList := fun h => by
          obtain ⟨o16, h16⟩ : ∃ o16, StyP hexD 65535 8 58 s.data.toList o16 := ⟨none, no_eight HL4.out.1 (by rw [HPe.out]; exact HLen.out)⟩
          have h4 : StyP Lib.decDigits 255 4 46 s.data.toList none := sty_bad (j := k) digs10 (by omega) (by omega) (by omega) m46 HL4.out.1 (by rw [HPe.out]; exact HL4.out.2) (by rw [HPe.out]; exact hkP) (by intro u hu; have := h u hu; simpa only [HPe.out] using this)
          have h8 := no_eight HL4.out.1 (by rw [HPe.out]; exact HLen.out)
          exact ad_of h4 h8
        have HNx : Hid (∀ n, _ → _) := hNx
        have HBd : Hid (_ → _) := hBd
        clear hR hNx hBd
        generalize P4[k] = word at *
        have hlti : (k : Int) < 4 := by omega
        have hkPi : (k : Int) < (P4.length : Int) := by omega
        have hlenN : Hid (ns.length = k) := hlen4
        clear hlen4 hkP
        go_wp2_with fail
        refine Calls.mono HR1.out ?_
        rintro e w3 ⟨n, ok, hn64, rfl, hb3, hyes, hfull⟩
        have HW3 : Hid (Below w2.heap.size w2 w3) := HW.out.trans (hb3.mono HW.out.size)
        have hown3 := ownsRow_below HO.out hb3
        have hsz3 : w2.heap.size ≤ w3.heap.size := HW3.out.size
        have HY : Hid (ok = true → word = Lib.decDigits n ∧ n ≤ 255) := hyes
        have HF : Hid (∀ u, u ≤ 255 → word = Lib.decDigits u → n = u ∧ ok = true) := hfull
        clear hb3 cw HO HW HR1 hyes hfull
        cases ok with
        | false =>
          have HN : Hid (AdP none s.data.toList) := HBd.out fun u hu e => by have := (HF.out u hu e).2; cases this
          clear hown3 hsz3 HY HF HNx HBd
          go_wp2
          go_ret2
          exact ⟨⟨none, HN.out, rfl⟩, HB2.out.trans (HW3.out.mono HB2.out.size)⟩
        | true =>
          have hn := (HY.out rfl).2
          have HA2 : Hid (AllD _ _ _ _ _) := HNx.out n (HY.out rfl)
          clear HY HF HNx HBd HA
          have hlx : (enc1 ns).length ≤ 100 := by rw [enc1_len, hlenN.out]; omega
          have HBy : Hid (byV (enc1 (ns ++ [n])) = byV (enc1 ns) ++ [.int .u8 (n : Int)]) := by
            unfold Hid
            rw [enc1_app, byV_app, UInt8.toNat_ofNat', Nat.mod_eq_of_lt (by omega)]
          have HLe : Hid ((enc1 (ns ++ [n])).length = (enc1 ns).length + 1) := by unfold Hid; rw [enc1_app]; simp
          go_wp2_with (at_builtin; refine wpList_append_own _ rfl _ _ 180 rfl w2.heap.size 5 i0 (.int .u8 0) 1 1 Tryz.underlying180 hi hz0 hz1 hz2 rfl (by decide) _ _ _ rfl (hown3.alloc _) ⟨w3.heap.size, 0, none⟩ 1 1 [.int .u8 (n : Int)] rfl rfl (cell_new1 _ _ _) (one_u8 _) (by unfold maxLen; omega) (by omega) (by simp; omega) ?_; intro v' w4 hown4 hgrow _)
          have HW4 : Hid (Below w2.heap.size w2 w4) := (HW3.out.alloc hsz3 _).grown hgrow (by simp; omega) (fun j e => (hown3.lt j e).1)
          have HO4' : Hid (w4.ownsRow w2.heap.size 5 1 v' (enc1 (ns ++ [n])).length (byV (enc1 (ns ++ [n])))) := by unfold Hid; rw [HBy.out, HLe.out]; exact hown4
          clear hgrow hown3 hown4 hsz3
          try go_wp2
          go_roundw
          case rel => exact ⟨k + 1, ns ++ [n], by go_num, by omega, HA2.out, HO4'.out, HW4.out⟩
          case measure => simp [intOf]; omega
      · obtain rfl : k = 4 := by omega
        have hcv := back_owned _ HO.out
        have HFin : Hid (AdP (some ⟨(enc1 ns).toArray⟩) s.data.toList) := ad_of (o16 := none) (sty_yes digs10 (by omega) (by omega) (by omega) m46 HL4.out.1 (by rw [HPe.out]; exact HA.out) (by rw [HPe.out]; exact HLen.out)) (no_eight HL4.out.1 (by rw [HPe.out]; exact HLen.out))
        clear hlen4
        go_wp2
        go_ret2
        exact ⟨⟨_, HFin.out, rfl⟩, HB2.out.trans (HW.out.mono HB2.out.size)⟩
  · have hl1 : ((P4.length : Int) == 4) = false := by rw [beq_eq_false_iff_ne]; omega
    have H4N : Hid (StyP Lib.decDigits 255 4 46 s.data.toList none) := sty_len digs10 (by omega) (by omega) (by omega) m46 HL4.out.1 (by rw [HPe.out]; exact HL4.out.2) (by rw [HPe.out]; exact hlen)
    clear hlen
    by_cases hlen : P8.length = 8
    · have hl2 : ((P8.length : Int) == 8) = true := by rw [beq_iff_eq]; omega
      have hl3 : ((P8.length : Int) != 8) = false := by simp; omega
      obtain ⟨g, rfl, hg, hcell⟩ := row_at HO8.out rfl (by omega)
      have HCe : Hid (∀ j (hj : j < P8.length), w2.cell? ⟨g, j, none⟩ = some (.string ⟨(P8[j]).toArray⟩)) := hcell
      have HG : Hid (g < w2.heap.size) := lt_of_cell (hcell 0 (by omega))
      have HLen : Hid (P8.length = 8) := hlen
      clear hg hcell hlen
      go_wp2_with fail
      go_loopw [6, 10, 11, 12] (fun x6 x7 xn xo wr => ∃ (k : Nat) (ns : List Nat), x7 = .int .i64 (k : Int) ∧ k ≤ 8 ∧ AllD hexD 65535 P8 ns k ∧ wr.ownsRow w2.heap.size 5 1 x6 (enc2 ns).length (byV (enc2 ns)) ∧ Below w2.heap.size w2 wr) (fun _ x7 _ _ _ => 8 - (intOf x7).toNat)
      case atStart => exact ⟨0, [], rfl, Nat.zero_le _, ⟨rfl, Nat.zero_le _, fun j h => by simp at h⟩, World.ownsRow_nil _ _ _ _, Below.refl _ _⟩
      case round =>
        obtain ⟨k, ns, rfl, hk, hall, hown, hbel⟩ := hrel
        obtain ⟨ad, c, rfl⟩ := slice_of_owns hown
        have HA : Hid (AllD _ _ _ _ _) := hall
        have HO : Hid (World.ownsRow _ _ _ _ _ _ _) := hown
        have HW : Hid (Below w2.heap.size w2 wr) := hbel
        clear hall hown hbel
        have hlen4 : ns.length = k := HA.out.1
        by_cases hlt : k < 8
        · have hkP : k < P8.length := by rw [HLen.out]; exact hlt
          have cw := (HW.out.cell (p := ⟨g, k, none⟩) HG.out).trans (HCe.out k hkP)
          have hR := HR16.out P8[k] (HP8.out _ (List.getElem_mem hkP)) wr
          have HR1 : Hid (Calls _ _ _ _ _) := hR
          have hNx : ∀ n, P8[k] = hexD n ∧ n ≤ 65535 → AllD hexD 65535 P8 (ns ++ [n]) (k + 1) := fun n h => HA.out.next hkP h
          have hBd : (∀ u, u ≤ 65535 → P8[k] ≠ hexD u) → AdP none s.data.toList := fun h => ad_of (o4 := none) (o16 := none) H4N.out (sty_bad (j := k) digs16 (by omega) (by omega) (by omega) m58 HL8.out.1 (by rw [HQe.out]; exact HL8.out.2) (by rw [HQe.out]; exact hkP) (by intro u hu; have := h u hu; simpa only [HQe.out] using this))
          have HNx : Hid (∀ n, _ → _) := hNx
          have HBd : Hid (_ → _) := hBd
          clear hR hNx hBd
          generalize P8[k] = word at *
          have hlti : (k : Int) < 8 := by omega
          have hkPi : (k : Int) < (P8.length : Int) := by omega
          have hlenN : Hid (ns.length = k) := hlen4
          clear hlen4 hkP
          go_wp2_with fail
          refine Calls.mono HR1.out ?_
          rintro e w3 ⟨n, ok, hn64, rfl, hb3, hyes, hfull⟩
          have HW3 : Hid (Below w2.heap.size w2 w3) := HW.out.trans (hb3.mono HW.out.size)
          have hown3 := ownsRow_below HO.out hb3
          have hsz3 : w2.heap.size ≤ w3.heap.size := HW3.out.size
          have HY : Hid (ok = true → word = hexD n ∧ n ≤ 65535) := hyes
          have HF : Hid (∀ u, u ≤ 65535 → word = hexD u → n = u ∧ ok = true) := hfull
          clear hb3 cw HO HW HR1 hyes hfull
          cases ok with
          | false =>
            have HN : Hid (AdP none s.data.toList) := HBd.out fun u hu e => by have := (HF.out u hu e).2; cases this
            clear hown3 hsz3 HY HF HNx HBd
            go_wp2
            go_ret2
            exact ⟨⟨none, HN.out, rfl⟩, HB2.out.trans (HW3.out.mono HB2.out.size)⟩
          | true =>
            have hn := (HY.out rfl).2
            have HA2 : Hid (AllD _ _ _ _ _) := HNx.out n (HY.out rfl)
            clear HY HF HNx HBd HA
            have hlx : (enc2 ns).length ≤ 100 := by rw [enc2_len, hlenN.out]; omega
            have HBy : Hid (byV (enc2 (ns ++ [n])) = byV (enc2 ns) ++ [.int .u8 ((n / 256 : Nat) : Int), .int .u8 ((n % 256 : Nat) : Int)]) := by
              unfold Hid
              rw [enc2_app, byV_app, byV_app, UInt8.toNat_ofNat', UInt8.toNat_ofNat', Nat.mod_eq_of_lt (a := n / 256) (by omega), Nat.mod_mod, List.append_assoc]; rfl
            have HLe : Hid ((enc2 (ns ++ [n])).length = (enc2 ns).length + 2) := by unfold Hid; rw [enc2_app]; simp
            have hh : IntKind.u8.wrap ((n : Int) / 256) = ((n / 256 : Nat) : Int) := by rw [IntKind.wrap_u8]; omega
            have hl : IntKind.u8.wrap (n : Int) = ((n % 256 : Nat) : Int) := by rw [IntKind.wrap_u8]; omega
            generalize n / 256 = na at *
            generalize n % 256 = nb at *
            go_wp2_with (at_builtin; refine wpList_append_own _ rfl _ _ 180 rfl w2.heap.size 5 i0 (.int .u8 0) 1 1 Tryz.underlying180 hi hz0 hz1 hz2 rfl (by decide) _ _ _ rfl (hown3.alloc _) ⟨w3.heap.size, 0, none⟩ 2 2 [.int .u8 (na : Int), .int .u8 (nb : Int)] rfl rfl (cell_new2 _ _ _ _) (two_u8 _ _) (by unfold maxLen; omega) (by omega) (by simp; omega) ?_; intro v' w4 hown4 hgrow _)
            have HW4 : Hid (Below w2.heap.size w2 w4) := (HW3.out.alloc hsz3 _).grown hgrow (by simp; omega) (fun j e => (hown3.lt j e).1)
            have HO4' : Hid (w4.ownsRow w2.heap.size 5 1 v' (enc2 (ns ++ [n])).length (byV (enc2 (ns ++ [n])))) := by unfold Hid; rw [HBy.out, HLe.out]; exact hown4
            clear hgrow hown3 hown4 hsz3
            try go_wp2
            go_roundw
            case rel => exact ⟨k + 1, ns ++ [n], by go_num, by omega, HA2.out, HO4'.out, HW4.out⟩
            case measure => simp [intOf]; omega
        · obtain rfl : k = 8 := by omega
          have hcv := back_owned _ HO.out
          have HFin : Hid (AdP (some ⟨(enc2 ns).toArray⟩) s.data.toList) := ad_of (o4 := none) H4N.out (sty_yes digs16 (by omega) (by omega) (by omega) m58 HL8.out.1 (by rw [HQe.out]; exact HA.out) (by rw [HQe.out]; exact HLen.out))
          clear hlen4
          go_wp2
          go_ret2
          exact ⟨⟨_, HFin.out, rfl⟩, HB2.out.trans (HW.out.mono HB2.out.size)⟩
    · have hl2 : ((P8.length : Int) == 8) = false := by rw [beq_eq_false_iff_ne]; omega
      have hl3 : ((P8.length : Int) != 8) = true := by simp; omega
      have HN : Hid (AdP none s.data.toList) := ad_of (o4 := none) (o16 := none) H4N.out (sty_len digs16 (by omega) (by omega) (by omega) m58 HL8.out.1 (by rw [HQe.out]; exact HL8.out.2) (by rw [HQe.out]; exact hlen))
      clear hlen hi hz0 hz1 hz2
      go_wp2
      go_ret2
      exact ⟨⟨none, HN.out, rfl⟩, HB2.out⟩
end Go.Proofs.YthaebbmekonacaaGreatDoor.Ad
set_option linter.unusedVariables false
set_option linter.unusedSimpArgs false
set_option maxRecDepth 100000
namespace Go.Proofs.YthaebbmekonacaaGreatDoor.Ad
open Go.RowKit
theorem fam_inv (l : List UInt8) (h : famOf l ≠ 0) : ∃ n : Nat, 1 ≤ n ∧ n ≤ 5 ∧ famOf l = n ∧ l = fwL.getD n [] := by
  unfold famOf at h ⊢
  by_cases h0 : ([] == l) = true
  · simp [h0] at h
  · by_cases h1 : ([118, 52] == l) = true
    · refine ⟨1, by omega, by omega, by simp [h0, h1], ?_⟩
      rw [← beq_iff_eq.1 h1]; rfl
    · by_cases h2 : ([118, 54] == l) = true
      · refine ⟨2, by omega, by omega, by simp [h0, h1, h2], ?_⟩
        rw [← beq_iff_eq.1 h2]; rfl
      · by_cases h3 : ([108, 52] == l) = true
        · refine ⟨3, by omega, by omega, by simp [h0, h1, h2, h3], ?_⟩
          rw [← beq_iff_eq.1 h3]; rfl
        · by_cases h4 : ([118, 112, 110, 52] == l) = true
          · refine ⟨4, by omega, by omega, by simp [h0, h1, h2, h3, h4], ?_⟩
            rw [← beq_iff_eq.1 h4]; rfl
          · by_cases h5 : ([118, 112, 110, 54] == l) = true
            · refine ⟨5, by omega, by omega, by simp [h0, h1, h2, h3, h4, h5], ?_⟩
              rw [← beq_iff_eq.1 h5]; rfl
            · simp [h0, h1, h2, h3, h4, h5] at h
set_option maxHeartbeats 2000000 in
theorem rfam_any (s : ByteArray) (w : World) : Calls Tryz.prog 96 #[.string s] w fun e w' => e = .returned (.int .i64 (famOf s.data.toList)) ∧ w' = w := by
  obtain ⟨l, hl⟩ : ∃ l, s.toList = l := ⟨_, rfl⟩
  have hl2 : s.data.toList = l := by rw [← hl, ByteArray.toList_eq]
  rw [hl2]
  clear hl2
  have HN : Hid (∀ n : Nat, 1 ≤ n → n ≤ 5 → ∀ W, _) := fun n h1 h2 W => rnameF n h1 h2 W
  by_cases h1 : ([118, 52] : List UInt8) = l
  · have HF : Hid (famOf l = 1) := by unfold Hid; rw [← h1]; decide +kernel
    have b1 : (([118, 52] : List UInt8) == l) = true := by rw [beq_iff_eq]; exact h1
    clear h1
    go_enter Tryz.func96, Tryz.ntmps96
    go_wp2
    refine wp_loop_rounds 1 ?_
    rw [rounds_succ]
    go_wp2_with fail
    refine Calls.mono (HN.out 1 (by decide) (by decide) _) ?_
    rintro e w1 ⟨rfl, hw⟩
    subst w1
    rw [show fwL.getD 1 [] = [118, 52] from rfl]
    go_wp2
    go_ret
    exact ⟨by rw [HF.out]; rfl, rfl⟩
  · have b1 : (([118, 52] : List UInt8) == l) = false := by rw [beq_eq_false_iff_ne]; exact h1
    by_cases h2 : ([118, 54] : List UInt8) = l
    · have HF : Hid (famOf l = 2) := by unfold Hid; rw [← h2]; decide +kernel
      have b1 : (([118, 52] : List UInt8) == l) = false := by rw [beq_eq_false_iff_ne]; exact h1
      have b2 : (([118, 54] : List UInt8) == l) = true := by rw [beq_iff_eq]; exact h2
      clear h1 h2
      go_enter Tryz.func96, Tryz.ntmps96
      go_wp2
      refine wp_loop_rounds 2 ?_
      rw [rounds_succ]
      go_wp2_with fail
      refine Calls.mono (HN.out 1 (by decide) (by decide) _) ?_
      rintro e w1 ⟨rfl, hw⟩
      subst w1
      rw [show fwL.getD 1 [] = [118, 52] from rfl]
      go_wp2_with fail
      rw [rounds_succ]
      go_wp2_with fail
      refine Calls.mono (HN.out 2 (by decide) (by decide) _) ?_
      rintro e w1 ⟨rfl, hw⟩
      subst w1
      rw [show fwL.getD 2 [] = [118, 54] from rfl]
      go_wp2
      go_ret
      exact ⟨by rw [HF.out]; rfl, rfl⟩
    · have b2 : (([118, 54] : List UInt8) == l) = false := by rw [beq_eq_false_iff_ne]; exact h2
      by_cases h3 : ([108, 52] : List UInt8) = l
      · have HF : Hid (famOf l = 3) := by unfold Hid; rw [← h3]; decide +kernel
        have b1 : (([118, 52] : List UInt8) == l) = false := by rw [beq_eq_false_iff_ne]; exact h1
        have b2 : (([118, 54] : List UInt8) == l) = false := by rw [beq_eq_false_iff_ne]; exact h2
        have b3 : (([108, 52] : List UInt8) == l) = true := by rw [beq_iff_eq]; exact h3
        clear h1 h2 h3
        go_enter Tryz.func96, Tryz.ntmps96
        go_wp2
        refine wp_loop_rounds 3 ?_
        rw [rounds_succ]
        go_wp2_with fail
        refine Calls.mono (HN.out 1 (by decide) (by decide) _) ?_
        rintro e w1 ⟨rfl, hw⟩
        subst w1
        rw [show fwL.getD 1 [] = [118, 52] from rfl]
        go_wp2_with fail
        rw [rounds_succ]
        go_wp2_with fail
        refine Calls.mono (HN.out 2 (by decide) (by decide) _) ?_
        rintro e w1 ⟨rfl, hw⟩
        subst w1
        rw [show fwL.getD 2 [] = [118, 54] from rfl]
        go_wp2_with fail
        rw [rounds_succ]
        go_wp2_with fail
        refine Calls.mono (HN.out 3 (by decide) (by decide) _) ?_
        rintro e w1 ⟨rfl, hw⟩
        subst w1
        rw [show fwL.getD 3 [] = [108, 52] from rfl]
        go_wp2
        go_ret
        exact ⟨by rw [HF.out]; rfl, rfl⟩
      · have b3 : (([108, 52] : List UInt8) == l) = false := by rw [beq_eq_false_iff_ne]; exact h3
        by_cases h4 : ([118, 112, 110, 52] : List UInt8) = l
        · have HF : Hid (famOf l = 4) := by unfold Hid; rw [← h4]; decide +kernel
          have b1 : (([118, 52] : List UInt8) == l) = false := by rw [beq_eq_false_iff_ne]; exact h1
          have b2 : (([118, 54] : List UInt8) == l) = false := by rw [beq_eq_false_iff_ne]; exact h2
          have b3 : (([108, 52] : List UInt8) == l) = false := by rw [beq_eq_false_iff_ne]; exact h3
          have b4 : (([118, 112, 110, 52] : List UInt8) == l) = true := by rw [beq_iff_eq]; exact h4
          clear h1 h2 h3 h4
          go_enter Tryz.func96, Tryz.ntmps96
          go_wp2
          refine wp_loop_rounds 4 ?_
          rw [rounds_succ]
          go_wp2_with fail
          refine Calls.mono (HN.out 1 (by decide) (by decide) _) ?_
          rintro e w1 ⟨rfl, hw⟩
          subst w1
          rw [show fwL.getD 1 [] = [118, 52] from rfl]
          go_wp2_with fail
          rw [rounds_succ]
          go_wp2_with fail
          refine Calls.mono (HN.out 2 (by decide) (by decide) _) ?_
          rintro e w1 ⟨rfl, hw⟩
          subst w1
          rw [show fwL.getD 2 [] = [118, 54] from rfl]
          go_wp2_with fail
          rw [rounds_succ]
          go_wp2_with fail
          refine Calls.mono (HN.out 3 (by decide) (by decide) _) ?_
          rintro e w1 ⟨rfl, hw⟩
          subst w1
          rw [show fwL.getD 3 [] = [108, 52] from rfl]
          go_wp2_with fail
          rw [rounds_succ]
          go_wp2_with fail
          refine Calls.mono (HN.out 4 (by decide) (by decide) _) ?_
          rintro e w1 ⟨rfl, hw⟩
          subst w1
          rw [show fwL.getD 4 [] = [118, 112, 110, 52] from rfl]
          go_wp2
          go_ret
          exact ⟨by rw [HF.out]; rfl, rfl⟩
        · have b4 : (([118, 112, 110, 52] : List UInt8) == l) = false := by rw [beq_eq_false_iff_ne]; exact h4
          by_cases h5 : ([118, 112, 110, 54] : List UInt8) = l
          · have HF : Hid (famOf l = 5) := by unfold Hid; rw [← h5]; decide +kernel
            have b1 : (([118, 52] : List UInt8) == l) = false := by rw [beq_eq_false_iff_ne]; exact h1
            have b2 : (([118, 54] : List UInt8) == l) = false := by rw [beq_eq_false_iff_ne]; exact h2
            have b3 : (([108, 52] : List UInt8) == l) = false := by rw [beq_eq_false_iff_ne]; exact h3
            have b4 : (([118, 112, 110, 52] : List UInt8) == l) = false := by rw [beq_eq_false_iff_ne]; exact h4
            have b5 : (([118, 112, 110, 54] : List UInt8) == l) = true := by rw [beq_iff_eq]; exact h5
            clear h1 h2 h3 h4 h5
            go_enter Tryz.func96, Tryz.ntmps96
            go_wp2
            refine wp_loop_rounds 5 ?_
            rw [rounds_succ]
            go_wp2_with fail
            refine Calls.mono (HN.out 1 (by decide) (by decide) _) ?_
            rintro e w1 ⟨rfl, hw⟩
            subst w1
            rw [show fwL.getD 1 [] = [118, 52] from rfl]
            go_wp2_with fail
            rw [rounds_succ]
            go_wp2_with fail
            refine Calls.mono (HN.out 2 (by decide) (by decide) _) ?_
            rintro e w1 ⟨rfl, hw⟩
            subst w1
            rw [show fwL.getD 2 [] = [118, 54] from rfl]
            go_wp2_with fail
            rw [rounds_succ]
            go_wp2_with fail
            refine Calls.mono (HN.out 3 (by decide) (by decide) _) ?_
            rintro e w1 ⟨rfl, hw⟩
            subst w1
            rw [show fwL.getD 3 [] = [108, 52] from rfl]
            go_wp2_with fail
            rw [rounds_succ]
            go_wp2_with fail
            refine Calls.mono (HN.out 4 (by decide) (by decide) _) ?_
            rintro e w1 ⟨rfl, hw⟩
            subst w1
            rw [show fwL.getD 4 [] = [118, 112, 110, 52] from rfl]
            go_wp2_with fail
            rw [rounds_succ]
            go_wp2_with fail
            refine Calls.mono (HN.out 5 (by decide) (by decide) _) ?_
            rintro e w1 ⟨rfl, hw⟩
            subst w1
            rw [show fwL.getD 5 [] = [118, 112, 110, 54] from rfl]
            go_wp2
            go_ret
            exact ⟨by rw [HF.out]; rfl, rfl⟩
          · have b5 : (([118, 112, 110, 54] : List UInt8) == l) = false := by rw [beq_eq_false_iff_ne]; exact h5
            have HF : Hid (famOf l = 0) := by
              by_cases e : famOf l = 0
              · exact e
              · obtain ⟨n, n1, n5, _, q⟩ := fam_inv l e
                rcases (show n = 1 ∨ n = 2 ∨ n = 3 ∨ n = 4 ∨ n = 5 by omega) with rfl | rfl | rfl | rfl | rfl
                · exact absurd q.symm h1
                · exact absurd q.symm h2
                · exact absurd q.symm h3
                · exact absurd q.symm h4
                · exact absurd q.symm h5
            clear h1 h2 h3 h4 h5
            go_enter Tryz.func96, Tryz.ntmps96
            go_wp2
            refine wp_loop_rounds 6 ?_
            rw [rounds_succ]
            go_wp2_with fail
            refine Calls.mono (HN.out 1 (by decide) (by decide) _) ?_
            rintro e w1 ⟨rfl, hw⟩
            subst w1
            rw [show fwL.getD 1 [] = [118, 52] from rfl]
            go_wp2_with fail
            rw [rounds_succ]
            go_wp2_with fail
            refine Calls.mono (HN.out 2 (by decide) (by decide) _) ?_
            rintro e w1 ⟨rfl, hw⟩
            subst w1
            rw [show fwL.getD 2 [] = [118, 54] from rfl]
            go_wp2_with fail
            rw [rounds_succ]
            go_wp2_with fail
            refine Calls.mono (HN.out 3 (by decide) (by decide) _) ?_
            rintro e w1 ⟨rfl, hw⟩
            subst w1
            rw [show fwL.getD 3 [] = [108, 52] from rfl]
            go_wp2_with fail
            rw [rounds_succ]
            go_wp2_with fail
            refine Calls.mono (HN.out 4 (by decide) (by decide) _) ?_
            rintro e w1 ⟨rfl, hw⟩
            subst w1
            rw [show fwL.getD 4 [] = [118, 112, 110, 52] from rfl]
            go_wp2_with fail
            rw [rounds_succ]
            go_wp2_with fail
            refine Calls.mono (HN.out 5 (by decide) (by decide) _) ?_
            rintro e w1 ⟨rfl, hw⟩
            subst w1
            rw [show fwL.getD 5 [] = [118, 112, 110, 54] from rfl]
            go_wp2_with fail
            rw [rounds_succ]
            go_wp2
            go_ret
            exact ⟨by rw [HF.out]; rfl, rfl⟩
end Go.Proofs.YthaebbmekonacaaGreatDoor.Ad
