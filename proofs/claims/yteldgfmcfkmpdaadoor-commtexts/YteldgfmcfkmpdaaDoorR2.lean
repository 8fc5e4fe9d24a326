/-
  The reference's Read, at base 10 up to 65535.
-/
import Derived.Test.YteldgfmcfkmpdaaDoorR1
import Derived.Test.YteldgfmcfkmpdaaDoorP2
namespace Go.Proofs.YteldgfmcfkmpdaaDoor
open Go.RowKit
/-- The number of the first digits. -/
def pv (l : List UInt8) (i : Nat) : Nat := (l.take i).foldl (fun a c => a * 10 + (c.toNat - 48)) 0
theorem pv_succ (l : List UInt8) (i : Nat) (h : i < l.length) : pv l (i + 1) = pv l i * 10 + (l[i].toNat - 48) := by
  unfold pv; rw [List.take_succ_eq_append_getElem h, List.foldl_append]; rfl
theorem pv_all (u : Nat) : pv (Lib.decDigits u) (Lib.decDigits u).length = u ∧ ∀ i, pv (Lib.decDigits u) i ≤ u := by
  induction u using Nat.strongRecOn with
  | _ u ih =>
    by_cases h : u < 10
    · have e : Lib.decDigits u = [UInt8.ofNat (48 + u)] := by rw [Lib.decDigits, dif_pos h]
      rw [e]
      refine ⟨by simp [pv]; omega, fun i => ?_⟩
      cases i with
      | zero => simp [pv]
      | succ i => simp [pv]; omega
    · have e : Lib.decDigits u = Lib.decDigits (u / 10) ++ [UInt8.ofNat (48 + u % 10)] := by rw [Lib.decDigits, dif_neg h]
      obtain ⟨h1, h2⟩ := ih (u / 10) (by omega)
      have hfull : pv (Lib.decDigits u) (Lib.decDigits u).length = u := by
        unfold pv at h1 ⊢
        rw [List.take_length] at h1 ⊢
        rw [e, List.foldl_append, h1]
        simp
        omega
      refine ⟨hfull, fun i => ?_⟩
      by_cases hi : i ≤ (Lib.decDigits (u / 10)).length
      · have : pv (Lib.decDigits u) i = pv (Lib.decDigits (u / 10)) i := by unfold pv; rw [e, List.take_append_of_le_length hi]
        rw [this]
        have := h2 i
        omega
      · have : pv (Lib.decDigits u) i = u := by
          have hl : (Lib.decDigits u).length ≤ i := by rw [e]; simp; omega
          unfold pv at hfull ⊢
          rw [List.take_length] at hfull
          rw [List.take_of_length_le hl]
          exact hfull
        omega
theorem digB_list {s : ByteArray} {u : Nat} (h : s = digB u) : s.data.toList = Lib.decDigits u := by rw [h]; simp [digB]
/-- What Read answers. -/
def ReadOk (s : ByteArray) (w : World) (e : Ending) (w' : World) : Prop :=
  ∃ (v : Nat) (b : Bool), v < 65536 ∧ e = .returned (.tuple #[.int .u64 (v : Int), .bool b]) ∧ Below w.heap.size w w' ∧ ∀ u, u < 65536 → s = digB u → v = u ∧ b = true
set_option maxRecDepth 100000 in
set_option maxHeartbeats 1600000 in
theorem read_any (s : ByteArray) (w : World) (hs : s.size ≤ 281474976710656) :
    Calls Tryd.prog 56 #[.string s, .int .u64 10, .int .u64 65535] w (ReadOk s w) := by
  by_cases h0 : s.size = 0
  · have HE : Hid (ReadOk s w (.returned (.tuple #[.int .u64 0, .bool false])) w) := ⟨0, false, by omega, rfl, Below.refl _ _, fun u _ h => by
      have := congrArg List.length (digB_list h)
      have h2 : s.data.toList.length = s.size := by simp
      have := List.length_pos_iff.mpr (digits_ne u)
      omega⟩
    have h0i : (s.size : Int) = 0 := by omega
    go_enter Tryd.func56, Tryd.ntmps56
    go_wp2
    go_ret2
    exact HE.out
  by_cases h20 : 20 < s.size
  · have HE : Hid (ReadOk s w (.returned (.tuple #[.int .u64 0, .bool false])) w) := ⟨0, false, by omega, rfl, Below.refl _ _, fun u hu h => by
      have := congrArg List.length (digB_list h)
      have h2 : s.data.toList.length = s.size := by simp
      have := dig_le u (by omega)
      omega⟩
    have h0i : ¬ ((s.size : Int) = 0) := by omega
    have h20i : (20 : Int) < (s.size : Int) := by omega
    go_enter Tryd.func56, Tryd.ntmps56
    go_wp2
    go_ret2
    exact HE.out
  have h0i : ¬ ((s.size : Int) = 0) := by omega
  have h20i : ¬ ((20 : Int) < (s.size : Int)) := by omega
  have HNo : Hid (∀ w', Below w.heap.size w w' → (∀ u, u < 65536 → ¬ (s = digB u)) → ReadOk s w (.returned (.tuple #[.int .u64 0, .bool false])) w') := fun w' hb h => ⟨0, false, by omega, rfl, hb, fun u hu e => absurd e (h u hu)⟩
  go_enter Tryd.func56, Tryd.ntmps56
  go_wp2
  clear h0i h20i
  go_loopw [8, 9] (fun t i wr => ∃ (k v : Nat), k ≤ s.size ∧ i = .int .i64 k ∧ t = .int .u64 (v : Int) ∧ v ≤ 65535 ∧ v = pv s.data.toList k ∧ Below w.heap.size w wr) (fun _ i _ => s.size - (intOf i).toNat)
  case atStart => exact ⟨0, 0, by omega, rfl, rfl, by omega, by simp [pv], Below.refl _ _⟩
  case round =>
    obtain ⟨k, v, hk, rfl, rfl, hv, hpv, hb⟩ := hrel
    have HB : Hid (Below w.heap.size w wr) := hb
    have HPV : Hid (v = pv s.data.toList k) := hpv
    clear hb hpv
    by_cases hlt : k < s.size
    · have hll : k < s.data.toList.length := by simpa using hlt
      have HS : Hid (pv s.data.toList (k + 1) = pv s.data.toList k * 10 + (s[k].toNat - 48)) := pv_succ _ k hll
      have HDig : Hid (∀ u, s = digB u → 48 ≤ s[k].toNat ∧ s[k].toNat ≤ 57) := fun u e => by
        have hm : s[k] ∈ s.data.toList := by
          have : s.data.toList[k] = s[k] := rfl
          rw [← this]; exact List.getElem_mem hll
        rw [digB_list e] at hm
        exact digits_are u _ hm
      have HLe : Hid (∀ u, s = digB u → pv s.data.toList (k + 1) ≤ u) := fun u e => by rw [digB_list e]; exact (pv_all u).2 _
      have h8 := s[k].toNat_lt
      by_cases hd : 48 ≤ s[k].toNat ∧ s[k].toNat ≤ 57
      · have g1 : (48 : Int) ≤ (s[k].toNat : Int) := by omega
        have g2 : (s[k].toNat : Int) ≤ 57 := by omega
        by_cases hgt : (65535 - (s[k].toNat - 48)) / 10 < v
        · have HNN : Hid (∀ u, u < 65536 → ¬ (s = digB u)) := fun u hu e => by
            have h1 := HLe.out u e
            have h2 := HS.out
            have h3 := HPV.out
            omega
          have g3 : (65535 - ((s[k].toNat : Int) - 48)) / 10 < (v : Int) := by omega
          have g4 : ¬ (10 ≤ (s[k].toNat : Int) - 48) := by omega
          go_wp2
          go_ret2
          exact HNo.out _ HB.out HNN.out
        · have g3 : ¬ ((65535 - ((s[k].toNat : Int) - 48)) / 10 < (v : Int)) := by omega
          have g4 : ¬ (10 ≤ (s[k].toNat : Int) - 48) := by omega
          have HV : Hid (v * 10 + (s[k].toNat - 48) = pv s.data.toList (k + 1)) := by unfold Hid; rw [HS.out, ← HPV.out]
          go_wp2
          go_roundw
          case rel => exact ⟨k + 1, v * 10 + (s[k].toNat - 48), by omega, by go_num, by go_num, by omega, HV.out, HB.out⟩
          case measure => simp [intOf]; omega
      · have HNN : Hid (∀ u, u < 65536 → ¬ (s = digB u)) := fun u _ e => hd (HDig.out u e)
        by_cases h48 : s[k].toNat < 48
        · have g1 : ¬ ((48 : Int) ≤ (s[k].toNat : Int)) := by omega
          have g2 : ¬ ((97 : Int) ≤ (s[k].toNat : Int)) := by omega
          go_wp2
          go_ret2
          exact HNo.out _ HB.out HNN.out
        · have g1 : (48 : Int) ≤ (s[k].toNat : Int) := by omega
          have g2 : ¬ ((s[k].toNat : Int) ≤ 57) := by omega
          by_cases h97 : 97 ≤ s[k].toNat ∧ s[k].toNat ≤ 102
          · have g3 : (97 : Int) ≤ (s[k].toNat : Int) := by omega
            have g4 : (s[k].toNat : Int) ≤ 102 := by omega
            have g5 : (10 : Int) ≤ (s[k].toNat : Int) - 97 + 10 := by omega
            go_wp2
            go_ret2
            exact HNo.out _ HB.out HNN.out
          · by_cases h97' : s[k].toNat < 97
            · have g3 : ¬ ((97 : Int) ≤ (s[k].toNat : Int)) := by omega
              go_wp2
              go_ret2
              exact HNo.out _ HB.out HNN.out
            · have g3 : (97 : Int) ≤ (s[k].toNat : Int) := by omega
              have g4 : ¬ ((s[k].toNat : Int) ≤ 102) := by omega
              go_wp2
              go_ret2
              exact HNo.out _ HB.out HNN.out
    · obtain rfl : k = s.size := by omega
      have HFin : Hid (∀ w', Below w.heap.size w w' → ReadOk s w (.returned (.tuple #[.int .u64 (v : Int), .bool ((digB v).toList == s.toList)])) w') := fun w' hb => ⟨v, _, by omega, rfl, hb, fun u _ e => by
        have h1 := HPV.out
        have h2 : s.size = (Lib.decDigits u).length := by rw [← digB_list e]; simp
        rw [h2, digB_list e, (pv_all u).1] at h1
        subst h1
        exact ⟨rfl, by rw [e]; simp⟩⟩
      go_wp2_with fail
      refine (rnumber v (by omega) wr).mono ?_
      rintro e w1 ⟨rfl, hb1⟩
      generalize digB v = dg at *
      go_wp2
      go_ret2
      exact HFin.out _ (HB.out.trans (hb1.mono HB.out.size))
end Go.Proofs.YteldgfmcfkmpdaaDoor
