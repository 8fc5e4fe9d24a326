/-
  The reference's SameInts and sameKept, of lists that are alike.
-/
import Derived.Test.YtlhnfejgkhilkaaDoorV1
import Derived.Laws.StructEq
set_option linter.unusedVariables false
set_option linter.unusedSimpArgs false
namespace Go.Proofs.YtlhnfejgkhilkaaDoor
open Go.RowKit
set_option maxRecDepth 100000 in
set_option maxHeartbeats 1600000 in
theorem same_ints (v u : Value) (L : List Int) (w : World) (hv : IntsAt w v L) (hu : IntsAt w u L) (hlen : (L.length : Int) ≤ 1152921504606846976) :
    Calls Tryd.prog 20 #[v, u] w fun e w' => e = .returned (.bool true) ∧ ∃ m, w' = w.drewN m := by
  obtain ⟨ad, b, off, cap, rfl, had, hcap, hrow⟩ := hv
  obtain ⟨ad2, b2, off2, cap2, rfl, had2, hcap2, hrow2⟩ := hu
  have HR : Hid (_ : Prop) := hrow
  have HS : Hid (_ : Prop) := hrow2
  clear hrow hrow2
  go_enter Tryd.func20, Tryd.ntmps20
  go_wp2
  go_loopw [5] (fun i wr => ∃ (k : Nat), k ≤ L.length ∧ i = .int .i64 k ∧ ∃ m, wr = w.drewN m) (fun i _ => L.length - (intOf i).toNat)
  case atStart => exact ⟨0, Nat.zero_le _, rfl, 0, rfl⟩
  case round =>
    obtain ⟨k, hk, rfl, m, hm⟩ := hrel
    have HM : Hid (wr = w.drewN m) := hm
    have HB : Hid (Below w.heap.size w wr) := by unfold Hid; rw [hm]; exact below_drewN (Below.refl _ _) m
    clear hm
    by_cases hlt : k < L.length
    · obtain rfl : ad = some ⟨b, off, none⟩ := by
        rcases had with h | h
        · exact h
        · omega
      obtain rfl : ad2 = some ⟨b2, off2, none⟩ := by
        rcases had2 with h | h
        · exact h
        · omega
      have c0 := (HB.out.cell (p := ⟨b, off + k, none⟩) (lt_of_cell (HR.out k hlt))).trans (HR.out k hlt)
      have d0 := (HB.out.cell (p := ⟨b2, off2 + k, none⟩) (lt_of_cell (HS.out k hlt))).trans (HS.out k hlt)
      generalize L[k] = f at *
      have i1 : (k : Int) < (L.length : Int) := by omega
      go_wp2
      go_region
      go_wp2
      go_roundw
      case rel => exact ⟨k + 1, by omega, by go_num, m + 1, by rw [HM.out]; exact World.drewN_drewN w m 1⟩
      case measure => simp [intOf]; omega
    · have i1 : ¬ ((k : Int) < (L.length : Int)) := by omega
      go_wp2
      go_ret
      exact ⟨rfl, m, HM.out⟩
set_option maxRecDepth 100000 in
set_option maxHeartbeats 1600000 in
theorem same_kepts (v u : Value) (L : List Kp) (w : World) (hv : KeptsAt w v L) (hu : KeptsAt w u L) (hlen : (L.length : Int) ≤ 1152921504606846976) :
    Calls Tryd.prog 31 #[v, u] w fun e w' => e = .returned (.bool true) ∧ ∃ m, w' = w.drewN m := by
  obtain ⟨ad, b, off, cap, rfl, had, hcap, hrow⟩ := hv
  obtain ⟨ad2, b2, off2, cap2, rfl, had2, hcap2, hrow2⟩ := hu
  have HR : Hid (_ : Prop) := hrow
  have HS : Hid (_ : Prop) := hrow2
  clear hrow hrow2
  go_enter Tryd.func31, Tryd.ntmps31
  go_wp2
  go_loopw [5] (fun i wr => ∃ (k : Nat), k ≤ L.length ∧ i = .int .i64 k ∧ ∃ m, wr = w.drewN m) (fun i _ => L.length - (intOf i).toNat)
  case atStart => exact ⟨0, Nat.zero_le _, rfl, 0, rfl⟩
  case round =>
    obtain ⟨k, hk, rfl, m, hm⟩ := hrel
    have HM : Hid (wr = w.drewN m) := hm
    have HB : Hid (Below w.heap.size w wr) := by unfold Hid; rw [hm]; exact below_drewN (Below.refl _ _) m
    clear hm
    by_cases hlt : k < L.length
    · obtain rfl : ad = some ⟨b, off, none⟩ := by
        rcases had with h | h
        · exact h
        · omega
      obtain rfl : ad2 = some ⟨b2, off2, none⟩ := by
        rcases had2 with h | h
        · exact h
        · omega
      have c0 := (HB.out.cell (p := ⟨b, off + k * 2, none⟩) (lt_of_cell (HR.out k hlt).1)).trans (HR.out k hlt).1
      have c1 := (HB.out.cell (p := ⟨b, off + k * 2 + 1, none⟩) (lt_of_cell (HR.out k hlt).2)).trans (HR.out k hlt).2
      have d0 := (HB.out.cell (p := ⟨b2, off2 + k * 2, none⟩) (lt_of_cell (HS.out k hlt).1)).trans (HS.out k hlt).1
      have d1 := (HB.out.cell (p := ⟨b2, off2 + k * 2 + 1, none⟩) (lt_of_cell (HS.out k hlt).2)).trans (HS.out k hlt).2
      generalize L[k].f = f at *
      generalize L[k].k = g at *
      have i1 : (k : Int) < (L.length : Int) := by omega
      go_wp2
      go_region
      go_wp2
      go_roundw
      case rel => exact ⟨k + 1, by omega, by go_num, m + 1, by rw [HM.out]; exact World.drewN_drewN w m 1⟩
      case measure => simp [intOf]; omega
    · have i1 : ¬ ((k : Int) < (L.length : Int)) := by omega
      go_wp2
      go_ret
      exact ⟨rfl, m, HM.out⟩
end Go.Proofs.YtlhnfejgkhilkaaDoor
