/-
  The reference's SameInts and sameKept, of lists that are alike.
-/
import Derived.Test.YtlhnfejgkhilkaaGreatDoorVa
import Derived.Laws.StructEq
import Derived.BigQuiet
set_option linter.unusedVariables false
set_option linter.unusedSimpArgs false
namespace Go.Proofs.YtlhnfejgkhilkaaGreatDoor
open Go.RowKit
set_option maxRecDepth 100000 in
set_option maxHeartbeats 1600000 in
theorem same_ints (v u : Value) (L : List Int) (w : World) (hv : IntsAt w v L) (hu : IntsAt w u L) (hlen : (L.length : Int) ≤ 1152921504606846976) :
    Calls Tryz.prog 21 #[v, u] w fun e w' => e = .returned (.bool true) ∧ ∃ m, w' = w.drewN m := by
  obtain ⟨ad, b, off, cap, rfl, had, hcap, hrow⟩ := hv
  obtain ⟨ad2, b2, off2, cap2, rfl, had2, hcap2, hrow2⟩ := hu
  have HR : Hid (_ : Prop) := hrow
  have HS : Hid (_ : Prop) := hrow2
  clear hrow hrow2
  go_enter Tryz.func21, Tryz.ntmps21
  go_wp2
  go_loopw [5] (fun i wr => ∃ (k : Nat), k ≤ L.length ∧ i = .int .i64 k ∧ ∃ m, wr = w.drewN m) (fun i _ => L.length - (intOf i).toNat)
  case atStart => exact ⟨0, Nat.zero_le _, rfl, 0, rfl⟩
  case round =>
    obtain ⟨k, hk, rfl, m, hm⟩ := hrel
    have HM : Hid (wr = w.drewN m) := hm
    have HB : Hid (Below w.heap.size w wr) := by unfold Hid; rw [hm]; exact below_drewN (Below.refl _ _) m
    clear hm
    by_cases hlt : k < L.length
    · obtain rfl : ad = some ⟨b, off, none⟩ := by
        rcases had with h | h
        · exact h
        · omega
      obtain rfl : ad2 = some ⟨b2, off2, none⟩ := by
        rcases had2 with h | h
        · exact h
        · omega
      have c0 := (HB.out.cell (p := ⟨b, off + k, none⟩) (lt_of_cell (HR.out k hlt))).trans (HR.out k hlt)
      have d0 := (HB.out.cell (p := ⟨b2, off2 + k, none⟩) (lt_of_cell (HS.out k hlt))).trans (HS.out k hlt)
      generalize L[k] = f at *
      have i1 : (k : Int) < (L.length : Int) := by omega
      go_wp2
      go_region
      go_wp2
      go_roundw
      case rel => exact ⟨k + 1, by omega, by go_num, m + 1, by rw [HM.out]; exact World.drewN_drewN w m 1⟩
      case measure => simp [intOf]; omega
    · have i1 : ¬ ((k : Int) < (L.length : Int)) := by omega
      go_wp2
      go_ret
      exact ⟨rfl, m, HM.out⟩
set_option maxRecDepth 100000 in
set_option maxHeartbeats 1600000 in
theorem same_kepts (v u : Value) (L : List Kp) (w : World) (hv : KeptsAt w v L) (hu : KeptsAt w u L) (hlen : (L.length : Int) ≤ 1152921504606846976) :
    Calls Tryz.prog 22 #[v, u] w fun e w' => e = .returned (.bool true) ∧ ∃ m, w' = w.drewN m := by
  obtain ⟨ad, b, off, cap, rfl, had, hcap, hrow⟩ := hv
  obtain ⟨ad2, b2, off2, cap2, rfl, had2, hcap2, hrow2⟩ := hu
  have HR : Hid (_ : Prop) := hrow
  have HS : Hid (_ : Prop) := hrow2
  clear hrow hrow2
  go_enter Tryz.func22, Tryz.ntmps22
  go_wp2
  go_loopw [5] (fun i wr => ∃ (k : Nat), k ≤ L.length ∧ i = .int .i64 k ∧ ∃ m, wr = w.drewN m) (fun i _ => L.length - (intOf i).toNat)
  case atStart => exact ⟨0, Nat.zero_le _, rfl, 0, rfl⟩
  case round =>
    obtain ⟨k, hk, rfl, m, hm⟩ := hrel
    have HM : Hid (wr = w.drewN m) := hm
    have HB : Hid (Below w.heap.size w wr) := by unfold Hid; rw [hm]; exact below_drewN (Below.refl _ _) m
    clear hm
    by_cases hlt : k < L.length
    · obtain rfl : ad = some ⟨b, off, none⟩ := by
        rcases had with h | h
        · exact h
        · omega
      obtain rfl : ad2 = some ⟨b2, off2, none⟩ := by
        rcases had2 with h | h
        · exact h
        · omega
      have c0 := (HB.out.cell (p := ⟨b, off + k * 2, none⟩) (lt_of_cell (HR.out k hlt).1)).trans (HR.out k hlt).1
      have c1 := (HB.out.cell (p := ⟨b, off + k * 2 + 1, none⟩) (lt_of_cell (HR.out k hlt).2)).trans (HR.out k hlt).2
      have d0 := (HB.out.cell (p := ⟨b2, off2 + k * 2, none⟩) (lt_of_cell (HS.out k hlt).1)).trans (HS.out k hlt).1
      have d1 := (HB.out.cell (p := ⟨b2, off2 + k * 2 + 1, none⟩) (lt_of_cell (HS.out k hlt).2)).trans (HS.out k hlt).2
      generalize L[k].f = f at *
      generalize L[k].k = g at *
      have i1 : (k : Int) < (L.length : Int) := by omega
      go_wp2
      go_region
      go_wp2
      go_roundw
      case rel => exact ⟨k + 1, by omega, by go_num, m + 1, by rw [HM.out]; exact World.drewN_drewN w m 1⟩
      case measure => simp [intOf]; omega
    · have i1 : ¬ ((k : Int) < (L.length : Int)) := by omega
      go_wp2
      go_ret
      exact ⟨rfl, m, HM.out⟩
end Go.Proofs.YtlhnfejgkhilkaaGreatDoor

set_option linter.unusedVariables false
set_option linter.unusedSimpArgs false
namespace Go.Proofs.YtlhnfejgkhilkaaGreatDoor
open Go.RowKit
/-- Two boxed opens, and what is below. -/
structure Ck2 (w wr : World) (C D : Array Value) : Prop where
  row : wr.heap[w.heap.size]? = some (.cells C 27 (0, 0))
  row2 : wr.heap[w.heap.size + 1]? = some (.cells D 27 (0, 0))
  bel : Below w.heap.size w wr
theorem Ck2.later {w wr w' : World} {C D : Array Value} (h : Ck2 w wr C D) (hb : Below wr.heap.size wr w') : Ck2 w w' C D :=
  ⟨(hb.block _ (lt_of_heap h.row)).trans h.row, (hb.block _ (lt_of_heap h.row2)).trans h.row2, h.bel.trans (hb.mono h.bel.size)⟩
theorem Ck2.drewN {w wr : World} {C D : Array Value} (h : Ck2 w wr C D) (n : Nat) : Ck2 w (wr.drewN n) C D := h.later (below_drewN (Below.refl _ _) n)
set_option maxRecDepth 100000 in
set_option maxHeartbeats 6400000 in
theorem rsame_yes (o : Opn) (vf va vk uf ua uk : Value) (w : World) (h : ListsAt w o vf va vk) (h2 : ListsAt w o uf ua uk)
    (lf : (o.fams.length : Int) ≤ 1152921504606846976) (la : (o.adds.length : Int) ≤ 1152921504606846976) (lk : (o.kept.length : Int) ≤ 1152921504606846976) :
    Calls Tryz.prog 10 #[opV o vf va vk, opV o uf ua uk] w fun e w' => e = .returned (.bool true) ∧ Below w.heap.size w w' := by
  have H1 : Hid (ListsAt w o vf va vk) := h
  have H2 : Hid (ListsAt w o uf ua uk) := h2
  obtain ⟨aad, ab, aoff, acap, rfl, ahad, ahcap, ahrow⟩ := h.a
  obtain ⟨cad, cb, coff, ccap, rfl, chad, chcap, chrow⟩ := h2.a
  have HA : Hid (_ : Prop) := ahrow
  have HC : Hid (_ : Prop) := chrow
  clear h h2 ahrow chrow
  have hck : Ck2 w ((w.alloc (.cells (opC o vf (.slice aad o.adds.length acap) vk) 27)).alloc (.cells (opC o uf (.slice cad o.adds.length ccap) uk) 27)) (opC o vf (.slice aad o.adds.length acap) vk) (opC o uf (.slice cad o.adds.length ccap) uk) :=
    ⟨hp_up (hp_new rfl), hp_new (by simp), ((Below.refl _ _).alloc (Nat.le_refl _) _).alloc (by simp) _⟩
  have HC0 : Hid (Ck2 _ _ _ _) := hck
  have HF : Hid (∀ W, Below w.heap.size w W → Calls Tryz.prog 21 #[vf, uf] W fun e w' => e = .returned (.bool true) ∧ ∃ m, w' = W.drewN m) := fun W hb => same_ints _ _ _ _ (H1.out.f.below hb) (H2.out.f.below hb) lf
  have HK : Hid (∀ W, Below w.heap.size w W → Calls Tryz.prog 22 #[vk, uk] W fun e w' => e = .returned (.bool true) ∧ ∃ m, w' = W.drewN m) := fun W hb => same_kepts _ _ _ _ (H1.out.k.below hb) (H2.out.k.below hb) lk
  clear hck H1 H2 lf lk
  obtain ⟨asn, hold, id, fams, four, refr, adds, gr, again, time, kept⟩ := o
  unfold opC at HC0
  unfold opV opC
  dsimp only at *
  go_enter Tryz.func10, Tryz.ntmps10
  go_wp2_with (first | (go_at_call 21; refine Calls.mono (HF.out _ (by first | exact HC0.out.bel | exact (HC0.out.drewN _).bel)) ?_; rintro e w' ⟨rfl, m, rfl⟩) | (go_at_call 22; refine Calls.mono (HK.out _ (by first | exact (HC0.out.drewN _).bel | exact ((HC0.out.drewN _).drewN _).bel)) ?_; rintro e w' ⟨rfl, m2, rfl⟩))
  refine with_world (fun W => Ck2 w W _ _) (by first | exact HC0.out.drewN _ | exact (HC0.out.drewN _).drewN _) ?_
  intro W0 hC0
  clear HC0
  have HCK : Hid (Ck2 w W0 _ _) := hC0
  clear hC0
  go_loopw [5] (fun i wr => ∃ (k : Nat), k ≤ adds.length ∧ i = .int .i64 k ∧ Ck2 w wr _ _) (fun i _ => adds.length - (intOf i).toNat)
  case atStart => exact ⟨0, Nat.zero_le _, rfl, HCK.out⟩
  case round =>
    obtain ⟨k, hk, rfl, hck⟩ := hrel
    clear HCK
    have HCK : Hid (Ck2 w wr _ _) := hck
    have c6 : wr.cell? ⟨w.heap.size, 6, none⟩ = some (.slice aad adds.length acap) := cl_row hck.row rfl
    have d6 : wr.cell? ⟨w.heap.size + 1, 6, none⟩ = some (.slice cad adds.length ccap) := cl_row hck.row2 rfl
    by_cases hlt : k < adds.length
    · obtain rfl : aad = some ⟨ab, aoff, none⟩ := by
        rcases ahad with h | h
        · exact h
        · omega
      obtain rfl : cad = some ⟨cb, coff, none⟩ := by
        rcases chad with h | h
        · exact h
        · omega
      have x0 := (hck.bel.cell (p := ⟨ab, aoff + k * 3, none⟩) (lt_of_cell (HA.out k hlt).1)).trans (HA.out k hlt).1
      have x1 := (hck.bel.cell (p := ⟨ab, aoff + k * 3 + 1, none⟩) (lt_of_cell (HA.out k hlt).2.1)).trans (HA.out k hlt).2.1
      have x2 := (hck.bel.cell (p := ⟨ab, aoff + k * 3 + 2, none⟩) (lt_of_cell (HA.out k hlt).2.2)).trans (HA.out k hlt).2.2
      have y0 := (hck.bel.cell (p := ⟨cb, coff + k * 3, none⟩) (lt_of_cell (HC.out k hlt).1)).trans (HC.out k hlt).1
      have y1 := (hck.bel.cell (p := ⟨cb, coff + k * 3 + 1, none⟩) (lt_of_cell (HC.out k hlt).2.1)).trans (HC.out k hlt).2.1
      have y2 := (hck.bel.cell (p := ⟨cb, coff + k * 3 + 2, none⟩) (lt_of_cell (HC.out k hlt).2.2)).trans (HC.out k hlt).2.2
      clear hck
      generalize adds[k].f = f at *
      generalize adds[k].s = s at *
      generalize adds[k].t = t at *
      have i1 : (k : Int) < (adds.length : Int) := by omega
      go_wp2
      go_quiet (fail)
      go_wp2
      go_roundw
      case rel => exact ⟨k + 1, by omega, by go_num, HCK.out.drewN _⟩
      case measure => simp [intOf]; omega
    · have i1 : ¬ ((k : Int) < (adds.length : Int)) := by omega
      clear hck
      go_wp2
      go_ret
      exact ⟨rfl, HCK.out.bel⟩
end Go.Proofs.YtlhnfejgkhilkaaGreatDoor
