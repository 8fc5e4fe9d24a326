/-
  The reference's has and add: is a family in a list, and an open's entry of a family.
-/
import Derived.Test.YtlhnfejgkhilkaaGreatDoorAG
set_option linter.unusedVariables false
set_option linter.unusedSimpArgs false
namespace Go.Proofs.YtlhnfejgkhilkaaGreatDoor
open Go.RowKit
theorem has_any (f : Int) (v : Value) (L : List Int) (w : World) (hv : IntsAt w v L) (hl : L.length ≤ 1000000000) :
    Calls Tryz.prog 19 #[v, .int .i64 f] w fun e w' => e = .returned (.bool (decide (f ∈ L))) ∧ w' = w := by
  obtain ⟨ad, b, off, cap, rfl, had, hcap, hrow⟩ := hv
  have HR : Hid (∀ j (h : j < L.length), w.cell? ⟨b, off + j, none⟩ = some (.int .i64 L[j])) := hrow
  clear hrow
  go_enter Tryz.func19, Tryz.ntmps19
  go_wp2
  go_loop [5] (fun i => ∃ k : Nat, k ≤ L.length ∧ i = .int .i64 k ∧ ∀ j (h : j < L.length), j < k → L[j] ≠ f) (fun i => L.length - (intOf i).toNat)
  case atStart => exact ⟨0, Nat.zero_le _, rfl, fun j _ hj => absurd hj (by omega)⟩
  case round =>
    obtain ⟨k, hk, rfl, hno⟩ := hrel
    have HN : Hid (∀ j (h : j < L.length), j < k → L[j] ≠ f) := hno
    clear hno
    by_cases hlt : k < L.length
    · obtain rfl : ad = some ⟨b, off, none⟩ := by rcases had with h | h; exact h; omega
      have c := HR.out k hlt
      by_cases he : f = L[k]
      · have HI : Hid (decide (f ∈ L) = true) := by
          unfold Hid
          rw [he]
          exact decide_eq_true (List.getElem_mem hlt)
        rw [← he] at c
        clear he
        go_wp2
        go_ret
        exact ⟨ret_bool HI.out.symm, rfl⟩
      · have he' : (L[k] == f) = false := by simpa using fun e => he e.symm
        have HE : Hid (f ≠ L[k]) := he
        clear he
        go_wp2
        go_round
        case rel => exact ⟨k + 1, by omega, by go_num, fun j hj hjk => by
          by_cases e : j = k
          · subst e; exact fun h => HE.out h.symm
          · exact HN.out j hj (by omega)⟩
        case measure => simp [intOf]; omega
    · have HI : Hid (decide (f ∈ L) = false) := by
        unfold Hid
        refine decide_eq_false fun hm => ?_
        obtain ⟨j, hj, e⟩ := List.mem_iff_getElem.mp hm
        exact HN.out j hj (by omega) e
      go_wp2
      go_ret
      exact ⟨ret_bool HI.out.symm, rfl⟩
def zAd : Ad := ⟨0, false, false⟩
/-- An open's entry of a family: the first one. -/
def addF (L : List Ad) (f : Int) : Ad := (L.find? (fun x => x.f == f)).getD zAd
theorem addF_at (L : List Ad) (f : Int) (k : Nat) (h : k < L.length) (he : L[k].f = f) (hno : ∀ j (h : j < L.length), j < k → L[j].f ≠ f) : addF L f = L[k] := by
  induction L generalizing k with
  | nil => simp at h
  | cons x L ih =>
    cases k with
    | zero =>
      simp at he
      unfold addF
      rw [List.find?_cons_of_pos (by simpa using he)]
      rfl
    | succ k =>
      have h0 := hno 0 (by simp) (by omega)
      simp at h0
      unfold addF
      rw [List.find?_cons_of_neg (by simpa using h0)]
      have := ih k (by simpa using h) (by simpa using he) (fun j hj hjk => by have := hno (j + 1) (by simp; omega) (by omega); rw [List.getElem_cons_succ] at this; exact this)
      unfold addF at this
      rw [this]
      rfl
theorem addF_no (L : List Ad) (f : Int) (hno : ∀ j (h : j < L.length), L[j].f ≠ f) : addF L f = zAd := by
  unfold addF
  rw [List.find?_eq_none.2]
  · rfl
  · intro x hx
    obtain ⟨j, hj, rfl⟩ := List.mem_iff_getElem.mp hx
    simpa using hno j hj
/-- The open's box and the answer's. -/
structure CkA (w wr : World) (C D : Array Value) : Prop where
  row : wr.heap[w.heap.size]? = some (.cells C 27 (0, 0))
  row2 : wr.heap[w.heap.size + 1]? = some (.cells D 52 (0, 0))
  bel : Below w.heap.size w wr
theorem size52 : (Tryz.prog.info? 52).map (·.size) = some 3 := by kernel_rfl
theorem one52 (a : Int) (b c : Bool) : (#[.int .i64 a, .bool b, .bool c] : Array Value).all (·.oneCell') = true := by simp [Value.oneCell']
set_option maxRecDepth 100000 in
set_option maxHeartbeats 3200000 in
theorem radd_any (o : Opn) (vf va vk : Value) (f : Int) (w : World) (h : AddsAt w va o.adds) (hl : o.adds.length ≤ 1000000) :
    Calls Tryz.prog 20 #[opV o vf va vk, .int .i64 f] w fun e w' => e = .returned (.agg #[.int .i64 (addF o.adds f).f, .bool (addF o.adds f).s, .bool (addF o.adds f).t]) ∧ Below w.heap.size w w' := by
  obtain ⟨ad, b, off, cap, rfl, had, hcap, hrow⟩ := h
  have hck : CkA w ((w.alloc (.cells (opC o vf (.slice ad o.adds.length cap) vk) 27)).alloc (.cells #[.int .i64 0, .bool false, .bool false] 52)) (opC o vf (.slice ad o.adds.length cap) vk) #[.int .i64 0, .bool false, .bool false] :=
    ⟨hp_up (hp_new rfl), hp_new (by simp), ((Below.refl _ _).alloc (Nat.le_refl _) _).alloc (by simp) _⟩
  obtain ⟨asn, hold, id, fams, four, refr, A, gr, again, time, kept⟩ := o
  have HR : Hid (_ : Prop) := hrow
  clear hrow
  have HC0 : Hid (CkA _ _ _ _) := hck
  clear hck
  unfold opC at HC0
  unfold opV opC
  dsimp only at *
  go_enter Tryz.func20, Tryz.ntmps20
  go_wp2_with fail
  refine with_world (fun W => CkA w W _ _) HC0.out ?_
  intro W0 hC0
  clear HC0
  have HCK : Hid (CkA w W0 _ _) := hC0
  have c6 : W0.cell? ⟨w.heap.size, 6, none⟩ = some (.slice ad A.length cap) := cl_row hC0.row rfl
  clear hC0
  go_loop [5] (fun i => ∃ k : Nat, k ≤ A.length ∧ i = .int .i64 k ∧ ∀ j (h : j < A.length), j < k → A[j].f ≠ f) (fun i => A.length - (intOf i).toNat)
  case atStart => exact ⟨0, Nat.zero_le _, rfl, fun j _ hj => absurd hj (by omega)⟩
  case round =>
    obtain ⟨k, hk, rfl, hno⟩ := hrel
    have HN : Hid (∀ j (h : j < A.length), j < k → A[j].f ≠ f) := hno
    clear hno
    by_cases hlt : k < A.length
    · obtain rfl : ad = some ⟨b, off, none⟩ := by rcases had with h | h; exact h; omega
      have x0 := (HCK.out.bel.cell (p := ⟨b, off + k * 3, none⟩) (lt_of_cell (HR.out k hlt).1)).trans (HR.out k hlt).1
      have x1 := (HCK.out.bel.cell (p := ⟨b, off + k * 3 + 1, none⟩) (lt_of_cell (HR.out k hlt).2.1)).trans (HR.out k hlt).2.1
      have x2 := (HCK.out.bel.cell (p := ⟨b, off + k * 3 + 2, none⟩) (lt_of_cell (HR.out k hlt).2.2)).trans (HR.out k hlt).2.2
      by_cases he : A[k].f = f
      · have HI : Hid ((addF A f).f = f ∧ (addF A f).s = A[k].s ∧ (addF A f).t = A[k].t) := by
          have := addF_at A f k hlt he HN.out
          unfold Hid
          rw [this]
          exact ⟨he, rfl, rfl⟩
        clear HN
        have e0 : (A[k].f == f) = true := by simpa using he
        rw [he] at x0 e0
        clear he
        generalize A[k].s = s at *
        generalize A[k].t = t at *
        go_wp2_with (refine wpList_store_row rfl 52 _ _ rfl (w.heap.size + 1) #[.int .i64 f, .bool s, .bool t] rfl rfl 52 _ HCK.out.row2 size52 rfl (one52 _ _ _) ?_)
        exact bodyPost_ret (results_cell_row (P := Tryz.prog) rfl _ _ (w.heap.size + 1) 52 _ (0, 0) _ rfl (row_same _ _ _ _ HCK.out.row2) Tryz.underlying52 rfl size52) rfl ⟨by rw [HI.out.1, HI.out.2.1, HI.out.2.2], below_setRow HCK.out.bel (by omega) _⟩
      · have he' : (A[k].f == f) = false := by simpa using he
        have HE : Hid (A[k].f ≠ f) := he
        clear he
        go_wp2
        go_round
        case rel => exact ⟨k + 1, by omega, by go_num, fun j hj hjk => by
          by_cases e : j = k
          · subst e; exact HE.out
          · exact HN.out j hj (by omega)⟩
        case measure => simp [intOf]; omega
    · have HI : Hid (addF A f = zAd) := by
        unfold Hid
        exact addF_no A f fun j hj => HN.out j hj (by omega)
      go_wp2_with (refine wpList_store_row rfl 52 _ _ rfl (w.heap.size + 1) #[.int .i64 0, .bool false, .bool false] rfl rfl 52 _ HCK.out.row2 size52 rfl (one52 _ _ _) ?_)
      exact bodyPost_ret (results_cell_row (P := Tryz.prog) rfl _ _ (w.heap.size + 1) 52 _ (0, 0) _ rfl (row_same _ _ _ _ HCK.out.row2) Tryz.underlying52 rfl size52) rfl ⟨by rw [HI.out]; rfl, below_setRow HCK.out.bel (by omega) _⟩
end Go.Proofs.YtlhnfejgkhilkaaGreatDoor
