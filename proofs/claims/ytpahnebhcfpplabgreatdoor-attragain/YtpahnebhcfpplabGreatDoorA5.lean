/-
  May lists of communities be: as package attr asks it.
-/
import Derived.Test.YtpahnebhcfpplabGreatDoorA4
namespace Go.Proofs.YtpahnebhcfpplabGreatDoor
open Go.RowKit
set_option maxRecDepth 100000 in
theorem mayU2 (v : Value) (l : List Nat) (w : World) (h : PlainAt w v l) :
    Calls Tryz.prog 43 #[v, .func (.func 44) #[] #[]] w fun e w' => e = .returned (.bool (mayL ltN l)) ∧ Below w.heap.size w w' := by
  obtain ⟨ad, b, off, cap, rfl, had, ⟨_, hl⟩, hr⟩ := h
  have HR : Hid (RowQ _ _ _ _ _ _) := hr
  clear hr
  by_cases h64 : 64 < l.length
  · have HE : Hid (mayL ltN l = false) := by unfold Hid; simp [mayL]; omega
    go_enter Tryz.func43, Tryz.ntmps43
    go_wp2
    go_ret
    exact ⟨ret_bool HE.out.symm, Below.refl _ _⟩
  · go_enter Tryz.func43, Tryz.ntmps43
    go_wp2
    go_loopw [12] (fun i wr => ∃ k : Nat, (k = 0 ∨ k + 1 ≤ l.length) ∧ i = .int .i64 k ∧ Below w.heap.size w wr ∧ ∀ j (h : j + 1 < l.length), j < k → ltN l[j] l[j + 1] = true) (fun i _ => l.length - (intOf i).toNat)
    case atStart => exact ⟨0, Or.inl rfl, rfl, Below.refl _ _, fun j _ h => absurd h (Nat.not_lt_zero _)⟩
    case round =>
      obtain ⟨k, hk, rfl, hb, hn⟩ := hrel
      have HN : Hid (∀ j (h : j + 1 < l.length), j < k → ltN l[j] l[j + 1] = true) := hn
      clear hn
      by_cases hlt : k + 1 < l.length
      · obtain rfl : ad = some ⟨b, off, none⟩ := by rcases had with h | h; exact h; omega
        have c1 := ((HR.out.below hb) k (by omega)).1
        have c2 := ((HR.out.below hb) (k + 1) hlt).1
        clear had hk
        have HF : Hid (ltN l[k] l[k + 1] = true → ∀ j (h : j + 1 < l.length), j < k + 1 → ltN l[j] l[j + 1] = true) := fun h j hj hjk => by
          by_cases e : j = k
          · subst e; exact h
          · exact HN.out j hj (by omega)
        have HG : Hid (ltN l[k] l[k + 1] = false → mayL ltN l = false) := fun h => by simp [mayL, rising_false k hlt h]
        have hlt2 : (k : Int) < (l.length : Int) - 1 := by omega
        generalize l[k] = x at *
        generalize l[k + 1] = y at *
        have HL : Hid (_ < _) := hlt
        have hk1 : k < l.length := by omega
        have hk0 : (0 : Int) ≤ (k : Int) + 1 := by omega
        have hk2 : (k : Int) + 1 < (l.length : Int) := by omega
        have hkn : ((k : Int) + 1).toNat = k + 1 := by omega
        have hwr : IntKind.i64.wrap ((k : Int) + 1) = (k : Int) + 1 := by rw [IntKind.wrap_i64]; omega
        by_cases hxy : x < y
        · have hcm : cmpI (x : Int) (y : Int) = -1 := cmpI_lt (by omega)
          have HX : Hid (ltN x y = true) := by unfold Hid ltN; simpa using hxy
          clear hxy
          go_wp2
          go_quiet (first | (go_at_call 44; refine Calls.quiet_of_same (cmpU _ _ _)))
          go_wp2
          go_roundw
          case rel => exact ⟨k + 1, Or.inr HL.out, by go_num, below_drewN' hb _, HF.out HX.out⟩
          case measure => have := HL.out; simp [intOf]; omega
        · have hcm : 0 ≤ cmpI (x : Int) (y : Int) := by unfold cmpI; split <;> first | omega | (split <;> omega)
          have HX : Hid (ltN x y = false) := by unfold Hid ltN; simpa using hxy
          clear hxy
          generalize hcc : cmpI (x : Int) (y : Int) = cc at *
          go_wp2
          go_quiet (first | (go_at_call 44; refine Calls.quiet_of_same (cmpU _ _ _)))
          rw [hcc]
          go_wp2
          go_ret
          exact ⟨ret_bool (HG.out HX.out).symm, below_drewN' hb _⟩
      · have hge : ¬ ((k : Int) < (l.length : Int) - 1) := by omega
        have HE : Hid (mayL ltN l = true) := by
          unfold Hid mayL
          rw [(rising_iff ltN l).mpr (fun i hi => HN.out i hi (by omega))]
          simp; omega
        go_wp2
        go_ret
        exact ⟨ret_bool HE.out.symm, hb⟩

set_option maxRecDepth 100000 in
theorem mayX2 (v : Value) (l : List Nat) (w : World) (h : ExtsAt w v l) :
    Calls Tryz.prog 45 #[v, .func (.func 46) #[] #[]] w fun e w' => e = .returned (.bool (mayL ltN l)) ∧ Below w.heap.size w w' := by
  obtain ⟨ad, b, off, cap, rfl, had, ⟨_, hl⟩, hr⟩ := h
  have HR : Hid (RowQ _ _ _ _ _ _) := hr
  clear hr
  by_cases h64 : 64 < l.length
  · have HE : Hid (mayL ltN l = false) := by unfold Hid; simp [mayL]; omega
    go_enter Tryz.func45, Tryz.ntmps45
    go_wp2
    go_ret
    exact ⟨ret_bool HE.out.symm, Below.refl _ _⟩
  · go_enter Tryz.func45, Tryz.ntmps45
    go_wp2
    go_loopw [12] (fun i wr => ∃ k : Nat, (k = 0 ∨ k + 1 ≤ l.length) ∧ i = .int .i64 k ∧ Below w.heap.size w wr ∧ ∀ j (h : j + 1 < l.length), j < k → ltN l[j] l[j + 1] = true) (fun i _ => l.length - (intOf i).toNat)
    case atStart => exact ⟨0, Or.inl rfl, rfl, Below.refl _ _, fun j _ h => absurd h (Nat.not_lt_zero _)⟩
    case round =>
      obtain ⟨k, hk, rfl, hb, hn⟩ := hrel
      have HN : Hid (∀ j (h : j + 1 < l.length), j < k → ltN l[j] l[j + 1] = true) := hn
      clear hn
      by_cases hlt : k + 1 < l.length
      · obtain rfl : ad = some ⟨b, off, none⟩ := by rcases had with h | h; exact h; omega
        have c1 := ((HR.out.below hb) k (by omega)).1
        have c2 := ((HR.out.below hb) (k + 1) hlt).1
        clear had hk
        have HF : Hid (ltN l[k] l[k + 1] = true → ∀ j (h : j + 1 < l.length), j < k + 1 → ltN l[j] l[j + 1] = true) := fun h j hj hjk => by
          by_cases e : j = k
          · subst e; exact h
          · exact HN.out j hj (by omega)
        have HG : Hid (ltN l[k] l[k + 1] = false → mayL ltN l = false) := fun h => by simp [mayL, rising_false k hlt h]
        have hlt2 : (k : Int) < (l.length : Int) - 1 := by omega
        generalize l[k] = x at *
        generalize l[k + 1] = y at *
        have HL : Hid (_ < _) := hlt
        have hk1 : k < l.length := by omega
        have hk0 : (0 : Int) ≤ (k : Int) + 1 := by omega
        have hk2 : (k : Int) + 1 < (l.length : Int) := by omega
        have hkn : ((k : Int) + 1).toNat = k + 1 := by omega
        have hwr : IntKind.i64.wrap ((k : Int) + 1) = (k : Int) + 1 := by rw [IntKind.wrap_i64]; omega
        by_cases hxy : x < y
        · have hcm : cmpI (x : Int) (y : Int) = -1 := cmpI_lt (by omega)
          have HX : Hid (ltN x y = true) := by unfold Hid ltN; simpa using hxy
          clear hxy
          go_wp2
          go_quiet (first | (go_at_call 46; refine Calls.quiet_of_same (cmpX _ _ _)))
          go_wp2
          go_roundw
          case rel => exact ⟨k + 1, Or.inr HL.out, by go_num, below_drewN' hb _, HF.out HX.out⟩
          case measure => have := HL.out; simp [intOf]; omega
        · have hcm : 0 ≤ cmpI (x : Int) (y : Int) := by unfold cmpI; split <;> first | omega | (split <;> omega)
          have HX : Hid (ltN x y = false) := by unfold Hid ltN; simpa using hxy
          clear hxy
          generalize hcc : cmpI (x : Int) (y : Int) = cc at *
          go_wp2
          go_quiet (first | (go_at_call 46; refine Calls.quiet_of_same (cmpX _ _ _)))
          rw [hcc]
          go_wp2
          go_ret
          exact ⟨ret_bool (HG.out HX.out).symm, below_drewN' hb _⟩
      · have hge : ¬ ((k : Int) < (l.length : Int) - 1) := by omega
        have HE : Hid (mayL ltN l = true) := by
          unfold Hid mayL
          rw [(rising_iff ltN l).mpr (fun i hi => HN.out i hi (by omega))]
          simp; omega
        go_wp2
        go_ret
        exact ⟨ret_bool HE.out.symm, hb⟩

set_option maxRecDepth 100000 in
set_option maxHeartbeats 1600000 in
theorem cmpL2 (a b : Lg) (w : World) : Calls Tryz.prog 48 #[.agg (cellsL a), .agg (cellsL b)] w fun e w' => e = .returned (.int .i64 (cmpLg a b)) ∧ Below w.heap.size w w' := by
  obtain ⟨a1, a2, a3⟩ := a
  obtain ⟨b1, b2, b3⟩ := b
  unfold cellsL
  go_enter Tryz.func48, Tryz.ntmps48
  go_wp2_with fail
  have hb0 : Below w.heap.size w ((w.alloc (.cells #[.int .u32 (a1 : Int), .int .u32 (a2 : Int), .int .u32 (a3 : Int)] 52)).alloc (.cells #[.int .u32 (b1 : Int), .int .u32 (b2 : Int), .int .u32 (b3 : Int)] 52)) :=
    ((Below.refl _ _).alloc (Nat.le_refl _) _).alloc (by simp) _
  have c1 : ((w.alloc (.cells #[.int .u32 (a1 : Int), .int .u32 (a2 : Int), .int .u32 (a3 : Int)] 52)).alloc (.cells #[.int .u32 (b1 : Int), .int .u32 (b2 : Int), .int .u32 (b3 : Int)] 52)).cell? ⟨w.heap.size, 0, none⟩ = some (.int .u32 (a1 : Int)) := by
    rw [World.cell?_alloc_past _ _ _ (by simp), World.cell?_alloc_at _ _ _ _ rfl]; rfl
  have c2 : ((w.alloc (.cells #[.int .u32 (a1 : Int), .int .u32 (a2 : Int), .int .u32 (a3 : Int)] 52)).alloc (.cells #[.int .u32 (b1 : Int), .int .u32 (b2 : Int), .int .u32 (b3 : Int)] 52)).cell? ⟨w.heap.size, 1, none⟩ = some (.int .u32 (a2 : Int)) := by
    rw [World.cell?_alloc_past _ _ _ (by simp), World.cell?_alloc_at _ _ _ _ rfl]; rfl
  have c3 : ((w.alloc (.cells #[.int .u32 (a1 : Int), .int .u32 (a2 : Int), .int .u32 (a3 : Int)] 52)).alloc (.cells #[.int .u32 (b1 : Int), .int .u32 (b2 : Int), .int .u32 (b3 : Int)] 52)).cell? ⟨w.heap.size, 2, none⟩ = some (.int .u32 (a3 : Int)) := by
    rw [World.cell?_alloc_past _ _ _ (by simp), World.cell?_alloc_at _ _ _ _ rfl]; rfl
  have d1 : ((w.alloc (.cells #[.int .u32 (a1 : Int), .int .u32 (a2 : Int), .int .u32 (a3 : Int)] 52)).alloc (.cells #[.int .u32 (b1 : Int), .int .u32 (b2 : Int), .int .u32 (b3 : Int)] 52)).cell? ⟨w.heap.size + 1, 0, none⟩ = some (.int .u32 (b1 : Int)) := by
    rw [World.cell?_alloc_at _ _ _ _ (by simp)]; rfl
  have d2 : ((w.alloc (.cells #[.int .u32 (a1 : Int), .int .u32 (a2 : Int), .int .u32 (a3 : Int)] 52)).alloc (.cells #[.int .u32 (b1 : Int), .int .u32 (b2 : Int), .int .u32 (b3 : Int)] 52)).cell? ⟨w.heap.size + 1, 1, none⟩ = some (.int .u32 (b2 : Int)) := by
    rw [World.cell?_alloc_at _ _ _ _ (by simp)]; rfl
  have d3 : ((w.alloc (.cells #[.int .u32 (a1 : Int), .int .u32 (a2 : Int), .int .u32 (a3 : Int)] 52)).alloc (.cells #[.int .u32 (b1 : Int), .int .u32 (b2 : Int), .int .u32 (b3 : Int)] 52)).cell? ⟨w.heap.size + 1, 2, none⟩ = some (.int .u32 (b3 : Int)) := by
    rw [World.cell?_alloc_at _ _ _ _ (by simp)]; rfl
  generalize ((w.alloc (.cells #[.int .u32 (a1 : Int), .int .u32 (a2 : Int), .int .u32 (a3 : Int)] 52)).alloc (.cells #[.int .u32 (b1 : Int), .int .u32 (b2 : Int), .int .u32 (b3 : Int)] 52)) = W at *
  have HB : Hid (Below w.heap.size w W) := hb0
  clear hb0
  have HO : Hid (Calls Tryz.prog 85 #[.slice (some ⟨W.heap.size, 0, none⟩) 3 3] (W.alloc (.cells #[.int .i64 (cmpI a1 b1), .int .i64 (cmpI a2 b2), .int .i64 (cmpI a3 b3)] 3)).drew fun e w' => e = .returned (.int .i64 (cmpLg (a1, a2, a3) (b1, b2, b3))) ∧ w' = (W.alloc (.cells #[.int .i64 (cmpI a1 b1), .int .i64 (cmpI a2 b2), .int .i64 (cmpI a3 b3)] 3)).drew) :=
    or_any W.heap.size 3 [cmpI a1 b1, cmpI a2 b2, cmpI a3 b3] _ (by simp) (by
      intro j hj
      simp only [List.length_cons, List.length_nil] at hj
      rw [World.cell?_drew, World.cell?_alloc_at _ _ _ _ rfl]
      rcases j with _ | _ | _ | j
      · rfl
      · rfl
      · rfl
      · omega)
  generalize hr : cmpLg (a1, a2, a3) (b1, b2, b3) = r at HO
  have HRE : Hid (cmpLg (a1, a2, a3) (b1, b2, b3) = r) := hr
  clear hr
  have HP : Hid (∀ o, Below w.heap.size w (W.alloc o).drew) := fun o => (HB.out.alloc HB.out.size _).drew
  generalize hp : w.heap.size = p at c1 c2 c3 d1 d2 d3 ⊢
  clear hp
  go_region_held (fun w' => w'.cell? ⟨p, 0, none⟩ = some (.int .u32 (a1 : Int)) ∧ w'.cell? ⟨p, 1, none⟩ = some (.int .u32 (a2 : Int)) ∧ w'.cell? ⟨p, 2, none⟩ = some (.int .u32 (a3 : Int)) ∧ w'.cell? ⟨p + 1, 0, none⟩ = some (.int .u32 (b1 : Int)) ∧ w'.cell? ⟨p + 1, 1, none⟩ = some (.int .u32 (b2 : Int)) ∧ w'.cell? ⟨p + 1, 2, none⟩ = some (.int .u32 (b3 : Int))) (go_keep)
    (first | (go_at_call 44; refine (cmpU _ _ _).mono ?_; rintro e w2 ⟨rfl, rfl⟩) | (go_at_call 85; refine HO.out.mono ?_; rintro e w2 ⟨rfl, rfl⟩))
  clear c1 c2 c3 d1 d2 d3 HO
  go_wp2
  go_ret
  exact ⟨ret_int HRE.out.symm, HP.out _⟩
set_option maxRecDepth 100000 in
theorem mayLg2 (v : Value) (l : List Lg) (w : World) (h : LargesAt w v l) :
    Calls Tryz.prog 47 #[v, .func (.func 48) #[] #[]] w fun e w' => e = .returned (.bool (mayL ltL l)) ∧ Below w.heap.size w w' := by
  obtain ⟨ad, b, off, cap, rfl, had, ⟨_, hl⟩, hr⟩ := h
  have HR : Hid (RowL _ _ _ _) := hr
  clear hr
  by_cases h64 : 64 < l.length
  · have HE : Hid (mayL ltL l = false) := by unfold Hid; simp [mayL]; omega
    go_enter Tryz.func47, Tryz.ntmps47
    go_wp2
    go_ret
    exact ⟨ret_bool HE.out.symm, Below.refl _ _⟩
  · go_enter Tryz.func47, Tryz.ntmps47
    go_wp2
    go_loopw [12] (fun i wr => ∃ k : Nat, (k = 0 ∨ k + 1 ≤ l.length) ∧ i = .int .i64 k ∧ Below w.heap.size w wr ∧ ∀ j (h : j + 1 < l.length), j < k → ltL l[j] l[j + 1] = true) (fun i _ => l.length - (intOf i).toNat)
    case atStart => exact ⟨0, Or.inl rfl, rfl, Below.refl _ _, fun j _ h => absurd h (Nat.not_lt_zero _)⟩
    case round =>
      obtain ⟨k, hk, rfl, hb, hn⟩ := hrel
      have HN : Hid (∀ j (h : j + 1 < l.length), j < k → ltL l[j] l[j + 1] = true) := hn
      clear hn
      by_cases hlt : k + 1 < l.length
      · obtain rfl : ad = some ⟨b, off, none⟩ := by rcases had with h | h; exact h; omega
        obtain ⟨c1, c2, c3⟩ := ((HR.out.below hb) k (by omega)).1
        obtain ⟨d1, d2, d3⟩ := ((HR.out.below hb) (k + 1) hlt).1
        clear had hk
        have HF : Hid (ltL l[k] l[k + 1] = true → ∀ j (h : j + 1 < l.length), j < k + 1 → ltL l[j] l[j + 1] = true) := fun h j hj hjk => by
          by_cases e : j = k
          · subst e; exact h
          · exact HN.out j hj (by omega)
        have HG : Hid (ltL l[k] l[k + 1] = false → mayL ltL l = false) := fun h => by simp [mayL, rising_false k hlt h]
        have hlt2 : (k : Int) < (l.length : Int) - 1 := by omega
        generalize l[k] = x at *
        generalize l[k + 1] = y at *
        have HL : Hid (_ < _) := hlt
        have hk1 : k < l.length := by omega
        have hk0 : (0 : Int) ≤ (k : Int) + 1 := by omega
        have hk2 : (k : Int) + 1 < (l.length : Int) := by omega
        have hkn : ((k : Int) + 1).toNat = k + 1 := by omega
        have hwr : IntKind.i64.wrap ((k : Int) + 1) = (k : Int) + 1 := by rw [IntKind.wrap_i64]; omega
        obtain ⟨x1, x2, x3⟩ := x
        obtain ⟨y1, y2, y3⟩ := y
        simp only at c1 c2 c3 d1 d2 d3
        have HCM : Hid (∀ W, Calls Tryz.prog 48 #[.agg #[.int .u32 (x1 : Int), .int .u32 (x2 : Int), .int .u32 (x3 : Int)], .agg #[.int .u32 (y1 : Int), .int .u32 (y2 : Int), .int .u32 (y3 : Int)]] W fun e w' => e = .returned (.int .i64 (cmpLg (x1, x2, x3) (y1, y2, y3))) ∧ Below W.heap.size W w') := fun W => cmpL2 (x1, x2, x3) (y1, y2, y3) W
        have HLT := cmpLg_lt (x1, x2, x3) (y1, y2, y3)
        generalize cmpLg (x1, x2, x3) (y1, y2, y3) = cc at *
        have HLH : Hid (cc < 0 ↔ _) := HLT
        have HB0 : Hid (Below w.heap.size w wr) := hb
        clear HLT hlt hb
        go_wp2
        go_region_held (fun w' => w'.cell? ⟨b, off + k * 3, none⟩ = some (.int .u32 (x1 : Int)) ∧ w'.cell? ⟨b, off + k * 3 + 1, none⟩ = some (.int .u32 (x2 : Int)) ∧ w'.cell? ⟨b, off + k * 3 + 2, none⟩ = some (.int .u32 (x3 : Int)) ∧ w'.cell? ⟨b, off + (k + 1) * 3, none⟩ = some (.int .u32 (y1 : Int)) ∧ w'.cell? ⟨b, off + (k + 1) * 3 + 1, none⟩ = some (.int .u32 (y2 : Int)) ∧ w'.cell? ⟨b, off + (k + 1) * 3 + 2, none⟩ = some (.int .u32 (y3 : Int))) (go_keep)
          (first | (go_at_call 48; refine (HCM.out _).mono ?_; rintro e w5 ⟨rfl, hb5⟩; have q0 := below_cell (w := wr.drew) hb5 c1; have q1 := below_cell (w := wr.drew) hb5 c2; have q2 := below_cell (w := wr.drew) hb5 c3; have q3 := below_cell (w := wr.drew) hb5 d1; have q4 := below_cell (w := wr.drew) hb5 d2; have q5 := below_cell (w := wr.drew) hb5 d3))
        have HB2 : Hid (Below w.heap.size w w5) := HB0.out.drew.trans (hb5.mono HB0.out.size)
        clear hb5 q0 q1 q2 q3 q4 q5 c1 c2 c3 d1 d2 d3 HCM
        by_cases hxy : cc < 0
        · have HX : Hid (ltL (x1, x2, x3) (y1, y2, y3) = true) := HLH.out.mp hxy
          go_wp2
          go_roundw
          case rel => exact ⟨k + 1, Or.inr HL.out, by go_num, HB2.out, HF.out HX.out⟩
          case measure => have := HL.out; simp [intOf]; omega
        · have HX : Hid (ltL (x1, x2, x3) (y1, y2, y3) = false) := by
            unfold Hid
            cases hq : ltL (x1, x2, x3) (y1, y2, y3) with
            | false => rfl
            | true => exact absurd (HLH.out.mpr hq) hxy
          have hxy2 : 0 ≤ cc := by omega
          go_wp2
          go_ret
          exact ⟨ret_bool (HG.out HX.out).symm, HB2.out⟩
      · have hge : ¬ ((k : Int) < (l.length : Int) - 1) := by omega
        have HE : Hid (mayL ltL l = true) := by
          unfold Hid mayL
          rw [(rising_iff ltL l).mpr (fun i hi => HN.out i hi (by omega))]
          simp; omega
        go_wp2
        go_ret
        exact ⟨ret_bool HE.out.symm, hb⟩
end Go.Proofs.YtpahnebhcfpplabGreatDoor
