/-
  slices.Compact of told prefixes in order.
-/
import Derived.Test.YtfhbgpepkplbaaaGreatDoorSA
import Derived.Deep.QuietTactic
import Derived.BigQuiet
set_option linter.unusedSimpArgs false
set_option maxRecDepth 100000
namespace Go.Proofs.YtfhbgpepkplbaaaGreatDoor
open Go.RowKit Go.Sort
/-- What stands in memory while alike ones are left out. -/
structure CpAt (w wr : World) (g : Nat) (S C : List Nl) (k0 k k2 : Nat) : Prop where
  mem : MemL wr g C
  len : C.length = S.length
  grw : w.grownBy wr (some g)
  keep : C.take k = keepN S (k0 + k2)
  num : (keepN S (k0 + k2)).length = k
  low : k + 1 ≤ k0 + k2
  high : ∀ i (h : i < S.length), k0 + k2 ≤ i + 1 → C[i]'(by omega) = S[i]
theorem CpAt.drewN {w wr : World} {g : Nat} {S C : List Nl} {k0 k k2 : Nat} (h : CpAt w wr g S C k0 k k2) (n : Nat) : CpAt w (wr.drewN n) g S C k0 k k2 :=
  ⟨h.mem.drewN n, h.len, h.grw.trans ⟨rfl, rfl, rfl, Nat.le_refl _, fun _ _ _ => rfl⟩, h.keep, h.num, h.low, h.high⟩
theorem CpAt.skip {w wr : World} {g : Nat} {S C : List Nl} {k0 k k2 : Nat} (h : CpAt w wr g S C k0 k k2) (hlt : k0 + k2 < S.length) (h0 : 0 < k0) (he : S[k0 + k2] = S[k0 + k2 - 1]'(by omega)) : CpAt w wr g S C k0 k (k2 + 1) := by
  have e : keepN S (k0 + k2 + 1) = keepN S (k0 + k2) := keepN_no hlt (by omega) ((eqN_iff _ _).2 he)
  exact ⟨h.mem, h.len, h.grw, by rw [← Nat.add_assoc, e]; exact h.keep, by rw [← Nat.add_assoc, e]; exact h.num, by have := h.low; omega, fun i hi hk => h.high i hi (by omega)⟩
theorem CpAt.put {w wr : World} {g : Nat} {S C : List Nl} {k0 k k2 : Nat} (h : CpAt w wr g S C k0 k k2) (hlt : k0 + k2 < S.length) (h0 : 0 < k0) (he : eqN S[k0 + k2] (S[k0 + k2 - 1]'(by omega)) = false) : CpAt w (wr.setCells g (k * 6) S[k0 + k2].cs) g S (C.set k S[k0 + k2]) k0 (k + 1) (k2 + 1) := by
  have e : keepN S (k0 + k2 + 1) = keepN S (k0 + k2) ++ [S[k0 + k2]] := keepN_yes hlt (Or.inr he)
  have hl := h.len
  have hlow := h.low
  have hk : k < C.length := by omega
  refine ⟨h.mem.store k hk _, by rw [List.length_set]; exact hl, h.grw.trans (grown_setCells _ _ _ _), ?_, ?_, by omega, fun i hi hki => ?_⟩
  · rw [← Nat.add_assoc, e, ← h.keep, List.take_succ_eq_append_getElem (by rw [List.length_set]; exact hk), List.getElem_set_self, List.take_set_of_le (Nat.le_refl _)]
  · rw [← Nat.add_assoc, e, List.length_append, h.num]; rfl
  · rw [List.getElem_set_ne (by omega)]
    exact h.high i hi (by omega)
theorem CpAt.nls {w wr : World} {g cap : Nat} {S C : List Nl} {k0 k k2 : Nat} (h : CpAt w wr g S C k0 k k2) (hn : k0 + k2 = S.length) (hc : S.length ≤ cap) (m : Nat) : NlsAt (wr.setCells g (k * 6) (zerosN m)) (.slice (some ⟨g, 0, none⟩) k cap) (keepN S S.length) := by
  have hl := h.len
  have hlow := h.low
  have hk : (keepN S S.length).length = k := by rw [← hn]; exact h.num
  refine ⟨some ⟨g, 0, none⟩, g, 0, cap, by rw [hk], Or.inl rfl, by omega, fun j hj => ?_⟩
  have hjk : j < k := by omega
  have hr : (wr.setCells g (k * 6) (zerosN m)).rangeAt g (j * 6) (C[j]'(by omega)).cs := World.rangeAt_setCells_apart (h.mem.row j (by omega)) _ _ _ (Or.inr (Or.inl (by rw [csN_len]; omega)))
  have e : (keepN S S.length)[j] = C[j]'(by omega) := by
    have h1 : (C.take k)[j]'(by rw [List.length_take]; omega) = C[j]'(by omega) := List.getElem_take
    rw [← h1]
    congr 1
    rw [h.keep, hn]
  rw [e, Nat.zero_add]
  exact ⟨hr 0 _ rfl, hr 1 _ rfl, hr 2 _ rfl, hr 3 _ rfl, hr 4 _ rfl, hr 5 _ rfl⟩
theorem oneN (x : Nl) : Array.all #[Value.int .i64 x.f, .int .u64 x.r, .string x.s, .int .i64 x.l, .int .u32 x.id, .int .u32 x.lb] (·.oneCell') = true := all_oneCell_toArray (csN_one x)
theorem size27 : (Tryz.prog.info? 27).map (·.size) = some 6 := by kernel_rfl
theorem drewN_grown (w : World) (q : Nat) (r : Option Nat) : w.grownBy (w.drewN q) r := ⟨rfl, rfl, rfl, Nat.le_refl _, fun _ _ _ => rfl⟩
theorem drewN_drewN (w : World) (p q : Nat) : (w.drewN p).drewN q = w.drewN (p + q) := by simp [World.drewN, Nat.add_assoc]
set_option maxHeartbeats 8000000 in
theorem compact_any {w : World} {g cap : Nat} {S : List Nl} (h : MemL w g S) (hs : 0 < S.length) (hc : S.length ≤ cap) (hl : S.length ≤ 60000) :
    Calls Tryz.prog 40 #[.slice (some ⟨g, 0, none⟩) S.length cap] w fun e w' => ∃ m, e = .returned (.slice (some ⟨g, 0, none⟩) m cap) ∧ NlsAt w' (.slice (some ⟨g, 0, none⟩) m cap) (keepN S S.length) ∧ w.grownBy w' (some g) := by
  have HM : Hid (MemL w g S) := h
  have HS : Hid (0 < S.length ∧ S.length ≤ cap ∧ S.length ≤ 60000) := ⟨hs, hc, hl⟩
  have hlI : (S.length : Int) ≤ 60000 := by omega
  have hcI : (S.length : Int) ≤ (cap : Int) := by omega
  have HALL : Hid ((∀ j (hj : j < S.length), j < S.length → j ≠ 0 → eqN S[j] (S[j - 1]'(by omega)) = false) → keepN S S.length = S) := fun h => by rw [keepN_all _ (Nat.le_refl _) h, List.take_of_length_le (Nat.le_refl _)]
  by_cases h2 : S.length < 2
  · have HK : Hid (keepN S S.length = S) := HALL.out (fun j hj _ h0 => by omega)
    have h2' : (S.length : Int) < 2 := by omega
    have HN : Hid (NlsAt w (.slice (some ⟨g, 0, none⟩) S.length cap) S) := h.nls hc
    clear h hs hc hl h2 HALL
    go_enter Tryz.func40, Tryz.ntmps40
    go_wp2
    go_ret
    exact ⟨_, rfl, by rw [HK.out]; exact HN.out, World.grownBy.refl _ _⟩
  · have h2' : ¬ (S.length : Int) < 2 := by omega
    clear h hs hc hl
    go_enter Tryz.func40, Tryz.ntmps40
    go_wp2
    go_loopw [3] (fun i wr => ∃ k q : Nat, 1 ≤ k ∧ k ≤ S.length ∧ i = .int .i64 k ∧ wr = w.drewN q ∧ ∀ j (hj : j < S.length), j < k → j ≠ 0 → eqN S[j] (S[j - 1]'(by omega)) = false) (fun i _ => S.length - (intOf i).toNat)
    case atStart => exact ⟨1, 0, Nat.le_refl _, by omega, rfl, rfl, fun j hj h1 h0 => by omega⟩
    case round =>
      obtain ⟨k, q, hk1, hk, rfl, hwr, hall⟩ := hrel
      have HAL : Hid (∀ j (hj : j < S.length), j < k → j ≠ 0 → eqN S[j] (S[j - 1]'(by omega)) = false) := hall
      have HMR : Hid (MemL wr g S) := by rw [hwr]; exact HM.out.drewN q
      have HGR : Hid (w.grownBy wr (some g)) := by rw [hwr]; exact drewN_grown w q _
      have HWR : Hid (wr = w.drewN q) := hwr
      clear hall hwr
      by_cases hlt : k < S.length
      · have hltI : (k : Int) < (S.length : Int) := by omega
        obtain ⟨m, hm⟩ : ∃ m, k = m + 1 := ⟨k - 1, by omega⟩
        have hml : m < S.length := by omega
        have hmI : (m : Int) < (S.length : Int) := by omega
        have hsub : (k : Int) - 1 = (m : Int) := by omega
        have hm0 : (0 : Int) ≤ (m : Int) := by omega
        have hwm : IntKind.i64.wrap (m : Int) = (m : Int) := by simp [IntKind.wrap, IntKind.bits, IntKind.signed]; omega
        have hwk : IntKind.i64.wrap ((k : Int) - 1) = (m : Int) := by rw [hsub]; exact hwm
        have HKM : Hid (k = m + 1) := hm
        obtain ⟨c0, c1, c2, c3, c4, c5⟩ := HMR.out.cells k hlt
        obtain ⟨d0, d1, d2, d3, d4, d5⟩ := HMR.out.cells m hml
        have HNX : Hid (eqN S[k] S[m] = false → ∀ j (hj : j < S.length), j < k + 1 → j ≠ 0 → eqN S[j] (S[j - 1]'(by omega)) = false) := fun he j hj h1 h0 => by
          by_cases e : j = k
          · have e2 : S[j - 1]'(by omega) = S[m] := by congr 1; omega
            rw [e2]
            subst e
            exact he
          · exact HAL.out j hj (by omega) h0
        have HEQ : Hid (S[k] = S[m] → CpAt w wr g S S k k 1) := fun he => by
          have h1 : S[k]'hlt = S[k - 1]'(by omega) := by rw [he]; congr 1; omega
          have h2 : keepN S (k + 1) = keepN S k := keepN_no hlt (by omega) ((eqN_iff _ _).2 h1)
          have h3 : keepN S k = S.take k := keepN_all k hk (fun j hj h1 h0 => HAL.out j hj h1 h0)
          exact ⟨HMR.out, rfl, HGR.out, by rw [h2, h3], by rw [h2, h3, List.length_take]; omega, by omega, fun i hi _ => rfl⟩
        generalize S[k]'hlt = x at *
        generalize S[m]'hml = y at *
        clear hm
        rcases nl_cases x y with he | ⟨he, q1⟩ | ⟨he, q1, q2⟩ | ⟨he, q1, q2, q3⟩ | ⟨he, q1, q2, q3, q4⟩ | ⟨he, q1, q2, q3, q4, q5⟩ | ⟨he, q1, q2, q3, q4, q5, q6⟩
        · have HC0 : Hid (CpAt w wr g S S k k 1) := HEQ.out he
          subst he
          obtain ⟨n2, hn2⟩ : ∃ n2, S.length - k = n2 := ⟨_, rfl⟩
          have HN2 : Hid (k + n2 = S.length ∧ 1 ≤ n2) := by unfold Hid; omega
          have hn2I : (n2 : Int) ≤ 60000 := by omega
          have hck : ¬ cap = k := by have := HS.out; omega
          clear HNX HEQ
          go_wp2
          go_quiet (fail)
          have HC1 : Hid (CpAt w (wr.drewN nq) g S S k k 1) := HC0.out.drewN nq
          clear c0 c1 c2 c3 c4 c5 d0 d1 d2 d3 d4 d5
          generalize wr.drewN nq = wi at *
          go_wp2
          clear HMR HGR HWR HC0
          go_loopw [3, 5] (fun i j wr => ∃ (kk k2 : Nat) (C : List Nl), 1 ≤ k2 ∧ k2 ≤ n2 ∧ i = .int .i64 kk ∧ j = .int .i64 k2 ∧ CpAt w wr g S C k kk k2) (fun _ j _ => n2 - (intOf j).toNat)
          case atStart => exact ⟨k, 1, S, Nat.le_refl _, HN2.out.2, rfl, rfl, HC1.out⟩
          case round =>
            obtain ⟨kk, k2, C, h21, h22, rfl, rfl, hcp⟩ := hrel
            have HCP : Hid (CpAt w wr g S C k kk k2) := hcp
            have HKK : Hid (kk + 1 ≤ k + k2) := hcp.low
            have hkkI : (kk : Int) < (S.length : Int) := by have h1 := HKK.out; have h2 := HN2.out; omega
            clear hcp
            by_cases hlt2 : k2 < n2
            · have hlt2I : (k2 : Int) < (n2 : Int) := by omega
              have hi1 : k + k2 < S.length := by have := HN2.out; omega
              obtain ⟨m2, hm2⟩ : ∃ m2, k2 = m2 + 1 := ⟨k2 - 1, by omega⟩
              have hm2I : (m2 : Int) < (n2 : Int) := by omega
              have hsub2 : (k2 : Int) - 1 = (m2 : Int) := by omega
              have hm20 : (0 : Int) ≤ (m2 : Int) := by omega
              have hwm2 : IntKind.i64.wrap (m2 : Int) = (m2 : Int) := by simp [IntKind.wrap, IntKind.bits, IntKind.signed]; omega
              have hwk2 : IntKind.i64.wrap ((k2 : Int) - 1) = (m2 : Int) := by rw [hsub2]; exact hwm2
              have hi2 : k + m2 < S.length := by omega
              have HX : Hid (∀ nq, MemL (wr.drewN nq) g C ∧ C[k + k2]'(by rw [HCP.out.len]; exact hi1) = S[k + k2] ∧ C[k + m2]'(by rw [HCP.out.len]; exact hi2) = S[k + m2]) := fun nq => ⟨HCP.out.mem.drewN nq, HCP.out.high _ hi1 (by omega), HCP.out.high _ hi2 (by omega)⟩
              have HC1' : Hid (∀ nq, (wr.drewN nq).cell? ⟨g, k * 6 + k2 * 6, none⟩ = some (.int .i64 S[k + k2].f) ∧ (wr.drewN nq).cell? ⟨g, k * 6 + k2 * 6 + 1, none⟩ = some (.int .u64 S[k + k2].r) ∧ (wr.drewN nq).cell? ⟨g, k * 6 + k2 * 6 + 2, none⟩ = some (.string S[k + k2].s) ∧ (wr.drewN nq).cell? ⟨g, k * 6 + k2 * 6 + 3, none⟩ = some (.int .i64 S[k + k2].l) ∧ (wr.drewN nq).cell? ⟨g, k * 6 + k2 * 6 + 4, none⟩ = some (.int .u32 S[k + k2].id) ∧ (wr.drewN nq).cell? ⟨g, k * 6 + k2 * 6 + 5, none⟩ = some (.int .u32 S[k + k2].lb)) := fun nq => by
                have h1 := (HX.out nq).1.cells (k + k2) (by rw [HCP.out.len]; exact hi1)
                rw [(HX.out nq).2.1, Nat.add_mul] at h1
                exact h1
              have HC2' : Hid (wr.cell? ⟨g, k * 6 + m2 * 6, none⟩ = some (.int .i64 S[k + m2].f) ∧ wr.cell? ⟨g, k * 6 + m2 * 6 + 1, none⟩ = some (.int .u64 S[k + m2].r) ∧ wr.cell? ⟨g, k * 6 + m2 * 6 + 2, none⟩ = some (.string S[k + m2].s) ∧ wr.cell? ⟨g, k * 6 + m2 * 6 + 3, none⟩ = some (.int .i64 S[k + m2].l) ∧ wr.cell? ⟨g, k * 6 + m2 * 6 + 4, none⟩ = some (.int .u32 S[k + m2].id) ∧ wr.cell? ⟨g, k * 6 + m2 * 6 + 5, none⟩ = some (.int .u32 S[k + m2].lb)) := by
                have h1 := HCP.out.mem.cells (k + m2) (by rw [HCP.out.len]; exact hi2)
                rw [(HX.out 0).2.2, Nat.add_mul] at h1
                exact h1
              have HE2 : Hid (S[k + k2 - 1]'(by omega) = S[k + m2]) := by unfold Hid; congr 1; omega
              have HSK : Hid (S[k + k2] = S[k + m2] → CpAt w wr g S C k kk (k2 + 1)) := fun he => HCP.out.skip hi1 (by omega) (by rw [he]; exact HE2.out.symm)
              have HPU : Hid (∀ nq, eqN S[k + k2] S[k + m2] = false → CpAt w ((wr.drewN nq).setCells g (kk * 6) S[k + k2].cs) g S (C.set kk S[k + k2]) k (kk + 1) (k2 + 1)) := fun nq he => (HCP.out.drewN nq).put hi1 (by omega) (by rw [HE2.out]; exact he)
              have HTH : Hid (∀ nq, (wr.drewN nq).there g (kk * 6) 6) := fun nq j hj => by
                have := (HX.out nq).1.there (kk * 6 + j) (by rw [HCP.out.len]; have h1 := HKK.out; omega)
                rwa [Nat.zero_add] at this
              clear HX HE2
              generalize S[k + k2] = x at *
              generalize S[k + m2] = y at *
              obtain ⟨c0, c1, c2, c3, c4, c5⟩ := HC1'.out 0
              obtain ⟨d0, d1, d2, d3, d4, d5⟩ := HC2'.out
              rw [show wr.drewN 0 = wr from rfl] at c0 c1 c2 c3 c4 c5
              clear hm2
              rcases nl_cases x y with he | ⟨he, q1⟩ | ⟨he, q1, q2⟩ | ⟨he, q1, q2, q3⟩ | ⟨he, q1, q2, q3, q4⟩ | ⟨he, q1, q2, q3, q4, q5⟩ | ⟨he, q1, q2, q3, q4, q5, q6⟩
              · have HSK' : Hid (CpAt w wr g S C k kk (k2 + 1)) := HSK.out he
                subst he
                go_wp2
                go_quiet (fail)
                go_wp2
                go_roundw
                case rel => exact ⟨kk, k2 + 1, C, by omega, by omega, rfl, by go_num, HSK'.out.drewN _⟩
                case measure => simp [intOf]; omega
              all_goals
                go_wp2
                go_quiet (fail)
                (try clear q1)
                (try clear q2)
                (try clear q3)
                (try clear q4)
                (try clear q5)
                (try clear q6)
                have HPU' : Hid (_ : Prop) := HPU.out nq he
                obtain ⟨e0, e1, e2, e3, e4, e5⟩ := HC1'.out nq
                have HTH' : Hid (_ : Prop) := HTH.out nq
                clear c0 c1 c2 c3 c4 c5 d0 d1 d2 d3 d4 d5 HPU HTH HC1' HC2' HSK he
                generalize wr.drewN nq = w5 at *
                go_wp2_with (first | (refine wpList_store_mid rfl 27 _ _ rfl g (kk * 6) #[.int .i64 x.f, .int .u64 x.r, .string x.s, .int .i64 x.l, .int .u32 x.id, .int .u32 x.lb] rfl rfl HTH'.out size27 (oneN x) ?_; change wpList _ _ _ _ _ (w5.setCells g (kk * 6) x.cs); generalize w5.setCells g (kk * 6) x.cs = w6 at *) | go_in)
                go_roundw
                case rel => exact ⟨kk + 1, k2 + 1, _, by omega, by omega, by go_num, by go_num, HPU'.out⟩
                case measure => simp [intOf]; omega
            · obtain rfl : k2 = n2 := by omega
              have hlt2I : ¬ (k2 : Int) < (k2 : Int) := by omega
              obtain ⟨mm, hmm⟩ : ∃ mm, S.length - kk = mm := ⟨_, rfl⟩
              have hck2 : ¬ cap = kk := by have h1 := HKK.out; have h2 := HN2.out; have h3 := HS.out; omega
              have HNL : Hid (NlsAt (wr.setCells g (kk * 6) (zerosN mm)) (.slice (some ⟨g, 0, none⟩) kk cap) (keepN S S.length)) := HCP.out.nls HN2.out.1 HS.out.2.1 mm
              have HGW : Hid (w.grownBy (wr.setCells g (kk * 6) (zerosN mm)) (some g)) := HCP.out.grw.trans (grown_setCells _ _ _ _)
              have hclr : ∀ ty, (Builtin.clear_ #[35] ty #[.slice (some ⟨g, kk * 6, none⟩) mm (cap - kk)]).run Tryz.prog wr = .ok (.tuple #[]) (wr.setCells g (kk * 6) (zerosN mm)) := fun ty => run_clearN wr ty g (kk * 6) mm (cap - kk) (by have h1 := HKK.out; have h2 := HN2.out; omega) (fun j hj => by
                have := HCP.out.mem.there (kk * 6 + j) (by rw [HCP.out.len]; have h1 := HKK.out; have h2 := HN2.out; omega)
                rwa [Nat.zero_add] at this)
              have hkcI : (kk : Int) ≤ (cap : Int) := by omega
              generalize wr.setCells g (kk * 6) (zerosN mm) = w9 at *
              go_wp2
              go_ret
              exact ⟨_, rfl, HNL.out, HGW.out⟩
        all_goals
          have HNX' : Hid (_ : Prop) := HNX.out he
          clear he HNX HEQ
          go_wp2
          go_quiet (fail)
          go_wp2
          go_roundw
          case rel => exact ⟨k + 1, q + nq, by omega, by omega, by go_num, by rw [HWR.out, drewN_drewN], HNX'.out⟩
          case measure => simp [intOf]; omega
      · obtain rfl : k = S.length := by omega
        have HK : Hid (keepN S S.length = S) := HALL.out HAL.out
        have HN : Hid (NlsAt wr (.slice (some ⟨g, 0, none⟩) S.length cap) S) := HMR.out.nls HS.out.2.1
        have hltI : ¬ (S.length : Int) < (S.length : Int) := by omega
        clear HALL HAL
        go_wp2
        go_ret
        exact ⟨_, rfl, by rw [HK.out]; exact HN.out, HGR.out⟩
end Go.Proofs.YtfhbgpepkplbaaaGreatDoor
