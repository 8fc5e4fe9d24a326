/-
  The reference's Parse; SetsMatch's walk.
-/
import Derived.Test.YtjchobcmbkiilaaGreatDoorQ4
import Derived.Test.YtjchobcmbkiilaaGreatDoorV6
set_option linter.unusedVariables false
set_option linter.unusedSimpArgs false
set_option maxRecDepth 100000
namespace Go.Proofs.YtjchobcmbkiilaaGreatDoor
open Go.RowKit
theorem dig_pow : ∀ (n u : Nat), u < 10 ^ (n + 1) → (Lib.decDigits u).length ≤ n + 1
  | n, u, h => by
    by_cases h10 : u < 10
    · have := congrArg (fun x : ByteArray => x.data.toList.length) (Rf.digB_small u h10)
      simp [Rf.digB] at this
      omega
    · cases n with
      | zero => simp at h; omega
      | succ n =>
        have ih := dig_pow n (u / 10) (by rw [Nat.pow_succ] at h; omega)
        have := congrArg (fun x : ByteArray => x.data.toList.length) (Rf.digB_great u h10)
        simp [Rf.digB] at this
        omega
theorem dig_ten (u : Nat) (h : u < 4294967296) : (Lib.decDigits u).length ≤ 10 := dig_pow 9 u (by omega)
theorem pt_len (x : List UInt8) (a : Atm) (h : ptA x = some a) : x.length ≤ 10 := by
  unfold ptA at h
  split at h
  · rename_i e; rw [e]; decide
  · split at h
    · rename_i e; rw [e]; decide
    · split at h
      · rename_i u hu
        split at h
        · rename_i hz
          rw [← hz.2]
          exact dig_ten u (pb_le _ _ hu)
        · cases h
      · cases h
theorem pt_read (x : List UInt8) (h1 : ¬ x = [46]) (h2 : ¬ x = [42]) (v : Nat) (b : Bool) (hv : v < 4294967296) (hb : b = true → x = Lib.decDigits v) (hu : ∀ u, u < 4294967296 → x = Lib.decDigits u → v = u ∧ b = true) :
    ptA x = if b = true ∧ 0 < v then some (1, v) else none := by
  unfold ptA
  rw [if_neg h1, if_neg h2]
  by_cases hc : b = true ∧ 0 < v
  · rw [if_pos hc, hb hc.1, pu_back v hv]
    simp [hc.2]
  · rw [if_neg hc]
    split
    · rename_i u hz
      by_cases h : 0 < u ∧ Lib.decDigits u = x
      · have h3 := hu u (pb_le _ _ hz) h.2.symm
        exact absurd ⟨h3.2, by omega⟩ hc
      · rw [if_neg h]
    · rfl
theorem spl_sum (l : List UInt8) : ((spl l).map (fun x => x.length + 1)).sum = l.length + 1 := by
  induction l with
  | nil => rfl
  | cons c l ih =>
    rw [spl]
    split
    · simp [ih]; omega
    · have h := spl_ne l
      cases e : spl l with
      | nil => exact absurd e h
      | cons x r => rw [e] at ih; simp at ih ⊢; omega
theorem mp_sum (ws : List (List UInt8)) : ∀ p, mp ws = some p → (ws.map (fun x => x.length + 1)).sum ≤ 11 * p.length := by
  induction ws with
  | nil => intro p h; simp
  | cons x r ih =>
    intro p h
    rw [mp] at h
    cases hx : ptA x with
    | none => rw [hx] at h; cases h
    | some a =>
      rw [hx] at h
      cases hr : mp r with
      | none => rw [hr] at h; cases h
      | some q =>
        rw [hr] at h
        simp at h
        subst h
        have h1 := ih q hr
        have h2 := pt_len x a hx
        simp at h1 ⊢
        omega
theorem prs_short (l : List UInt8) (h : 768 < l.length) : prs l = none := by
  have h45 : ¬ l = [45] := fun e => by rw [e] at h; simp at h
  unfold prs
  rw [if_neg h45, pTo_mp _ 0 (by omega)]
  cases hm : mp (spl l) with
  | none => rfl
  | some p =>
    have h1 := mp_sum _ p hm
    rw [spl_sum] at h1
    simp only [Option.bind_some]
    rw [if_neg (by omega)]
theorem mp_none (ws : List (List UInt8)) : ∀ (k : Nat) (hk : k < ws.length), ptA ws[k] = none → mp ws = none := by
  induction ws with
  | nil => intro k hk; simp at hk
  | cons x r ih =>
    intro k hk h
    rw [mp]
    cases k with
    | zero => simp at h; rw [h]
    | succ k =>
      simp at h
      rw [ih k (by simpa using hk) h]
      cases ptA x <;> rfl
theorem mp_snoc (ws : List (List UInt8)) (x : List UInt8) : ∀ acc a, mp ws = some acc → ptA x = some a → mp (ws ++ [x]) = some (acc ++ [a]) := by
  induction ws with
  | nil => intro acc a h hx; simp [mp] at h; subst h; simp [mp, hx]
  | cons y r ih =>
    intro acc a h hx
    rw [mp] at h
    rw [List.cons_append, mp]
    cases hy : ptA y with
    | none => rw [hy] at h; cases h
    | some b =>
      rw [hy] at h
      cases hr : mp r with
      | none => rw [hr] at h; cases h
      | some q =>
        rw [hr] at h
        simp at h
        subst h
        simp only
        rw [ih q a hr hx]
        rfl
theorem mp_take (ws : List (List UInt8)) (k : Nat) (hk : k < ws.length) (acc : List Atm) (a : Atm) (h : mp (ws.take k) = some acc) (hx : ptA ws[k] = some a) : mp (ws.take (k + 1)) = some (acc ++ [a]) := by
  rw [List.take_succ_eq_append_getElem hk]
  exact mp_snoc _ _ _ _ h hx
theorem own_word {w : World} {base : Nat} {v : Value} {ws : List (List UInt8)} (h : w.ownsRow base 9 1 v ws.length (Rf.cellsT ws)) (hne : ws ≠ []) : ∃ g cap, v = .slice (some ⟨g, 0, none⟩) ws.length cap ∧ ws.length ≤ cap ∧ ∀ W : World, W.ownsRow base 9 1 v ws.length (Rf.cellsT ws) → ∀ k (hk : k < ws.length), W.cell? ⟨g, k, none⟩ = some (.string ⟨ws[k].toArray⟩) := by
  obtain ⟨_, ⟨h1, h2⟩ | ⟨g, cap, cur, e, _, _, hc, _⟩⟩ := id h
  · exact absurd (List.length_eq_zero_iff.1 h2) hne
  · subst e
    refine ⟨g, cap, rfl, hc, fun W hW k hk => ?_⟩
    rw [own_cell hW k (by omega)]
    simp [Rf.cellsT, hk]
set_option maxHeartbeats 4000000 in
theorem rparse_any (s : ByteArray) (w : World) : Calls Tryz.prog 27 #[.string s] w (PrOk s.data.toList w) := by
  by_cases h45 : s.data.toList = [45]
  · have HR : Hid (prs s.data.toList = some []) := by unfold Hid prs; rw [if_pos h45]
    have HF : Hid (∀ X, Below w.heap.size w X → PrOk s.data.toList w (.returned (.tuple #[.slice none 0 0, .int .i64 0])) X) := fun X hX => by
      unfold PrOk
      rw [HR.out]
      exact ⟨⟨_, rfl, OwnA.nil _ _, by simp⟩, hX⟩
    clear HR
    have n1 : (s.toList == ([45] : List UInt8)) = true := by rw [ByteArray.toList_eq, beq_iff_eq]; exact h45
    clear h45
    go_enter Tryz.func27, Tryz.ntmps27
    go_wp2
    go_ret2
    exact HF.out _ (Below.refl _ _)
  · have n1 : (s.toList == ([45] : List UInt8)) = false := by rw [ByteArray.toList_eq, beq_eq_false_iff_ne]; exact h45
    by_cases hlen : 768 < s.size
    · have HR : Hid (prs s.data.toList = none) := prs_short _ (by simpa using hlen)
      have HF : Hid (∀ X, Below w.heap.size w X → PrOk s.data.toList w (.returned (.tuple #[.slice none 0 0, .int .i64 4])) X) := fun X hX => by
        unfold PrOk
        rw [HR.out]
        exact ⟨rfl, hX⟩
      clear HR h45
      have hl' : (768 : Int) < (s.size : Int) := by omega
      go_enter Tryz.func27, Tryz.ntmps27
      go_wp2
      go_ret2
      exact HF.out _ (Below.refl _ _)
    · have HP : Hid (prs s.data.toList = (mp (spl s.data.toList)).bind (fun p => if 0 + p.length ≤ 64 then some p else none)) := by
        unfold Hid prs; rw [if_neg h45, pTo_mp _ 0 (by omega)]
      have hspl : Hid (∀ W, Calls Tryz.prog 60 #[.string s, .int .u8 32] W fun e w' => ∃ v, e = .returned v ∧ w'.ownsRow W.heap.size 9 1 v (spl s.data.toList).length (Rf.cellsT (spl s.data.toList)) ∧ Below W.heap.size W w') := fun W => by
        have h := Rf.split_any s W (by omega)
        rw [show s.size + 1 = s.data.toList.length + 1 by simp, splTo_all] at h
        exact h
      have hwl : (spl s.data.toList).length ≤ 1000 ∧ ∀ x ∈ spl s.data.toList, x.length ≤ 1000 := by
        have h1 := spl_sum s.data.toList
        have h2 : s.data.toList.length = s.size := by simp
        constructor
        · have : ∀ ws : List (List UInt8), ws.length ≤ (ws.map (fun x => x.length + 1)).sum := fun ws => by
            induction ws with
            | nil => simp
            | cons a r ih => simp at ih ⊢; omega
          have := this (spl s.data.toList)
          omega
        · intro x hx
          have h3 : ∀ ws : List (List UInt8), x ∈ ws → x.length + 1 ≤ (ws.map (fun x => x.length + 1)).sum := fun ws => by
            induction ws with
            | nil => intro h; cases h
            | cons a r ih =>
              intro h
              rcases List.mem_cons.1 h with h | h
              · subst h; simp
              · have := ih h; simp at this ⊢; omega
          have := h3 _ hx
          omega
      have hne := spl_ne s.data.toList
      have hl' : ¬ (768 : Int) < (s.size : Int) := by omega
      generalize hws : spl s.data.toList = ws at *
      obtain ⟨X, HX⟩ : ∃ X, X = prs s.data.toList := ⟨_, rfl⟩
      rw [HP.out] at HX
      have HFIN : Hid (∀ e w', (match X with
          | none => e = .returned (.tuple #[.slice none 0 0, .int .i64 4])
          | some p => ∃ v, e = .returned (.tuple #[v, .int .i64 0]) ∧ OwnA w' w.heap.size v p ∧ p.length ≤ 64) → Below w.heap.size w w' → PrOk s.data.toList w e w') := fun e w' h1 h2 => by
        unfold PrOk
        rw [HP.out, ← HX]
        exact ⟨h1, h2⟩
      have HXX : Hid (X = _) := HX
      obtain ⟨hw1, hw2⟩ := hwl
      have HW2 : Hid (∀ x ∈ ws, x.length ≤ 1000) := hw2
      clear HP HX hws h45 hw2
      go_enter Tryz.func27, Tryz.ntmps27
      go_wp2_with fail
      refine Calls.mono (hspl.out _) ?_
      rintro e w1 ⟨v1, rfl, hown, hb1⟩
      have HB1 : Hid (Below w.heap.size w w1) := hb1
      obtain ⟨g, cap, rfl, hcap, hcells⟩ := own_word hown hne
      have HOW : Hid (World.ownsRow _ _ _ _ _ _ _) := hown
      have HC : Hid (∀ W : World, _) := hcells
      clear hown hb1 hspl hcells
      go_wp2
      go_loopw [5, 6] (fun x5 x6 wr => ∃ (k : Nat) (acc : List Atm), k ≤ ws.length ∧ x6 = .int .i64 k ∧ OwnA wr w1.heap.size x5 acc ∧ acc.length ≤ k ∧ mp (ws.take k) = some acc ∧ Below w1.heap.size w1 wr) (fun _ x6 _ => ws.length - (intOf x6).toNat)
      case atStart => exact ⟨0, [], Nat.zero_le _, rfl, OwnA.nil _ _, Nat.le_refl _, rfl, Below.refl _ _⟩
      case round =>
        obtain ⟨k, acc, hk, rfl, ho, hacc, hmp, hb⟩ := hrel
        have HO : Hid (OwnA wr w1.heap.size _ acc) := ho
        have HB : Hid (Below w1.heap.size w1 wr) := hb
        have HMP : Hid (mp (ws.take k) = some acc) := hmp
        obtain ⟨av, cv, ev, hcv⟩ := own_len ho
        subst ev
        have HBW : Hid (Below w.heap.size w wr) := HB1.out.trans (HB.out.mono HB1.out.size)
        clear ho hb hmp
        by_cases hlt : k < ws.length
        · have hck := HC.out wr (owns_below HOW.out HB.out) k hlt
          have hxl := HW2.out _ (List.getElem_mem hlt)
          have HSN : Hid (∀ a, ptA ws[k] = some a → mp (ws.take (k + 1)) = some (acc ++ [a])) := fun a ha => mp_take ws k hlt acc a HMP.out ha
          have HNO : Hid (ptA ws[k] = none → X = none) := fun h => by rw [HXX.out, mp_none ws k hlt h]; rfl
          have HPT : Hid (∀ (v : Nat) (b : Bool), v < 4294967296 → (b = true → ws[k] = Lib.decDigits v) → (∀ u, u < 4294967296 → ws[k] = Lib.decDigits u → v = u ∧ b = true) → ¬ ws[k] = [46] → ¬ ws[k] = [42] → ptA ws[k] = if b = true ∧ 0 < v then some (1, v) else none) := fun v b h1 h2 h3 h4 h5 => pt_read _ h4 h5 v b h1 h2 h3
          have H46 : Hid (ws[k] = [46] → ptA ws[k] = some (2, 0)) := fun h => by rw [h]; rfl
          have H42 : Hid (ws[k] = [42] → ptA ws[k] = some (3, 0)) := fun h => by rw [h]; rfl
          clear HMP
          generalize ws[k] = x at *
          go_wp2_with fail
          refine Calls.mono (Rf.read_any ⟨x.toArray⟩ wr (by show x.length ≤ _; omega)) ?_
          rintro e w2 ⟨v, b, hv, rfl, hb2, hr1, hr2⟩
          have HR1 : Hid (b = true → x = Lib.decDigits v) := fun h => by have := Rf.digB_list (hr1 h); simpa using this
          have HR2 : Hid (∀ u, u < 4294967296 → x = Lib.decDigits u → v = u ∧ b = true) := fun u hu h => hr2 u hu (by rw [h]; rfl)
          have HO2 : Hid (OwnA w2 w1.heap.size _ acc) := HO.out.below hb2
          have HB2 : Hid (Below w1.heap.size w1 w2) := HB.out.trans (hb2.mono HB.out.size)
          have HBW2 : Hid (Below w.heap.size w w2) := HB1.out.trans (HB2.out.mono HB1.out.size)
          have hck2 := below_cell hb2 hck
          clear hr1 hr2 hb2 HO HB HBW hck
          by_cases h46 : x = [46]
          · have HP := H46.out h46
            have hs46 : (x == ([46] : List UInt8)) = true := by rw [beq_iff_eq]; exact h46
            have HS := one_at w2 (2, 0)
            have HSH : Hid (AtAt _ _ [((2, 0) : Atm)]) := HS
            have HO3 : Hid (OwnA _ w1.heap.size _ acc) := HO2.out.below (below_box w2 (.cells #[.int .i64 2, .int .u32 (0 : Int)] 53))
            have HB3 : Hid (Below w1.heap.size w1 _) := HB2.out.trans ((below_box w2 (.cells #[.int .i64 2, .int .u32 (0 : Int)] 53)).mono HB2.out.size)
            have HM := HSN.out _ HP
            have HMH : Hid (_ = _) := HM
            clear h46 HS HM HP H46 H42 HPT HNO HSN HR1 HR2
            go_wp2_with (at_builtin; refine wpList_append_A _ rfl _ _ rfl w1.heap.size _ _ acc [(2, 0)] rfl rfl HO3.out HSH.out (by simp; omega) (by have := HB3.out.size; exact this) ?_; intro v6 w6 hown6 hb6)
            have HB6 : Hid (Below w1.heap.size w1 w6) := HB3.out.trans hb6
            go_roundw
            case rel => exact ⟨k + 1, acc ++ [(2, 0)], by omega, by go_num, hown6, by simp; omega, HMH.out, HB6.out⟩
            case measure => simp [intOf]; omega
          · have hs46 : (x == ([46] : List UInt8)) = false := by rw [beq_eq_false_iff_ne]; exact h46
            by_cases h42 : x = [42]
            · have HP := H42.out h42
              have hs42 : (x == ([42] : List UInt8)) = true := by rw [beq_iff_eq]; exact h42
              have HS := one_at w2 (3, 0)
              have HSH : Hid (AtAt _ _ [((3, 0) : Atm)]) := HS
              have HO3 : Hid (OwnA _ w1.heap.size _ acc) := HO2.out.below (below_box w2 (.cells #[.int .i64 3, .int .u32 (0 : Int)] 53))
              have HB3 : Hid (Below w1.heap.size w1 _) := HB2.out.trans ((below_box w2 (.cells #[.int .i64 3, .int .u32 (0 : Int)] 53)).mono HB2.out.size)
              have HM := HSN.out _ HP
              have HMH : Hid (_ = _) := HM
              clear h46 h42 HS HM HP H46 H42 HPT HNO HSN HR1 HR2
              go_wp2_with (at_builtin; refine wpList_append_A _ rfl _ _ rfl w1.heap.size _ _ acc [(3, 0)] rfl rfl HO3.out HSH.out (by simp; omega) (by have := HB3.out.size; exact this) ?_; intro v6 w6 hown6 hb6)
              have HB6 : Hid (Below w1.heap.size w1 w6) := HB3.out.trans hb6
              go_roundw
              case rel => exact ⟨k + 1, acc ++ [(3, 0)], by omega, by go_num, hown6, by simp; omega, HMH.out, HB6.out⟩
              case measure => simp [intOf]; omega
            · have hs42 : (x == ([42] : List UInt8)) = false := by rw [beq_eq_false_iff_ne]; exact h42
              have HP := HPT.out v b hv HR1.out HR2.out h46 h42
              clear HPT H46 H42 HR1 HR2 h46 h42
              by_cases hc : b = true ∧ 0 < v
              · rw [if_pos hc] at HP
                obtain ⟨rfl, hv0⟩ := hc
                have hv0' : (0 : Int) < (v : Int) := by omega
                have hmod : (v : Int) % 4294967296 = (v : Int) := by omega
                have HSH : Hid (AtAt _ _ [((1, v) : Atm)]) := one_at w2 (1, v)
                have HO3 : Hid (OwnA _ w1.heap.size _ acc) := HO2.out.below (below_box w2 (.cells #[.int .i64 1, .int .u32 (v : Int)] 53))
                have HB3 : Hid (Below w1.heap.size w1 _) := HB2.out.trans ((below_box w2 (.cells #[.int .i64 1, .int .u32 (v : Int)] 53)).mono HB2.out.size)
                have HMH : Hid (mp (ws.take (k + 1)) = some (acc ++ [(1, v)])) := HSN.out _ HP
                clear HP HSN HNO
                go_wp2_with (at_builtin; refine wpList_append_A _ rfl _ _ rfl w1.heap.size _ _ acc [(1, v)] rfl rfl HO3.out HSH.out (by simp; omega) (by have := HB3.out.size; exact this) ?_; intro v6 w6 hown6 hb6)
                have HB6 : Hid (Below w1.heap.size w1 w6) := HB3.out.trans hb6
                go_roundw
                case rel => exact ⟨k + 1, acc ++ [(1, v)], by omega, by go_num, hown6, by simp; omega, HMH.out, HB6.out⟩
                case measure => simp [intOf]; omega
              · rw [if_neg hc] at HP
                have HN : Hid (X = none) := HNO.out HP
                clear HP HSN HNO
                cases b with
                | false =>
                  clear hc
                  go_wp2
                  go_ret2
                  exact HFIN.out _ _ (by rw [HN.out]; rfl) HBW2.out
                | true =>
                  obtain rfl : v = 0 := by
                    by_cases h : v = 0
                    · exact h
                    · exact absurd ⟨rfl, by omega⟩ hc
                  clear hc
                  go_wp2
                  go_ret2
                  exact HFIN.out _ _ (by rw [HN.out]; rfl) HBW2.out
        · obtain rfl : k = ws.length := by omega
          have HM : Hid (X = if 0 + acc.length ≤ 64 then some acc else none) := by
            have h := HMP.out
            rw [List.take_length] at h
            unfold Hid
            rw [HXX.out, h]
            rfl
          have HOF : Hid (OwnA wr w.heap.size _ acc) := owns_mono HO.out HB1.out.size
          clear HXX HMP
          by_cases h64 : acc.length ≤ 64
          · have h64' : ¬ (64 : Int) < (acc.length : Int) := by omega
            go_wp2
            go_ret2
            exact HFIN.out _ _ (by rw [HM.out, if_pos (by omega)]; exact ⟨_, rfl, HOF.out, h64⟩) HBW.out
          · have h64' : (64 : Int) < (acc.length : Int) := by omega
            go_wp2
            go_ret2
            exact HFIN.out _ _ (by rw [HM.out, if_neg (by omega)]; rfl) HBW.out
theorem first_a {W : World} {L : List Atm} {ad : Option Addr} {cap : Nat} (k : Nat) (hk : k ≤ L.length) (h : AtAt W (.slice ad L.length cap) L) : AtAt W (.slice ad k cap) (L.take k) := by
  obtain ⟨ad', b, off, cap', e, h1, h2, h3⟩ := h
  injection e with e1 e2 e3
  subst e1 e3
  have hl : (L.take k).length = k := by rw [List.length_take]; omega
  refine ⟨_, b, off, cap, by rw [hl], ?_, by omega, fun j hj => ?_⟩
  · rcases h1 with h1 | h1
    · exact Or.inl h1
    · exact Or.inr (by omega)
  · rw [List.getElem_take]
    exact h3 j (by omega)
theorem first_u {W : World} {L : List Nat} {ad : Option Addr} {cap : Nat} (k : Nat) (hk : k ≤ L.length) (h : ASAt W (.slice ad L.length cap) L) : ASAt W (.slice ad k cap) (L.take k) := by
  obtain ⟨_, h2, b, off, h1, h3⟩ := h.parts
  have hl : (L.take k).length = k := by rw [List.length_take]; omega
  refine ⟨_, b, off, cap, by rw [hl], ?_, by omega, fun j hj => ?_⟩
  · rcases h1 with h1 | h1
    · exact Or.inl h1
    · exact Or.inr (by omega)
  · rw [List.getElem_take]
    exact h3 j (by omega)
theorem cap_a {W : World} {L : List Atm} {ad : Option Addr} {n cap : Nat} (h : AtAt W (.slice ad n cap) L) : L.length ≤ cap := by
  obtain ⟨ad', b, off, cap', e, h1, h2, h3⟩ := h
  injection e with e1 e2 e3
  subst e3
  exact h2
/-- What stands in memory. -/
structure MwAt (w : World) (vp vl : Value) (p : List Atm) (l : List Nat) : Prop where
  e : Env w
  p : AtAt w vp p
  l : ASAt w vl l
theorem MwAt.below {w w' : World} {vp vl : Value} {p : List Atm} {l : List Nat} (h : MwAt w vp vl p l) (hb : Below w.heap.size w w') : MwAt w' vp vl p l := ⟨h.e.below hb, h.p.below hb, h.l.below hb⟩
set_option maxHeartbeats 8000000 in
theorem match_walk (vp : Value) (P : List Atm) (vl : Value) (L : List Nat) (s : ByteArray) (w : World) (he : Env w) (hp : AtAt w vp P) (hpb : ∀ a ∈ P, a.2 < 4294967296) (hl : ASAt w vl L) (hs : s.data.toList.length < 140737488351233) :
    Calls Tryz.prog 5 #[vp, vl, .string s] w fun e w' => e = .returned (.bool true) ∧ Below w.heap.size w w' := by
  obtain ⟨pad, pcap, rfl⟩ := hp.len
  obtain ⟨lad, lcap, rfl⟩ := hl.len
  have hpc := cap_a hp
  have hlc := hl.parts.2.1
  have m1 : (min (P.length : Int) 70).toNat ≤ P.length := by omega
  have m2 : (min (L.length : Int) 80).toNat ≤ L.length := by omega
  have hpl : (P.take (min (P.length : Int) 70).toNat).length ≤ 70 := by rw [List.length_take]; omega
  have hll : (L.take (min (L.length : Int) 80).toNat).length ≤ 80 := by rw [List.length_take]; omega
  have HM : Hid (MwAt w (.slice pad (min (P.length : Int) 70).toNat pcap) (.slice lad (min (L.length : Int) 80).toNat lcap) (P.take (min (P.length : Int) 70).toNat) (L.take (min (L.length : Int) 80).toNat)) := ⟨he, first_a _ m1 hp, first_u _ m2 hl⟩
  have HBD : Hid (∀ a ∈ P.take (min (P.length : Int) 70).toNat, a.2 < 4294967296) := fun a h => hpb a (List.mem_of_mem_take h)
  have HS : Hid (s.data.toList.length < 140737488351233) := hs
  clear hp hl he hpb hs m1 m2
  generalize P.take (min (P.length : Int) 70).toNat = p at *
  generalize L.take (min (L.length : Int) 80).toNat = l at *
  go_enter Tryz.func5, Tryz.ntmps5
  go_wp2_with fail
  refine Calls.mono (text_any _ p w HM.out.p (by omega) HBD.out HM.out.e.p) ?_
  rintro e w1 ⟨rfl, hb1⟩
  have HB1 : Hid (Below w.heap.size w w1) := hb1
  have HM1 : Hid (MwAt w1 _ _ p l) := HM.out.below hb1
  clear hb1 HM
  obtain ⟨tx, er, htx⟩ : ∃ tx er, (if okP p then Ending.returned (.tuple #[.string ⟨(txP p).toArray⟩, .int .i64 0]) else .returned (.tuple #[.string ⟨#[]⟩, .int .i64 2])) = .returned (.tuple #[.string tx, .int .i64 er]) := by
    cases okP p
    · exact ⟨_, _, rfl⟩
    · exact ⟨_, _, rfl⟩
  have HTX : Hid (_ = _) := htx
  rw [htx]
  clear htx
  go_wp2_with fail
  refine Calls.mono (rtextP_any _ p w1 HM1.out.p (by omega) HBD.out) ?_
  rintro e w2 ⟨rfl, hb2⟩
  have HB2 : Hid (Below w.heap.size w w2) := HB1.out.trans (hb2.mono HB1.out.size)
  have HM2 : Hid (MwAt w2 _ _ p l) := HM1.out.below hb2
  clear hb2 HM1 HB1
  rw [HTX.out]
  clear HTX
  have htt : (tx.toList == tx.toList) = true := by rw [beq_self_eq_true]
  go_wp2_with fail
  refine Calls.mono (match_any _ _ p l w2 HM2.out.p HM2.out.l (by omega) (by omega)) ?_
  rintro e w3 ⟨rfl, hb3⟩
  have HB3 : Hid (Below w.heap.size w w3) := HB2.out.trans (hb3.mono HB2.out.size)
  have HM3 : Hid (MwAt w3 _ _ p l) := HM2.out.below hb3
  clear hb3 HM2 HB2
  go_wp2_with fail
  refine Calls.mono (rmatch_any _ _ p l w3 HM3.out.p HM3.out.l (by omega) (by omega)) ?_
  rintro e w4 ⟨rfl, hb4⟩
  have HB4 : Hid (Below w.heap.size w w4) := HB3.out.trans (hb4.mono HB3.out.size)
  have HE4 : Hid (Env w4) := (HM3.out.below hb4).e
  clear hb4 HM3 HB3
  generalize (okP p && mt p l) = bm at *
  go_wp2_with fail
  refine Calls.mono (parseP_any s.data.toList w4 HS.out HE4.out) ?_
  rintro e w5 ⟨hx, hb5⟩
  have HB5 : Hid (Below w.heap.size w w5) := HB4.out.trans (hb5.mono HB4.out.size)
  have HE5 : Hid (Env w5) := HE4.out.below hb5
  obtain ⟨q, vx, er1, rfl, hvx, hql⟩ : ∃ (q : List Atm) (vx : Value) (er1 : Int), e = .returned (.tuple #[vx, .int .i64 er1]) ∧ AtAt w5 vx q ∧ (q.length ≤ 64 ∧ ((prs s.data.toList = none ∧ q = [] ∧ er1 = 4) ∨ (prs s.data.toList = some q ∧ er1 = 0))) := by
    cases hz : prs s.data.toList with
    | none => rw [hz] at hx; exact ⟨[], _, 4, hx, (OwnA.nil w5 0).at, by simp, Or.inl ⟨rfl, rfl, rfl⟩⟩
    | some q => rw [hz] at hx; obtain ⟨v, e1, e2, e3⟩ := hx; exact ⟨q, v, 0, e1, e2.at, e3, Or.inr ⟨rfl, rfl⟩⟩
  obtain ⟨hq64, hq⟩ := hql
  have HQ : Hid (_ ∨ _) := hq
  have HX5 : Hid (AtAt w5 vx q) := hvx
  clear hx hb5 HE4 HB4 hq hvx
  go_wp2_with fail
  refine Calls.mono (rparse_any s w5) ?_
  rintro e w6 ⟨hy, hb6⟩
  have HB6 : Hid (Below w.heap.size w w6) := HB5.out.trans (hb6.mono HB5.out.size)
  have HE6 : Hid (Env w6) := HE5.out.below hb6
  have HX6 : Hid (AtAt w6 vx q) := HX5.out.below hb6
  obtain ⟨vy, rfl, hvy⟩ : ∃ (vy : Value), e = .returned (.tuple #[vy, .int .i64 er1]) ∧ AtAt w6 vy q := by
    rcases HQ.out with ⟨e1, e2, e3⟩ | ⟨e1, e2⟩
    · rw [e1] at hy; subst e2 e3; exact ⟨_, hy, (OwnA.nil w6 0).at⟩
    · rw [e1] at hy; subst e2; obtain ⟨v, h1, h2, h3⟩ := hy; exact ⟨v, h1, h2.at⟩
  have HY6 : Hid (AtAt w6 vy q) := hvy
  clear hy hb6 HE5 HB5 hvy HX5 HQ
  go_wp2_with fail
  refine Calls.mono (rsameA_yes vx vy q w6 HX6.out HY6.out (by omega)) ?_
  rintro e w7 ⟨rfl, hb7⟩
  have HB7 : Hid (Below w.heap.size w w7) := HB6.out.trans (hb7.mono HB6.out.size)
  have HE7 : Hid (Env w7) := HE6.out.below hb7
  clear hb7 HE6 HB6 HX6 HY6
  go_wp2_with fail
  refine Calls.mono (works_any w7 HE7.out) ?_
  rintro e w8 ⟨rfl, hb8⟩
  have HB8 : Hid (Below w.heap.size w w8) := HB7.out.trans (hb8.mono HB7.out.size)
  clear hb8
  go_wp2
  go_ret
  exact ⟨rfl, HB8.out⟩
end Go.Proofs.YtjchobcmbkiilaaGreatDoor
