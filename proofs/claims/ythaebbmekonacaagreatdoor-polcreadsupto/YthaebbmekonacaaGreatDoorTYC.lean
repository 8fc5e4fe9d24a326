/-
  Conditions as texts.
-/
import Derived.Test.YthaebbmekonacaaGreatDoorTX
import Derived.Deep.RegionHeld
import Derived.BigQuiet
set_option linter.unusedVariables false
set_option linter.unusedSimpArgs false
set_option maxRecDepth 100000
namespace Go.Proofs.YthaebbmekonacaaGreatDoor
open Go.RowKit
theorem ok_acts {a : Ac} (h : okA' a = true) : (a.k = 1 ∨ a.k = 2 ∨ a.k = 5) ∧ a.nm.data.toList = [] ∧ a.n = 0 ∧ a.ad.data.toList = [] ∨ (a.k = 3 ∨ a.k = 4 ∨ a.k = 6) ∧ a.nm.data.toList = [] ∧ a.ad.data.toList = [] ∨ a.k = 7 ∧ a.n = 0 ∧ a.ad.data.toList = [] ∧ nameB a.nm = true ∨ a.k = 8 ∧ a.nm.data.toList = [] ∧ a.ad.data.toList = [] ∧ 1 ≤ a.n ∧ a.n ≤ 8 ∨ a.k = 9 ∧ a.nm.data.toList = [] ∧ a.n = 0 ∧ isAd a.ad = true ∨ a.k = 10 ∧ a.nm.data.toList = [] ∧ a.ad.data.toList = [] ∧ a.n ≤ 2 := by
  unfold okA' at h
  simp only [ByteArray.toList_eq] at h
  split at h
  · left; rename_i hk
    simp only [Bool.and_eq_true, beq_iff_eq] at h
    exact ⟨hk, h.1, h.2.1, h.2.2⟩
  · split at h
    · right; left; rename_i hk
      simp only [Bool.and_eq_true, beq_iff_eq] at h
      exact ⟨hk, h.1, h.2⟩
    · split at h
      · right; right; left; rename_i hk
        simp only [Bool.and_eq_true, beq_iff_eq] at h
        exact ⟨hk, h.1.1, h.1.2, h.2⟩
      · split at h
        · right; right; right; left; rename_i hk
          simp only [Bool.and_eq_true, beq_iff_eq, decide_eq_true_eq] at h
          exact ⟨hk, h.1.1, h.1.2, h.2.1, h.2.2⟩
        · split at h
          · right; right; right; right; left; rename_i hk
            simp only [Bool.and_eq_true, beq_iff_eq] at h
            exact ⟨hk, h.1.1, h.1.2, h.2⟩
          · split at h
            · right; right; right; right; right; rename_i hk
              simp only [Bool.and_eq_true, beq_iff_eq, decide_eq_true_eq] at h
              exact ⟨hk, h.1.1, h.1.2, h.2⟩
            · cases h
theorem act_range {a : Ac} (h : okA' a = true) : 1 ≤ a.k ∧ a.k ≤ 10 := by
  rcases ok_acts h with ⟨h, _⟩ | ⟨h, _⟩ | ⟨h, _⟩ | ⟨h, _⟩ | ⟨h, _⟩ | ⟨h, _⟩ <;> omega
theorem comT_len (c : Nat) (h : c < 4294967296) : (comT c).length ≤ 19 := by
  unfold comT
  split
  · simp
  · split
    · simp
    · split
      · simp
      · have h1 := dig_pow 4 (c / 65536) (by omega)
        have h2 := dig_pow 4 (c % 65536) (by omega)
        simp; omega
theorem ow_len (m : Nat) (h : m ≤ 2) : (owL.getD m []).length ≤ 10 := by
  have : m = 0 ∨ m = 1 ∨ m = 2 := by omega
  rcases this with rfl | rfl | rfl <;> decide
theorem aw_len (m : Nat) (h : 1 ≤ m ∧ m ≤ 10) : (awL.getD m []).length ≤ 7 := by
  have : m = 1 ∨ m = 2 ∨ m = 3 ∨ m = 4 ∨ m = 5 ∨ m = 6 ∨ m = 7 ∨ m = 8 ∨ m = 9 ∨ m = 10 := by omega
  rcases this with rfl | rfl | rfl | rfl | rfl | rfl | rfl | rfl | rfl | rfl <;> decide
theorem avT_len (a : Ac) (hok : okA' a = true) (hn : a.n < 4294967296) : (avT a).length ≤ 40 := by
  unfold avT
  have hd := dig_pow 9 a.n (by omega)
  have hc := comT_len a.n hn
  have ha := adT_len a.ad
  split
  · omega
  · split
    · omega
    · split
      · omega
      · split
        · rename_i hk
          rcases ok_acts hok with ⟨h, _⟩ | ⟨h, _⟩ | ⟨h, _⟩ | ⟨h, _⟩ | ⟨h, _⟩ | ⟨h, _, _, h2⟩
          all_goals first | omega | (have := ow_len a.n h2; omega)
        · rcases ok_acts hok with ⟨_, h, _⟩ | ⟨_, h, _⟩ | ⟨_, _, _, h⟩ | ⟨_, h, _⟩ | ⟨_, h, _⟩ | ⟨_, h, _⟩
          all_goals first | (rw [h]; simp; done) | (have := name_len h; omega)
theorem aT_len (a : Ac) (hok : okA' a = true) (hn : a.n < 4294967296) : (aT a).length ≤ 48 := by
  have h1 := avT_len a hok hn
  have h2 := act_range hok
  have h3 := aw_len a.k.toNat (by omega)
  unfold aT
  generalize awL.getD a.k.toNat [] = t at *
  generalize avT a = v at *
  split <;> simp <;> omega
set_option maxHeartbeats 2000000 in
theorem actionValue_any (a : Ac) (hok : okA' a = true) (hn : a.n < 4294967296) (w : World) (he : EnvX w) : Calls Tryz.prog 76 #[acV a] w fun e w' => e = .returned (.string ⟨(avT a).toArray⟩) ∧ Below w.heap.size w w' := by
  have hk := ok_acts hok
  obtain ⟨k, nm, n, ad⟩ := a
  dsimp only at hk hn
  have HREF : Hid (avT ⟨k, nm, n, ad⟩ = if k = 3 ∨ k = 4 ∨ k = 8 then Lib.decDigits n else if k = 6 then comT n else if k = 9 then adT ad else if k = 10 then owL.getD n [] else nm.data.toList) := rfl
  have HB : Hid (Below _ _ _) := below_box w (.cells #[.int .i64 k, .string nm, .int .u32 (n : Int), .string ad] 40)
  have HP : Hid (EnvX w) := he
  have HDg : Hid (∀ X, PowAt X → Calls Tryz.prog 124 #[.int .u32 (n : Int)] X fun e w' => e = .returned (.string ⟨(Lib.decDigits n).toArray⟩) ∧ Below X.heap.size X w') := fun X hp => digits_any n hn X hp
  have HCm : Hid (∀ X, EnvX X → Calls Tryz.prog 125 #[.int .u32 (n : Int)] X fun e w' => e = .returned (.string ⟨(comT n).toArray⟩) ∧ Below X.heap.size X w') := fun X hX => comText_any n X hn hX.c hX.e.p
  clear he hok
  generalize avT ⟨k, nm, n, ad⟩ = r at *
  unfold acV
  dsimp only
  rcases hk with ⟨h, h1, h2, h3⟩ | ⟨h, h1, h2⟩ | ⟨rfl, h1, h2, h3⟩ | ⟨rfl, h1, h2, h3, h4⟩ | ⟨rfl, h1, h2, h3⟩ | ⟨rfl, h1, h2, h3⟩
  · clear h1 h2 h3
    rcases h with rfl | rfl | rfl
    · rw [if_neg (by decide), if_neg (by decide), if_neg (by decide), if_neg (by decide)] at HREF
      clear HDg HCm HP
      go_enter Tryz.func76, Tryz.ntmps76
      go_wp2
      go_ret
      exact ⟨ret_str (by rw [HREF.out, bytes_eta]), HB.out⟩
    · rw [if_neg (by decide), if_neg (by decide), if_neg (by decide), if_neg (by decide)] at HREF
      clear HDg HCm HP
      go_enter Tryz.func76, Tryz.ntmps76
      go_wp2
      go_ret
      exact ⟨ret_str (by rw [HREF.out, bytes_eta]), HB.out⟩
    · rw [if_neg (by decide), if_neg (by decide), if_neg (by decide), if_neg (by decide)] at HREF
      clear HDg HCm HP
      go_enter Tryz.func76, Tryz.ntmps76
      go_wp2
      go_ret
      exact ⟨ret_str (by rw [HREF.out, bytes_eta]), HB.out⟩
  · clear h1 h2
    rcases h with rfl | rfl | rfl
    · rw [if_pos (by decide)] at HREF
      generalize Lib.decDigits n = t at *
      go_enter Tryz.func76, Tryz.ntmps76
      go_wp2_with fail
      refine Calls.mono (HDg.out _ (HP.out.below HB.out).e.p) ?_
      rintro e w5 ⟨rfl, hb5⟩
      go_wp2
      go_ret
      exact ⟨by rw [HREF.out]; rfl, HB.out.trans (hb5.mono HB.out.size)⟩
    · rw [if_pos (by decide)] at HREF
      generalize Lib.decDigits n = t at *
      go_enter Tryz.func76, Tryz.ntmps76
      go_wp2_with fail
      refine Calls.mono (HDg.out _ (HP.out.below HB.out).e.p) ?_
      rintro e w5 ⟨rfl, hb5⟩
      go_wp2
      go_ret
      exact ⟨by rw [HREF.out]; rfl, HB.out.trans (hb5.mono HB.out.size)⟩
    · rw [if_neg (by decide), if_pos rfl] at HREF
      generalize comT n = t at *
      go_enter Tryz.func76, Tryz.ntmps76
      go_wp2_with fail
      refine Calls.mono (HCm.out _ (HP.out.below HB.out)) ?_
      rintro e w5 ⟨rfl, hb5⟩
      go_wp2
      go_ret
      exact ⟨by rw [HREF.out]; rfl, HB.out.trans (hb5.mono HB.out.size)⟩
  · clear h1 h2 h3
    rw [if_neg (by decide), if_neg (by decide), if_neg (by decide), if_neg (by decide)] at HREF
    clear HDg HCm HP
    go_enter Tryz.func76, Tryz.ntmps76
    go_wp2
    go_ret
    exact ⟨ret_str (by rw [HREF.out, bytes_eta]), HB.out⟩
  · clear h1 h2 h3 h4
    rw [if_pos (by decide)] at HREF
    generalize Lib.decDigits n = t at *
    go_enter Tryz.func76, Tryz.ntmps76
    go_wp2_with fail
    refine Calls.mono (HDg.out _ (HP.out.below HB.out).e.p) ?_
    rintro e w5 ⟨rfl, hb5⟩
    go_wp2
    go_ret
    exact ⟨by rw [HREF.out]; rfl, HB.out.trans (hb5.mono HB.out.size)⟩
  · skip
    rw [if_neg (by decide), if_neg (by decide), if_pos rfl] at HREF
    have HAd : Hid (∀ X, EnvT X → Calls Tryz.prog 126 #[.string ad] X fun e w' => e = .returned (.tuple #[.string ⟨(adT ad).toArray⟩, .int .i64 (adE ad)]) ∧ Below X.heap.size X w') := fun X hX => addrText_any ad X hX (by unfold isAd at h3; simp at h3; unfold maxLen; omega)
    generalize adT ad = t at *
    generalize adE ad = ee at *
    clear h1 h2 h3
    go_enter Tryz.func76, Tryz.ntmps76
    go_wp2_with fail
    refine Calls.mono (HAd.out _ (HP.out.below HB.out).e) ?_
    rintro e w5 ⟨rfl, hb5⟩
    go_wp2
    go_ret
    exact ⟨by rw [HREF.out]; rfl, HB.out.trans (hb5.mono HB.out.size)⟩
  · skip
    rw [if_neg (by decide), if_neg (by decide), if_neg (by decide), if_pos rfl] at HREF
    have i1 : (n : Int) < 3 := by omega
    have i0 : (0 : Int) ≤ (n : Int) := by omega
    have HL : Hid (n < owL.length) := by unfold Hid; simp [owL]; omega
    obtain ⟨t, ht⟩ : ∃ t, owL.getD n [] = t := ⟨_, rfl⟩
    have HT : Hid (_ = t) := ht
    rw [ht] at HREF
    clear h1 h2 h3 ht HDg HCm hn
    have q2 : (w.alloc (.cells #[.int .i64 10, .string nm, .int .u32 (n : Int), .string ad] 40)).cell? ⟨w.heap.size, 2, none⟩ = some (.int .u32 (n : Int)) := by rw [World.cell?_alloc_new]; rfl
    go_enter Tryz.func76, Tryz.ntmps76
    go_wp2
    generalize w.alloc (.cells #[.int .i64 10, .string nm, .int .u32 (n : Int), .string ad] 40) = W at *
    go_region_with (first | (go_at_call 127; refine Calls.mono (ow_any _) ?_; rintro e w5 ⟨rfl, ht5⟩; have t5 : w5.cell? ⟨W.heap.size, n, none⟩ = some _ := ht5.word HL.out HT.out; have q2 := below_cell ht5.2 q2))
    all_goals go_wp2
    all_goals go_ret
    all_goals exact ⟨by rw [HREF.out]; rfl, (below_dr HB.out 1).trans (ht5.2.mono HB.out.size)⟩
set_option maxHeartbeats 4000000 in
theorem actionText_any (a : Ac) (hok : okA' a = true) (hn : a.n < 4294967296) (w : World) (he : EnvX w) : Calls Tryz.prog 42 #[acV a] w fun e w' => e = .returned (.string ⟨(aT a).toArray⟩) ∧ Below w.heap.size w w' := by
  have hr := act_range hok
  have hvl := avT_len a hok hn
  have HV : Hid (∀ X, EnvX X → Calls Tryz.prog 76 #[acV a] X fun e w' => e = .returned (.string ⟨(avT a).toArray⟩) ∧ Below X.heap.size X w') := fun X hX => actionValue_any a hok hn X hX
  have HREF : Hid (aT a = awL.getD a.k.toNat [] ++ (if avT a = [] then [] else [32] ++ avT a)) := rfl
  obtain ⟨k, nm, n, ad⟩ := a
  dsimp only at hr HREF
  unfold acV at HV ⊢
  dsimp only at HV ⊢
  obtain ⟨m, rfl⟩ : ∃ m : Nat, k = m := ⟨k.toNat, by omega⟩
  rw [Int.toNat_natCast] at HREF
  have HL : Hid (m < awL.length) := by unfold Hid; simp [awL]; omega
  obtain ⟨t, ht⟩ : ∃ t, awL.getD m [] = t := ⟨_, rfl⟩
  have htl := aw_len m (by omega)
  rw [ht] at htl HREF
  have HT : Hid (_ = t) := ht
  have i1 : (m : Int) < 11 := by omega
  have i0 : (0 : Int) ≤ (m : Int) := by omega
  clear ht hok hr hn
  generalize aT ⟨(m : Int), nm, n, ad⟩ = r at *
  generalize avT ⟨(m : Int), nm, n, ad⟩ = v at *
  have HB : Hid (Below _ _ _) := below_box w (.cells #[.int .i64 (m : Int), .string nm, .int .u32 (n : Int), .string ad] 40)
  have q0 : (w.alloc (.cells #[.int .i64 (m : Int), .string nm, .int .u32 (n : Int), .string ad] 40)).cell? ⟨w.heap.size, 0, none⟩ = some (.int .i64 (m : Int)) := by rw [World.cell?_alloc_new]; rfl
  have q1 : (w.alloc (.cells #[.int .i64 (m : Int), .string nm, .int .u32 (n : Int), .string ad] 40)).cell? ⟨w.heap.size, 1, none⟩ = some (.string nm) := by rw [World.cell?_alloc_new]; rfl
  have q2 : (w.alloc (.cells #[.int .i64 (m : Int), .string nm, .int .u32 (n : Int), .string ad] 40)).cell? ⟨w.heap.size, 2, none⟩ = some (.int .u32 (n : Int)) := by rw [World.cell?_alloc_new]; rfl
  have q3 : (w.alloc (.cells #[.int .i64 (m : Int), .string nm, .int .u32 (n : Int), .string ad] 40)).cell? ⟨w.heap.size, 3, none⟩ = some (.string ad) := by rw [World.cell?_alloc_new]; rfl
  have HE : Hid (EnvX (w.alloc (.cells #[.int .i64 (m : Int), .string nm, .int .u32 (n : Int), .string ad] 40))) := he.below HB.out
  have a1 : ∀ W, (Op.stringOp .add (⟨#[32]⟩ : ByteArray) ⟨v.toArray⟩).run Tryz.prog W = .ok (.string ⟨([32] ++ v).toArray⟩) W := fun W => add_l [32] v (by simp; omega) W
  have hul : ([32] ++ v).length ≤ 41 := by simp; omega
  have hte : (v.toArray.toList == ([] : List UInt8)) = decide (v = []) := by simp; cases v <;> simp
  generalize [32] ++ v = u at *
  have a2 := add_l t u (by omega)
  clear htl hvl hul he
  go_enter Tryz.func42, Tryz.ntmps42
  go_wp2
  generalize w.alloc (.cells #[.int .i64 (m : Int), .string nm, .int .u32 (n : Int), .string ad] 40) = W at *
  go_region_with (first
    | (go_at_call 75; refine Calls.mono (aw_any _) ?_; rintro e w5 ⟨rfl, ht5⟩; have t5 : w5.cell? ⟨W.heap.size, m, none⟩ = some _ := ht5.word HL.out HT.out; have p0 := below_cell ht5.2 q0; have p1 := below_cell ht5.2 q1; have p2 := below_cell ht5.2 q2; have p3 := below_cell ht5.2 q3))
  all_goals
    have HB5 : Hid (Below w.heap.size w w5) := (below_dr HB.out 1).trans (ht5.2.mono HB.out.size)
    have HE5 : Hid (EnvX w5) := HE.out.below ((below_dr (Below.refl _ W) 1).trans ht5.2)
    clear ht5 t5 q0 q1 q2 q3 HE HB HT HL
    go_wp2_with fail
    refine Calls.mono (HV.out _ HE5.out) ?_
    rintro e w6 ⟨rfl, hb6⟩
    have HB6 : Hid (Below w.heap.size w w6) := HB5.out.trans (hb6.mono HB5.out.size)
    clear hb6 HB5 HE5 HV p0 p1 p2 p3
    by_cases hv : v = []
    · subst hv
      rw [if_pos rfl, List.append_nil] at HREF
      go_wp2
      go_ret
      exact ⟨by rw [HREF.out]; rfl, HB6.out⟩
    · rw [if_neg hv] at HREF
      have hne : ((⟨v.toArray⟩ : ByteArray).toList == ([] : List UInt8)) = false := by rw [ByteArray.toList_eq]; simpa using hv
      have hne2 : ¬ (⟨v.toArray⟩ : ByteArray).toList = ([] : List UInt8) := by rw [ByteArray.toList_eq]; simpa using hv
      have hve : v.isEmpty = false := by cases v with
        | nil => exact absurd rfl hv
        | cons a b => rfl
      clear hv hte
      go_wp2
      go_ret
      exact ⟨by rw [HREF.out]; rfl, HB6.out⟩
end Go.Proofs.YthaebbmekonacaaGreatDoor
set_option linter.unusedVariables false
set_option linter.unusedSimpArgs false
set_option maxRecDepth 100000
namespace Go.Proofs.YthaebbmekonacaaGreatDoor
open Go.RowKit
set_option maxHeartbeats 4000000 in
theorem condText_any (c : Cd) (hok : okC c = true) (w : World) (he : EnvX w) : Calls Tryz.prog 44 #[cdV c] w fun e w' => e = .returned (.string ⟨(cT c).toArray⟩) ∧ Below w.heap.size w w' := by
  have hr := kind_range hok
  have hvl := cvT_len c hok
  have HV : Hid (∀ X, EnvX X → Calls Tryz.prog 78 #[cdV c] X fun e w' => e = .returned (.string ⟨(cvT c).toArray⟩) ∧ Below X.heap.size X w') := fun X hX => condValue_any c hok X hX
  have HREF : Hid (cT c = (if c.nt then [110, 111, 116, 32] else []) ++ (cwL.getD c.k.toNat [] ++ ([32] ++ cvT c))) := rfl
  obtain ⟨k, nt, nm, n⟩ := c
  dsimp only at hr HREF
  unfold cdV at HV ⊢
  dsimp only at HV ⊢
  obtain ⟨m, rfl⟩ : ∃ m : Nat, k = m := ⟨k.toNat, by omega⟩
  rw [Int.toNat_natCast] at HREF
  have HL : Hid (m < cwL.length) := by unfold Hid; simp [cwL]; omega
  obtain ⟨t, ht⟩ : ∃ t, cwL.getD m [] = t := ⟨_, rfl⟩
  have htl := cw_len m (by omega)
  rw [ht] at htl HREF
  have HT : Hid (_ = t) := ht
  have i1 : (m : Int) < 8 := by omega
  have i0 : (0 : Int) ≤ (m : Int) := by omega
  clear ht hok hr
  generalize cT ⟨(m : Int), nt, nm, n⟩ = r at *
  generalize cvT ⟨(m : Int), nt, nm, n⟩ = v at *
  have a1 : ∀ W, (Op.stringOp .add (⟨t.toArray⟩ : ByteArray) ⟨#[32]⟩).run Tryz.prog W = .ok (.string ⟨(t ++ [32]).toArray⟩) W := fun W => add_l t [32] (by simp; omega) W
  have hul : (t ++ [32]).length ≤ 7 := by simp; omega
  rw [← List.append_assoc t [32] v] at HREF
  generalize t ++ [32] = u at *
  have a2 := add_l u v (by omega)
  have hxl : (u ++ v).length ≤ 23 := by simp; omega
  generalize u ++ v = x at *
  have a3 : ∀ W, (Op.stringOp .add (⟨#[110, 111, 116, 32]⟩ : ByteArray) ⟨x.toArray⟩).run Tryz.prog W = .ok (.string ⟨([110, 111, 116, 32] ++ x).toArray⟩) W := fun W => add_l [110, 111, 116, 32] x (by simp; omega) W
  have HB : Hid (Below _ _ _) := below_box w (.cells #[.int .i64 (m : Int), .bool nt, .string nm, .int .i64 n] 37)
  have q0 : (w.alloc (.cells #[.int .i64 (m : Int), .bool nt, .string nm, .int .i64 n] 37)).cell? ⟨w.heap.size, 0, none⟩ = some (.int .i64 (m : Int)) := by rw [World.cell?_alloc_new]; rfl
  have q1 : (w.alloc (.cells #[.int .i64 (m : Int), .bool nt, .string nm, .int .i64 n] 37)).cell? ⟨w.heap.size, 1, none⟩ = some (.bool nt) := by rw [World.cell?_alloc_new]; rfl
  have q2 : (w.alloc (.cells #[.int .i64 (m : Int), .bool nt, .string nm, .int .i64 n] 37)).cell? ⟨w.heap.size, 2, none⟩ = some (.string nm) := by rw [World.cell?_alloc_new]; rfl
  have q3 : (w.alloc (.cells #[.int .i64 (m : Int), .bool nt, .string nm, .int .i64 n] 37)).cell? ⟨w.heap.size, 3, none⟩ = some (.int .i64 n) := by rw [World.cell?_alloc_new]; rfl
  have HE : Hid (EnvX (w.alloc (.cells #[.int .i64 (m : Int), .bool nt, .string nm, .int .i64 n] 37))) := he.below HB.out
  clear htl hvl hul hxl he
  go_enter Tryz.func44, Tryz.ntmps44
  go_wp2
  generalize w.alloc (.cells #[.int .i64 (m : Int), .bool nt, .string nm, .int .i64 n] 37) = W at *
  go_region_with (first
    | (go_at_call 77; refine Calls.mono (cw_any _) ?_; rintro e w5 ⟨rfl, ht5⟩; have t5 : w5.cell? ⟨W.heap.size, m, none⟩ = some _ := ht5.word HL.out HT.out; have p0 := below_cell ht5.2 q0; have p1 := below_cell ht5.2 q1; have p2 := below_cell ht5.2 q2; have p3 := below_cell ht5.2 q3)
    | (go_at_call 78; refine Calls.mono (HV.out _ (HE.out.below ((below_dr (Below.refl _ W) 1).trans ht5.2))) ?_; rintro e w6 ⟨rfl, hb6⟩; have t6 := below_cell hb6 t5; have p0 := below_cell hb6 p0; have p1 := below_cell hb6 p1; have p2 := below_cell hb6 p2; have p3 := below_cell hb6 p3))
  all_goals
    have HB6 : Hid (Below w.heap.size w w6) := ((below_dr HB.out 1).trans (ht5.2.mono HB.out.size)).trans (hb6.mono (Nat.le_trans HB.out.size ht5.2.size))
    clear ht5 hb6 t5 t6 q0 q1 q2 q3 a1 a2 HE HB HT HL HV
    cases nt
    · go_wp2
      go_ret
      exact ⟨by rw [HREF.out]; rfl, HB6.out⟩
    · go_wp2
      go_ret
      exact ⟨by rw [HREF.out]; rfl, HB6.out⟩
end Go.Proofs.YthaebbmekonacaaGreatDoor
