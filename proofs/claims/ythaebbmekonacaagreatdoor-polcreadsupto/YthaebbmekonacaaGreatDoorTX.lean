/-
  Conditions and actions as texts.
-/
import Derived.Test.YthaebbmekonacaaGreatDoorEE
import Derived.Deep.RegionHeld
import Derived.BigQuiet
import Derived.Shelf.Strconv.Itoa3
set_option linter.unusedVariables false
set_option linter.unusedSimpArgs false
set_option maxRecDepth 100000
namespace Go.Proofs.YthaebbmekonacaaGreatDoor
open Go.RowKit
/-- A table of words that was made just now. -/
def TabW (w w' : World) (xs : List (List UInt8)) : Prop := (∀ k, k < xs.length → w'.cell? ⟨w.heap.size, k, none⟩ = some (.string ⟨(xs.getD k []).toArray⟩)) ∧ Below w.heap.size w w'
def cwL : List (List UInt8) := [[], [112, 114, 101, 102, 105, 120], [99, 111, 109, 109], [112, 97, 116, 104], [112, 101, 101, 114], [111, 114, 105, 103, 105, 110], [108, 101, 110, 103, 116, 104], [102, 97, 109]]
theorem cwTab (w : World) : TabW w (w.alloc (.cells #[.string ⟨#[]⟩, .string ⟨#[112, 114, 101, 102, 105, 120]⟩, .string ⟨#[99, 111, 109, 109]⟩, .string ⟨#[112, 97, 116, 104]⟩, .string ⟨#[112, 101, 101, 114]⟩, .string ⟨#[111, 114, 105, 103, 105, 110]⟩, .string ⟨#[108, 101, 110, 103, 116, 104]⟩, .string ⟨#[102, 97, 109]⟩] 9)) cwL := by
  refine ⟨fun k hk => ?_, (Below.refl _ _).alloc (Nat.le_refl _) _⟩
  rw [World.cell?_alloc_new]
  have : k = 0 ∨ k = 1 ∨ k = 2 ∨ k = 3 ∨ k = 4 ∨ k = 5 ∨ k = 6 ∨ k = 7 := by simp [cwL] at hk; omega
  rcases this with rfl | rfl | rfl | rfl | rfl | rfl | rfl | rfl <;> rfl
theorem cw_any (w : World) : Calls Tryz.prog 77 #[] w fun e w' => e = .returned (.slice (some ⟨w.heap.size, 0, none⟩) 8 8) ∧ TabW w w' cwL := by
  have H : Hid (_ : Prop) := cwTab w
  go_enter Tryz.func77, Tryz.ntmps77
  go_wp2
  go_ret
  exact ⟨rfl, H.out⟩
def awL : List (List UInt8) := [[], [97, 99, 99, 101, 112, 116], [114, 101, 106, 101, 99, 116], [112, 114, 101, 102], [109, 101, 100], [110, 111, 45, 109, 101, 100], [97, 100, 100], [100, 101, 108], [112, 114, 101, 112, 101, 110, 100], [110, 101, 120, 116], [111, 114, 105, 103, 105, 110]]
theorem awTab (w : World) : TabW w (w.alloc (.cells #[.string ⟨#[]⟩, .string ⟨#[97, 99, 99, 101, 112, 116]⟩, .string ⟨#[114, 101, 106, 101, 99, 116]⟩, .string ⟨#[112, 114, 101, 102]⟩, .string ⟨#[109, 101, 100]⟩, .string ⟨#[110, 111, 45, 109, 101, 100]⟩, .string ⟨#[97, 100, 100]⟩, .string ⟨#[100, 101, 108]⟩, .string ⟨#[112, 114, 101, 112, 101, 110, 100]⟩, .string ⟨#[110, 101, 120, 116]⟩, .string ⟨#[111, 114, 105, 103, 105, 110]⟩] 9)) awL := by
  refine ⟨fun k hk => ?_, (Below.refl _ _).alloc (Nat.le_refl _) _⟩
  rw [World.cell?_alloc_new]
  have : k = 0 ∨ k = 1 ∨ k = 2 ∨ k = 3 ∨ k = 4 ∨ k = 5 ∨ k = 6 ∨ k = 7 ∨ k = 8 ∨ k = 9 ∨ k = 10 := by simp [awL] at hk; omega
  rcases this with rfl | rfl | rfl | rfl | rfl | rfl | rfl | rfl | rfl | rfl | rfl <;> rfl
theorem aw_any (w : World) : Calls Tryz.prog 75 #[] w fun e w' => e = .returned (.slice (some ⟨w.heap.size, 0, none⟩) 11 11) ∧ TabW w w' awL := by
  have H : Hid (_ : Prop) := awTab w
  go_enter Tryz.func75, Tryz.ntmps75
  go_wp2
  go_ret
  exact ⟨rfl, H.out⟩
def owL : List (List UInt8) := [[105, 103, 112], [101, 103, 112], [105, 110, 99, 111, 109, 112, 108, 101, 116, 101]]
theorem owTab (w : World) : TabW w (w.alloc (.cells #[.string ⟨#[105, 103, 112]⟩, .string ⟨#[101, 103, 112]⟩, .string ⟨#[105, 110, 99, 111, 109, 112, 108, 101, 116, 101]⟩] 9)) owL := by
  refine ⟨fun k hk => ?_, (Below.refl _ _).alloc (Nat.le_refl _) _⟩
  rw [World.cell?_alloc_new]
  have : k = 0 ∨ k = 1 ∨ k = 2 := by simp [owL] at hk; omega
  rcases this with rfl | rfl | rfl <;> rfl
theorem ow_any (w : World) : Calls Tryz.prog 127 #[] w fun e w' => e = .returned (.slice (some ⟨w.heap.size, 0, none⟩) 3 3) ∧ TabW w w' owL := by
  have H : Hid (_ : Prop) := owTab w
  go_enter Tryz.func127, Tryz.ntmps127
  go_wp2
  go_ret
  exact ⟨rfl, H.out⟩
def fwL : List (List UInt8) := [[], [118, 52], [118, 54], [108, 52], [118, 112, 110, 52], [118, 112, 110, 54]]
theorem fwTab (w : World) : TabW w (w.alloc (.cells #[.string ⟨#[]⟩, .string ⟨#[118, 52]⟩, .string ⟨#[118, 54]⟩, .string ⟨#[108, 52]⟩, .string ⟨#[118, 112, 110, 52]⟩, .string ⟨#[118, 112, 110, 54]⟩] 9)) fwL := by
  refine ⟨fun k hk => ?_, (Below.refl _ _).alloc (Nat.le_refl _) _⟩
  rw [World.cell?_alloc_new]
  have : k = 0 ∨ k = 1 ∨ k = 2 ∨ k = 3 ∨ k = 4 ∨ k = 5 := by simp [fwL] at hk; omega
  rcases this with rfl | rfl | rfl | rfl | rfl | rfl <;> rfl
theorem fw_any (w : World) : Calls Tryz.prog 128 #[] w fun e w' => e = .returned (.slice (some ⟨w.heap.size, 0, none⟩) 6 6) ∧ TabW w w' fwL := by
  have H : Hid (_ : Prop) := fwTab w
  go_enter Tryz.func128, Tryz.ntmps128
  go_wp2
  go_ret
  exact ⟨rfl, H.out⟩
theorem TabW.word {X Y : World} {xs : List (List UInt8)} {t : List UInt8} {k : Nat} (h : TabW X Y xs) (hk : k < xs.length) (ht : xs.getD k [] = t) : Y.cell? ⟨X.heap.size, k, none⟩ = some (.string ⟨t.toArray⟩) := by
  rw [← ht]; exact h.1 k hk
theorem digits_any (n : Nat) (hn : n < 4294967296) (w : World) (hp : PowAt w) : Calls Tryz.prog 124 #[.int .u32 (n : Int)] w fun e w' => e = .returned (.string ⟨(Lib.decDigits n).toArray⟩) ∧ Below w.heap.size w w' := by
  have hw : IntKind.u64.wrap (n : Int) = n := by rw [IntKind.wrap_u64]; omega
  go_enter Tryz.func124, Tryz.ntmps124
  go_wp2_with fail
  refine (fmt_any n (by omega) w hp).mono ?_
  rintro e w1 ⟨rfl, hb⟩
  go_wp2
  go_ret
  exact ⟨rfl, hb⟩
theorem itoa_any (n : Nat) (hn : n ≤ 65535) (w : World) (hp : PowAt w) : Calls Tryz.prog 82 #[.int .i64 (n : Int)] w fun e w' => e = .returned (.string ⟨(Lib.decDigits n).toArray⟩) ∧ Below w.heap.size w w' := by
  have h := show Calls Tryz.prog 82 #[.int .i64 (n : Int)] w _ from Any.strconv_Itoa Tryz.laysM171 (n : Int) (by omega) (by omega) w (hp.pow (by kernel_rfl))
  rw [show Lib.itoa (n : Int) = Lib.decDigits n by unfold Lib.itoa; rw [if_neg (by omega)]; rfl] at h
  refine h.mono ?_
  rintro e w' ⟨rfl, k, os, rfl⟩
  exact ⟨rfl, below_drewN' (grow_below w os) k⟩
/-- What a condition asks for, as a text. -/
def cvT (c : Cd) : List UInt8 := if c.k = 5 then owL.getD c.n.toNat [] else if c.k = 6 then Lib.decDigits c.n.toNat else if c.k = 7 then fwL.getD c.n.toNat [] else c.nm.data.toList
/-- A condition's text. -/
def cT (c : Cd) : List UInt8 := (if c.nt then [110, 111, 116, 32] else []) ++ (cwL.getD c.k.toNat [] ++ ([32] ++ cvT c))
/-- What an action does it with, as a text. -/
def avT (a : Ac) : List UInt8 := if a.k = 3 ∨ a.k = 4 ∨ a.k = 8 then Lib.decDigits a.n else if a.k = 6 then comT a.n else if a.k = 9 then adT a.ad else if a.k = 10 then owL.getD a.n [] else a.nm.data.toList
/-- An action's text. -/
def aT (a : Ac) : List UInt8 := awL.getD a.k.toNat [] ++ (if avT a = [] then [] else [32] ++ avT a)
/-- What all of this wants of the memory. -/
structure EnvX (w : World) : Prop where
  e : EnvT w
  c : ComAt w
theorem EnvX.below {w w' : World} (h : EnvX w) (hb : Below w.heap.size w w') : EnvX w' := ⟨h.e.below hb, h.c.below hb⟩
theorem bytes_eta (s : ByteArray) : (⟨s.data.toList.toArray⟩ : ByteArray) = s := by cases s; simp
theorem ok_kinds {c : Cd} (h : okC c = true) : (c.k = 1 ∨ c.k = 2 ∨ c.k = 3 ∨ c.k = 4) ∧ nameB c.nm = true ∧ c.n = 0 ∨ c.k = 5 ∧ c.nm.toList = [] ∧ 0 ≤ c.n ∧ c.n ≤ 2 ∨ c.k = 6 ∧ c.nm.toList = [] ∧ 0 ≤ c.n ∧ c.n ≤ 65535 ∨ c.k = 7 ∧ c.nm.toList = [] ∧ 1 ≤ c.n ∧ c.n ≤ 5 := by
  unfold okC at h
  split at h
  · rename_i hk
    left
    simp at h
    exact ⟨hk, h.1, h.2⟩
  · split at h
    · right; left
      simp at h
      exact ⟨by assumption, h.1, h.2.1, h.2.2⟩
    · split at h
      · right; right; left
        simp at h
        exact ⟨by assumption, h.1, h.2.1, h.2.2⟩
      · split at h
        · right; right; right
          simp [Pr.szOf] at h
          refine ⟨by assumption, h.1, ?_⟩
          have h2 := h.2
          split at h2
          · omega
          · split at h2
            · omega
            · simp at h2
        · cases h
set_option maxHeartbeats 2000000 in
theorem condValue_any (c : Cd) (hok : okC c = true) (w : World) (he : EnvX w) : Calls Tryz.prog 78 #[cdV c] w fun e w' => e = .returned (.string ⟨(cvT c).toArray⟩) ∧ Below w.heap.size w w' := by
  have hk := ok_kinds hok
  obtain ⟨k, nt, nm, n⟩ := c
  dsimp only at hk
  have HREF : Hid (cvT ⟨k, nt, nm, n⟩ = if k = 5 then owL.getD n.toNat [] else if k = 6 then Lib.decDigits n.toNat else if k = 7 then fwL.getD n.toNat [] else nm.data.toList) := rfl
  have HB : Hid (Below _ _ _) := below_box w (.cells #[.int .i64 k, .bool nt, .string nm, .int .i64 n] 37)
  have HP : Hid (EnvX w) := he
  clear he hok
  generalize cvT ⟨k, nt, nm, n⟩ = r at *
  unfold cdV
  dsimp only
  rcases hk with ⟨hk, hn, rfl⟩ | ⟨rfl, hn, h0, h1⟩ | ⟨rfl, hn, h0, h1⟩ | ⟨rfl, hn, h0, h1⟩
  · rw [if_neg (by omega), if_neg (by omega), if_neg (by omega)] at HREF
    have g5 : (k == 5) = false := beq_eq_false_iff_ne.2 (by omega)
    have g6 : (k == 6) = false := beq_eq_false_iff_ne.2 (by omega)
    have g7 : (k == 7) = false := beq_eq_false_iff_ne.2 (by omega)
    clear hk hn
    go_enter Tryz.func78, Tryz.ntmps78
    go_wp2
    go_ret
    exact ⟨ret_str (by rw [HREF.out, bytes_eta]), HB.out⟩
  · obtain ⟨m, rfl⟩ : ∃ m : Nat, n = m := ⟨n.toNat, by omega⟩
    rw [if_pos rfl, Int.toNat_natCast] at HREF
    have i1 : (m : Int) < 3 := by omega
    have i0 : (0 : Int) ≤ (m : Int) := by omega
    have HL : Hid (m < owL.length) := by unfold Hid; simp [owL]; omega
    obtain ⟨t, ht⟩ : ∃ t, owL.getD m [] = t := ⟨_, rfl⟩
    have HT : Hid (_ = t) := ht
    rw [ht] at HREF
    clear hn h0 h1 ht
    have q3 : (w.alloc (.cells #[.int .i64 5, .bool nt, .string nm, .int .i64 (m : Int)] 37)).cell? ⟨w.heap.size, 3, none⟩ = some (.int .i64 (m : Int)) := by rw [World.cell?_alloc_new]; rfl
    go_enter Tryz.func78, Tryz.ntmps78
    go_wp2
    generalize w.alloc (.cells #[.int .i64 5, .bool nt, .string nm, .int .i64 (m : Int)] 37) = W at *
    go_region_with (first | (go_at_call 127; refine Calls.mono (ow_any _) ?_; rintro e w5 ⟨rfl, ht5⟩; have t5 : w5.cell? ⟨W.heap.size, m, none⟩ = some _ := ht5.word HL.out HT.out; have q3 := below_cell ht5.2 q3))
    all_goals go_wp2
    all_goals go_ret
    all_goals exact ⟨by rw [HREF.out]; rfl, (below_dr HB.out 1).trans (ht5.2.mono HB.out.size)⟩
  · obtain ⟨m, rfl⟩ : ∃ m : Nat, n = m := ⟨n.toNat, by omega⟩
    rw [if_neg (by decide), if_pos rfl, Int.toNat_natCast] at HREF
    have HI : Hid (∀ X, PowAt X → Calls Tryz.prog 82 #[.int .i64 (m : Int)] X _) := fun X hp => itoa_any m (by omega) X hp
    clear hn h0 h1
    generalize Lib.decDigits m = t at *
    go_enter Tryz.func78, Tryz.ntmps78
    go_wp2_with fail
    refine Calls.mono (HI.out _ (HP.out.below HB.out).e.p) ?_
    rintro e w5 ⟨rfl, hb5⟩
    go_wp2
    go_ret
    exact ⟨by rw [HREF.out]; rfl, HB.out.trans (hb5.mono HB.out.size)⟩
  · obtain ⟨m, rfl⟩ : ∃ m : Nat, n = m := ⟨n.toNat, by omega⟩
    rw [if_neg (by decide), if_neg (by decide), if_pos rfl, Int.toNat_natCast] at HREF
    have i1 : (m : Int) < 6 := by omega
    have i0 : (0 : Int) ≤ (m : Int) := by omega
    have HL : Hid (m < fwL.length) := by unfold Hid; simp [fwL]; omega
    obtain ⟨t, ht⟩ : ∃ t, fwL.getD m [] = t := ⟨_, rfl⟩
    have HT : Hid (_ = t) := ht
    rw [ht] at HREF
    clear hn h0 h1 ht
    have q3 : (w.alloc (.cells #[.int .i64 7, .bool nt, .string nm, .int .i64 (m : Int)] 37)).cell? ⟨w.heap.size, 3, none⟩ = some (.int .i64 (m : Int)) := by rw [World.cell?_alloc_new]; rfl
    go_enter Tryz.func78, Tryz.ntmps78
    go_wp2
    generalize w.alloc (.cells #[.int .i64 7, .bool nt, .string nm, .int .i64 (m : Int)] 37) = W at *
    go_region_with (first | (go_at_call 128; refine Calls.mono (fw_any _) ?_; rintro e w5 ⟨rfl, ht5⟩; have t5 : w5.cell? ⟨W.heap.size, m, none⟩ = some _ := ht5.word HL.out HT.out; have q3 := below_cell ht5.2 q3))
    all_goals go_wp2
    all_goals go_ret
    all_goals exact ⟨by rw [HREF.out]; rfl, (below_dr HB.out 1).trans (ht5.2.mono HB.out.size)⟩
theorem name_len {s : ByteArray} (h : nameB s = true) : s.data.toList.length ≤ 16 := by
  unfold nameB at h
  simp at h
  have := h.1.1.2
  simpa using this
theorem cvT_len (c : Cd) (hok : okC c = true) : (cvT c).length ≤ 16 := by
  unfold cvT
  rcases ok_kinds hok with ⟨hk, hn, h0⟩ | ⟨hk, hn, h0, h1⟩ | ⟨hk, hn, h0, h1⟩ | ⟨hk, hn, h0, h1⟩
  · rw [if_neg (by omega), if_neg (by omega), if_neg (by omega)]
    exact name_len hn
  · rw [if_pos hk]
    obtain ⟨m, hm⟩ : ∃ m : Nat, c.n = m := ⟨c.n.toNat, by omega⟩
    rw [hm, Int.toNat_natCast]
    have : m = 0 ∨ m = 1 ∨ m = 2 := by omega
    rcases this with rfl | rfl | rfl <;> decide
  · rw [if_neg (by omega), if_pos hk]
    have := dig_pow 4 c.n.toNat (by omega)
    omega
  · rw [if_neg (by omega), if_neg (by omega), if_pos hk]
    obtain ⟨m, hm⟩ : ∃ m : Nat, c.n = m := ⟨c.n.toNat, by omega⟩
    rw [hm, Int.toNat_natCast]
    have : m = 1 ∨ m = 2 ∨ m = 3 ∨ m = 4 ∨ m = 5 := by omega
    rcases this with rfl | rfl | rfl | rfl | rfl <;> decide
theorem kind_range {c : Cd} (hok : okC c = true) : 1 ≤ c.k ∧ c.k ≤ 7 := by
  rcases ok_kinds hok with ⟨hk, _⟩ | ⟨hk, _⟩ | ⟨hk, _⟩ | ⟨hk, _⟩ <;> omega
theorem cw_len (m : Nat) (h : 1 ≤ m ∧ m ≤ 7) : (cwL.getD m []).length ≤ 6 := by
  have : m = 1 ∨ m = 2 ∨ m = 3 ∨ m = 4 ∨ m = 5 ∨ m = 6 ∨ m = 7 := by omega
  rcases this with rfl | rfl | rfl | rfl | rfl | rfl | rfl <;> decide
theorem cT_len (c : Cd) (hok : okC c = true) : (cT c).length ≤ 27 := by
  have h1 := cvT_len c hok
  have h2 := kind_range hok
  have h3 := cw_len c.k.toNat (by omega)
  unfold cT
  generalize cwL.getD c.k.toNat [] = t at *
  generalize cvT c = v at *
  split <;> simp <;> omega
end Go.Proofs.YthaebbmekonacaaGreatDoor
