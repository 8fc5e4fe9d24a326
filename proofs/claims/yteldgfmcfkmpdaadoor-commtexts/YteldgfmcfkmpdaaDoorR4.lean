/-
  The reference's Parse.
-/
import Derived.Test.YteldgfmcfkmpdaaDoorR3
import Derived.Test.YteldgfmcfkmpdaaDoorP3
namespace Go.Proofs.YteldgfmcfkmpdaaDoor
open Go.RowKit
theorem or32 (h l : Nat) (hh : h < 65536) (hl : l < 65536) : bits .or .u32 ((h : Int) * 65536) (l : Int) = ((h * 65536 + l : Nat) : Int) := by
  have h1 : (BitVec.ofInt 32 ((h : Int) * 65536)).toNat = h * 65536 := by
    rw [show (h : Int) * 65536 = ((h * 65536 : Nat) : Int) by simp, BitVec.ofInt_natCast, BitVec.toNat_ofNat]; exact Nat.mod_eq_of_lt (by omega)
  have h2 : (BitVec.ofInt 32 (l : Int)).toNat = l := by
    rw [BitVec.ofInt_natCast, BitVec.toNat_ofNat]; exact Nat.mod_eq_of_lt (by omega)
  show IntKind.u32.wrap ((BitVec.ofInt 32 ((h : Int) * 65536) ||| BitVec.ofInt 32 (l : Int)).toNat : Int) = _
  rw [BitVec.toNat_or, h1, h2, Nat.mul_comm h 65536, ← Nat.two_pow_add_eq_or_of_lt (i := 16) hl h, IntKind.wrap_u32]
  omega
/-- What both Parses answer. -/
def PAns (s : ByteArray) (e : Ending) : Prop := (∃ c : Nat, c < 4294967296 ∧ textC c = s ∧ e = .returned (.tuple #[.int .u32 (c : Int), .int .i64 0])) ∨ ((∀ c, c < 4294967296 → ¬ (textC c = s)) ∧ e = .returned (.tuple #[.int .u32 0, .int .i64 4]))
theorem wr16 (n : Nat) (h : n < 65536) : IntKind.u32.wrap (n : Int) = (n : Int) := by rw [IntKind.wrap_u32]; omega
theorem wr32 (n : Nat) (h : n < 65536) : IntKind.u32.wrap ((n : Int) * 65536) = (n : Int) * 65536 := by rw [IntKind.wrap_u32]; omega
/-- A text that is a community's, and none of the named ones, is its two halves. -/
theorem text_parts (c : Nat) (h1 : ¬ (textC c = nmExport)) (h2 : ¬ (textC c = nmAdvertise)) (h3 : ¬ (textC c = nmConfed)) : (textC c).data.toList = numT (c / 65536) (c % 65536) := by
  rcases text_ways c with ⟨_, h⟩ | ⟨_, h⟩ | ⟨_, h⟩ | ⟨h, _⟩
  · exact absurd h h1
  · exact absurd h h2
  · exact absurd h h3
  · rw [h]
theorem tx1 : textC 4294967041 = nmExport := rfl
theorem tx2 : textC 4294967042 = nmAdvertise := rfl
theorem tx3 : textC 4294967043 = nmConfed := rfl

set_option maxRecDepth 100000 in
set_option maxHeartbeats 1600000 in
theorem rparse (s : ByteArray) (w : World) (hs : s.size ≤ 4294967296) : Calls Tryd.prog 26 #[.string s] w fun e w' => PAns s e ∧ Below w.heap.size w w' := by
  have c0 : (w.alloc (.cells #[.int .u32 4294967041, .int .u32 4294967042, .int .u32 4294967043] 23)).cell? ⟨w.heap.size, 0, none⟩ = some (.int .u32 4294967041) := by rw [World.cell?_alloc_at _ _ _ _ rfl]; rfl
  have c1 : (w.alloc (.cells #[.int .u32 4294967041, .int .u32 4294967042, .int .u32 4294967043] 23)).cell? ⟨w.heap.size, 1, none⟩ = some (.int .u32 4294967042) := by rw [World.cell?_alloc_at _ _ _ _ rfl]; rfl
  have c2 : (w.alloc (.cells #[.int .u32 4294967041, .int .u32 4294967042, .int .u32 4294967043] 23)).cell? ⟨w.heap.size, 2, none⟩ = some (.int .u32 4294967043) := by rw [World.cell?_alloc_at _ _ _ _ rfl]; rfl
  have HB0 : Hid (Below w.heap.size w (w.alloc (.cells #[.int .u32 4294967041, .int .u32 4294967042, .int .u32 4294967043] 23))) := (Below.refl _ _).alloc (Nat.le_refl _) _
  have HC : Hid (_ ∧ _ ∧ _) := And.intro c0 (And.intro c1 c2)
  clear c0 c1 c2
  go_enter Tryd.func26, Tryd.ntmps26
  go_wp2
  generalize (w.alloc (.cells #[.int .u32 4294967041, .int .u32 4294967042, .int .u32 4294967043] 23)) = W0 at *
  go_loopw [14] (fun i wr => ∃ k : Nat, k ≤ 3 ∧ i = .int .i64 k ∧ Below W0.heap.size W0 wr ∧ (0 < k → ¬ (textC 4294967041 = s)) ∧ (1 < k → ¬ (textC 4294967042 = s)) ∧ (2 < k → ¬ (textC 4294967043 = s))) (fun i _ => 3 - (intOf i).toNat)
  case atStart => exact ⟨0, by omega, rfl, Below.refl _ _, fun h => by omega, fun h => by omega, fun h => by omega⟩
  case round =>
    obtain ⟨k, hk, rfl, hb, g0, g1, g2⟩ := hrel
    have HB : Hid (Below W0.heap.size W0 wr) := hb
    have HG : Hid (_ ∧ _ ∧ _) := And.intro g0 (And.intro g1 g2)
    clear g0 g1 g2
    by_cases hlt : k < 3
    · rcases (show k = 0 ∨ k = 1 ∨ k = 2 by omega) with rfl | rfl | rfl
      · have cc := below_cell hb HC.out.1
        clear hb
        go_wp2_with fail
        refine (rtext 4294967041 wr (by omega)).mono ?_
        rintro e w1 ⟨rfl, hb1⟩
        have HB1 : Hid (Below W0.heap.size W0 w1) := HB.out.trans (hb1.mono HB.out.size)
        clear hb1 cc
        by_cases he : textC 4294967041 = s
        · have heb : ((textC 4294967041).toList == s.toList) = true := by rw [he]; simp
          have HE : Hid (PAns s (.returned (.tuple #[.int .u32 4294967041, .int .i64 0]))) := Or.inl ⟨4294967041, by omega, he, rfl⟩
          clear he
          generalize textC 4294967041 = tx at *
          go_wp2
          go_ret2
          exact ⟨HE.out, HB0.out.trans (HB1.out.mono HB0.out.size)⟩
        · have heb : ((textC 4294967041).toList == s.toList) = false := ne_list he
          have HNE : Hid (¬ (textC 4294967041 = s)) := he
          clear he
          generalize htx : textC 4294967041 = tx at heb ⊢
          clear htx
          go_wp2
          go_roundw
          case rel => exact ⟨1, by omega, by go_num, HB1.out, fun h => HNE.out, fun h => by omega, fun h => by omega⟩
          case measure => simp [intOf]
      · have cc := below_cell hb HC.out.2.1
        clear hb
        go_wp2_with fail
        refine (rtext 4294967042 wr (by omega)).mono ?_
        rintro e w1 ⟨rfl, hb1⟩
        have HB1 : Hid (Below W0.heap.size W0 w1) := HB.out.trans (hb1.mono HB.out.size)
        clear hb1 cc
        by_cases he : textC 4294967042 = s
        · have heb : ((textC 4294967042).toList == s.toList) = true := by rw [he]; simp
          have HE : Hid (PAns s (.returned (.tuple #[.int .u32 4294967042, .int .i64 0]))) := Or.inl ⟨4294967042, by omega, he, rfl⟩
          clear he
          generalize textC 4294967042 = tx at *
          go_wp2
          go_ret2
          exact ⟨HE.out, HB0.out.trans (HB1.out.mono HB0.out.size)⟩
        · have heb : ((textC 4294967042).toList == s.toList) = false := ne_list he
          have HNE : Hid (¬ (textC 4294967042 = s)) := he
          clear he
          generalize htx : textC 4294967042 = tx at heb ⊢
          clear htx
          go_wp2
          go_roundw
          case rel => exact ⟨2, by omega, by go_num, HB1.out, fun h => HG.out.1 (by omega), fun h => HNE.out, fun h => by omega⟩
          case measure => simp [intOf]
      · have cc := below_cell hb HC.out.2.2
        clear hb
        go_wp2_with fail
        refine (rtext 4294967043 wr (by omega)).mono ?_
        rintro e w1 ⟨rfl, hb1⟩
        have HB1 : Hid (Below W0.heap.size W0 w1) := HB.out.trans (hb1.mono HB.out.size)
        clear hb1 cc
        by_cases he : textC 4294967043 = s
        · have heb : ((textC 4294967043).toList == s.toList) = true := by rw [he]; simp
          have HE : Hid (PAns s (.returned (.tuple #[.int .u32 4294967043, .int .i64 0]))) := Or.inl ⟨4294967043, by omega, he, rfl⟩
          clear he
          generalize textC 4294967043 = tx at *
          go_wp2
          go_ret2
          exact ⟨HE.out, HB0.out.trans (HB1.out.mono HB0.out.size)⟩
        · have heb : ((textC 4294967043).toList == s.toList) = false := ne_list he
          have HNE : Hid (¬ (textC 4294967043 = s)) := he
          clear he
          generalize htx : textC 4294967043 = tx at heb ⊢
          clear htx
          go_wp2
          go_roundw
          case rel => exact ⟨3, by omega, by go_num, HB1.out, fun h => HG.out.1 (by omega), fun h => HG.out.2.1 (by omega), fun h => HNE.out⟩
          case measure => simp [intOf]
    · obtain rfl : k = 3 := by omega
      have HNm : Hid ((¬ (textC 4294967041 = s)) ∧ (¬ (textC 4294967042 = s)) ∧ (¬ (textC 4294967043 = s))) := ⟨HG.out.1 (by omega), HG.out.2.1 (by omega), HG.out.2.2 (by omega)⟩
      have HNum : Hid (∀ c, c < 4294967296 → textC c = s → s.data.toList = numT (c / 65536) (c % 65536)) := fun c _ e => by
        have := text_parts c (fun h => HNm.out.1 (by rw [tx1, ← h, e])) (fun h => HNm.out.2.1 (by rw [tx2, ← h, e])) (fun h => HNm.out.2.2 (by rw [tx3, ← h, e]))
        rw [e] at this; exact this
      have HSp : Hid (∀ c, c < 4294967296 → textC c = s → (splTo s.data.toList (s.size + 1)).1 = [Lib.decDigits (c / 65536), Lib.decDigits (c % 65536)]) := fun c hc e => by
        have h1 := HNum.out c hc e
        have h2 : s.size = (numT (c / 65536) (c % 65536)).length := by rw [← h1]; simp
        rw [h1, h2]; exact spl_numT _ _
      have HMem : Hid (∀ x ∈ (splTo s.data.toList (s.size + 1)).1, x.length ≤ s.data.toList.length) := splTo_mem _ _
      have HNo : Hid (PAns s (.returned (.tuple #[.int .u32 0, .int .i64 4])) ∨ ∃ c, c < 4294967296 ∧ textC c = s) := by
        unfold Hid
        by_cases h : ∃ c, c < 4294967296 ∧ textC c = s
        · exact Or.inr h
        · exact Or.inl (Or.inr ⟨fun c hc e => h ⟨c, hc, e⟩, rfl⟩)
      clear hb HG HC
      go_wp2_with fail
      refine (split_any s wr hs).mono ?_
      rintro e w1 ⟨v, rfl, hown, hb1⟩
      have HB1 : Hid (Below W0.heap.size W0 w1) := HB.out.trans (hb1.mono HB.out.size)
      obtain ⟨ad, cp, rfl⟩ := slice_of_owns hown
      have HO : Hid (World.ownsRow _ _ _ _ _ _ _) := hown
      clear hown hb1
      generalize (splTo s.data.toList (s.size + 1)).1 = parts at *
      by_cases h2 : parts.length = 2
      · obtain ⟨a, b, rfl⟩ : ∃ a b, parts = [a, b] := by
          match parts, h2 with
          | [a, b], _ => exact ⟨a, b, rfl⟩
        obtain ⟨g, rfl⟩ : ∃ g, ad = some ⟨g, 0, none⟩ := by
          obtain ⟨_, ⟨_, h0⟩ | ⟨g, cap, cur, h, _⟩⟩ := HO.out
          · simp at h0
          · simp at h; exact ⟨g, h.1⟩
        have ca : w1.cell? ⟨g, 0, none⟩ = some (.string ⟨a.toArray⟩) := by rw [HO.out.cellAt 0 (by simp)]; rfl
        have cb : w1.cell? ⟨g, 1, none⟩ = some (.string ⟨b.toArray⟩) := by rw [HO.out.cellAt 1 (by simp)]; rfl
        have hla : a.length ≤ s.size := by have := HMem.out a (by simp); simpa using this
        have hlb : b.length ≤ s.size := by have := HMem.out b (by simp); simpa using this
        have HRa := fun W => read_any ⟨a.toArray⟩ W (by show a.length ≤ _; omega)
        have HRb := fun W => read_any ⟨b.toArray⟩ W (by show b.length ≤ _; omega)
        have HRA : Hid (∀ W, Calls _ _ _ _ _) := HRa
        have HRB : Hid (∀ W, Calls _ _ _ _ _) := HRb
        have HSa : Hid (∀ c, c < 4294967296 → textC c = s → (⟨a.toArray⟩ : ByteArray) = digB (c / 65536) ∧ (⟨b.toArray⟩ : ByteArray) = digB (c % 65536)) := fun c hc e => by
          have h := HSp.out c hc e
          simp only [List.cons.injEq, and_true] at h
          rw [h.1, h.2]; exact ⟨rfl, rfl⟩
        clear HRa HRb HO HMem h2 hla hlb HSp HNum HNm
        simp only [List.length_cons, List.length_nil, Nat.zero_add, Nat.reduceAdd]
        generalize (⟨a.toArray⟩ : ByteArray) = sa at *
        generalize (⟨b.toArray⟩ : ByteArray) = sb at *
        go_wp2_with fail
        refine Calls.mono (HRA.out w1) ?_
        rintro e w2 ⟨v1, f1, hv1, rfl, hb2, hr1⟩
        have cb2 := below_cell hb2 cb
        have HB2 : Hid (Below W0.heap.size W0 w2) := HB1.out.trans (hb2.mono HB1.out.size)
        have HR1 : Hid (_ : Prop) := hr1
        clear hb2 ca cb hr1
        go_wp2_with fail
        refine Calls.mono (HRB.out w2) ?_
        rintro e w3 ⟨v2, f2, hv2, rfl, hb3, hr2⟩
        have HB3 : Hid (Below W0.heap.size W0 w3) := HB2.out.trans (hb3.mono HB2.out.size)
        have HR2 : Hid (_ : Prop) := hr2
        clear hb3 cb2 hr2
        have hw1 := wr16 v1 hv1
        have hw2 := wr16 v2 hv2
        have hw3 := wr32 v1 hv1
        have hor := or32 v1 v2 hv1 hv2
        obtain ⟨c, hc⟩ : ∃ c, c = v1 * 65536 + v2 := ⟨_, rfl⟩
        have HCE : Hid (c = v1 * 65536 + v2) := hc
        have hc32 : c < 4294967296 := by omega
        rw [← hc] at hor
        clear hc
        have HBw : Hid (∀ w', Below W0.heap.size W0 w' → Below w.heap.size w w') := fun w' h => HB0.out.trans (h.mono HB0.out.size)
        cases f1 with
        | false =>
          have HA : Hid (PAns s (.returned (.tuple #[.int .u32 0, .int .i64 4]))) := by
            rcases HNo.out with h | ⟨c', hc', e⟩
            · exact h
            · have := (HR1.out (c' / 65536) (by omega) (HSa.out c' hc' e).1).2
              exact absurd this (by simp)
          go_wp2
          go_ret2
          exact ⟨HA.out, HBw.out _ HB3.out⟩
        | true =>
          cases f2 with
          | false =>
            have HA : Hid (PAns s (.returned (.tuple #[.int .u32 0, .int .i64 4]))) := by
              rcases HNo.out with h | ⟨c', hc', e⟩
              · exact h
              · have := (HR2.out (c' % 65536) (by omega) (HSa.out c' hc' e).2).2
                exact absurd this (by simp)
            go_wp2
            go_ret2
            exact ⟨HA.out, HBw.out _ HB3.out⟩
          | true =>
            go_wp2_with fail
            refine (rtext c w3 hc32).mono ?_
            rintro e w4 ⟨rfl, hb4⟩
            have HB4 : Hid (Below W0.heap.size W0 w4) := HB3.out.trans (hb4.mono HB3.out.size)
            clear hb4
            by_cases he : textC c = s
            · have heb : ((textC c).toList == s.toList) = true := by rw [he]; simp
              have HA : Hid (PAns s (.returned (.tuple #[.int .u32 (c : Int), .int .i64 0]))) := Or.inl ⟨c, hc32, he, rfl⟩
              clear he
              generalize textC c = tx at *
              go_wp2
              go_ret2
              exact ⟨HA.out, HBw.out _ HB4.out⟩
            · have heb : ((textC c).toList == s.toList) = false := ne_list he
              have HA : Hid (PAns s (.returned (.tuple #[.int .u32 0, .int .i64 4]))) := by
                rcases HNo.out with h | ⟨c', hc', e⟩
                · exact h
                · have h1 := (HR1.out (c' / 65536) (by omega) (HSa.out c' hc' e).1).1
                  have h2 := (HR2.out (c' % 65536) (by omega) (HSa.out c' hc' e).2).1
                  have h3 := HCE.out
                  have : c = c' := by omega
                  exact absurd (this ▸ e) he
              clear he
              generalize htx : textC c = tx at heb ⊢
              clear htx
              go_wp2
              go_ret2
              exact ⟨HA.out, HBw.out _ HB4.out⟩
      · have h2i : ¬ ((parts.length : Int) = 2) := by omega
        have HA : Hid (PAns s (.returned (.tuple #[.int .u32 0, .int .i64 4]))) := by
          rcases HNo.out with h | ⟨c, hc, e⟩
          · exact h
          · exact absurd (by rw [HSp.out c hc e]; rfl) h2
        go_wp2
        go_ret2
        exact ⟨HA.out, HB0.out.trans (HB1.out.mono HB0.out.size)⟩
end Go.Proofs.YteldgfmcfkmpdaaDoor
