/-
  PrimCuts answers true for every prefix and every number, wherever the tables lie as they are laid.
-/
import Derived.Test.YtkgedoedojkdkaaDoorTr
import Derived.Test.YtkgedoedojkdkaaDoorTk
import Derived.Test.YtkgedoedojkdkaaDoorB25
import Derived.Laws.StructEq
set_option linter.unusedVariables false
set_option linter.unusedSimpArgs false
set_option maxRecDepth 100000
namespace Go.Proofs.YtkgedoedojkdkaaDoor
open Go.RowKit
theorem cuts_same (f r : Int) (s : ByteArray) (l n : Int) (hs : s.size ≤ maxLen) : ∃ (f' r' : Int) (s' : ByteArray) (l' e' : Int),
    Hid (∀ W, Tabs W → Calls Tryd.prog 20 #[.agg #[.int .i64 f, .int .u64 r, .string s, .int .i64 l], .int .i64 n] W fun e w' => e = .returned (.tuple #[.agg #[.int .i64 f', .int .u64 r', .string s', .int .i64 l'], .int .i64 e']) ∧ Below W.heap.size W w') ∧
    Hid (∀ W, Calls Tryd.prog 21 #[.agg #[.int .i64 f, .int .u64 r, .string s, .int .i64 l], .int .i64 n] W fun e w' => e = .returned (.tuple #[.agg #[.int .i64 f', .int .u64 r', .string s', .int .i64 l'], .int .i64 e']) ∧ Below W.heap.size W w') := by
  by_cases h : chk f r s l = 0 ∧ 0 ≤ n ∧ n ≤ l
  · obtain ⟨h1, h2, h3⟩ := h
    obtain ⟨k, rfl⟩ := Int.eq_ofNat_of_zero_le h2
    exact ⟨_, _, _, _, _, fun W ht => cut_yes f r s l k W ht.sizes ht.rds h1 h2 h3, fun W => rcut_yes f r s l k W h1 h3⟩
  · exact ⟨_, _, _, _, _, fun W ht => cut_no f r s l n W ht.sizes ht.rds h, fun W => rcut_no f r s l n W hs h⟩
set_option maxHeartbeats 2000000 in
theorem cuts_walk (f : Int) (r : Nat) (hr : r < 18446744073709551616) (s : ByteArray) (l n : Int) (w : World) (he : EnvT w) (hs : s.size ≤ maxLen) :
    Calls Tryd.prog 4 #[.agg #[.int .i64 f, .int .u64 (r : Int), .string s, .int .i64 l], .int .i64 n] w fun e w' => e = .returned (.bool true) ∧ Below w.heap.size w w' := by
  obtain ⟨f', r', s', l', e', H20, H21⟩ := cuts_same f r s l n hs
  have H22 : Hid (∀ W, EnvT W → _) := fun W hw => text_any f r hr s l W hw
  have H23 : Hid (∀ W, _) := fun W => rtext_any f r hr s l W hs
  have H19 : Hid (∀ W, Tabs W → _) := fun W hw => works_any W hw
  have hB : Below w.heap.size w (w.alloc (.cells #[.int .i64 f, .int .u64 (r : Int), .string s, .int .i64 l] 24)) := (Below.refl _ _).alloc (Nat.le_refl _) _
  have HB : Hid (_ : Prop) := hB
  have HE : Hid (_ : Prop) := he.below hB
  have HP : Hid (_ : Prop) := PfxAt.of_alloc w _ f r s l rfl
  generalize txA f r s l = tx at *
  generalize chk f r s l = c at *
  clear hB he hs hr
  go_enter Tryd.func4, Tryd.ntmps4
  go_wp2_with fail
  refine (H20.out _ HE.out.t).mono ?_
  rintro e w1 ⟨rfl, hb1⟩
  have HP1 : Hid (PfxAt w1 w.heap.size f r s l) := HP.out.kept hb1 (by simp)
  have HB1 : Hid (Below w.heap.size w w1) := HB.out.trans (hb1.mono HB.out.size)
  have HE1 : Hid (EnvT w1) := HE.out.below hb1
  clear hb1 HP HB HE
  obtain ⟨c0, c1, c2, c3, _, _, _, _⟩ := HP1.out
  have hs1 : w.heap.size < w1.heap.size := lt_of_cell c0
  go_wp2_with fail
  have hA2 : Below w1.heap.size w1 (w1.alloc (.cells #[.int .i64 f', .int .u64 r', .string s', .int .i64 l'] 24)) := (Below.refl _ _).alloc (Nat.le_refl _) _
  have HQ : Hid (_ : Prop) := PfxAt.of_alloc w1 _ f' r' s' l' rfl
  refine (H21.out _).mono ?_
  rintro e w2 ⟨rfl, hb2⟩
  have hb2' : Below w1.heap.size w1 w2 := hA2.trans (hb2.mono (by simp))
  have HQ2 : Hid (PfxAt w2 w1.heap.size f' r' s' l') := HQ.out.kept hb2 (by simp)
  have HP2 : Hid (PfxAt w2 w.heap.size f r s l) := HP1.out.kept hb2' hs1
  have HB2 : Hid (Below w.heap.size w w2) := HB1.out.trans (hb2'.mono HB1.out.size)
  have HE2 : Hid (EnvT w2) := HE1.out.below hb2'
  clear hb2 hb2' HQ HP1 HB1 HE1 c0 c1 c2 c3 hA2
  obtain ⟨c0, c1, c2, c3, _, _, _, _⟩ := HP2.out
  obtain ⟨d0, d1, d2, d3, _, _, _, _⟩ := HQ2.out
  have hs2 : w.heap.size < w2.heap.size := lt_of_cell c0
  have hs3 : w1.heap.size < w2.heap.size := lt_of_cell d0
  go_wp2_with fail
  have hA3 : Below w2.heap.size w2 (w2.alloc (.cells #[.int .i64 f', .int .u64 r', .string s', .int .i64 l'] 24)) := (Below.refl _ _).alloc (Nat.le_refl _) _
  refine (H22.out _ (HE2.out.below hA3)).mono ?_
  rintro e w3 ⟨rfl, hb3⟩
  have hb3' : Below w2.heap.size w2 w3 := hA3.trans (hb3.mono (by simp))
  have HP3 : Hid (PfxAt w3 w.heap.size f r s l) := HP2.out.kept hb3' hs2
  have HB3 : Hid (Below w.heap.size w w3) := HB2.out.trans (hb3'.mono HB2.out.size)
  have HE3 : Hid (EnvT w3) := HE2.out.below hb3'
  clear hb3 hb3' HP2 HB2 HE2 HQ2 c0 c1 c2 c3 d0 d1 d2 d3 hA3 hs1 hs2 hs3
  obtain ⟨c0, c1, c2, c3, _, _, _, _⟩ := HP3.out
  go_wp2_with fail
  refine (H23.out _).mono ?_
  rintro e w4 ⟨rfl, hb4⟩
  have HB4 : Hid (Below w.heap.size w w4) := HB3.out.trans (hb4.mono HB3.out.size)
  have HE4 : Hid (EnvT w4) := HE3.out.below hb4
  clear hb4 HP3 HB3 HE3 c0 c1 c2 c3
  go_wp2_with fail
  refine (H19.out _ HE4.out.t).mono ?_
  rintro e w5 ⟨rfl, hb5⟩
  go_wp2
  go_ret
  exact ⟨rfl, HB4.out.trans (hb5.mono HB4.out.size)⟩
end Go.Proofs.YtkgedoedojkdkaaDoor
