/-
  Prefixes as texts: the reference's Text.
-/
import Derived.Test.YtkgedoedojkdkaaDoorTt
import Derived.Test.YtkgedoedojkdkaaDoorR3
set_option linter.unusedVariables false
set_option linter.unusedSimpArgs false
set_option maxRecDepth 100000
namespace Go.Proofs.YtkgedoedojkdkaaDoor
open Go.RowKit
theorem raddr_any (s : ByteArray) (hs : s.size = 4 ∨ s.size = 16) (w : World) : Calls Tryd.prog 29 #[.string s] w fun e w' => e = .returned (.tuple #[.string ⟨(adT s).toArray⟩, .int .i64 0]) ∧ Below w.heap.size w w' := by
  rcases hs with h | h
  · exact raddr4 s h w
  · exact raddr16 s h w
theorem fw_len (f : Nat) : (fwL.getD f []).length ≤ 4 := by
  by_cases h : f < 6
  · rcases (show f = 0 ∨ f = 1 ∨ f = 2 ∨ f = 3 ∨ f = 4 ∨ f = 5 by omega) with rfl | rfl | rfl | rfl | rfl | rfl <;> decide
  · rw [List.getD_eq_getElem?_getD, List.getElem?_eq_none (by simp [fwL]; omega)]; decide
set_option maxHeartbeats 2000000 in
theorem rtext_no (f r : Nat) (hr : r < 18446744073709551616) (s : ByteArray) (l : Nat) (w : World) (hf : 1 ≤ f ∧ f ≤ 3) (hs : s.size = 4 ∨ s.size = 16) (hl : l ≤ 128) (hc : chk f r s l = 0) :
    Calls Tryd.prog 23 #[.agg #[.int .i64 (f : Int), .int .u64 (r : Int), .string s, .int .i64 (l : Int)]] w fun e w' => e = .returned (.tuple #[.string ⟨(pfT f r s l).toArray⟩, .int .i64 0]) ∧ Below w.heap.size w w' := by
  have HB : Hid (Below w.heap.size w (w.alloc (.cells #[.int .i64 (f : Int), .int .u64 (r : Int), .string s, .int .i64 (l : Int)] 24))) := (Below.refl _ _).alloc (Nat.le_refl _) _
  have HP : Hid (_ : Prop) := PfxAt.of_alloc w _ f r s l rfl
  have hm := fun W => may_any f r s l W (by unfold maxLen; omega)
  rw [decide_eq_true hc] at hm
  have HM : Hid (∀ W, _) := hm
  have HN : Hid (∀ W, _) := fun W => rnameF f (by omega) (by omega) W
  have hap := fun W => apart_any f W (by omega) (by omega)
  rw [show decide ((4 : Int) ≤ (f : Int)) = false by simp; omega] at hap
  have HA : Hid (∀ W, _) := hap
  have HR : Hid (∀ W, _) := fun W => rnum10 r hr W
  have HL : Hid (∀ W, _) := fun W => rnum10 l (by omega) W
  have HT : Hid (∀ W, _) := fun W => raddr_any s hs W
  have hlw : IntKind.u64.wrap (l : Int) = (l : Int) := by rw [IntKind.wrap_u64]; omega
  have hd1 := dig_len64 r hr
  have hd2 := dig_len64 l (by omega)
  have hda := adT_len s
  have hfw := fw_len f
  have ha0 := add_l (fwL.getD f []) [32] (by simp only [List.length_append, List.length_cons, List.length_nil]; omega)
  have ha3 := add_l (fwL.getD f [] ++ [32]) (adT s) (by simp only [List.length_append, List.length_cons, List.length_nil]; omega)
  have ha4 := add_l (fwL.getD f [] ++ [32] ++ adT s) [47] (by simp only [List.length_append, List.length_cons, List.length_nil]; omega)
  have ha5 := add_l (fwL.getD f [] ++ [32] ++ adT s ++ [47]) (Lib.decDigits l) (by simp only [List.length_append, List.length_cons, List.length_nil]; omega)
  have HQ : Hid (pfT f r s l = fwL.getD f [] ++ [32] ++ adT s ++ [47] ++ Lib.decDigits l) := by
    unfold Hid pfT rdT
    rw [if_neg (by omega), Int.toNat_natCast]; simp only [List.append_assoc, List.nil_append]
  clear hm hap hd1 hd2 hda hfw hc hs hl hr hf
  generalize pfT f r s l = tx at *
  generalize fwL.getD f [] = nm at *
  generalize nm ++ [32] = t0 at *
  clear HR
  generalize adT s = ad at *
  generalize Lib.decDigits l = dl at *
  generalize t0 ++ ad = t3 at *
  generalize t3 ++ [47] = t4 at *
  generalize t4 ++ dl = t5 at *
  go_enter Tryd.func23, Tryd.ntmps23
  go_wp2_with fail
  refine (HM.out _).mono ?_
  rintro e w1 ⟨rfl, hb1⟩
  have HB1 : Hid (Below w.heap.size w w1) := HB.out.trans (hb1.mono HB.out.size)
  have HP1 : Hid (PfxAt w1 w.heap.size f r s l) := HP.out.kept hb1 (by simp)
  have c0 := HP1.out.c0
  clear hb1 HP HB HM
  go_wp2_with fail
  refine (HN.out _).mono ?_
  rintro e w2 ⟨rfl, hw⟩
  subst w2
  go_wp2_with fail
  refine (HA.out _).mono ?_
  rintro e w2 ⟨rfl, hw⟩
  subst w2
  have c1 := HP1.out.c1
  have c2 := HP1.out.c2
  have hs0 : w.heap.size < w1.heap.size := lt_of_cell c0
  have HB2 : Hid _ := HB1
  have HP2 : Hid _ := HP1
  clear HB1 HP1 c0 c1
  go_wp2_with fail
  refine (HT.out _).mono ?_
  rintro e w3 ⟨rfl, hb3⟩
  have HB3 : Hid (Below w.heap.size w w3) := HB2.out.trans (hb3.mono HB2.out.size)
  have HP3 : Hid (PfxAt w3 w.heap.size f r s l) := HP2.out.kept hb3 hs0
  clear c2 hs0 hb3 HP2 HB2
  have c3 := HP3.out.c3
  go_wp2_with fail
  refine (HL.out _).mono ?_
  rintro e w4 ⟨rfl, hb4⟩
  go_wp2
  go_ret2
  exact ⟨by rw [HQ.out]; rfl, HB3.out.trans (hb4.mono HB3.out.size)⟩
set_option maxHeartbeats 2000000 in
theorem rtext_is (f r : Nat) (hr : r < 18446744073709551616) (s : ByteArray) (l : Nat) (w : World) (hf : 4 ≤ f ∧ f ≤ 5) (hs : s.size = 4 ∨ s.size = 16) (hl : l ≤ 128) (hc : chk f r s l = 0) :
    Calls Tryd.prog 23 #[.agg #[.int .i64 (f : Int), .int .u64 (r : Int), .string s, .int .i64 (l : Int)]] w fun e w' => e = .returned (.tuple #[.string ⟨(pfT f r s l).toArray⟩, .int .i64 0]) ∧ Below w.heap.size w w' := by
  have HB : Hid (Below w.heap.size w (w.alloc (.cells #[.int .i64 (f : Int), .int .u64 (r : Int), .string s, .int .i64 (l : Int)] 24))) := (Below.refl _ _).alloc (Nat.le_refl _) _
  have HP : Hid (_ : Prop) := PfxAt.of_alloc w _ f r s l rfl
  have hm := fun W => may_any f r s l W (by unfold maxLen; omega)
  rw [decide_eq_true hc] at hm
  have HM : Hid (∀ W, _) := hm
  have HN : Hid (∀ W, _) := fun W => rnameF f (by omega) (by omega) W
  have hap := fun W => apart_any f W (by omega) (by omega)
  rw [show decide ((4 : Int) ≤ (f : Int)) = true by simp; omega] at hap
  have HA : Hid (∀ W, _) := hap
  have HR : Hid (∀ W, _) := fun W => rnum10 r hr W
  have HL : Hid (∀ W, _) := fun W => rnum10 l (by omega) W
  have HT : Hid (∀ W, _) := fun W => raddr_any s hs W
  have hlw : IntKind.u64.wrap (l : Int) = (l : Int) := by rw [IntKind.wrap_u64]; omega
  have hd1 := dig_len64 r hr
  have hd2 := dig_len64 l (by omega)
  have hda := adT_len s
  have hfw := fw_len f
  have ha0 := add_l (fwL.getD f []) [32] (by simp only [List.length_append, List.length_cons, List.length_nil]; omega)
  have ha1 := add_l (fwL.getD f [] ++ [32]) (Lib.decDigits r) (by simp only [List.length_append, List.length_cons, List.length_nil]; omega)
  have ha2 := add_l (fwL.getD f [] ++ [32] ++ Lib.decDigits r) [32] (by simp only [List.length_append, List.length_cons, List.length_nil]; omega)
  have ha3 := add_l (fwL.getD f [] ++ [32] ++ Lib.decDigits r ++ [32]) (adT s) (by simp only [List.length_append, List.length_cons, List.length_nil]; omega)
  have ha4 := add_l (fwL.getD f [] ++ [32] ++ Lib.decDigits r ++ [32] ++ adT s) [47] (by simp only [List.length_append, List.length_cons, List.length_nil]; omega)
  have ha5 := add_l (fwL.getD f [] ++ [32] ++ Lib.decDigits r ++ [32] ++ adT s ++ [47]) (Lib.decDigits l) (by simp only [List.length_append, List.length_cons, List.length_nil]; omega)
  have HQ : Hid (pfT f r s l = fwL.getD f [] ++ [32] ++ Lib.decDigits r ++ [32] ++ adT s ++ [47] ++ Lib.decDigits l) := by
    unfold Hid pfT rdT
    rw [if_pos (by omega), Int.toNat_natCast]; simp only [List.append_assoc]
  clear hm hap hd1 hd2 hda hfw hc hs hl hr hf
  generalize pfT f r s l = tx at *
  generalize fwL.getD f [] = nm at *
  generalize nm ++ [32] = t0 at *
  generalize Lib.decDigits r = dr at *
  generalize t0 ++ dr = t1 at *
  generalize t1 ++ [32] = t2 at *
  generalize adT s = ad at *
  generalize Lib.decDigits l = dl at *
  generalize t2 ++ ad = t3 at *
  generalize t3 ++ [47] = t4 at *
  generalize t4 ++ dl = t5 at *
  go_enter Tryd.func23, Tryd.ntmps23
  go_wp2_with fail
  refine (HM.out _).mono ?_
  rintro e w1 ⟨rfl, hb1⟩
  have HB1 : Hid (Below w.heap.size w w1) := HB.out.trans (hb1.mono HB.out.size)
  have HP1 : Hid (PfxAt w1 w.heap.size f r s l) := HP.out.kept hb1 (by simp)
  have c0 := HP1.out.c0
  clear hb1 HP HB HM
  go_wp2_with fail
  refine (HN.out _).mono ?_
  rintro e w2 ⟨rfl, hw⟩
  subst w2
  go_wp2_with fail
  refine (HA.out _).mono ?_
  rintro e w2 ⟨rfl, hw⟩
  subst w2
  have c1 := HP1.out.c1
  have c2 := HP1.out.c2
  have hs0 : w.heap.size < w1.heap.size := lt_of_cell c0
  go_wp2_with fail
  refine (HR.out _).mono ?_
  rintro e w2 ⟨rfl, hb2⟩
  have HB2 : Hid (Below w.heap.size w w2) := HB1.out.trans (hb2.mono HB1.out.size)
  have HP2 : Hid (PfxAt w2 w.heap.size f r s l) := HP1.out.kept hb2 hs0
  clear c0 c1 c2 hs0 hb2 HP1 HB1
  have c2 := HP2.out.c2
  have hs0 : w.heap.size < w2.heap.size := lt_of_cell c2
  go_wp2_with fail
  refine (HT.out _).mono ?_
  rintro e w3 ⟨rfl, hb3⟩
  have HB3 : Hid (Below w.heap.size w w3) := HB2.out.trans (hb3.mono HB2.out.size)
  have HP3 : Hid (PfxAt w3 w.heap.size f r s l) := HP2.out.kept hb3 hs0
  clear c2 hs0 hb3 HP2 HB2
  have c3 := HP3.out.c3
  go_wp2_with fail
  refine (HL.out _).mono ?_
  rintro e w4 ⟨rfl, hb4⟩
  go_wp2
  go_ret2
  exact ⟨by rw [HQ.out]; rfl, HB3.out.trans (hb4.mono HB3.out.size)⟩
set_option maxHeartbeats 2000000 in
theorem rtext_none (f : Int) (r : Nat) (s : ByteArray) (l : Int) (w : World) (hs : s.size ≤ maxLen) (hc : chk f r s l ≠ 0) :
    Calls Tryd.prog 23 #[.agg #[.int .i64 f, .int .u64 (r : Int), .string s, .int .i64 l]] w fun e w' => e = .returned (.tuple #[.string ⟨#[]⟩, .int .i64 2]) ∧ Below w.heap.size w w' := by
  have HB : Hid (Below w.heap.size w (w.alloc (.cells #[.int .i64 f, .int .u64 (r : Int), .string s, .int .i64 l] 24))) := (Below.refl _ _).alloc (Nat.le_refl _) _
  have hm := fun W => may_any f r s l W hs
  rw [decide_eq_false hc] at hm
  have HM : Hid (∀ W, _) := hm
  clear hm hc hs
  go_enter Tryd.func23, Tryd.ntmps23
  go_wp2_with fail
  refine (HM.out _).mono ?_
  rintro e w1 ⟨rfl, hb1⟩
  go_wp2
  go_ret2
  exact ⟨rfl, HB.out.trans (hb1.mono HB.out.size)⟩
set_option maxHeartbeats 2000000 in
theorem text_none (f : Int) (r : Nat) (s : ByteArray) (l : Int) (w : World) (he : Tabs w) (hc : chk f r s l ≠ 0) :
    Calls Tryd.prog 22 #[.agg #[.int .i64 f, .int .u64 (r : Int), .string s, .int .i64 l]] w fun e w' => e = .returned (.tuple #[.string ⟨#[]⟩, .int .i64 2]) ∧ Below w.heap.size w w' := by
  have HB : Hid (Below w.heap.size w (w.alloc (.cells #[.int .i64 f, .int .u64 (r : Int), .string s, .int .i64 l] 24))) := (Below.refl _ _).alloc (Nat.le_refl _) _
  have HM : Hid (∀ W, Tabs W → _) := fun W (h : Tabs W) => check_any f r s l W h.sizes h.rds
  rw [chk_two hc] at HM
  have HE : Hid _ := he.below HB.out
  clear hc he
  go_enter Tryd.func22, Tryd.ntmps22
  go_wp2_with fail
  refine (HM.out _ HE.out).mono ?_
  rintro e w1 ⟨rfl, hb1⟩
  go_wp2
  go_ret2
  exact ⟨rfl, HB.out.trans (hb1.mono HB.out.size)⟩
/-- What both Texts answer. -/
def txA (f : Int) (r : Nat) (s : ByteArray) (l : Int) : ByteArray := if chk f r s l = 0 then ⟨(pfT f r s l.toNat).toArray⟩ else ⟨#[]⟩
theorem chk_fam {f r : Int} {s : ByteArray} {l : Int} (h : chk f r s l = 0) : ∃ n m : Nat, f = n ∧ l = m ∧ 1 ≤ n ∧ n ≤ 5 ∧ m ≤ 128 ∧ ((n = 1 ∨ n = 3 ∨ n = 4) ∧ s.size = 4 ∨ (n = 2 ∨ n = 5) ∧ s.size = 16) := by
  have hz := chk_zero h
  have hp := szOf_pos f hz.1
  refine ⟨f.toNat, l.toNat, by omega, by omega, by omega, by omega, by omega, by omega⟩
theorem text_any (f : Int) (r : Nat) (hr : r < 18446744073709551616) (s : ByteArray) (l : Int) (w : World) (he : EnvT w) :
    Calls Tryd.prog 22 #[.agg #[.int .i64 f, .int .u64 (r : Int), .string s, .int .i64 l]] w fun e w' => e = .returned (.tuple #[.string (txA f r s l), .int .i64 (chk f r s l)]) ∧ Below w.heap.size w w' := by
  by_cases hc : chk f r s l = 0
  · obtain ⟨n, m, rfl, rfl, h1, h2, h3, h4⟩ := chk_fam hc
    rw [show txA n r s m = ⟨(pfT n r s m).toArray⟩ by unfold txA; rw [if_pos hc, Int.toNat_natCast], hc]
    rcases (show n = 1 ∨ n = 2 ∨ n = 3 ∨ n = 4 ∨ n = 5 by omega) with rfl | rfl | rfl | rfl | rfl
    · exact text_f1 r hr s m w he (by omega) h3 hc
    · exact text_f2 r hr s m w he (by omega) h3 hc
    · exact text_f3 r hr s m w he (by omega) h3 hc
    · exact text_f4 r hr s m w he (by omega) h3 hc
    · exact text_f5 r hr s m w he (by omega) h3 hc
  · rw [show txA f r s l = ⟨#[]⟩ by unfold txA; rw [if_neg hc], chk_two hc]
    exact text_none f r s l w he.t hc
theorem rtext_any (f : Int) (r : Nat) (hr : r < 18446744073709551616) (s : ByteArray) (l : Int) (w : World) (hs : s.size ≤ maxLen) :
    Calls Tryd.prog 23 #[.agg #[.int .i64 f, .int .u64 (r : Int), .string s, .int .i64 l]] w fun e w' => e = .returned (.tuple #[.string (txA f r s l), .int .i64 (chk f r s l)]) ∧ Below w.heap.size w w' := by
  by_cases hc : chk f r s l = 0
  · obtain ⟨n, m, rfl, rfl, h1, h2, h3, h4⟩ := chk_fam hc
    rw [show txA n r s m = ⟨(pfT n r s m).toArray⟩ by unfold txA; rw [if_pos hc, Int.toNat_natCast], hc]
    by_cases h5 : 4 ≤ n
    · exact rtext_is n r hr s m w ⟨h5, h2⟩ (by omega) h3 hc
    · exact rtext_no n r hr s m w ⟨h1, by omega⟩ (by omega) h3 hc
  · rw [show txA f r s l = ⟨#[]⟩ by unfold txA; rw [if_neg hc], chk_two hc]
    exact rtext_none f r s l w hs hc
end Go.Proofs.YtkgedoedojkdkaaDoor
