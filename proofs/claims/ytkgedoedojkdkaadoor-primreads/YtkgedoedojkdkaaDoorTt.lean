/-
  Prefixes as texts: the program's Text.
-/
import Derived.Test.YtkgedoedojkdkaaDoorTq
import Derived.Test.YtkgedoedojkdkaaDoorB16
set_option linter.unusedVariables false
set_option linter.unusedSimpArgs false
set_option maxRecDepth 100000
namespace Go.Proofs.YtkgedoedojkdkaaDoor
open Go.RowKit
/-- A prefix' text. -/
def rdT (f : Int) (r : Nat) : List UInt8 := if 4 ≤ f then Lib.decDigits r ++ [32] else []
def pfT (f : Int) (r : Nat) (s : ByteArray) (l : Nat) : List UInt8 := fwL.getD f.toNat [] ++ [32] ++ (rdT f r ++ (adT s ++ ([47] ++ Lib.decDigits l)))
theorem ret_tup {a b : ByteArray} {v : Value} (h : a = b) : Ending.returned (.tuple #[.string a, v]) = .returned (.tuple #[.string b, v]) := by rw [h]
theorem dig_len64 (u : Nat) (h : u < 18446744073709551616) : (Lib.decDigits u).length ≤ 64 := digs10.len (by omega) 63 u (by omega)
set_option maxHeartbeats 2000000 in
theorem text_f1 (r : Nat) (hr : r < 18446744073709551616) (s : ByteArray) (l : Nat) (w : World) (he : EnvT w) (hs : s.size = 4) (hl : l ≤ 128) (hc : chk 1 r s l = 0) :
    Calls Tryd.prog 22 #[.agg #[.int .i64 1, .int .u64 (r : Int), .string s, .int .i64 (l : Int)]] w fun e w' => e = .returned (.tuple #[.string ⟨(pfT 1 r s l).toArray⟩, .int .i64 0]) ∧ Below w.heap.size w w' := by
  have hB : Below w.heap.size w (w.alloc (.cells #[.int .i64 1, .int .u64 (r : Int), .string s, .int .i64 (l : Int)] 24)) := (Below.refl _ _).alloc (Nat.le_refl _) _
  have HBel : Hid (_ : Prop) := hB
  have HE : Hid (EnvT (w.alloc (.cells #[.int .i64 1, .int .u64 (r : Int), .string s, .int .i64 (l : Int)] 24))) := he.below hB
  have HC : Hid (chk 1 r s l = 0) := hc
  have HP : Hid (_ : Prop) := PfxAt.of_alloc w _ 1 r s l rfl
  have hd1 := dig_len64 r hr
  have hd2 := dig_len64 l (by omega)
  have hda := adT_len s
  have HI : Hid (∀ X, PowAt X → _) := fun X hp => itoa_any l (by omega) X hp
  have HF : Hid (∀ X, PowAt X → _) := fun X hp => fmt_any r hr X hp
  have HA : Hid (∀ X, EnvT X → _) := fun X hx => addrText_any s X hx (by rw [hs]; decide)
  have hAE : adE s = 0 := by unfold adE isAd; simp [hs]
  rw [hAE] at HA
  have hQ : pfT 1 r s l = [118, 52] ++ [32] ++ ((adT s ++ ([47] ++ Lib.decDigits l))) := by unfold pfT rdT; simp [fwL]
  have ha0 : ∀ W, (Op.stringOp .add (⟨#[118, 52]⟩ : ByteArray) ⟨#[32]⟩).run Tryd.prog W = .ok (.string ⟨([118, 52] ++ [32] : List UInt8).toArray⟩) W := add_l [118, 52] [32] (by simp)
  have hp0 : ([118, 52] ++ [32] : List UInt8).length ≤ 8 := by simp
  have ha3 := add_l ([118, 52] ++ [32]) (adT s) (by simp; omega)
  have ha4 := add_l ([118, 52] ++ [32] ++ adT s) [47] (by simp; omega)
  have ha5 := add_l ([118, 52] ++ [32] ++ adT s ++ [47]) (Lib.decDigits l) (by simp; omega)
  have HQ : Hid (pfT 1 r s l = [118, 52] ++ [32] ++ adT s ++ [47] ++ Lib.decDigits l) := by unfold Hid; rw [hQ]; simp only [List.append_assoc]
  clear hQ hp0 hd1 hd2 hda hAE HF
  generalize pfT 1 r s l = tx at *
  generalize ([118, 52] ++ [32] : List UInt8) = t2 at *
  generalize adT s = ad at *
  generalize Lib.decDigits l = dl at *
  generalize t2 ++ ad = t3 at *
  generalize t3 ++ [47] = t4 at *
  generalize t4 ++ dl = t5 at *
  clear he hc hs hl hr
  go_enter Tryd.func22, Tryd.ntmps22
  go_wp2_with fail
  refine (check_any 1 r s l _ HE.out.t.sizes HE.out.t.rds).mono ?_
  rintro e w1 ⟨rfl, hb1⟩
  rw [HC.out]
  have HE2 : Hid (EnvT w1) := HE.out.below hb1
  obtain ⟨p0, p1, p2, p3, _, _, _, _⟩ := HP.out.kept hb1 (by simp)
  obtain ⟨t, fr, h0⟩ := HE2.out.t.fam
  have c12 := cell_of_row w1 0 3 _ t fr h0
  have c13 := cell_of_row w1 0 4 _ t fr h0
  have c14 := cell_of_row w1 0 5 _ t fr h0
  simp [famCells] at c12 c13 c14
  have l0 := lt_of_heap h0
  have HBl : Hid (Below w.heap.size w w1) := HBel.out.trans (hb1.mono HBel.out.size)
  have hs0 : w.heap.size < w1.heap.size := by have := hb1.size; simp at this; omega
  have HN : Hid (∀ A, EnvT (w1.alloc (.cells A 49)) ∧ Below w1.heap.size w1 (w1.alloc (.cells A 49))) := fun A => ⟨HE2.out.below ((Below.refl _ _).alloc (Nat.le_refl _) _), (Below.refl _ _).alloc (Nat.le_refl _) _⟩
  clear h0 hB hb1 HE HC HP HBel
  go_wp2_with fail
  refine (HA.out _ (HN.out _).1).mono ?_
  rintro e w3 ⟨rfl, hb3⟩
  have hs1 : w.heap.size < w1.heap.size + 1 := by omega
  have HE4 : Hid (EnvT w3) := (HN.out _).1.below hb3
  have HB4 : Hid (Below w1.heap.size w1 w3) := (HN.out _).2.trans (hb3.mono (by simp))
  have u3 := (HB4.out.cell (p := ⟨w.heap.size, 3, none⟩) hs0).trans p3
  clear p0 p1 p2 p3 c12 c13 c14 hb3 l0 hs0 hs1
  go_wp2_with fail
  refine (HI.out _ HE4.out.p).mono ?_
  rintro e w4 ⟨rfl, hb4⟩
  go_wp2
  go_ret2
  exact ⟨by rw [HQ.out]; rfl, (HBl.out.trans (HB4.out.mono HBl.out.size)).trans (hb4.mono (Nat.le_trans HBl.out.size HB4.out.size))⟩
set_option maxHeartbeats 2000000 in
theorem text_f2 (r : Nat) (hr : r < 18446744073709551616) (s : ByteArray) (l : Nat) (w : World) (he : EnvT w) (hs : s.size = 16) (hl : l ≤ 128) (hc : chk 2 r s l = 0) :
    Calls Tryd.prog 22 #[.agg #[.int .i64 2, .int .u64 (r : Int), .string s, .int .i64 (l : Int)]] w fun e w' => e = .returned (.tuple #[.string ⟨(pfT 2 r s l).toArray⟩, .int .i64 0]) ∧ Below w.heap.size w w' := by
  have hB : Below w.heap.size w (w.alloc (.cells #[.int .i64 2, .int .u64 (r : Int), .string s, .int .i64 (l : Int)] 24)) := (Below.refl _ _).alloc (Nat.le_refl _) _
  have HBel : Hid (_ : Prop) := hB
  have HE : Hid (EnvT (w.alloc (.cells #[.int .i64 2, .int .u64 (r : Int), .string s, .int .i64 (l : Int)] 24))) := he.below hB
  have HC : Hid (chk 2 r s l = 0) := hc
  have HP : Hid (_ : Prop) := PfxAt.of_alloc w _ 2 r s l rfl
  have hd1 := dig_len64 r hr
  have hd2 := dig_len64 l (by omega)
  have hda := adT_len s
  have HI : Hid (∀ X, PowAt X → _) := fun X hp => itoa_any l (by omega) X hp
  have HF : Hid (∀ X, PowAt X → _) := fun X hp => fmt_any r hr X hp
  have HA : Hid (∀ X, EnvT X → _) := fun X hx => addrText_any s X hx (by rw [hs]; decide)
  have hAE : adE s = 0 := by unfold adE isAd; simp [hs]
  rw [hAE] at HA
  have hQ : pfT 2 r s l = [118, 54] ++ [32] ++ ((adT s ++ ([47] ++ Lib.decDigits l))) := by unfold pfT rdT; simp [fwL]
  have ha0 : ∀ W, (Op.stringOp .add (⟨#[118, 54]⟩ : ByteArray) ⟨#[32]⟩).run Tryd.prog W = .ok (.string ⟨([118, 54] ++ [32] : List UInt8).toArray⟩) W := add_l [118, 54] [32] (by simp)
  have hp0 : ([118, 54] ++ [32] : List UInt8).length ≤ 8 := by simp
  have ha3 := add_l ([118, 54] ++ [32]) (adT s) (by simp; omega)
  have ha4 := add_l ([118, 54] ++ [32] ++ adT s) [47] (by simp; omega)
  have ha5 := add_l ([118, 54] ++ [32] ++ adT s ++ [47]) (Lib.decDigits l) (by simp; omega)
  have HQ : Hid (pfT 2 r s l = [118, 54] ++ [32] ++ adT s ++ [47] ++ Lib.decDigits l) := by unfold Hid; rw [hQ]; simp only [List.append_assoc]
  clear hQ hp0 hd1 hd2 hda hAE HF
  generalize pfT 2 r s l = tx at *
  generalize ([118, 54] ++ [32] : List UInt8) = t2 at *
  generalize adT s = ad at *
  generalize Lib.decDigits l = dl at *
  generalize t2 ++ ad = t3 at *
  generalize t3 ++ [47] = t4 at *
  generalize t4 ++ dl = t5 at *
  clear he hc hs hl hr
  go_enter Tryd.func22, Tryd.ntmps22
  go_wp2_with fail
  refine (check_any 2 r s l _ HE.out.t.sizes HE.out.t.rds).mono ?_
  rintro e w1 ⟨rfl, hb1⟩
  rw [HC.out]
  have HE2 : Hid (EnvT w1) := HE.out.below hb1
  obtain ⟨p0, p1, p2, p3, _, _, _, _⟩ := HP.out.kept hb1 (by simp)
  obtain ⟨t, fr, h0⟩ := HE2.out.t.fam
  have c12 := cell_of_row w1 0 6 _ t fr h0
  have c13 := cell_of_row w1 0 7 _ t fr h0
  have c14 := cell_of_row w1 0 8 _ t fr h0
  simp [famCells] at c12 c13 c14
  have l0 := lt_of_heap h0
  have HBl : Hid (Below w.heap.size w w1) := HBel.out.trans (hb1.mono HBel.out.size)
  have hs0 : w.heap.size < w1.heap.size := by have := hb1.size; simp at this; omega
  have HN : Hid (∀ A, EnvT (w1.alloc (.cells A 49)) ∧ Below w1.heap.size w1 (w1.alloc (.cells A 49))) := fun A => ⟨HE2.out.below ((Below.refl _ _).alloc (Nat.le_refl _) _), (Below.refl _ _).alloc (Nat.le_refl _) _⟩
  clear h0 hB hb1 HE HC HP HBel
  go_wp2_with fail
  refine (HA.out _ (HN.out _).1).mono ?_
  rintro e w3 ⟨rfl, hb3⟩
  have hs1 : w.heap.size < w1.heap.size + 1 := by omega
  have HE4 : Hid (EnvT w3) := (HN.out _).1.below hb3
  have HB4 : Hid (Below w1.heap.size w1 w3) := (HN.out _).2.trans (hb3.mono (by simp))
  have u3 := (HB4.out.cell (p := ⟨w.heap.size, 3, none⟩) hs0).trans p3
  clear p0 p1 p2 p3 c12 c13 c14 hb3 l0 hs0 hs1
  go_wp2_with fail
  refine (HI.out _ HE4.out.p).mono ?_
  rintro e w4 ⟨rfl, hb4⟩
  go_wp2
  go_ret2
  exact ⟨by rw [HQ.out]; rfl, (HBl.out.trans (HB4.out.mono HBl.out.size)).trans (hb4.mono (Nat.le_trans HBl.out.size HB4.out.size))⟩
set_option maxHeartbeats 2000000 in
theorem text_f3 (r : Nat) (hr : r < 18446744073709551616) (s : ByteArray) (l : Nat) (w : World) (he : EnvT w) (hs : s.size = 4) (hl : l ≤ 128) (hc : chk 3 r s l = 0) :
    Calls Tryd.prog 22 #[.agg #[.int .i64 3, .int .u64 (r : Int), .string s, .int .i64 (l : Int)]] w fun e w' => e = .returned (.tuple #[.string ⟨(pfT 3 r s l).toArray⟩, .int .i64 0]) ∧ Below w.heap.size w w' := by
  have hB : Below w.heap.size w (w.alloc (.cells #[.int .i64 3, .int .u64 (r : Int), .string s, .int .i64 (l : Int)] 24)) := (Below.refl _ _).alloc (Nat.le_refl _) _
  have HBel : Hid (_ : Prop) := hB
  have HE : Hid (EnvT (w.alloc (.cells #[.int .i64 3, .int .u64 (r : Int), .string s, .int .i64 (l : Int)] 24))) := he.below hB
  have HC : Hid (chk 3 r s l = 0) := hc
  have HP : Hid (_ : Prop) := PfxAt.of_alloc w _ 3 r s l rfl
  have hd1 := dig_len64 r hr
  have hd2 := dig_len64 l (by omega)
  have hda := adT_len s
  have HI : Hid (∀ X, PowAt X → _) := fun X hp => itoa_any l (by omega) X hp
  have HF : Hid (∀ X, PowAt X → _) := fun X hp => fmt_any r hr X hp
  have HA : Hid (∀ X, EnvT X → _) := fun X hx => addrText_any s X hx (by rw [hs]; decide)
  have hAE : adE s = 0 := by unfold adE isAd; simp [hs]
  rw [hAE] at HA
  have hQ : pfT 3 r s l = [108, 52] ++ [32] ++ ((adT s ++ ([47] ++ Lib.decDigits l))) := by unfold pfT rdT; simp [fwL]
  have ha0 : ∀ W, (Op.stringOp .add (⟨#[108, 52]⟩ : ByteArray) ⟨#[32]⟩).run Tryd.prog W = .ok (.string ⟨([108, 52] ++ [32] : List UInt8).toArray⟩) W := add_l [108, 52] [32] (by simp)
  have hp0 : ([108, 52] ++ [32] : List UInt8).length ≤ 8 := by simp
  have ha3 := add_l ([108, 52] ++ [32]) (adT s) (by simp; omega)
  have ha4 := add_l ([108, 52] ++ [32] ++ adT s) [47] (by simp; omega)
  have ha5 := add_l ([108, 52] ++ [32] ++ adT s ++ [47]) (Lib.decDigits l) (by simp; omega)
  have HQ : Hid (pfT 3 r s l = [108, 52] ++ [32] ++ adT s ++ [47] ++ Lib.decDigits l) := by unfold Hid; rw [hQ]; simp only [List.append_assoc]
  clear hQ hp0 hd1 hd2 hda hAE HF
  generalize pfT 3 r s l = tx at *
  generalize ([108, 52] ++ [32] : List UInt8) = t2 at *
  generalize adT s = ad at *
  generalize Lib.decDigits l = dl at *
  generalize t2 ++ ad = t3 at *
  generalize t3 ++ [47] = t4 at *
  generalize t4 ++ dl = t5 at *
  clear he hc hs hl hr
  go_enter Tryd.func22, Tryd.ntmps22
  go_wp2_with fail
  refine (check_any 3 r s l _ HE.out.t.sizes HE.out.t.rds).mono ?_
  rintro e w1 ⟨rfl, hb1⟩
  rw [HC.out]
  have HE2 : Hid (EnvT w1) := HE.out.below hb1
  obtain ⟨p0, p1, p2, p3, _, _, _, _⟩ := HP.out.kept hb1 (by simp)
  obtain ⟨t, fr, h0⟩ := HE2.out.t.fam
  have c12 := cell_of_row w1 0 9 _ t fr h0
  have c13 := cell_of_row w1 0 10 _ t fr h0
  have c14 := cell_of_row w1 0 11 _ t fr h0
  simp [famCells] at c12 c13 c14
  have l0 := lt_of_heap h0
  have HBl : Hid (Below w.heap.size w w1) := HBel.out.trans (hb1.mono HBel.out.size)
  have hs0 : w.heap.size < w1.heap.size := by have := hb1.size; simp at this; omega
  have HN : Hid (∀ A, EnvT (w1.alloc (.cells A 49)) ∧ Below w1.heap.size w1 (w1.alloc (.cells A 49))) := fun A => ⟨HE2.out.below ((Below.refl _ _).alloc (Nat.le_refl _) _), (Below.refl _ _).alloc (Nat.le_refl _) _⟩
  clear h0 hB hb1 HE HC HP HBel
  go_wp2_with fail
  refine (HA.out _ (HN.out _).1).mono ?_
  rintro e w3 ⟨rfl, hb3⟩
  have hs1 : w.heap.size < w1.heap.size + 1 := by omega
  have HE4 : Hid (EnvT w3) := (HN.out _).1.below hb3
  have HB4 : Hid (Below w1.heap.size w1 w3) := (HN.out _).2.trans (hb3.mono (by simp))
  have u3 := (HB4.out.cell (p := ⟨w.heap.size, 3, none⟩) hs0).trans p3
  clear p0 p1 p2 p3 c12 c13 c14 hb3 l0 hs0 hs1
  go_wp2_with fail
  refine (HI.out _ HE4.out.p).mono ?_
  rintro e w4 ⟨rfl, hb4⟩
  go_wp2
  go_ret2
  exact ⟨by rw [HQ.out]; rfl, (HBl.out.trans (HB4.out.mono HBl.out.size)).trans (hb4.mono (Nat.le_trans HBl.out.size HB4.out.size))⟩
set_option maxHeartbeats 2000000 in
theorem text_f4 (r : Nat) (hr : r < 18446744073709551616) (s : ByteArray) (l : Nat) (w : World) (he : EnvT w) (hs : s.size = 4) (hl : l ≤ 128) (hc : chk 4 r s l = 0) :
    Calls Tryd.prog 22 #[.agg #[.int .i64 4, .int .u64 (r : Int), .string s, .int .i64 (l : Int)]] w fun e w' => e = .returned (.tuple #[.string ⟨(pfT 4 r s l).toArray⟩, .int .i64 0]) ∧ Below w.heap.size w w' := by
  have hB : Below w.heap.size w (w.alloc (.cells #[.int .i64 4, .int .u64 (r : Int), .string s, .int .i64 (l : Int)] 24)) := (Below.refl _ _).alloc (Nat.le_refl _) _
  have HBel : Hid (_ : Prop) := hB
  have HE : Hid (EnvT (w.alloc (.cells #[.int .i64 4, .int .u64 (r : Int), .string s, .int .i64 (l : Int)] 24))) := he.below hB
  have HC : Hid (chk 4 r s l = 0) := hc
  have HP : Hid (_ : Prop) := PfxAt.of_alloc w _ 4 r s l rfl
  have hd1 := dig_len64 r hr
  have hd2 := dig_len64 l (by omega)
  have hda := adT_len s
  have HI : Hid (∀ X, PowAt X → _) := fun X hp => itoa_any l (by omega) X hp
  have HF : Hid (∀ X, PowAt X → _) := fun X hp => fmt_any r hr X hp
  have HA : Hid (∀ X, EnvT X → _) := fun X hx => addrText_any s X hx (by rw [hs]; decide)
  have hAE : adE s = 0 := by unfold adE isAd; simp [hs]
  rw [hAE] at HA
  have hQ : pfT 4 r s l = [118, 112, 110, 52] ++ [32] ++ ((Lib.decDigits r ++ [32]) ++ (adT s ++ ([47] ++ Lib.decDigits l))) := by unfold pfT rdT; simp [fwL]
  have ha0 : ∀ W, (Op.stringOp .add (⟨#[118, 112, 110, 52]⟩ : ByteArray) ⟨#[32]⟩).run Tryd.prog W = .ok (.string ⟨([118, 112, 110, 52] ++ [32] : List UInt8).toArray⟩) W := add_l [118, 112, 110, 52] [32] (by simp)
  have hp0 : ([118, 112, 110, 52] ++ [32] : List UInt8).length ≤ 8 := by simp
  have ha1 := add_l (Lib.decDigits r) [32] (by simp; omega)
  have ha2 := add_l ([118, 112, 110, 52] ++ [32]) (Lib.decDigits r ++ [32]) (by simp; omega)
  have ha3 := add_l ([118, 112, 110, 52] ++ [32] ++ (Lib.decDigits r ++ [32])) (adT s) (by simp; omega)
  have ha4 := add_l ([118, 112, 110, 52] ++ [32] ++ (Lib.decDigits r ++ [32]) ++ adT s) [47] (by simp; omega)
  have ha5 := add_l ([118, 112, 110, 52] ++ [32] ++ (Lib.decDigits r ++ [32]) ++ adT s ++ [47]) (Lib.decDigits l) (by simp; omega)
  have HQ : Hid (pfT 4 r s l = [118, 112, 110, 52] ++ [32] ++ (Lib.decDigits r ++ [32]) ++ adT s ++ [47] ++ Lib.decDigits l) := by unfold Hid; rw [hQ]; simp only [List.append_assoc]
  clear hQ hp0 hd1 hd2 hda hAE
  generalize pfT 4 r s l = tx at *
  generalize ([118, 112, 110, 52] ++ [32] : List UInt8) = t0 at *
  generalize Lib.decDigits r = dr at *
  generalize dr ++ [32] = t1 at *
  generalize t0 ++ t1 = t2 at *
  generalize adT s = ad at *
  generalize Lib.decDigits l = dl at *
  generalize t2 ++ ad = t3 at *
  generalize t3 ++ [47] = t4 at *
  generalize t4 ++ dl = t5 at *
  clear he hc hs hl hr
  go_enter Tryd.func22, Tryd.ntmps22
  go_wp2_with fail
  refine (check_any 4 r s l _ HE.out.t.sizes HE.out.t.rds).mono ?_
  rintro e w1 ⟨rfl, hb1⟩
  rw [HC.out]
  have HE2 : Hid (EnvT w1) := HE.out.below hb1
  obtain ⟨p0, p1, p2, p3, _, _, _, _⟩ := HP.out.kept hb1 (by simp)
  obtain ⟨t, fr, h0⟩ := HE2.out.t.fam
  have c12 := cell_of_row w1 0 12 _ t fr h0
  have c13 := cell_of_row w1 0 13 _ t fr h0
  have c14 := cell_of_row w1 0 14 _ t fr h0
  simp [famCells] at c12 c13 c14
  have l0 := lt_of_heap h0
  have HBl : Hid (Below w.heap.size w w1) := HBel.out.trans (hb1.mono HBel.out.size)
  have hs0 : w.heap.size < w1.heap.size := by have := hb1.size; simp at this; omega
  have HN : Hid (∀ A, EnvT (w1.alloc (.cells A 49)) ∧ Below w1.heap.size w1 (w1.alloc (.cells A 49))) := fun A => ⟨HE2.out.below ((Below.refl _ _).alloc (Nat.le_refl _) _), (Below.refl _ _).alloc (Nat.le_refl _) _⟩
  clear h0 hB hb1 HE HC HP HBel
  go_wp2_with fail
  refine (HF.out _ (HN.out _).1.p).mono ?_
  rintro e w2 ⟨rfl, hb2⟩
  have hz2 := hb2.size
  have g2 := hb2.cell (p := ⟨w1.heap.size, 0, none⟩) (by simp)
  have HE3 : Hid (EnvT w2) := (HN.out _).1.below hb2
  have HB3 : Hid (Below w1.heap.size w1 w2) := (HN.out _).2.trans (hb2.mono (by simp))
  have q2 := (HB3.out.cell (p := ⟨w.heap.size, 2, none⟩) hs0).trans p2
  have q3 := (HB3.out.cell (p := ⟨w.heap.size, 3, none⟩) hs0).trans p3
  clear p0 p1 p2 p3 c12 c13 c14 hb2 hz2 g2 l0 hs0
  go_wp2_with fail
  refine (HA.out _ HE3.out).mono ?_
  rintro e w3 ⟨rfl, hb3⟩
  have hs0 : w.heap.size < w2.heap.size := lt_of_cell q3
  have u3 := (hb3.cell (p := ⟨w.heap.size, 3, none⟩) hs0).trans q3
  have HE4 : Hid (EnvT w3) := HE3.out.below hb3
  have HB4 : Hid (Below w1.heap.size w1 w3) := HB3.out.trans (hb3.mono HB3.out.size)
  clear q2 q3 hb3 hs0
  go_wp2_with fail
  refine (HI.out _ HE4.out.p).mono ?_
  rintro e w4 ⟨rfl, hb4⟩
  go_wp2
  go_ret2
  exact ⟨by rw [HQ.out]; rfl, (HBl.out.trans (HB4.out.mono HBl.out.size)).trans (hb4.mono (Nat.le_trans HBl.out.size HB4.out.size))⟩
set_option maxHeartbeats 2000000 in
theorem text_f5 (r : Nat) (hr : r < 18446744073709551616) (s : ByteArray) (l : Nat) (w : World) (he : EnvT w) (hs : s.size = 16) (hl : l ≤ 128) (hc : chk 5 r s l = 0) :
    Calls Tryd.prog 22 #[.agg #[.int .i64 5, .int .u64 (r : Int), .string s, .int .i64 (l : Int)]] w fun e w' => e = .returned (.tuple #[.string ⟨(pfT 5 r s l).toArray⟩, .int .i64 0]) ∧ Below w.heap.size w w' := by
  have hB : Below w.heap.size w (w.alloc (.cells #[.int .i64 5, .int .u64 (r : Int), .string s, .int .i64 (l : Int)] 24)) := (Below.refl _ _).alloc (Nat.le_refl _) _
  have HBel : Hid (_ : Prop) := hB
  have HE : Hid (EnvT (w.alloc (.cells #[.int .i64 5, .int .u64 (r : Int), .string s, .int .i64 (l : Int)] 24))) := he.below hB
  have HC : Hid (chk 5 r s l = 0) := hc
  have HP : Hid (_ : Prop) := PfxAt.of_alloc w _ 5 r s l rfl
  have hd1 := dig_len64 r hr
  have hd2 := dig_len64 l (by omega)
  have hda := adT_len s
  have HI : Hid (∀ X, PowAt X → _) := fun X hp => itoa_any l (by omega) X hp
  have HF : Hid (∀ X, PowAt X → _) := fun X hp => fmt_any r hr X hp
  have HA : Hid (∀ X, EnvT X → _) := fun X hx => addrText_any s X hx (by rw [hs]; decide)
  have hAE : adE s = 0 := by unfold adE isAd; simp [hs]
  rw [hAE] at HA
  have hQ : pfT 5 r s l = [118, 112, 110, 54] ++ [32] ++ ((Lib.decDigits r ++ [32]) ++ (adT s ++ ([47] ++ Lib.decDigits l))) := by unfold pfT rdT; simp [fwL]
  have ha0 : ∀ W, (Op.stringOp .add (⟨#[118, 112, 110, 54]⟩ : ByteArray) ⟨#[32]⟩).run Tryd.prog W = .ok (.string ⟨([118, 112, 110, 54] ++ [32] : List UInt8).toArray⟩) W := add_l [118, 112, 110, 54] [32] (by simp)
  have hp0 : ([118, 112, 110, 54] ++ [32] : List UInt8).length ≤ 8 := by simp
  have ha1 := add_l (Lib.decDigits r) [32] (by simp; omega)
  have ha2 := add_l ([118, 112, 110, 54] ++ [32]) (Lib.decDigits r ++ [32]) (by simp; omega)
  have ha3 := add_l ([118, 112, 110, 54] ++ [32] ++ (Lib.decDigits r ++ [32])) (adT s) (by simp; omega)
  have ha4 := add_l ([118, 112, 110, 54] ++ [32] ++ (Lib.decDigits r ++ [32]) ++ adT s) [47] (by simp; omega)
  have ha5 := add_l ([118, 112, 110, 54] ++ [32] ++ (Lib.decDigits r ++ [32]) ++ adT s ++ [47]) (Lib.decDigits l) (by simp; omega)
  have HQ : Hid (pfT 5 r s l = [118, 112, 110, 54] ++ [32] ++ (Lib.decDigits r ++ [32]) ++ adT s ++ [47] ++ Lib.decDigits l) := by unfold Hid; rw [hQ]; simp only [List.append_assoc]
  clear hQ hp0 hd1 hd2 hda hAE
  generalize pfT 5 r s l = tx at *
  generalize ([118, 112, 110, 54] ++ [32] : List UInt8) = t0 at *
  generalize Lib.decDigits r = dr at *
  generalize dr ++ [32] = t1 at *
  generalize t0 ++ t1 = t2 at *
  generalize adT s = ad at *
  generalize Lib.decDigits l = dl at *
  generalize t2 ++ ad = t3 at *
  generalize t3 ++ [47] = t4 at *
  generalize t4 ++ dl = t5 at *
  clear he hc hs hl hr
  go_enter Tryd.func22, Tryd.ntmps22
  go_wp2_with fail
  refine (check_any 5 r s l _ HE.out.t.sizes HE.out.t.rds).mono ?_
  rintro e w1 ⟨rfl, hb1⟩
  rw [HC.out]
  have HE2 : Hid (EnvT w1) := HE.out.below hb1
  obtain ⟨p0, p1, p2, p3, _, _, _, _⟩ := HP.out.kept hb1 (by simp)
  obtain ⟨t, fr, h0⟩ := HE2.out.t.fam
  have c12 := cell_of_row w1 0 15 _ t fr h0
  have c13 := cell_of_row w1 0 16 _ t fr h0
  have c14 := cell_of_row w1 0 17 _ t fr h0
  simp [famCells] at c12 c13 c14
  have l0 := lt_of_heap h0
  have HBl : Hid (Below w.heap.size w w1) := HBel.out.trans (hb1.mono HBel.out.size)
  have hs0 : w.heap.size < w1.heap.size := by have := hb1.size; simp at this; omega
  have HN : Hid (∀ A, EnvT (w1.alloc (.cells A 49)) ∧ Below w1.heap.size w1 (w1.alloc (.cells A 49))) := fun A => ⟨HE2.out.below ((Below.refl _ _).alloc (Nat.le_refl _) _), (Below.refl _ _).alloc (Nat.le_refl _) _⟩
  clear h0 hB hb1 HE HC HP HBel
  go_wp2_with fail
  refine (HF.out _ (HN.out _).1.p).mono ?_
  rintro e w2 ⟨rfl, hb2⟩
  have hz2 := hb2.size
  have g2 := hb2.cell (p := ⟨w1.heap.size, 0, none⟩) (by simp)
  have HE3 : Hid (EnvT w2) := (HN.out _).1.below hb2
  have HB3 : Hid (Below w1.heap.size w1 w2) := (HN.out _).2.trans (hb2.mono (by simp))
  have q2 := (HB3.out.cell (p := ⟨w.heap.size, 2, none⟩) hs0).trans p2
  have q3 := (HB3.out.cell (p := ⟨w.heap.size, 3, none⟩) hs0).trans p3
  clear p0 p1 p2 p3 c12 c13 c14 hb2 hz2 g2 l0 hs0
  go_wp2_with fail
  refine (HA.out _ HE3.out).mono ?_
  rintro e w3 ⟨rfl, hb3⟩
  have hs0 : w.heap.size < w2.heap.size := lt_of_cell q3
  have u3 := (hb3.cell (p := ⟨w.heap.size, 3, none⟩) hs0).trans q3
  have HE4 : Hid (EnvT w3) := HE3.out.below hb3
  have HB4 : Hid (Below w1.heap.size w1 w3) := HB3.out.trans (hb3.mono HB3.out.size)
  clear q2 q3 hb3 hs0
  go_wp2_with fail
  refine (HI.out _ HE4.out.p).mono ?_
  rintro e w4 ⟨rfl, hb4⟩
  go_wp2
  go_ret2
  exact ⟨by rw [HQ.out]; rfl, (HBl.out.trans (HB4.out.mono HBl.out.size)).trans (hb4.mono (Nat.le_trans HBl.out.size HB4.out.size))⟩
end Go.Proofs.YtkgedoedojkdkaaDoor
