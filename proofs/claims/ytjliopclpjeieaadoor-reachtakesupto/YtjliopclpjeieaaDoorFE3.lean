/-
  A next hop that is taken: takeNext.
-/
import Derived.Test.YtjliopclpjeieaaDoorFE2
namespace Go.Proofs.YtjliopclpjeieaaDoor
open Go.RowKit
theorem take_l_yes (p : Nat) (l : List UInt8) (n : Nat) (w : World) (h : RdrAt w p ⟨l.toArray⟩) (hn : n ≤ l.length) :
    Calls Tryd.prog 58 #[.pointer (some ⟨p, 0, none⟩), .int .i64 (n : Int)] w fun e w' => e = .returned (.tuple #[.string ⟨(l.take n).toArray⟩, .bool true]) ∧ RdrAt w' p ⟨(l.drop n).toArray⟩ ∧ Beside p w w' := by
  have := take_yes p ⟨l.toArray⟩ n w h (by rw [list_size]; exact hn)
  rw [ext_l, lsz] at this
  exact this.mono fun e w' ⟨h1, h2⟩ => ⟨h1, by rw [h2]; exact h.set _, by rw [h2]; exact Beside.set _ _ _⟩
theorem take_l_no (p : Nat) (l : List UInt8) (n : Nat) (w : World) (h : RdrAt w p ⟨l.toArray⟩) (hn : l.length < n) :
    Calls Tryd.prog 58 #[.pointer (some ⟨p, 0, none⟩), .int .i64 (n : Int)] w fun e w' => e = .returned (.tuple #[.string ⟨#[]⟩, .bool false]) ∧ RdrAt w' p ⟨l.toArray⟩ ∧ Beside p w w' :=
  (take_no p ⟨l.toArray⟩ n w h (by rw [list_size]; omega)).mono fun e w' ⟨h1, h2⟩ => ⟨h1, by rw [h2]; exact h, by rw [h2]; exact Beside.of_below (Below.refl _ _) (Nat.le_refl _)⟩
theorem num1_yes (p : Nat) (l : List UInt8) (w : World) (h : RdrAt w p ⟨l.toArray⟩) (hn : 1 ≤ l.length) :
    Calls Tryd.prog 57 #[.pointer (some ⟨p, 0, none⟩), .int .i64 1] w fun e w' => e = .returned (.tuple #[.int .u64 (cntI l : Nat), .bool true]) ∧ RdrAt w' p ⟨(l.drop 1).toArray⟩ ∧ Beside p w w' := by
  have := num_yes p ⟨l.toArray⟩ 1 w h (by omega) (by omega) (by rw [list_size]; exact hn)
  rw [lsz, show (⟨l.toArray⟩ : ByteArray).data.toList = l by simp] at this
  exact this
theorem num1_no (p : Nat) (l : List UInt8) (w : World) (h : RdrAt w p ⟨l.toArray⟩) (hn : l.length < 1) :
    Calls Tryd.prog 57 #[.pointer (some ⟨p, 0, none⟩), .int .i64 1] w fun e w' => e = .returned (.tuple #[.int .u64 0, .bool false]) ∧ RdrAt w' p ⟨l.toArray⟩ ∧ Beside p w w' :=
  num_no p ⟨l.toArray⟩ 1 w h (by omega) (by omega) (by rw [list_size]; exact hn)
/-- What takeNext answers, and what becomes of the reader. -/
def NextOk (ok : Bool) (nx : List UInt8) (p : Nat) (r : List UInt8) (w : World) (e : Ending) (w' : World) : Prop :=
  e = .returned (.tuple #[.string ⟨(if ok then nx else []).toArray⟩, .bool ok]) ∧ (ok = true → RdrAt w' p ⟨r.toArray⟩) ∧ Beside p w w'
set_option maxRecDepth 100000 in
set_option maxHeartbeats 3200000 in
theorem takeNext_none (a s : Int) (h : Nat) (B : List UInt8) (t : Bool) (p : Nat) (l : List UInt8) (w : World) (hr : RdrAt w p ⟨l.toArray⟩) (hn : l.length < 1) :
    Calls Tryd.prog 40 #[.agg #[.int .u16 a, .int .u8 s, .int .i64 (h : Int), .string ⟨B.toArray⟩, .bool t], .pointer (some ⟨p, 0, none⟩)] w fun e w' => NextOk (okN h B t l) (nxI h B t l) p (l.drop (cntI l + 2)) w e w' := by
  have hp := hr.lt
  have hb : Below w.heap.size w (w.alloc (.cells #[.int .u16 a, .int .u8 s, .int .i64 (h : Int), .string ⟨B.toArray⟩, .bool t] 55)) := (Below.refl _ _).alloc (Nat.le_refl _) _
  have HR : Hid (RdrAt (w.alloc (.cells #[.int .u16 a, .int .u8 s, .int .i64 (h : Int), .string ⟨B.toArray⟩, .bool t] 55)) p ⟨l.toArray⟩) := hr.kept hb hp
  have HB : Hid (Beside p w (w.alloc (.cells #[.int .u16 a, .int .u8 s, .int .i64 (h : Int), .string ⟨B.toArray⟩, .bool t] 55))) := Beside.of_below hb (Nat.le_refl _)
  have HN : Hid (okN h B t l = false) := by unfold Hid okN wholeI; rw [decide_eq_false (by omega)]; rfl
  have K1 : Hid (_ : Prop) := num1_no p l _ HR.out hn
  clear hr hb hp hn
  go_enter Tryd.func40, Tryd.ntmps40
  go_wp2_with fail
  refine Calls.mono K1.out ?_
  rintro e w1 ⟨rfl, h1, hb1⟩
  have HB1 : Hid (Beside p w w1) := HB.out.trans hb1
  have K2 : Hid (_ : Prop) := take_l_yes p l 0 w1 h1 (Nat.zero_le _)
  clear h1 hb1 HB HR K1
  go_wp2_with fail
  refine Calls.mono K2.out ?_
  rintro e w2 ⟨rfl, h2, hb2⟩
  have HB2 : Hid (Beside p w w2) := HB1.out.trans hb2
  have HR2 : Hid (RdrAt w2 p _) := h2
  clear h2 hb2 HB1 K2
  by_cases hx : (l.drop 0).length < 1
  · have K3 : Hid (_ : Prop) := take_l_no p (l.drop 0) 1 w2 HR2.out hx
    clear hx HR2
    go_wp2_with fail
    refine Calls.mono K3.out ?_
    rintro e w3 ⟨rfl, h3, hb3⟩
    have HB3 : Hid (Beside p w w3) := HB2.out.trans hb3
    clear h3 hb3
    go_wp2
    go_ret2
    rw [HN.out]
    exact ⟨rfl, fun h => absurd h (by decide), HB3.out⟩
  · have K3 : Hid (_ : Prop) := take_l_yes p (l.drop 0) 1 w2 HR2.out (by omega)
    clear hx HR2
    go_wp2_with fail
    refine Calls.mono K3.out ?_
    rintro e w3 ⟨rfl, h3, hb3⟩
    have HB3 : Hid (Beside p w w3) := HB2.out.trans hb3
    clear h3 hb3
    go_wp2
    go_ret2
    rw [HN.out]
    exact ⟨rfl, fun h => absurd h (by decide), HB3.out⟩
set_option maxRecDepth 100000 in
set_option maxHeartbeats 3200000 in
theorem takeNext_cut (a s : Int) (h : Nat) (B : List UInt8) (t : Bool) (p : Nat) (l : List UInt8) (w : World) (hr : RdrAt w p ⟨l.toArray⟩) (hn : 1 ≤ l.length ∧ l.length < cntI l + 1) :
    Calls Tryd.prog 40 #[.agg #[.int .u16 a, .int .u8 s, .int .i64 (h : Int), .string ⟨B.toArray⟩, .bool t], .pointer (some ⟨p, 0, none⟩)] w fun e w' => NextOk (okN h B t l) (nxI h B t l) p (l.drop (cntI l + 2)) w e w' := by
  have hp := hr.lt
  have hb : Below w.heap.size w (w.alloc (.cells #[.int .u16 a, .int .u8 s, .int .i64 (h : Int), .string ⟨B.toArray⟩, .bool t] 55)) := (Below.refl _ _).alloc (Nat.le_refl _) _
  have HR : Hid (RdrAt (w.alloc (.cells #[.int .u16 a, .int .u8 s, .int .i64 (h : Int), .string ⟨B.toArray⟩, .bool t] 55)) p ⟨l.toArray⟩) := hr.kept hb hp
  have HB : Hid (Beside p w (w.alloc (.cells #[.int .u16 a, .int .u8 s, .int .i64 (h : Int), .string ⟨B.toArray⟩, .bool t] 55))) := Beside.of_below hb (Nat.le_refl _)
  have HN : Hid (okN h B t l = false) := by unfold Hid okN wholeI; rw [decide_eq_false (by omega)]; rfl
  have K1 : Hid (_ : Prop) := num1_yes p l _ HR.out hn.1
  have hc := cnt_lt l
  have hd : (l.drop 1).length < cntI l := by simp; omega
  clear hr hb hp hn
  generalize cntI l = n at *
  have HC : Hid (n < 256) := hc
  go_enter Tryd.func40, Tryd.ntmps40
  go_wp2_with fail
  refine Calls.mono K1.out ?_
  rintro e w1 ⟨rfl, h1, hb1⟩
  have HB1 : Hid (Beside p w w1) := HB.out.trans hb1
  have K2 : Hid (_ : Prop) := take_l_no p (l.drop 1) n w1 h1 hd
  clear h1 hb1 HB HR K1 hd
  go_wp2_with fail
  refine Calls.mono K2.out ?_
  rintro e w2 ⟨rfl, h2, hb2⟩
  have HB2 : Hid (Beside p w w2) := HB1.out.trans hb2
  have HR2 : Hid (RdrAt w2 p _) := h2
  clear h2 hb2 HB1 K2
  by_cases hx : (l.drop 1).length < 1
  · have K3 : Hid (_ : Prop) := take_l_no p (l.drop 1) 1 w2 HR2.out hx
    clear hx HR2
    go_wp2_with fail
    refine Calls.mono K3.out ?_
    rintro e w3 ⟨rfl, h3, hb3⟩
    have HB3 : Hid (Beside p w w3) := HB2.out.trans hb3
    clear h3 hb3
    go_wp2
    go_ret2
    rw [HN.out]
    exact ⟨rfl, fun h => absurd h (by decide), HB3.out⟩
  · have K3 : Hid (_ : Prop) := take_l_yes p (l.drop 1) 1 w2 HR2.out (by omega)
    clear hx HR2
    go_wp2_with fail
    refine Calls.mono K3.out ?_
    rintro e w3 ⟨rfl, h3, hb3⟩
    have HB3 : Hid (Beside p w w3) := HB2.out.trans hb3
    clear h3 hb3
    go_wp2
    go_ret2
    rw [HN.out]
    exact ⟨rfl, fun h => absurd h (by decide), HB3.out⟩
set_option maxRecDepth 100000 in
set_option maxHeartbeats 3200000 in
theorem takeNext_end (a s : Int) (h : Nat) (B : List UInt8) (t : Bool) (p : Nat) (l : List UInt8) (w : World) (hr : RdrAt w p ⟨l.toArray⟩) (hn : 1 ≤ l.length ∧ l.length = cntI l + 1) :
    Calls Tryd.prog 40 #[.agg #[.int .u16 a, .int .u8 s, .int .i64 (h : Int), .string ⟨B.toArray⟩, .bool t], .pointer (some ⟨p, 0, none⟩)] w fun e w' => NextOk (okN h B t l) (nxI h B t l) p (l.drop (cntI l + 2)) w e w' := by
  have hp := hr.lt
  have hb : Below w.heap.size w (w.alloc (.cells #[.int .u16 a, .int .u8 s, .int .i64 (h : Int), .string ⟨B.toArray⟩, .bool t] 55)) := (Below.refl _ _).alloc (Nat.le_refl _) _
  have HR : Hid (RdrAt (w.alloc (.cells #[.int .u16 a, .int .u8 s, .int .i64 (h : Int), .string ⟨B.toArray⟩, .bool t] 55)) p ⟨l.toArray⟩) := hr.kept hb hp
  have HB : Hid (Beside p w (w.alloc (.cells #[.int .u16 a, .int .u8 s, .int .i64 (h : Int), .string ⟨B.toArray⟩, .bool t] 55))) := Beside.of_below hb (Nat.le_refl _)
  have HN : Hid (okN h B t l = false) := by unfold Hid okN wholeI; rw [decide_eq_false (by omega)]; rfl
  have K1 : Hid (_ : Prop) := num1_yes p l _ HR.out hn.1
  have hc := cnt_lt l
  have hd : cntI l ≤ (l.drop 1).length := by simp; omega
  have hd2 : ((l.drop 1).drop (cntI l)).length < 1 := by simp; omega
  clear hr hb hp hn
  generalize cntI l = n at *
  have HC : Hid (n < 256) := hc
  have HD : Hid (_ ∧ _) := ⟨hd, hd2⟩
  clear hd hd2
  go_enter Tryd.func40, Tryd.ntmps40
  go_wp2_with fail
  refine Calls.mono K1.out ?_
  rintro e w1 ⟨rfl, h1, hb1⟩
  have HB1 : Hid (Beside p w w1) := HB.out.trans hb1
  have K2 : Hid (_ : Prop) := take_l_yes p (l.drop 1) n w1 h1 HD.out.1
  clear h1 hb1 HB HR K1
  go_wp2_with fail
  refine Calls.mono K2.out ?_
  rintro e w2 ⟨rfl, h2, hb2⟩
  have HB2 : Hid (Beside p w w2) := HB1.out.trans hb2
  have K3 : Hid (_ : Prop) := take_l_no p _ 1 w2 h2 HD.out.2
  clear h2 hb2 HB1 K2
  go_wp2_with fail
  refine Calls.mono K3.out ?_
  rintro e w3 ⟨rfl, h3, hb3⟩
  have HB3 : Hid (Beside p w w3) := HB2.out.trans hb3
  clear h3 hb3
  go_wp2
  go_ret2
  rw [HN.out]
  exact ⟨rfl, fun h => absurd h (by decide), HB3.out⟩
set_option maxRecDepth 100000 in
set_option maxHeartbeats 3200000 in
theorem takeNext_full (a s : Int) (h : Nat) (B : List UInt8) (t : Bool) (p : Nat) (l : List UInt8) (w : World) (hr : RdrAt w p ⟨l.toArray⟩) (hh : h ≤ 16) (hn : cntI l + 2 ≤ l.length) :
    Calls Tryd.prog 40 #[.agg #[.int .u16 a, .int .u8 s, .int .i64 (h : Int), .string ⟨B.toArray⟩, .bool t], .pointer (some ⟨p, 0, none⟩)] w fun e w' => NextOk (okN h B t l) (nxI h B t l) p (l.drop (cntI l + 2)) w e w' := by
  have hp := hr.lt
  have hb : Below w.heap.size w (w.alloc (.cells #[.int .u16 a, .int .u8 s, .int .i64 (h : Int), .string ⟨B.toArray⟩, .bool t] 55)) := (Below.refl _ _).alloc (Nat.le_refl _) _
  have HR : Hid (RdrAt (w.alloc (.cells #[.int .u16 a, .int .u8 s, .int .i64 (h : Int), .string ⟨B.toArray⟩, .bool t] 55)) p ⟨l.toArray⟩) := hr.kept hb hp
  have HB : Hid (Beside p w (w.alloc (.cells #[.int .u16 a, .int .u8 s, .int .i64 (h : Int), .string ⟨B.toArray⟩, .bool t] 55))) := Beside.of_below hb (Nat.le_refl _)
  have HW : Hid (okN h B t l = (led (hopI l) B && decide ((nxI h B t l).length = h))) := by unfold Hid okN wholeI; rw [decide_eq_true hn]; rfl
  have c2 : (w.alloc (.cells #[.int .u16 a, .int .u8 s, .int .i64 (h : Int), .string ⟨B.toArray⟩, .bool t] 55)).cell? ⟨w.heap.size, 2, none⟩ = some (.int .i64 (h : Int)) := by simp
  have c3 : (w.alloc (.cells #[.int .u16 a, .int .u8 s, .int .i64 (h : Int), .string ⟨B.toArray⟩, .bool t] 55)).cell? ⟨w.heap.size, 3, none⟩ = some (.string ⟨B.toArray⟩) := by simp
  have c4 : (w.alloc (.cells #[.int .u16 a, .int .u8 s, .int .i64 (h : Int), .string ⟨B.toArray⟩, .bool t] 55)).cell? ⟨w.heap.size, 4, none⟩ = some (.bool t) := by simp
  have HC : Hid (_ ∧ _ ∧ _) := ⟨c2, c3, c4⟩
  have K1 : Hid (_ : Prop) := num1_yes p l _ HR.out (by omega)
  have hc := cnt_lt l
  have hd : cntI l ≤ (l.drop 1).length := by simp; omega
  have hd2 : 1 ≤ ((l.drop 1).drop (cntI l)).length := by simp; omega
  have HHL : Hid ((hopI l).length ≤ 255) := by unfold Hid hopI; simp; omega
  have HHE : Hid ((l.drop 1).take (cntI l) = hopI l) := rfl
  have HDD : Hid (((l.drop 1).drop (cntI l)).drop 1 = l.drop (cntI l + 2)) := by unfold Hid; rw [List.drop_drop, List.drop_drop]; congr 1; omega
  have HNX : Hid (nxI h B t l = if t && decide (((hopI l).drop B.length).length = 2 * h) then ((hopI l).drop B.length).take h else (hopI l).drop B.length) := rfl
  have hne : w.heap.size ≠ p := by omega
  clear hr hb hp hn c2 c3 c4
  generalize okN h B t l = ok at *
  generalize nxI h B t l = N at *
  generalize hopI l = H at *
  generalize cntI l = n at *
  have HCN : Hid (n < 256) := hc
  have HD : Hid (_ ∧ _) := ⟨hd, hd2⟩
  have HNE : Hid (w.heap.size ≠ p) := hne
  clear hd hd2 hne
  go_enter Tryd.func40, Tryd.ntmps40
  go_wp2_with fail
  refine Calls.mono K1.out ?_
  rintro e w1 ⟨rfl, h1, hb1⟩
  have HB1 : Hid (Beside p w w1) := HB.out.trans hb1
  have HC1 : Hid (_ ∧ _ ∧ _) := ⟨hb1.cell HC.out.1 HNE.out, hb1.cell HC.out.2.1 HNE.out, hb1.cell HC.out.2.2 HNE.out⟩
  have K2 : Hid (_ : Prop) := take_l_yes p (l.drop 1) n w1 h1 HD.out.1
  rw [HHE.out] at K2
  clear h1 hb1 HB HR K1 HC
  go_wp2_with fail
  refine Calls.mono K2.out ?_
  rintro e w2 ⟨rfl, h2, hb2⟩
  have HB2 : Hid (Beside p w w2) := HB1.out.trans hb2
  have HC2 : Hid (_ ∧ _ ∧ _) := ⟨hb2.cell HC1.out.1 HNE.out, hb2.cell HC1.out.2.1 HNE.out, hb2.cell HC1.out.2.2 HNE.out⟩
  have K3 : Hid (_ : Prop) := take_l_yes p _ 1 w2 h2 HD.out.2
  rw [HDD.out] at K3
  clear h2 hb2 HB1 K2 HC1
  go_wp2_with fail
  refine Calls.mono K3.out ?_
  rintro e w3 ⟨rfl, h3, hb3⟩
  have HB3 : Hid (Beside p w w3) := HB2.out.trans hb3
  have HR3 : Hid (RdrAt w3 p _) := h3
  have c2 := hb3.cell HC2.out.1 HNE.out
  have c3 := hb3.cell HC2.out.2.1 HNE.out
  have c4 := hb3.cell HC2.out.2.2 HNE.out
  clear h3 hb3 HB2 K3 HC2
  have K4 : Hid (_ : Prop) := cutP H B w3
  go_wp2_with fail
  refine Calls.mono K4.out ?_
  rintro e w4 ⟨rfl, hw4⟩
  obtain rfl : w3 = w4 := hw4.symm
  clear hw4 K4 c3
  have hhl := HHL.out
  cases hL : led H B with
  | false =>
    have HOK : Hid (ok = false) := by unfold Hid; rw [HW.out, hL]; rfl
    simp only [Bool.false_eq_true, if_false]
    clear hL
    cases t with
    | false =>
      go_wp2
      go_ret2
      rw [HOK.out]
      exact ⟨rfl, fun h => absurd h (by decide), HB3.out⟩
    | true =>
      by_cases hm : (H.length : Int) = 2 * (h : Int)
      · have hm' : ((H.length : Int) == 2 * (h : Int)) = true := by simpa using hm
        have hle : (h : Int) ≤ H.length := by omega
        clear hm
        go_wp2
        go_ret2
        rw [HOK.out]
        exact ⟨rfl, fun h => absurd h (by decide), HB3.out⟩
      · have hm' : ((H.length : Int) == 2 * (h : Int)) = false := by simpa using hm
        clear hm
        go_wp2
        go_ret2
        rw [HOK.out]
        exact ⟨rfl, fun h => absurd h (by decide), HB3.out⟩
  | true =>
    rw [hL] at HW
    simp only [if_true]
    have hxl : (H.drop B.length).length ≤ 255 := by simp; omega
    clear hL
    generalize H.drop B.length = X at *
    by_cases hm : t = true ∧ X.length = 2 * h
    · obtain ⟨rfl, hm⟩ := hm
      have hN : N = X.take h := by rw [HNX.out, decide_eq_true hm]; rfl
      have HOK : Hid (ok = true) := by unfold Hid; rw [HW.out, hN, decide_eq_true (by simp; omega)]; rfl
      have hm' : ((X.length : Int) == 2 * (h : Int)) = true := by simp; omega
      have hle : (h : Int) ≤ X.length := by omega
      have HE : Hid ((⟨X.toArray⟩ : ByteArray).extract 0 h = ⟨(X.take h).toArray⟩) := ext_l X h
      have hex : ((⟨X.toArray⟩ : ByteArray).extract 0 h).size = h := by rw [HE.out, list_size]; simp; omega
      have HNN : Hid (N = X.take h) := hN
      clear hm hN
      go_wp2
      go_ret2
      rw [HOK.out, HNN.out]
      refine ⟨?_, fun _ => HR3.out, HB3.out⟩
      show Ending.returned (.tuple #[.string ((⟨X.toArray⟩ : ByteArray).extract 0 h), .bool true]) = _
      rw [HE.out]
      rfl
    · have hN : N = X := by
        rw [HNX.out]
        rw [if_neg]
        intro hq
        simp at hq
        exact hm hq
      have HNN : Hid (N = X) := hN
      have hm2 : t = false ∨ ((X.length : Int) == 2 * (h : Int)) = false := by
        cases t with
        | false => exact Or.inl rfl
        | true => exact Or.inr (by simp; intro hq; exact hm ⟨rfl, by omega⟩)
      clear hm
      by_cases hq : X.length = h
      · have HOK : Hid (ok = true) := by unfold Hid; rw [HW.out, hN, decide_eq_true hq]; rfl
        clear hN
        subst hq
        rcases hm2 with rfl | hm2
        · go_wp2
          go_ret2
          rw [HOK.out, HNN.out]
          exact ⟨rfl, fun _ => HR3.out, HB3.out⟩
        · cases t with
          | false =>
            go_wp2
            go_ret2
            rw [HOK.out, HNN.out]
            exact ⟨rfl, fun _ => HR3.out, HB3.out⟩
          | true =>
            go_wp2
            go_ret2
            rw [HOK.out, HNN.out]
            exact ⟨rfl, fun _ => HR3.out, HB3.out⟩
      · have HOK : Hid (ok = false) := by unfold Hid; rw [HW.out, hN, decide_eq_false hq]; rfl
        have hq1 : ((X.length : Int) == (h : Int)) = false := by simp; omega
        have hq2 : ((X.length : Int) != (h : Int)) = true := by simp; omega
        clear hN hq
        rcases hm2 with rfl | hm2
        · go_wp2
          go_ret2
          rw [HOK.out]
          exact ⟨rfl, fun h => absurd h (by decide), HB3.out⟩
        · cases t with
          | false =>
            go_wp2
            go_ret2
            rw [HOK.out]
            exact ⟨rfl, fun h => absurd h (by decide), HB3.out⟩
          | true =>
            go_wp2
            go_ret2
            rw [HOK.out]
            exact ⟨rfl, fun h => absurd h (by decide), HB3.out⟩
theorem takeNext_any (a s : Int) (h : Nat) (B : List UInt8) (t : Bool) (p : Nat) (l : List UInt8) (w : World) (hr : RdrAt w p ⟨l.toArray⟩) (hh : h ≤ 16) :
    Calls Tryd.prog 40 #[.agg #[.int .u16 a, .int .u8 s, .int .i64 (h : Int), .string ⟨B.toArray⟩, .bool t], .pointer (some ⟨p, 0, none⟩)] w fun e w' => NextOk (okN h B t l) (nxI h B t l) p (l.drop (cntI l + 2)) w e w' := by
  by_cases h1 : l.length < 1
  · exact takeNext_none a s h B t p l w hr h1
  · by_cases h2 : l.length < cntI l + 1
    · exact takeNext_cut a s h B t p l w hr ⟨by omega, h2⟩
    · by_cases h3 : l.length = cntI l + 1
      · exact takeNext_end a s h B t p l w hr ⟨by omega, h3⟩
      · exact takeNext_full a s h B t p l w hr hh (by omega)
end Go.Proofs.YtjliopclpjeieaaDoor
