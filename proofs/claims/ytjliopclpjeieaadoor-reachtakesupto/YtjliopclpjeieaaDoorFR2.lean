/-
  The reference's values: ahead, head, Put, PutGone.
-/
import Derived.Test.YtjliopclpjeieaaDoorFR1
import Derived.Test.YtjliopclpjeieaaDoorFH
import Derived.Test.YtjliopclpjeieaaDoorFG
import Derived.Test.YtjliopclpjeieaaDoorH6
namespace Go.Proofs.YtjliopclpjeieaaDoor
open Go.RowKit
def rz (f : Int) : Int := if f = 2 ∨ f = 5 then 16 else 4
theorem rz_fam {f : Int} (h : isF f = true) : rz f = szOf f := by
  rcases isF_cases h with rfl | rfl | rfl | rfl | rfl <;> decide
theorem rahead_any (f : Int) (w : World) : Calls Tryd.prog 34 #[.int .i64 f] w fun e w' => e = .returned (.tuple #[.string ⟨(ahL f).toArray⟩, .int .i64 (rz f)]) ∧ w' = w := by
  by_cases h : f = 2 ∨ f = 4 ∨ f = 5
  · rcases h with rfl | rfl | rfl
    all_goals
      go_enter Tryd.func34, Tryd.ntmps34
      go_wp2
      go_ret2
      exact ⟨rfl, rfl⟩
  · have ha : ahL f = [] := by unfold ahL; rw [if_neg (by omega)]
    have hz : rz f = 4 := by unfold rz; rw [if_neg (by omega)]
    rw [ha, hz]
    have g2 : (f == 2) = false := beq_eq_false_iff_ne.2 (by omega)
    have g4 : (f == 4) = false := beq_eq_false_iff_ne.2 (by omega)
    have g5 : (f == 5) = false := beq_eq_false_iff_ne.2 (by omega)
    clear h ha hz
    go_enter Tryd.func34, Tryd.ntmps34
    go_wp2
    go_ret2
    exact ⟨rfl, rfl⟩
set_option maxHeartbeats 1600000 in
theorem rhead_any (f : Int) (w : World) : Calls Tryd.prog 37 #[.int .i64 f] w fun e w' => e = .returned (.string ⟨(pairL f).toArray⟩) ∧ Below w.heap.size w w' := by
  have HA : Hid (afN f < 256 ^ 2) := af_lt f
  have HS : Hid (sfN f < 256 ^ 1) := sf_lt f
  have ha := af_lt f
  have hs := sf_lt f
  have hpl : pairL f = laid (afN f) 2 ++ laid (sfN f) 1 := rfl
  rw [hpl]
  clear hpl
  have K1 : Hid (_ : Prop) := rafi_any f w
  have HL : Hid ((laid (afN f) 2).length = 2) := laid_length _ 2
  generalize afN f = a at *
  generalize sfN f = s at *
  go_enter Tryd.func37, Tryd.ntmps37
  go_wp2_with fail
  refine Calls.mono K1.out ?_
  rintro e w0 ⟨rfl, hw0⟩
  obtain rfl : w = w0 := hw0.symm
  clear hw0
  go_wp2_with fail
  refine (rput_yes ⟨#[]⟩ a 2 _ (by omega) (by omega) HA.out (by decide)).mono ?_
  rintro e w1 ⟨rfl, hb1⟩
  rw [empty_append]
  have HB1 : Hid (Below w.heap.size w w1) := hb1
  clear hb1
  go_wp2_with fail
  refine (rput_yes ⟨(laid a 2).toArray⟩ s 1 _ (by omega) (by omega) HS.out (by rw [list_size, HL.out]; decide)).mono ?_
  rintro e w2 ⟨rfl, hb2⟩
  rw [app_l]
  go_wp2
  go_ret
  exact ⟨rfl, HB1.out.trans (hb2.mono HB1.out.size)⟩
theorem rgone_no (f : Int) (v : Value) (add : Bool) (w : World) (h : isF f = false) :
    Calls Tryd.prog 18 #[.int .i64 f, v, .bool add] w fun e w' => e = .returned (.tuple #[.string ⟨#[]⟩, .int .i64 2]) ∧ Below w.heap.size w w' := by
  have K1 : Hid (_ : Prop) := rafi_any f w
  rw [h] at K1
  clear h
  go_enter Tryd.func18, Tryd.ntmps18
  go_wp2_with fail
  refine Calls.mono K1.out ?_
  rintro e w0 ⟨rfl, rfl⟩
  go_wp2
  go_ret2
  exact ⟨rfl, Below.refl _ _⟩
set_option maxHeartbeats 1600000 in
theorem rgone_yes (f : Int) (v : Value) (add : Bool) (R : List Nl) (w : World) (h : isF f = true) (hv : NlsAt w v R) (hwf : ∀ n ∈ R, NlWf n) (hlen : R.length ≤ 30000) :
    Calls Tryd.prog 18 #[.int .i64 f, v, .bool add] w fun e w' => e = putAns (pairL f) f add R ∧ Below w.heap.size w w' := by
  have K1 : Hid (_ : Prop) := rafi_any f w
  have K2 : Hid (_ : Prop) := rencode_any f add v R w (sz_fam h).1 hv hwf hlen
  have HE : Hid (R.all (okE f add) = true → (encL add R).length ≤ 960000) := fun h => by
    have := encL_len add R fun n hn => ((okE_iff f add n).1 (List.all_eq_true.mp h n hn)).1
    omega
  rw [h] at K1
  clear h hv hwf hlen
  unfold encAns at K2
  cases ho : R.all (okE f add) with
  | false =>
    rw [ho] at K2
    have hpe : putE (pairL f) f add R = 2 := by unfold putE; rw [ho]; rfl
    have HP : Hid (putAns (pairL f) f add R = .returned (.tuple #[.string ⟨#[]⟩, .int .i64 2])) := by unfold Hid putAns putS; rw [hpe]; rfl
    simp only [Bool.false_eq_true, if_false] at K2
    clear HE ho hpe
    rw [HP.out]
    go_enter Tryd.func18, Tryd.ntmps18
    go_wp2_with fail
    refine Calls.mono K1.out ?_
    rintro e w0 ⟨rfl, hw0⟩
    obtain rfl : w = w0 := hw0.symm
    clear hw0
    go_wp2_with fail
    refine Calls.mono K2.out ?_
    rintro e w1 ⟨rfl, hb1⟩
    go_wp2
    go_ret2
    exact ⟨rfl, hb1⟩
  | true =>
    rw [ho] at K2
    have hel := HE.out ho
    simp only [if_true] at K2
    clear HE
    by_cases hlt : 4077 < (pairL f).length + (encL add R).length
    · have hpe : putE (pairL f) f add R = 3 := by unfold putE; rw [ho, if_pos rfl, if_pos hlt]
      have HP : Hid (putAns (pairL f) f add R = .returned (.tuple #[.string ⟨#[]⟩, .int .i64 3])) := by unfold Hid putAns putS; rw [hpe]; rfl
      rw [HP.out]
      clear ho hpe HP
      generalize encL add R = E at *
      have ha := add_lb (pairL f) E (by rw [pairL_len]; omega)
      have hlt2 : 4077 < (pairL f ++ E).length := by rw [List.length_append]; exact hlt
      clear hlt
      generalize pairL f ++ E = X at *
      go_enter Tryd.func18, Tryd.ntmps18
      go_wp2_with fail
      refine Calls.mono K1.out ?_
      rintro e w0 ⟨rfl, hw0⟩
      obtain rfl : w = w0 := hw0.symm
      clear hw0
      go_wp2_with fail
      refine Calls.mono K2.out ?_
      rintro e w1 ⟨rfl, hb1⟩
      go_wp2_with fail
      refine (rhead_any f w1).mono ?_
      rintro e w2 ⟨rfl, hb2⟩
      go_wp2
      go_ret2
      exact ⟨rfl, hb1.trans (hb2.mono hb1.size)⟩
    · have hpe : putE (pairL f) f add R = 0 := by unfold putE; rw [ho, if_pos rfl, if_neg hlt]
      have HP : Hid (putAns (pairL f) f add R = .returned (.tuple #[.string ⟨(pairL f ++ encL add R).toArray⟩, .int .i64 0])) := by unfold Hid putAns putS; rw [hpe]; rfl
      rw [HP.out]
      clear ho hpe HP
      generalize encL add R = E at *
      have ha := add_lb (pairL f) E (by rw [pairL_len]; omega)
      have hlt2 : (pairL f ++ E).length ≤ 4077 := by rw [List.length_append]; omega
      clear hlt
      generalize pairL f ++ E = X at *
      go_enter Tryd.func18, Tryd.ntmps18
      go_wp2_with fail
      refine Calls.mono K1.out ?_
      rintro e w0 ⟨rfl, hw0⟩
      obtain rfl : w = w0 := hw0.symm
      clear hw0
      go_wp2_with fail
      refine Calls.mono K2.out ?_
      rintro e w1 ⟨rfl, hb1⟩
      go_wp2_with fail
      refine (rhead_any f w1).mono ?_
      rintro e w2 ⟨rfl, hb2⟩
      go_wp2
      go_ret2
      exact ⟨rfl, hb1.trans (hb2.mono hb1.size)⟩
theorem rput_no (f : Int) (nx : List UInt8) (v : Value) (add : Bool) (w : World) (h : okH f nx = false) :
    Calls Tryd.prog 16 #[.int .i64 f, .string ⟨nx.toArray⟩, v, .bool add] w fun e w' => e = .returned (.tuple #[.string ⟨#[]⟩, .int .i64 2]) ∧ Below w.heap.size w w' := by
  have K1 : Hid (_ : Prop) := rafi_any f w
  have K2 : Hid (_ : Prop) := rahead_any f w
  cases hf : isF f with
  | false =>
    rw [hf] at K1
    clear h hf
    go_enter Tryd.func16, Tryd.ntmps16
    go_wp2_with fail
    refine Calls.mono K1.out ?_
    rintro e w0 ⟨rfl, hw0⟩
    obtain rfl : w = w0 := hw0.symm
    clear hw0
    go_wp2_with fail
    refine Calls.mono K2.out ?_
    rintro e w0 ⟨rfl, hw0⟩
    obtain rfl : w = w0 := hw0.symm
    clear hw0
    go_wp2
    go_ret2
    exact ⟨rfl, Below.refl _ _⟩
  | true =>
    have hn : ¬ (nx.length : Int) = rz f := by
      rw [rz_fam hf]
      unfold okH at h
      rw [hf] at h
      simpa using h
    have hn1 : ((nx.length : Int) == rz f) = false := by simpa using hn
    have hn2 : ((nx.length : Int) != rz f) = true := by simpa using hn
    rw [hf] at K1
    clear h hf hn
    generalize rz f = z at *
    go_enter Tryd.func16, Tryd.ntmps16
    go_wp2_with fail
    refine Calls.mono K1.out ?_
    rintro e w0 ⟨rfl, hw0⟩
    obtain rfl : w = w0 := hw0.symm
    clear hw0
    go_wp2_with fail
    refine Calls.mono K2.out ?_
    rintro e w0 ⟨rfl, hw0⟩
    obtain rfl : w = w0 := hw0.symm
    clear hw0
    go_wp2
    go_ret2
    exact ⟨rfl, Below.refl _ _⟩
set_option maxRecDepth 100000 in
set_option maxHeartbeats 1600000 in
theorem rput_ok (f : Int) (nx : List UInt8) (v : Value) (add : Bool) (R : List Nl) (w : World) (h : okH f nx = true) (hv : NlsAt w v R) (hwf : ∀ n ∈ R, NlWf n) (hlen : R.length ≤ 30000) :
    Calls Tryd.prog 16 #[.int .i64 f, .string ⟨nx.toArray⟩, v, .bool add] w fun e w' => e = putAns (headL f nx) f add R ∧ Below w.heap.size w w' := by
  obtain ⟨hf, hn⟩ : isF f = true ∧ (nx.length : Int) = szOf f := by unfold okH at h; simpa using h
  have hz16 := (sz_fam hf).2
  have ha8 := ah_le f
  have hnl : nx.length ≤ 16 := by omega
  have K1 : Hid (_ : Prop) := rafi_any f w
  have K2 : Hid (_ : Prop) := rahead_any f w
  have K3 : Hid (_ : Prop) := rencode_any f add v R w (sz_fam hf).1 hv hwf hlen
  have HE : Hid (R.all (okE f add) = true → (encL add R).length ≤ 960000) := fun h => by
    have := encL_len add R fun n hn => ((okE_iff f add n).1 (List.all_eq_true.mp h n hn)).1
    omega
  rw [rz_fam hf, ← hn] at K2
  rw [hf] at K1
  unfold encAns at K3
  obtain ⟨P1, hP1⟩ : ∃ P1, P1 = pairL f ++ laid ((ahL f).length + nx.length) 1 := ⟨_, rfl⟩
  have hP1l : P1.length = 4 := by rw [hP1, List.length_append, pairL_len, laid_length]
  have a1 := add_lb P1 (ahL f) (by omega)
  obtain ⟨P2, hP2⟩ : ∃ P2, P2 = P1 ++ ahL f := ⟨_, rfl⟩
  have hP2l : P2.length ≤ 12 := by rw [hP2, List.length_append]; omega
  rw [← hP2] at a1
  have a2 := add_lb P2 nx (by omega)
  obtain ⟨P3, hP3⟩ : ∃ P3, P3 = P2 ++ nx := ⟨_, rfl⟩
  have hP3l : P3.length ≤ 28 := by rw [hP3, List.length_append]; omega
  rw [← hP3] at a2
  have a3 := add_lb P3 [0] (by simp; omega)
  have hhd : P3 ++ [0] = headL f nx := by
    rw [hP3, hP2, hP1]
    unfold headL
    simp [List.append_assoc]
  rw [hhd] at a3
  have hhl : (headL f nx).length ≤ 29 := by rw [← hhd, List.length_append]; simp; omega
  have HPP : Hid (P1 = pairL f ++ laid ((ahL f).length + nx.length) 1) := hP1
  have HLL : Hid ((ahL f).length + nx.length < 256 ^ 1) := by unfold Hid; omega
  have HA : Hid (_ ∧ _ ∧ _) := ⟨a1, a2, a3⟩
  clear h hv hwf hlen hP1 hP1l hP2 hP2l hP3 hP3l hhd a1 a2 a3 hn hf hz16
  cases ho : R.all (okE f add) with
  | false =>
    rw [ho] at K3
    have hpe : putE (headL f nx) f add R = 2 := by unfold putE; rw [ho]; rfl
    have HP : Hid (putAns (headL f nx) f add R = .returned (.tuple #[.string ⟨#[]⟩, .int .i64 2])) := by unfold Hid putAns putS; rw [hpe]; rfl
    simp only [Bool.false_eq_true, if_false] at K3
    clear HE ho hpe
    rw [HP.out]
    go_enter Tryd.func16, Tryd.ntmps16
    go_wp2_with fail
    refine Calls.mono K1.out ?_
    rintro e w0 ⟨rfl, hw0⟩
    obtain rfl : w = w0 := hw0.symm
    clear hw0
    go_wp2_with fail
    refine Calls.mono K2.out ?_
    rintro e w0 ⟨rfl, hw0⟩
    obtain rfl : w = w0 := hw0.symm
    clear hw0
    go_wp2_with fail
    refine Calls.mono K3.out ?_
    rintro e w1 ⟨rfl, hb1⟩
    go_wp2
    go_ret2
    exact ⟨rfl, hb1⟩
  | true =>
    rw [ho] at K3
    have hel := HE.out ho
    simp only [if_true] at K3
    clear HE
    obtain ⟨X, hX⟩ : ∃ X, X = headL f nx ++ encL add R := ⟨_, rfl⟩
    have a4 := add_lb (headL f nx) (encL add R) (by omega)
    rw [← hX] at a4
    have hXl : X.length = (headL f nx).length + (encL add R).length := by rw [hX, List.length_append]
    have HA4 : Hid (∀ W : World, _) := a4
    by_cases hlt : 4077 < X.length
    · have hpe : putE (headL f nx) f add R = 3 := by unfold putE; rw [ho, if_pos rfl, if_pos (by omega)]
      have HP : Hid (putAns (headL f nx) f add R = .returned (.tuple #[.string ⟨#[]⟩, .int .i64 3])) := by unfold Hid putAns putS; rw [hpe]; rfl
      rw [HP.out]
      clear ho hpe HP hXl hX a4 hel
      generalize encL add R = E at *
      go_enter Tryd.func16, Tryd.ntmps16
      go_wp2_with fail
      refine Calls.mono K1.out ?_
      rintro e w0 ⟨rfl, hw0⟩
      obtain rfl : w = w0 := hw0.symm
      clear hw0
      go_wp2_with fail
      refine Calls.mono K2.out ?_
      rintro e w0 ⟨rfl, hw0⟩
      obtain rfl : w = w0 := hw0.symm
      clear hw0
      go_wp2_with fail
      refine Calls.mono K3.out ?_
      rintro e w1 ⟨rfl, hb1⟩
      have HB1 : Hid (Below w.heap.size w w1) := hb1
      clear hb1
      go_wp2_with fail
      refine (rhead_any f w1).mono ?_
      rintro e w2 ⟨rfl, hb2⟩
      have HB2 : Hid (Below w.heap.size w w2) := HB1.out.trans (hb2.mono HB1.out.size)
      clear hb2 HB1
      go_wp2_with fail
      refine (rput_yes ⟨(pairL f).toArray⟩ ((ahL f).length + nx.length) 1 _ (by omega) (by omega) HLL.out (by rw [list_size, pairL_len]; decide)).mono ?_
      rintro e w3 ⟨rfl, hb3⟩
      have HB3 : Hid (Below w.heap.size w w3) := HB2.out.trans (hb3.mono HB2.out.size)
      rw [app_l, ← HPP.out]
      have a1 := HA.out.1
      have a2 := HA.out.2.1
      have a3 := HA.out.2.2
      have a4 := HA4.out
      clear hb3 HB2
      go_wp2
      go_ret2
      exact ⟨rfl, HB3.out⟩
    · have hpe : putE (headL f nx) f add R = 0 := by unfold putE; rw [ho, if_pos rfl, if_neg (by omega)]
      have HP : Hid (putAns (headL f nx) f add R = .returned (.tuple #[.string ⟨X.toArray⟩, .int .i64 0])) := by unfold Hid putAns putS; rw [hpe, hX]; rfl
      rw [HP.out]
      clear ho hpe HP hXl hX a4 hel
      generalize encL add R = E at *
      go_enter Tryd.func16, Tryd.ntmps16
      go_wp2_with fail
      refine Calls.mono K1.out ?_
      rintro e w0 ⟨rfl, hw0⟩
      obtain rfl : w = w0 := hw0.symm
      clear hw0
      go_wp2_with fail
      refine Calls.mono K2.out ?_
      rintro e w0 ⟨rfl, hw0⟩
      obtain rfl : w = w0 := hw0.symm
      clear hw0
      go_wp2_with fail
      refine Calls.mono K3.out ?_
      rintro e w1 ⟨rfl, hb1⟩
      have HB1 : Hid (Below w.heap.size w w1) := hb1
      clear hb1
      go_wp2_with fail
      refine (rhead_any f w1).mono ?_
      rintro e w2 ⟨rfl, hb2⟩
      have HB2 : Hid (Below w.heap.size w w2) := HB1.out.trans (hb2.mono HB1.out.size)
      clear hb2 HB1
      go_wp2_with fail
      refine (rput_yes ⟨(pairL f).toArray⟩ ((ahL f).length + nx.length) 1 _ (by omega) (by omega) HLL.out (by rw [list_size, pairL_len]; decide)).mono ?_
      rintro e w3 ⟨rfl, hb3⟩
      have HB3 : Hid (Below w.heap.size w w3) := HB2.out.trans (hb3.mono HB2.out.size)
      rw [app_l, ← HPP.out]
      have a1 := HA.out.1
      have a2 := HA.out.2.1
      have a3 := HA.out.2.2
      have a4 := HA4.out
      clear hb3 HB2
      go_wp2
      go_ret2
      exact ⟨rfl, HB3.out⟩
theorem rputAll (f : Int) (nx : List UInt8) (v : Value) (add : Bool) (R : List Nl) (w : World) (hv : NlsAt w v R) (hwf : ∀ n ∈ R, NlWf n) (hlen : R.length ≤ 30000) :
    Calls Tryd.prog 16 #[.int .i64 f, .string ⟨nx.toArray⟩, v, .bool add] w fun e w' => e = .returned (.tuple #[.string ⟨(pS f nx add R).toArray⟩, .int .i64 (pE f nx add R)]) ∧ Below w.heap.size w w' := by
  unfold pS pE
  cases h : okH f nx with
  | true => exact rput_ok f nx v add R w h hv hwf hlen
  | false => exact rput_no f nx v add w h
theorem rgoneAll (f : Int) (v : Value) (add : Bool) (R : List Nl) (w : World) (hv : NlsAt w v R) (hwf : ∀ n ∈ R, NlWf n) (hlen : R.length ≤ 30000) :
    Calls Tryd.prog 18 #[.int .i64 f, v, .bool add] w fun e w' => e = .returned (.tuple #[.string ⟨(gS f add R).toArray⟩, .int .i64 (gE f add R)]) ∧ Below w.heap.size w w' := by
  unfold gS gE
  cases h : isF f with
  | true => exact rgone_yes f v add R w h hv hwf hlen
  | false => exact rgone_no f v add w h
end Go.Proofs.YtjliopclpjeieaaDoor
