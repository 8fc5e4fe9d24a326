/-
  Decode of Encode is the open, plainly.
-/
import Derived.Test.YtfhapjhkjdifjaaGreatDoorQ1
set_option linter.unusedVariables false
set_option linter.unusedSimpArgs false
namespace Go.Proofs.YtfhapjhkjdifjaaGreatDoor
open Go.RowKit
theorem tmN_facts (t : Nat) (a : Bool) (h : t ≤ 4095) : decide (32768 ≤ tmN t a) = a ∧ tmN t a % 4096 = t := by
  unfold tmN
  cases a
  · simp; omega
  · simp; omega
theorem caps_back (o : Opn) (hm : MayF o) (hw : OpnWf o) (x : Int) (hx : o.four = false → x = o.asn) :
    runL stepC (capsL o) { zO with asn := x, hold := o.hold, id := o.id } = .ok o := by
  have hkt := hm.kt
  obtain ⟨t, ht⟩ : ∃ t : Nat, o.time = (t : Int) := ⟨o.time.toNat, by omega⟩
  obtain ⟨a, ha⟩ : ∃ a : Nat, o.asn = (a : Int) := ⟨o.asn.toNat, by have := hw.a0; omega⟩
  have ha0 : 0 < a := by have := hm.a; omega
  have ha2 : a < 4294967296 := by have := hw.a1; omega
  have ht2 : t ≤ 4095 := by omega
  have hz : ∀ y ∈ o.adds, idleB y = false := fun y hy => by
    have := List.any_eq_false.1 hm.z y hy
    simpa using this
  have hgr := hm.r
  obtain ⟨asn, hold, id, fams, four, refr, adds, gr, again, time, kept⟩ := o
  simp only at ht ha hx hz hkt hgr ⊢
  subst ht ha
  have hf := hm.f
  have hd := hm.d
  simp only at hf hd
  unfold capsL
  simp only [List.append_assoc]
  have s1 := run_fams fams [] (c2L ⟨(a : Int), hold, id, fams, four, refr, adds, gr, again, (t : Int), kept⟩ ++ (c64L ⟨(a : Int), hold, id, fams, four, refr, adds, gr, again, (t : Int), kept⟩ ++ (c65L ⟨(a : Int), hold, id, fams, four, refr, adds, gr, again, (t : Int), kept⟩ ++ c69L ⟨(a : Int), hold, id, fams, four, refr, adds, gr, again, (t : Int), kept⟩))) { zO with asn := x, hold := hold, id := id } (by simpa using hf)
  rw [List.nil_append] at s1
  refine s1.trans ?_
  have s2 : ∀ rest, runL stepC (c2L ⟨(a : Int), hold, id, fams, four, refr, adds, gr, again, (t : Int), kept⟩ ++ rest) { zO with asn := x, hold := hold, id := id, fams := fams } = runL stepC rest { zO with asn := x, hold := hold, id := id, fams := fams, refr := refr } := fun rest => by
    unfold c2L
    cases refr with
    | true =>
      rw [if_pos rfl]
      exact runL_pc stepC 2 [] rest _ _ (by omega) (by simp) (by unfold stepC; rw [if_neg (by decide), if_neg (by decide), if_pos rfl])
    | false => rw [if_neg (fun h : false = true => by cases h)]; rfl
  refine (s2 _).trans ?_
  have s3 : ∀ rest, runL stepC (c64L ⟨(a : Int), hold, id, fams, four, refr, adds, gr, again, (t : Int), kept⟩ ++ rest) { zO with asn := x, hold := hold, id := id, fams := fams, refr := refr } = runL stepC rest { zO with asn := x, hold := hold, id := id, fams := fams, refr := refr, gr := gr, again := again, time := (t : Int), kept := kept } := fun rest => by
    unfold c64L
    unfold restB at hgr
    cases gr with
    | true =>
      rw [if_pos rfl]
      simp only [if_true, Bool.and_eq_true, decide_eq_true_eq] at hgr
      have hlen : (restL t again kept).length = 2 + 4 * kept.length := restL_length t again kept
      refine runL_pc stepC 64 _ rest _ _ (by omega) (by rw [show (((t : Nat) : Int)).toNat = t from rfl, hlen]; omega) ?_
      rw [show (((t : Nat) : Int)).toNat = t from rfl]
      unfold stepC
      rw [if_neg (by rw [hlen]; simp [fitB]), if_neg (by decide), if_neg (by decide), if_pos rfl]
      have e1 : (restL t again kept).take 2 = laid (tmN t again) 2 := List.take_left' (laid_length _ _)
      have e2 : (restL t again kept).drop 2 = kpL kept := List.drop_left' (laid_length _ _)
      have e3 : worth (laid (tmN t again) 2) = tmN t again := by
        rw [worth_laid]
        exact Nat.mod_eq_of_lt (tmN_bd t again ht2)
      rw [e1, e2, e3]
      obtain ⟨f1, f2⟩ := tmN_facts t again ht2
      have e4 := ents_kept kept [] (grO { zO with asn := x, hold := hold, id := id, fams := fams, refr := refr } (tmN t again)) (by simpa using hgr.2)
      rw [List.nil_append] at e4
      unfold grO at e4 ⊢
      rw [f1, f2] at e4
      rw [f1, f2]
      exact congrArg Except.ok e4
    | false =>
      rw [if_neg (fun h : false = true => by cases h)]
      have hgr' : (!again && ((t : Int) == 0) && (kept.length == 0)) = true := hgr
      simp only [Bool.and_eq_true, beq_iff_eq] at hgr'
      obtain ⟨⟨g1, g2⟩, g3⟩ := hgr'
      have g1' : again = false := by simpa using g1
      have g3' : kept = [] := List.eq_nil_of_length_eq_zero (by simpa using g3)
      rw [g1', g3', g2]
      rfl
  refine (s3 _).trans ?_
  have s4 : ∀ rest, runL stepC (c65L ⟨(a : Int), hold, id, fams, four, refr, adds, gr, again, (t : Int), kept⟩ ++ rest) { zO with asn := x, hold := hold, id := id, fams := fams, refr := refr, gr := gr, again := again, time := (t : Int), kept := kept } = runL stepC rest { zO with asn := (a : Int), hold := hold, id := id, fams := fams, refr := refr, gr := gr, again := again, time := (t : Int), kept := kept, four := four } := fun rest => by
    unfold c65L
    cases four with
    | true =>
      rw [if_pos rfl]
      have e3 : worth (laid a 4) = a := by
        rw [worth_laid]
        exact Nat.mod_eq_of_lt (by omega)
      refine runL_pc stepC 65 _ rest _ _ (by omega) (by rw [laid_length]; omega) ?_
      rw [show (((a : Nat) : Int)).toNat = a from rfl]
      unfold stepC
      rw [if_neg (by rw [laid_length]; decide), if_neg (by decide), if_neg (by decide), if_neg (by decide), if_pos rfl, e3, if_neg (by omega)]
    | false =>
      rw [if_neg (fun h : false = true => by cases h), hx rfl]
      rfl
  refine (s4 _).trans ?_
  unfold c69L
  simp only
  by_cases hal : 0 < adds.length
  · rw [if_pos hal]
    have hlen : (adL adds).length = 4 * adds.length := adL_length adds
    have hal5 : adds.length ≤ 5 := hm.al
    have e4 := ents_adds adds [] { zO with asn := (a : Int), hold := hold, id := id, fams := fams, refr := refr, gr := gr, again := again, time := (t : Int), kept := kept, four := four } (by simpa using hd) hz
    rw [List.nil_append] at e4
    have s5 := runL_pc stepC 69 (adL adds) [] { zO with asn := (a : Int), hold := hold, id := id, fams := fams, refr := refr, gr := gr, again := again, time := (t : Int), kept := kept, four := four } { zO with asn := (a : Int), hold := hold, id := id, fams := fams, refr := refr, gr := gr, again := again, time := (t : Int), kept := kept, four := four, adds := adds } (by omega) (by omega) (by
      unfold stepC
      rw [if_neg (by rw [hlen]; simp [fitB]), if_neg (by decide), if_neg (by decide), if_neg (by decide), if_neg (by decide), if_pos rfl]
      exact congrArg Except.ok e4)
    rw [List.append_nil] at s5
    exact s5
  · have h0 : adds = [] := List.eq_nil_of_length_eq_zero (by omega)
    subst h0
    rw [if_neg hal]
    rfl
theorem hd_at (A B C : List UInt8) (n m : Nat) (hA : A.length = n) (hB : B.length = m) : ((A ++ (B ++ C)).drop n).take m = B := by
  rw [List.drop_left' hA, List.take_left' hB]
/-- Decode of Encode is the open. -/
theorem dec_back (o : Opn) (hm : MayF o) (hw : OpnWf o) : decI (encL o) = .ok o := by
  have hkt := hm.kt
  have hhd := hm.hd
  have hcl := capsL_length o hm.fl hm.al hkt.1
  obtain ⟨a, ha⟩ : ∃ a : Nat, o.asn = (a : Int) := ⟨o.asn.toNat, by have := hw.a0; omega⟩
  obtain ⟨i, hi⟩ : ∃ i : Nat, o.id = (i : Int) := ⟨o.id.toNat, by have := hw.i0; omega⟩
  obtain ⟨d, hd⟩ : ∃ d : Nat, o.hold = (d : Int) := ⟨o.hold.toNat, by omega⟩
  have ha0 : 0 < a := by have := hm.a; omega
  have ha2 : a < 4294967296 := by have := hw.a1; omega
  have hi0 : 0 < i := by have := hm.i; omega
  have hi2 : i < 4294967296 := by have := hw.i1; omega
  have hdd : d < 65536 := by omega
  have hsh : shN a < 65536 ∧ shN a ≠ 0 := by unfold shN; split <;> omega
  have he : encL o = laid 4 1 ++ (laid (shN a) 2 ++ (laid d 2 ++ (laid i 4 ++ (laid ((capsL o).length + 2) 1 ++ pcL 2 (capsL o))))) := by
    unfold encL
    rw [ha, hi, hd]
    simp [List.append_assoc]
  have l1 : ∀ v n, (laid v n).length = n := laid_length
  have w2 : ∀ v n, v < 256 ^ n → worth (laid v n) = v := fun v n h => by rw [worth_laid]; exact Nat.mod_eq_of_lt h
  have h1 : hd1 (encL o) = 4 := by unfold hd1; rw [he, List.take_left' (l1 _ _)]; exact w2 4 1 (by omega)
  have h2 : hd2 (encL o) = shN a := by unfold hd2; rw [he, hd_at _ _ _ 1 2 (l1 _ _) (l1 _ _)]; exact w2 _ 2 (by omega)
  have h3 : hd3 (encL o) = d := by
    unfold hd3
    rw [he, show 3 = 1 + 2 from rfl, ← List.drop_drop, List.drop_left' (l1 4 1), hd_at _ _ _ 2 2 (l1 _ _) (l1 _ _)]
    exact w2 _ 2 (by omega)
  have h4 : hd4 (encL o) = i := by
    unfold hd4
    rw [he, show 5 = 1 + (2 + 2) from rfl, ← List.drop_drop, List.drop_left' (l1 4 1), ← List.drop_drop, List.drop_left' (l1 _ 2), hd_at _ _ _ 2 4 (l1 _ _) (l1 _ _)]
    exact w2 _ 4 (by omega)
  have h5 : hd5 (encL o) = (capsL o).length + 2 := by
    unfold hd5
    rw [he, show 9 = 1 + (2 + (2 + 4)) from rfl, ← List.drop_drop, List.drop_left' (l1 4 1), ← List.drop_drop, List.drop_left' (l1 _ 2), ← List.drop_drop, List.drop_left' (l1 _ 2), hd_at _ _ _ 4 1 (l1 _ _) (l1 _ _)]
    exact w2 _ 1 (by omega)
  have hl : (encL o).length = 10 + ((capsL o).length + 2) := by
    rw [he]
    simp only [List.length_append, laid_length, pcL_length]
    omega
  have h10 : (encL o).drop 10 = pcL 2 (capsL o) := by
    rw [he, show 10 = 1 + (2 + (2 + (4 + 1))) from rfl, ← List.drop_drop, List.drop_left' (l1 4 1), ← List.drop_drop, List.drop_left' (l1 _ 2), ← List.drop_drop, List.drop_left' (l1 _ 2), ← List.drop_drop, List.drop_left' (l1 _ 4), List.drop_left' (l1 _ 1)]
  have hh : headI (encL o) = .ok { zO with asn := (shN a : Int), hold := o.hold, id := o.id } := by
    unfold headI
    rw [if_neg (by omega), h1, if_neg (by omega), h2, if_neg hsh.2, h3, if_neg (by rw [← hd, hm.h]; decide), h4, if_neg (by omega), h5, if_neg (by omega), hd, hi]
  have hc := caps_back o hm hw (shN a : Int) (fun hf => by
    rcases hm.s with h | h
    · rw [hf] at h; cases h
    · unfold shN
      rw [if_pos (by omega)]
      exact ha.symm)
  have hr : runL (stepO stepC) (pcL 2 (capsL o)) { zO with asn := (shN a : Int), hold := o.hold, id := o.id } = .ok o := by
    have := runL_pc (stepO stepC) 2 (capsL o) [] { zO with asn := (shN a : Int), hold := o.hold, id := o.id } o (by omega) (by omega) (by unfold stepO; rw [if_pos rfl]; exact hc)
    rw [List.append_nil] at this
    exact this
  unfold decI
  rw [hh]
  simp only
  rw [h10, hr]
  simp only
  rw [if_neg (by have := hm.n; omega)]
end Go.Proofs.YtfhapjhkjdifjaaGreatDoor
