/-
  Decode of any bytes; what it takes may be; Check; the example there and back.
-/
import Derived.Test.YtlhnfejgkhilkaaGreatDoorMc
import Derived.Test.YtlhnfejgkhilkaaGreatDoorP4
set_option linter.unusedVariables false
set_option linter.unusedSimpArgs false
namespace Go.Proofs.YtlhnfejgkhilkaaGreatDoor
open Go.RowKit
theorem headI_ok {l : List UInt8} {o : Opn} (h : headI l = .ok o) : 10 ≤ l.length ∧ o = { zO with asn := (hd2 l : Int), hold := (hd3 l : Int), id := (hd4 l : Int) } ∧ hd2 l ≠ 0 ∧ holdB (hd3 l : Int) = true ∧ hd4 l ≠ 0 := by
  unfold headI at h
  split at h
  · cases h
  split at h
  · cases h
  split at h
  · cases h
  split at h
  · cases h
  split at h
  · cases h
  split at h
  · cases h
  rename_i h1 h2 h3 h4 h5 h6
  injection h with h
  exact ⟨by omega, h.symm, h3, by simpa using h4, h5⟩
theorem decode_any (l : List UInt8) (w : World) (hg : FamSizes w) : Calls Tryz.prog 27 #[.string ⟨l.toArray⟩] w fun e w' => DecOk w.heap.size (decI l) e w' ∧ Below w.heap.size w w' := by
  cases hh : headI l with
  | error n =>
    have hd : decI l = .error n := by unfold decI; rw [hh]
    rw [hd]
    exact decode_head l n w hh
  | ok o =>
    obtain ⟨hl, ho, _⟩ := headI_ok hh
    rw [ho] at hh
    cases hr : runL (stepO stepC) (l.drop 10) { zO with asn := (hd2 l : Int), hold := (hd3 l : Int), id := (hd4 l : Int) } with
    | error n =>
      have hd : decI l = .error n := by unfold decI; rw [hh]; simp only; rw [hr]
      rw [hd]
      exact decode_caps l (hd2 l) (hd3 l) (hd4 l) w hg hl hh n hr
    | ok o' =>
      have hd : decI l = .ok (if o'.fams.length = 0 then { o' with fams := [1] } else o') := by unfold decI; rw [hh]; simp only; rw [hr]
      rw [hd]
      exact decode_fine l (hd2 l) (hd3 l) (hd4 l) w hg hl hh o' hr
/-- What holds of an open while it is read. -/
structure Half (o : Opn) : Prop where
  a : 0 < o.asn
  a2 : o.asn < 4294967296
  s : o.four = true ∨ o.asn ≤ 65535
  h : holdB o.hold = true
  i : 0 < o.id
  i2 : o.id < 4294967296
  z : ∀ x ∈ o.adds, idleB x = false
  g : o.gr = false → o.again = false ∧ o.time = 0 ∧ o.kept = []
  t : 0 ≤ o.time ∧ o.time ≤ 4095
theorem mem_plA {α : Type} {key : α → Int} {L : List α} {e x : α} (h : x ∈ plA key L e) : x = e ∨ x ∈ L := by
  unfold plA at h
  rcases List.mem_append.1 h with h | h
  · exact Or.inr (List.mem_filter.1 h).1
  · rcases List.mem_cons.1 h with h | h
    · exact Or.inl h
    · exact Or.inr (List.mem_filter.1 h).1
theorem entsF_inv (st : Opn → Int → Nat → Opn) (Q : Opn → Prop) (h : ∀ o f n, Q o → Q (st o f n)) (k : Nat) : ∀ (l : List UInt8) (o : Opn), Q o → Q (entsF st k l o) := by
  induction k with
  | zero => intro l o ho; exact ho
  | succ k ih =>
    intro l o ho
    simp only [entsF]
    split
    · exact ho
    · apply ih
      split
      · exact ho
      · exact h _ _ _ ho
theorem runP_inv (step : Opn → Nat → List UInt8 → Except Nat Opn) (Q : Opn → Prop) (h : ∀ o c v o', v.length < 256 → Q o → step o c v = .ok o' → Q o') (k : Nat) : ∀ (l : List UInt8) (o o' : Opn), Q o → runP step k l o = .ok o' → Q o' := by
  induction k with
  | zero =>
    intro l o o' ho hr
    simp only [runP] at hr
    injection hr with hr
    rw [← hr]; exact ho
  | succ k ih =>
    intro l o o' ho hr
    match l with
    | [] =>
      simp only [runP] at hr
      injection hr with hr
      rw [← hr]; exact ho
    | [c] => simp only [runP] at hr; cases hr
    | c :: n :: r =>
      simp only [runP] at hr
      split at hr
      · cases hr
      · cases hs : step o c.toNat (r.take n.toNat) with
        | error e => rw [hs] at hr; cases hr
        | ok o1 =>
          rw [hs] at hr
          exact ih _ _ _ (h o c.toNat _ o1 (by have := n.toNat_lt; simp; omega) ho hs) hr
theorem half_K {o : Opn} {f : Int} {n : Nat} (h : Half o ∧ o.gr = true) : Half (stK o f n) ∧ (stK o f n).gr = true :=
  ⟨⟨h.1.a, h.1.a2, h.1.s, h.1.h, h.1.i, h.1.i2, h.1.z, fun e => absurd (h.2.symm.trans e) (by decide), h.1.t⟩, h.2⟩
theorem half_A {o : Opn} {f : Int} {n : Nat} (h : Half o) : Half (stA o f n) := by
  unfold stA
  split
  · rename_i hn
    refine ⟨h.a, h.a2, h.s, h.h, h.i, h.i2, fun x hx => ?_, h.g, h.t⟩
    rcases mem_plA hx with rfl | hx
    · have hc : n = 1 ∨ n = 2 ∨ n = 3 := by omega
      rcases hc with rfl | rfl | rfl <;> rfl
    · exact h.z x hx
  · exact h
theorem worth_v4 {v : List UInt8} (h : v.length = 4) : worth v < 4294967296 := by have := worth_lt v; rw [h] at this; exact this
theorem half_C {o : Opn} {c : Nat} {v : List UInt8} {o' : Opn} (h : Half o) (hs : stepC o c v = .ok o') : Half o' := by
  unfold stepC at hs
  split at hs
  · cases hs
  rename_i hfit
  split at hs
  · injection hs with hs
    rw [← hs]
    exact ⟨h.a, h.a2, h.s, h.h, h.i, h.i2, h.z, h.g, h.t⟩
  split at hs
  · injection hs with hs
    rw [← hs]
    exact ⟨h.a, h.a2, h.s, h.h, h.i, h.i2, h.z, h.g, h.t⟩
  split at hs
  · injection hs with hs
    rw [← hs]
    refine (entsF_inv stK (fun o => Half o ∧ o.gr = true) (fun o f n ho => half_K ho) _ (v.drop 2) (grO o (worth (v.take 2))) ⟨⟨h.a, h.a2, h.s, h.h, h.i, h.i2, h.z, (fun e => by have e' : true = false := e; cases e'), ?_⟩, rfl⟩).1
    simp only [grO]
    omega
  split at hs
  · rename_i h1 h2 h64 h65
    split at hs
    · cases hs
    · rename_i hw
      injection hs with hs
      rw [← hs]
      have hv : v.length = 4 := by simp [fitB, h65] at hfit; exact hfit
      have := worth_v4 hv
      exact ⟨by simp only; omega, by simp only; omega, Or.inl rfl, h.h, h.i, h.i2, h.z, h.g, h.t⟩
  split at hs
  · injection hs with hs
    rw [← hs]
    exact entsF_inv stA Half (fun o f n ho => half_A ho) _ _ _ ⟨h.a, h.a2, h.s, h.h, h.i, h.i2, (fun x hx => by cases hx), h.g, h.t⟩
  · injection hs with hs
    rw [← hs]; exact h
/-- What Decode takes may be. -/
theorem decI_may {l : List UInt8} {o : Opn} (h : decI l = .ok o) (hk : OpOk o) : mayB o = true ∧ OpnWf o := by
  unfold decI at h
  cases hh : headI l with
  | error n => rw [hh] at h; cases h
  | ok o0 =>
    rw [hh] at h
    simp only at h
    obtain ⟨hl, ho, h2, h3, h4⟩ := headI_ok hh
    cases hr : runL (stepO stepC) (l.drop 10) o0 with
    | error n => rw [hr] at h; cases h
    | ok o1 =>
      rw [hr] at h
      simp only at h
      injection h with h
      have b2 : hd2 l < 65536 := worth_bd l 1 2 (by omega)
      have b4 : hd4 l < 4294967296 := worth_bd l 5 4 (by omega)
      have hf0 : Half o0 := by
        rw [ho]
        exact ⟨by simp only; omega, by simp only; omega, Or.inr (by simp only; omega), h3, by simp only; omega, by simp only; omega, (fun x hx => by cases hx), fun _ => ⟨rfl, rfl, rfl⟩, by simp only [zO]; omega⟩
      have hf1 : Half o1 := runP_inv (stepO stepC) Half (fun o k v o' _ hq hs => by
        unfold stepO at hs
        split at hs
        · exact runP_inv stepC Half (fun o c v o' _ hq hs => half_C hq hs) _ _ _ _ hq hs
        · cases hs) _ _ _ _ hf0 hr
      have hm : Half o ∧ 0 < o.fams.length := by
        rw [← h]
        split
        · exact ⟨⟨hf1.a, hf1.a2, hf1.s, hf1.h, hf1.i, hf1.i2, hf1.z, hf1.g, hf1.t⟩, by simp⟩
        · exact ⟨hf1, by omega⟩
      obtain ⟨hm, hn⟩ := hm
      refine ⟨MayF.mk' ⟨hm.a, hm.s, hm.h, hm.i, hn, hk.f, hk.a, ?_, ?_⟩, ⟨by have := hm.a; omega, hm.a2, by have := hm.i; omega, hm.i2⟩⟩
      · rw [List.any_eq_false]
        intro x hx
        rw [hm.z x hx]
        decide
      · unfold restB
        cases hgr : o.gr with
        | true =>
          simp only [if_true, Bool.and_eq_true, decide_eq_true_eq]
          exact ⟨hm.t, hk.k⟩
        | false =>
          obtain ⟨e1, e2, e3⟩ := hm.g hgr
          rw [e1, e2, e3]
          rfl
def oneO : Opn := ⟨1, 90, 167772161, [1], false, false, [], false, false, 0, []⟩
def smallL : List UInt8 := [4, 0, 1, 0, 90, 10, 0, 0, 1, 8, 2, 6, 1, 4, 0, 1, 0, 1]
theorem enc_one : encL oneO = smallL := by decide +kernel
theorem may_one : mayB oneO = true := by decide +kernel
theorem dec_one : decI smallL = .ok oneO := by kernel_rfl
theorem one_any (w : World) : Calls Tryz.prog 26 #[] w fun e w' => (∃ vf, e = .returned (opV oneO vf nilS nilS) ∧ ListsAt w' oneO vf nilS nilS) ∧ Below w.heap.size w w' := by
  go_enter Tryz.func26, Tryz.ntmps26
  go_wp2
  refine bodyPost_ret (v := opV oneO (.slice (some ⟨w.heap.size + 1, 0, none⟩) 1 1) nilS nilS) (by simp [results, Tryz.results26, go_sem, opV, opC, oneO]) rfl ⟨⟨_, rfl, ?_⟩, ?_⟩
  · refine ⟨⟨_, w.heap.size + 1, 0, 1, rfl, Or.inl rfl, Nat.le_refl _, fun j hj => ?_⟩, ⟨none, 0, 0, 0, rfl, Or.inr rfl, Nat.le_refl _, fun j hj => by cases hj⟩, ⟨none, 0, 0, 0, rfl, Or.inr rfl, Nat.le_refl _, fun j hj => by cases hj⟩⟩
    have hj0 : j = 0 := by simp [oneO] at hj; exact hj
    subst hj0
    simp [oneO]
  · exact ((Below.refl _ _).alloc (Nat.le_refl _) _).alloc (by simp) _
end Go.Proofs.YtlhnfejgkhilkaaGreatDoor

set_option linter.unusedVariables false
set_option linter.unusedSimpArgs false
namespace Go.Proofs.YtlhnfejgkhilkaaGreatDoor
open Go.RowKit
theorem lists_of_owns {w : World} {base : Nat} {o : Opn} {vf va vk : Value} (h1 : w.ownsRow base 3 1 vf o.fams.length (intsC o.fams)) (h2 : w.ownsRow base 52 3 va o.adds.length (addsC o.adds)) (h3 : w.ownsRow base 40 2 vk o.kept.length (keptC o.kept)) : ListsAt w o vf va vk := ⟨ints_of_owns h1, adds_of_owns h2, kept_of_owns h3⟩
set_option maxRecDepth 100000 in
set_option maxHeartbeats 3200000 in
theorem works_any (w : World) (hg : FamSizes w) : Calls Tryz.prog 11 #[] w fun e w' => e = .returned (.bool true) ∧ Below w.heap.size w w' := by
  have HG : Hid (FamSizes w) := hg
  have KE : Hid (∀ X vf, FamSizes X → ListsAt X oneO vf nilS nilS → Calls Tryz.prog 25 #[opV oneO vf nilS nilS] X fun e w' => e = .returned (.tuple #[.string ⟨#[4, 0, 1, 0, 90, 10, 0, 0, 1, 8, 2, 6, 1, 4, 0, 1, 0, 1]⟩, .int .i64 0]) ∧ Below X.heap.size X w') := fun X vf hX hL => by
    have := encode_yes oneO vf nilS nilS X hX hL ⟨by decide, by decide, by decide, by decide⟩ may_one
    rw [enc_one] at this
    exact this
  have KD : Hid (∀ X, FamSizes X → Calls Tryz.prog 27 #[.string ⟨#[4, 0, 1, 0, 90, 10, 0, 0, 1, 8, 2, 6, 1, 4, 0, 1, 0, 1]⟩] X fun e w' => DecOk X.heap.size (.ok oneO) e w' ∧ Below X.heap.size X w') := fun X hX => by
    have := decode_any smallL X hX
    rw [dec_one] at this
    exact this
  clear hg
  go_enter Tryz.func11, Tryz.ntmps11
  go_wp2_with fail
  refine Calls.mono (one_any w) ?_
  rintro e w1 ⟨⟨vf, rfl, hl1⟩, hb1⟩
  have HB1 : Hid (Below w.heap.size w w1) := hb1
  have K1 : Hid (_ : Prop) := KE.out w1 vf (HG.out.below hb1) hl1
  clear hb1 hl1 KE
  go_wp2_with fail
  refine Calls.mono K1.out ?_
  rintro e w2 ⟨rfl, hb2⟩
  have HB2 : Hid (Below w.heap.size w w2) := HB1.out.trans (hb2.mono HB1.out.size)
  have K2 : Hid (_ : Prop) := KD.out w2 (HG.out.below HB2.out)
  clear hb2 HB1 K1 KD
  go_wp2_with fail
  refine Calls.mono K2.out ?_
  rintro e w3 ⟨⟨vf3, va3, vk3, rfl, h1, h2, h3, h4⟩, hb3⟩
  have HB3 : Hid (Below w.heap.size w w3) := HB2.out.trans (hb3.mono HB2.out.size)
  obtain ⟨ad, b, off, cap, rfl, had, hcap, hrow⟩ := ints_of_owns h1
  obtain rfl : ad = some ⟨b, off, none⟩ := by
    rcases had with h | h
    · exact h
    · simp [oneO] at h
  have hr0 : w3.cell? ⟨b, off, none⟩ = some (.int .i64 1) := hrow 0 (by simp [oneO])
  have hbl := lt_of_cell hr0
  have hcap1 : 1 ≤ cap := hcap
  obtain ⟨a2, k2, rfl⟩ := slice_of_owns h2
  obtain ⟨a3, k3, rfl⟩ := slice_of_owns h3
  clear h1 h2 h3 h4 hb3 hrow had K2 HB2
  unfold opV opC vdt oneO
  dsimp only
  go_wp2
  go_ret
  exact ⟨rfl, (HB3.out.alloc HB3.out.size _).alloc (by have := HB3.out.size; simp; omega) _⟩
end Go.Proofs.YtlhnfejgkhilkaaGreatDoor
