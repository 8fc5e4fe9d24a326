/-
  The reference's Withdrawn; NlriLays answers true.
-/
import Derived.Test.YtfhbgpepkplbaaaGreatDoorS6
import Derived.Test.YtfhbgpepkplbaaaGreatDoorSB
import Derived.Test.YtfhbgpepkplbaaaGreatDoorF1
import Derived.Test.YtfhbgpepkplbaaaGreatDoorH6
set_option linter.unusedSimpArgs false
set_option maxRecDepth 100000
namespace Go.Proofs.YtfhbgpepkplbaaaGreatDoor
open Go.RowKit Go.Sort
theorem ownN_nls {w : World} {base : Nat} {v : Value} {l : List Nl} (h : OwnN w base v l) : NlsAt w v l := by
  rcases ownN_form h with ⟨e, e2⟩ | ⟨g, cap, e, hc⟩
  · subst e e2
    exact ⟨none, 0, 0, 0, rfl, Or.inr rfl, Nat.le_refl _, fun j hj => by simp at hj⟩
  · subst e
    exact (MemL.own h).nls hc
theorem gone_size {R : List Nl} (h : ∀ m ∈ R, m.s.size ≤ maxLen) (k : Nat) : ∀ m ∈ goneL (R.take k), m.s.size ≤ maxLen := by
  intro m hm
  obtain ⟨x, hx, rfl⟩ := List.mem_map.1 ((mem_goneL _ m).1 hm)
  exact h x (List.mem_of_mem_take hx)
set_option maxHeartbeats 4000000 in
theorem rwithdrawn_any (v : Value) (R : List Nl) (w : World) (h : NlsAt w v R) (hz : ∀ m ∈ R, m.s.size ≤ maxLen) (hl : R.length ≤ 1000) :
    Calls Tryz.prog 19 #[v] w fun e w' => ∃ u, e = .returned u ∧ NlsAt w' u (goneL R) ∧ Below w.heap.size w w' := by
  obtain ⟨ad, b, off, cap, rfl, had, _, hrow⟩ := h
  have HR : Hid (RowN w b off R) := hrow
  have HAD : Hid (ad = some ⟨b, off, none⟩ ∨ R.length = 0) := had
  have HL : Hid (R.length ≤ 1000) := hl
  have hlI : (R.length : Int) ≤ 1000 := by omega
  have HPU : Hid (∀ (k : Nat) (hk : k < R.length) (W : World) (u : Value), OwnN W 0 u (goneL (R.take k)) → Calls Tryz.prog 41 #[u, .agg #[.int .i64 R[k].f, .int .u64 R[k].r, .string R[k].s, .int .i64 R[k].l, .int .u32 R[k].id, .int .u32 0]] W fun e w' => ∃ u', e = .returned u' ∧ OwnN w' 0 u' (goneL (R.take (k + 1))) ∧ Below W.heap.size W w') := fun k hk W u ho => by
    have := rput_any ho (goneL_ord _) (bare R[k]) (hz R[k] (List.getElem_mem hk)) (gone_size hz k) (Nat.le_trans (len_goneL _) (by rw [List.length_take]; omega))
    rw [List.take_succ_eq_append_getElem hk, goneL_snoc]
    exact this
  clear had hrow hl hz
  go_enter Tryz.func19, Tryz.ntmps19
  go_wp2
  go_loopw [3, 4] (fun u i wr => ∃ k : Nat, k ≤ R.length ∧ i = .int .i64 k ∧ OwnN wr 0 u (goneL (R.take k)) ∧ Below w.heap.size w wr) (fun _ i _ => R.length - (intOf i).toNat)
  case atStart => exact ⟨0, Nat.zero_le _, rfl, World.ownsRow_nil _ _ _ _, Below.refl _ _⟩
  case round =>
    obtain ⟨k, hk, rfl, hown, hbel⟩ := hrel
    obtain ⟨adu, cu, rfl, _⟩ := ownN_len hown
    have HO : Hid (OwnN wr 0 (.slice adu (goneL (R.take k)).length cu) (goneL (R.take k))) := hown
    have HB : Hid (Below w.heap.size w wr) := hbel
    clear hown
    by_cases hlt : k < R.length
    · have hltI : (k : Int) < (R.length : Int) := by omega
      obtain rfl : ad = some ⟨b, off, none⟩ := by rcases HAD.out with h | h; exact h; omega
      obtain ⟨c0, c1, c2, c3, c4, c5⟩ := (HR.out.below hbel) k hlt
      have HP : Hid (_ : Prop) := HPU.out k hlt
      clear hbel HPU
      generalize R[k] = x at *
      generalize goneL (R.take k) = GA at *
      go_wp2_with fail
      refine Calls.mono (HP.out _ _ (owns_below HO.out ((Below.refl _ _).alloc (Nat.le_refl _) _))) ?_
      rintro e w2 ⟨u2, rfl, ho2, hb2⟩
      have HO2 : Hid (OwnN w2 0 u2 (goneL (R.take (k + 1)))) := ho2
      have HB2 : Hid (Below w.heap.size w w2) := (HB.out.alloc HB.out.size _).trans (hb2.mono (HB.out.alloc HB.out.size _).size)
      clear ho2 hb2 c0 c1 c2 c3 c4 c5 HP
      go_wp2
      go_roundw
      case rel => exact ⟨k + 1, by omega, by go_num, HO2.out, HB2.out⟩
      case measure => simp [intOf]; omega
    · obtain rfl : k = R.length := by omega
      have hltI : ¬ (R.length : Int) < (R.length : Int) := by omega
      have HN : Hid (NlsAt wr (.slice adu (goneL (R.take R.length)).length cu) (goneL R)) := by
        have := ownN_nls HO.out
        rw [List.take_length] at this ⊢
        exact this
      generalize (goneL (R.take R.length)).length = gl at *
      clear HPU hbel
      go_wp2
      go_ret
      exact ⟨_, rfl, HN.out, HB.out⟩
theorem sameL_self (A : List Nl) : sameL A A = true := sameL_yes rfl (fun _ _ _ => (eqN_iff _ _).2 rfl)
theorem enc_both (fam : Int) (add : Bool) (C : List Nl) (hwf : ∀ n ∈ C, NlWf n) (hl : C.length ≤ 30000) :
    ∃ (S : ByteArray) (er : Int), (∀ W v, Tabs W → NlsAt W v C → Calls Tryz.prog 15 #[v, .int .i64 fam, .bool add] W fun e w' => e = .returned (.tuple #[.string S, .int .i64 er]) ∧ Below W.heap.size W w') ∧ (∀ W v, NlsAt W v C → Calls Tryz.prog 16 #[v, .int .i64 fam, .bool add] W fun e w' => e = .returned (.tuple #[.string S, .int .i64 er]) ∧ Below W.heap.size W w') := by
  by_cases hz : szOf fam = 0
  · exact ⟨⟨#[]⟩, 2, fun W v hT _ => (encode_arg fam add v W hT.sizes hz).mono fun _ _ ⟨h1, h2⟩ => ⟨h1, h2 ▸ Below.refl _ _⟩, fun W v _ => (rencode_arg fam add v W hz).mono fun _ _ ⟨h1, h2⟩ => ⟨h1, h2 ▸ Below.refl _ _⟩⟩
  · have e : ∃ (S : ByteArray) (er : Int), encAns fam add C = .returned (.tuple #[.string S, .int .i64 er]) := by
      unfold encAns
      split
      · exact ⟨_, _, rfl⟩
      · exact ⟨_, _, rfl⟩
    obtain ⟨S, er, e⟩ := e
    exact ⟨S, er, fun W v hT h => (encode_any fam add v C W hT.sizes hT.rds hz h hwf hl).mono fun _ _ ⟨h1, h2⟩ => ⟨h1.trans e, h2⟩, fun W v h => (rencode_any fam add v C W hz h hwf hl).mono fun _ _ ⟨h1, h2⟩ => ⟨h1.trans e, h2⟩⟩
set_option maxRecDepth 100000 in
set_option maxHeartbeats 1600000 in
theorem cutM_any (v : Value) (R : List Nl) (w : World) (hv : NlsAt w v R) (hlen : R.length ≤ maxLen) :
    Calls Tryz.prog 14 #[v] w fun e w' => ∃ v', e = .returned v' ∧ OwnN w' w.heap.size v' (R.take 60) ∧ Below w.heap.size w w' := by
  obtain ⟨ad, b, off, cap, rfl, had, hcap, hrow⟩ := hv
  unfold maxLen at hlen
  obtain ⟨i0, hi, hz0, hz1, hz2⟩ := info_parts info27
  obtain ⟨k, hk⟩ : ∃ k, k = (R.take 60).length := ⟨_, rfl⟩
  have hk60 : k ≤ 60 ∧ k ≤ R.length := by rw [hk]; simp; omega
  have hm : min (R.length : Int) 60 = (k : Int) := by rw [hk]; simp; omega
  have hkc : (k : Int) ≤ (cap : Int) := by omega
  have HE : Hid ((cellsN (R.take 60)).length = k * 6) := by unfold Hid; rw [cellsN_len, hk]
  have HK : Hid (k = (R.take 60).length) := hk
  cases ad with
  | none =>
    have h0 : R.length = 0 := by rcases had with h | h; cases h; exact h
    obtain rfl : R = [] := List.length_eq_zero_iff.mp h0
    obtain rfl : k = 0 := by simpa using hk
    have HO : Hid (OwnN w w.heap.size (.slice none 0 0) (List.take 60 [])) := World.ownsRow_nil _ _ _ _
    clear hlen hcap hrow had h0 hkc hk hk60 HE HK hm
    rw [List.length_nil]
    go_enter Tryz.func14, Tryz.ntmps14
    have hm : (min 0 60 : Int) = 0 := by decide
    go_wp2
    go_ret
    exact ⟨_, rfl, HO.out, Below.refl _ _⟩
  | some a =>
    have HN : Hid (∀ j u, (cellsN (R.take 60))[j]? = some u → w.cell? (a.add j) = some u) := by
      rcases had with h | h
      · cases h; exact (hrow.take 60).cells
      · obtain rfl : R = [] := List.length_eq_zero_iff.mp h
        intro j u hj
        simp [cellsN] at hj
    clear hk had hrow
    go_enter Tryz.func14, Tryz.ntmps14
    go_wp2_with (at_builtin; refine wpList_append_own _ rfl _ _ 35 rfl w.heap.size 27 i0 (.agg #[.int .i64 0, .int .u64 0, .string ⟨#[]⟩, .int .i64 0, .int .u32 0, .int .u32 0]) 6 48 Tryz.underlying35 hi hz0 hz1 hz2 rfl (by decide) _ _ _ rfl (World.ownsRow_nil _ _ _ _) a k _ (cellsN (R.take 60)) rfl HE.out HN.out (cellsN_one _) (by unfold maxLen; omega) (by omega) (Nat.le_refl _) ?_; intro v6 w6 hown6 hgrow6 _)
    have hb6 : Below w.heap.size w w6 := (Below.refl _ _).grown hgrow6 (Nat.le_refl _) (fun j e => by cases e)
    rw [Nat.zero_add, List.nil_append, HK.out] at hown6
    clear hgrow6
    go_wp2
    go_ret
    exact ⟨v6, rfl, hown6, hb6⟩
/-- Told prefixes that come in. -/
structure ArgN (w : World) (v : Value) (R : List Nl) : Prop where
  at' : NlsAt w v R
  wf : ∀ n ∈ R, NlWf n
  len : R.length ≤ maxLen
set_option maxHeartbeats 4000000 in
theorem lays_walk (v : Value) (R : List Nl) (fam : Int) (add : Bool) (w : World) (hT : Tabs w) (hA : ArgN w v R) :
    Calls Tryz.prog 4 #[v, .agg #[.int .i64 fam, .bool add]] w fun e w' => e = .returned (.bool true) ∧ Below w.heap.size w w' := by
  obtain ⟨h, hwf, hlen⟩ := hA
  have HT : Hid (∀ W, Below w.heap.size w W → Tabs W) := fun W hb => hT.below hb
  have hC60 : (R.take 60).length ≤ 60 := List.length_take_le _ _
  have hCwf : ∀ n ∈ R.take 60, NlWf n := fun n hn => hwf n (List.mem_of_mem_take hn)
  obtain ⟨S, er, h15, h16⟩ := enc_both fam add (R.take 60) hCwf (by omega)
  have HE : Hid (∀ W v, Tabs W → NlsAt W v (R.take 60) → _) := h15
  have HRE : Hid (∀ W v, NlsAt W v (R.take 60) → _) := h16
  have HCU : Hid (∀ W, Below w.heap.size w W → Calls Tryz.prog 14 #[v] W fun e w' => ∃ v', e = .returned v' ∧ OwnN w' W.heap.size v' (R.take 60) ∧ Below W.heap.size W w') := fun W hb => cutM_any v R W (h.below hb) hlen
  have HWD : Hid (∀ W v, NlsAt W v (R.take 60) → _) := fun W v h => withdrawn_any v (R.take 60) W h (by omega)
  have HRW : Hid (∀ W v, NlsAt W v (R.take 60) → _) := fun W v h => rwithdrawn_any v (R.take 60) W h (fun m hm => (hCwf m hm).z) (by omega)
  have HSG : Hid (∀ W va vb, NlsAt W va (goneL (R.take 60)) → NlsAt W vb (goneL (R.take 60)) → Calls Tryz.prog 17 #[va, vb] W fun e w' => e = .returned (.bool true) ∧ Below W.heap.size W w') := fun W va vb ha hb => by
    have := rsame_any va vb _ _ W ha hb (Nat.le_trans (len_goneL _) (by omega))
    rw [sameL_self] at this
    exact this
  have HSC : Hid (∀ W va vb, NlsAt W va (R.take 60) → NlsAt W vb (R.take 60) → Calls Tryz.prog 17 #[va, vb] W fun e w' => e = .returned (.bool true) ∧ Below W.heap.size W w') := fun W va vb ha hb => by
    have := rsame_any va vb _ _ W ha hb (by omega)
    rw [sameL_self] at this
    exact this
  generalize goneL (R.take 60) = GL at *
  generalize R.take 60 = C at *
  clear h hwf hlen hT h15 h16 hC60 hCwf
  have HB0 : Hid (Below w.heap.size w (w.alloc (.cells #[.int .i64 fam, .bool add] 37))) := (Below.refl _ _).alloc (Nat.le_refl _) _
  have HX0 : Hid ((w.alloc (.cells #[.int .i64 fam, .bool add] 37)).cell? ⟨w.heap.size, 0, none⟩ = some (.int .i64 fam) ∧ (w.alloc (.cells #[.int .i64 fam, .bool add] 37)).cell? ⟨w.heap.size, 1, none⟩ = some (.bool add)) := ⟨by simp, by simp⟩
  go_enter Tryz.func4, Tryz.ntmps4
  go_wp2_with fail
  refine Calls.mono (HCU.out _ HB0.out) ?_
  rintro e w1 ⟨v1, rfl, ho1, hb1⟩
  have HB1 : Hid (Below w.heap.size w w1) := HB0.out.trans (hb1.mono HB0.out.size)
  have HX1 : Hid (w1.cell? ⟨w.heap.size, 0, none⟩ = some (.int .i64 fam) ∧ w1.cell? ⟨w.heap.size, 1, none⟩ = some (.bool add)) := ⟨cell2 hb1 HX0.out.1, cell2 hb1 HX0.out.2⟩
  have HN1 : Hid (NlsAt w1 v1 C) := ownN_nls ho1
  clear ho1 hb1 HB0 HX0
  go_wp2_with fail
  refine Calls.mono (HCU.out _ HB1.out) ?_
  rintro e w2 ⟨v2, rfl, ho2, hb2⟩
  have HB2 : Hid (Below w.heap.size w w2) := HB1.out.trans (hb2.mono HB1.out.size)
  have HX2 : Hid (w2.cell? ⟨w.heap.size, 0, none⟩ = some (.int .i64 fam) ∧ w2.cell? ⟨w.heap.size, 1, none⟩ = some (.bool add)) := ⟨cell2 hb2 HX1.out.1, cell2 hb2 HX1.out.2⟩
  have HN2 : Hid (NlsAt w2 v1 C ∧ NlsAt w2 v2 C) := ⟨HN1.out.below hb2, ownN_nls ho2⟩
  clear ho2 hb2 HB1 HX1 HN1
  obtain ⟨x0, x1⟩ := HX2.out
  go_wp2_with fail
  refine Calls.mono (HE.out _ _ (HT.out _ HB2.out) HN2.out.1) ?_
  rintro e w3 ⟨rfl, hb3⟩
  have HB3 : Hid (Below w.heap.size w w3) := HB2.out.trans (hb3.mono HB2.out.size)
  have HX3 : Hid (w3.cell? ⟨w.heap.size, 0, none⟩ = some (.int .i64 fam) ∧ w3.cell? ⟨w.heap.size, 1, none⟩ = some (.bool add)) := ⟨cell2 hb3 HX2.out.1, cell2 hb3 HX2.out.2⟩
  have HN3 : Hid (NlsAt w3 v1 C ∧ NlsAt w3 v2 C) := ⟨HN2.out.1.below hb3, HN2.out.2.below hb3⟩
  clear hb3 HB2 HX2 HN2 x0 x1
  obtain ⟨x0, x1⟩ := HX3.out
  go_wp2_with fail
  refine Calls.mono (HRE.out _ _ HN3.out.2) ?_
  rintro e w4 ⟨rfl, hb4⟩
  have HB4 : Hid (Below w.heap.size w w4) := HB3.out.trans (hb4.mono HB3.out.size)
  have HN4 : Hid (NlsAt w4 v1 C ∧ NlsAt w4 v2 C) := ⟨HN3.out.1.below hb4, HN3.out.2.below hb4⟩
  clear hb4 HB3 HX3 HN3 x0 x1
  go_wp2_with fail
  refine Calls.mono (HWD.out _ _ HN4.out.1) ?_
  rintro e w5 ⟨u1, rfl, hu5, hb5⟩
  have HB5 : Hid (Below w.heap.size w w5) := HB4.out.trans (hb5.mono HB4.out.size)
  have HN5 : Hid (NlsAt w5 v1 C ∧ NlsAt w5 v2 C ∧ NlsAt w5 u1 GL) := ⟨HN4.out.1.below hb5, HN4.out.2.below hb5, hu5⟩
  clear hb5 hu5 HB4 HN4
  go_wp2_with fail
  refine Calls.mono (HRW.out _ _ HN5.out.2.1) ?_
  rintro e w6 ⟨u2, rfl, hu6, hb6⟩
  have HB6 : Hid (Below w.heap.size w w6) := HB5.out.trans (hb6.mono HB5.out.size)
  have HN6 : Hid (NlsAt w6 v1 C ∧ NlsAt w6 v2 C ∧ NlsAt w6 u1 GL ∧ NlsAt w6 u2 GL) := ⟨HN5.out.1.below hb6, HN5.out.2.1.below hb6, HN5.out.2.2.below hb6, hu6⟩
  clear hb6 hu6 HB5 HN5
  go_wp2_with fail
  refine Calls.mono (HSG.out _ _ _ HN6.out.2.2.1 HN6.out.2.2.2) ?_
  rintro e w7 ⟨rfl, hb7⟩
  have HB7 : Hid (Below w.heap.size w w7) := HB6.out.trans (hb7.mono HB6.out.size)
  have HN7 : Hid (NlsAt w7 v1 C ∧ NlsAt w7 v2 C) := ⟨HN6.out.1.below hb7, HN6.out.2.1.below hb7⟩
  clear hb7 HB6 HN6
  go_wp2_with fail
  refine Calls.mono (HSC.out _ _ _ HN7.out.1 HN7.out.2) ?_
  rintro e w8 ⟨rfl, hb8⟩
  have HB8 : Hid (Below w.heap.size w w8) := HB7.out.trans (hb8.mono HB7.out.size)
  clear hb8 HB7 HN7
  go_wp2_with fail
  refine Calls.mono (works_any _ (HT.out _ HB8.out)) ?_
  rintro e w9 ⟨rfl, hb9⟩
  go_wp2
  go_ret
  exact ⟨rfl, HB8.out.trans (hb9.mono HB8.out.size)⟩
end Go.Proofs.YtfhbgpepkplbaaaGreatDoor
