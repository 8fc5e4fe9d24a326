/-
  Values read: takeList, Take, TakeGone.
-/
import Derived.Test.YtjliopclpjeieaaDoorFE4
namespace Go.Proofs.YtjliopclpjeieaaDoor
open Go.RowKit
theorem Beside.tail {p q : Nat} {a b c : World} (h : Beside q a b) (k : Beside p b c) (hp : a.heap.size ≤ p) : Beside q a c := h.then (k.below hp h.size)
theorem Beside.up {q : Nat} {a b c : World} (h : Beside q a b) (k : Below b.heap.size b c) : Beside q a c := h.then (k.mono h.size)
/-- What takeList answers. -/
def LstOk (x : Except Int (Int × List UInt8 × List Nl)) (nb : Nat) (w : World) (e : Ending) (w' : World) : Prop :=
  Beside nb w w' ∧ match x with
  | .error er => e = .returned (.tuple #[.int .i64 0, .slice none 0 0, .int .i64 er]) ∧ (er = 4 ∨ er = 5) ∧ ∃ y, Slot w' nb y
  | .ok (f, nx, R) => ∃ v, e = .returned (.tuple #[.int .i64 f, v, .int .i64 0]) ∧ OwnN w' w.heap.size v R ∧ Slot w' nb nx
def GoneOk (x : Except Int (Int × List Nl)) (w : World) (e : Ending) (w' : World) : Prop :=
  Below w.heap.size w w' ∧ match x with
  | .error er => e = .returned (.tuple #[.int .i64 0, .slice none 0 0, .int .i64 er])
  | .ok (f, R) => ∃ v, e = .returned (.tuple #[.int .i64 f, v, .int .i64 0]) ∧ OwnN w' w.heap.size v R
set_option maxRecDepth 100000 in
set_option maxHeartbeats 3200000 in
theorem takeList_t (nb : Nat) (x : List UInt8) (l : List UInt8) (v : Value) (adds : List Int) (w : World) (hg : FamSizes w) (hs : Slot w nb x) (hn0 : 0 < nb) (hA : ∀ w', Beside nb w w' → IntsAt w' v adds) (hal : adds.length ≤ 1000000000) (hl : l.length ≤ 2000000) :
    Calls Tryd.prog 38 #[.string ⟨l.toArray⟩, v, .func (.func 39) #[] #[.pointer (some ⟨nb, 0, none⟩)]] w fun e w' => LstOk (tkI adds l) nb w e w' := by
  have hlt := hs.lt
  have HG : Hid (FamSizes w) := hg
  have HA : Hid (∀ w', Beside nb w w' → IntsAt w' v adds) := hA
  have HL : Hid (l.length ≤ 2000000) := hl
  have HAL : Hid (adds.length ≤ 1000000000) := hal
  have HN0 : Hid (0 < nb) := hn0
  have HS : Hid (Slot w nb x) := hs
  have HLT : Hid (nb < w.heap.size) := hlt
  clear hs hlt
  have HZ : Hid (0 < w.heap.size) := lt_of_cell hg.c0
  clear hg hA hl hal hn0
  go_enter Tryd.func38, Tryd.ntmps38
  go_wp2_with fail
  refine (new_any ⟨l.toArray⟩ w).mono ?_
  rintro e w1 ⟨rfl, hr1, hb1, hs1⟩
  have HB1 : Hid (Beside nb w w1) := Beside.of_below hb1 (Nat.le_refl _)
  have HR1 : Hid (RdrAt w1 w.heap.size ⟨l.toArray⟩) := hr1
  have HS1 : Hid (Slot w1 nb x) := HS.out.below hb1
  have HP : Hid (Below w.heap.size w w1) := hb1
  clear hr1 hb1 hs1
  have hne : nb ≠ w.heap.size := by have := HLT.out; omega
  have HNE : Hid (nb ≠ w.heap.size) := hne
  clear hne
  by_cases h3 : l.length < 3
  · have K2 : Hid (_ : Prop) := takePair_short w.heap.size l w1 HR1.out h3
    have HX : Hid (tkI adds l = .error 4) := by unfold Hid tkI; rw [if_pos h3]
    clear h3
    go_wp2_with fail
    refine Calls.mono K2.out ?_
    rintro e w2 ⟨rfl, hb2⟩
    have HB2 : Hid (Beside nb w w2) := HB1.out.tail hb2 (Nat.le_refl _)
    have HS2 : Hid (Slot w2 nb x) := HS1.out.beside hb2 HNE.out
    clear hb2
    go_wp2
    go_ret3
    rw [HX.out]
    exact ⟨HB2.out, rfl, by decide, ⟨_, HS2.out⟩⟩
  · have H3 : Hid (¬ l.length < 3) := h3
    have K2 : Hid (_ : Prop) := takePair_any w.heap.size l w1 (HG.out.below HP.out) HZ.out HR1.out (by omega)
    clear h3
    by_cases hf : tpF l = 0
    · have HX : Hid (tkI adds l = .error 5) := by unfold Hid tkI; rw [if_neg H3.out, if_pos hf]
      rw [if_pos hf] at K2
      clear hf
      go_wp2_with fail
      refine Calls.mono K2.out ?_
      rintro e w2 ⟨rfl, _, hb2⟩
      have HB2 : Hid (Beside nb w w2) := HB1.out.tail hb2 (Nat.le_refl _)
      have HS2 : Hid (Slot w2 nb x) := HS1.out.beside hb2 HNE.out
      clear hb2
      go_wp2
      go_ret3
      rw [HX.out]
      exact ⟨HB2.out, rfl, by decide, ⟨_, HS2.out⟩⟩
    · have HF : Hid (isF (tpF l) = true) := fm_isF hf
      have HX : Hid (tkI adds l = if okF (tpF l) (l.drop 3) then (match lstI (tpF l) adds ((l.drop 3).drop (cntI (l.drop 3) + 2)) with | none => .error 4 | some R => .ok (tpF l, hopF (tpF l) (l.drop 3), R)) else .error 4) := by unfold Hid tkI; rw [if_neg H3.out, if_neg hf]; rfl
      rw [if_neg hf] at K2
      clear hf
      go_wp2_with fail
      refine Calls.mono K2.out ?_
      rintro e w2 ⟨rfl, hr2, hb2⟩
      have HB2 : Hid (Beside nb w w2) := HB1.out.tail hb2 (Nat.le_refl _)
      have HR2 : Hid (RdrAt w2 w.heap.size _) := hr2
      have HS2 : Hid (Slot w2 nb x) := HS1.out.beside hb2 HNE.out
      have HG2 : Hid (FamSizes w2) := HG.out.beside HB2.out HN0.out
      clear hr2 hb2 HR1 HB1 K2 HS1
      have K3 : Hid (_ : Prop) := familyOf_yes (tpF l) HF.out w2 HG2.out
      go_wp2_with fail
      refine Calls.mono K3.out ?_
      rintro e w3 ⟨rfl, hb3⟩
      unfold fam5
      have hb4 : Below w2.heap.size w2 (w3.alloc (.cells #[.int .u16 (afN (tpF l)), .int .u8 (sfN (tpF l)), .int .i64 (szOf (tpF l)), .string (ahB (tpF l)), .bool (twB (tpF l))] 55)) := hb3.alloc hb3.size _
      have HB4 : Hid (Beside nb w (w3.alloc (.cells #[.int .u16 (afN (tpF l)), .int .u8 (sfN (tpF l)), .int .i64 (szOf (tpF l)), .string (ahB (tpF l)), .bool (twB (tpF l))] 55))) := HB2.out.up hb4
      have HR4 : Hid (RdrAt (w3.alloc (.cells #[.int .u16 (afN (tpF l)), .int .u8 (sfN (tpF l)), .int .i64 (szOf (tpF l)), .string (ahB (tpF l)), .bool (twB (tpF l))] 55)) w.heap.size _) := HR2.out.kept hb4 HR2.out.lt
      have HS4 : Hid (Slot (w3.alloc (.cells #[.int .u16 (afN (tpF l)), .int .u8 (sfN (tpF l)), .int .i64 (szOf (tpF l)), .string (ahB (tpF l)), .bool (twB (tpF l))] 55)) nb x) := HS2.out.below hb4
      clear hb3 hb4 HB2 HR2 K3 HG2 HS2
      go_wp2_with fail
      refine Calls.mono (pass_any (tpF l) w.heap.size nb x (l.drop 3) _ HR4.out HS4.out HNE.out) ?_
      rintro e w5 ⟨rfl, hr5, hs5, ht5⟩
      have HB5 : Hid (Beside nb w w5) := Two.beside HB4.out ht5 (Nat.le_refl _)
      have HS5 : Hid (Slot w5 nb _) := hs5
      have HR5 : Hid (_ → _) := hr5
      clear hr5 hs5 ht5 HB4 HS4 HR4
      cases hok : okF (tpF l) (l.drop 3) with
      | false =>
        rw [hok] at HX HS5 HR5
        simp only [Bool.false_eq_true, if_false] at HX
        clear hok
        go_wp2
        go_ret3
        rw [HX.out]
        exact ⟨HB5.out, rfl, by decide, _, HS5.out⟩
      | true =>
        rw [hok] at HX HS5 HR5
        simp only [if_true] at HX HS5
        have hr := HR5.out rfl
        have HRR : Hid (RdrAt w5 w.heap.size _) := hr
        clear hok HR5 hr
        have HRL : Hid (((l.drop 3).drop (cntI (l.drop 3) + 2)).length ≤ 2000000) := by unfold Hid; have := HL.out; simp; omega
        have HLI : Hid (lstI (tpF l) adds ((l.drop 3).drop (cntI (l.drop 3) + 2)) = decI (tpF l) (decide (tpF l ∈ adds)) ((l.drop 3).drop (cntI (l.drop 3) + 2)).length ((l.drop 3).drop (cntI (l.drop 3) + 2))) := rfl
        generalize ((l.drop 3).drop (cntI (l.drop 3) + 2)) = r at *
        have K6 : Hid (_ : Prop) := rest_any w.heap.size r w5 HRR.out
        go_wp2_with fail
        refine Calls.mono K6.out ?_
        rintro e w6 ⟨rfl, hb6⟩
        have HB6 : Hid (Beside nb w w6) := HB5.out.tail hb6 (Nat.le_refl _)
        have HS6 : Hid (Slot w6 nb _) := HS5.out.beside hb6 HNE.out
        clear hb6 K6 HRR HB5
        have K7 : Hid (_ : Prop) := contains_any (tpF l) v adds w6 (HA.out _ HB6.out) HAL.out
        go_wp2_with fail
        refine Calls.mono K7.out ?_
        rintro e w7 ⟨rfl, hw7⟩
        obtain rfl : w6 = w7 := hw7.symm
        clear hw7 K7
        have K8 : Hid (_ : Prop) := decode_any (tpF l) (decide (tpF l ∈ adds)) r w6 (HG.out.beside HB6.out HN0.out) (sz_fam HF.out).1 HRL.out
        rw [← HLI.out] at K8
        clear HLI
        cases hd : lstI (tpF l) adds r with
        | none =>
          rw [hd] at K8 HX
          simp only at HX
          clear hd
          go_wp2_with fail
          refine Calls.mono K8.out ?_
          rintro e w8 ⟨hb8, rfl⟩
          have HB8 : Hid (Beside nb w w8) := HB6.out.up hb8
          have HS8 : Hid (Slot w8 nb _) := HS6.out.below hb8
          clear hb8
          go_wp2
          go_ret3
          rw [HX.out]
          exact ⟨HB8.out, rfl, by decide, ⟨_, HS8.out⟩⟩
        | some R =>
          rw [hd] at K8 HX
          simp only at HX
          clear hd
          go_wp2_with fail
          refine Calls.mono K8.out ?_
          rintro e w8 ⟨hb8, v8, rfl, ho8⟩
          have HB8 : Hid (Beside nb w w8) := HB6.out.up hb8
          have HO8 : Hid (OwnN w8 w.heap.size v8 R) := owns_mono ho8 HB6.out.size
          have HS8 : Hid (Slot w8 nb _) := HS6.out.below hb8
          clear hb8 ho8
          go_wp2
          go_ret3
          rw [HX.out]
          exact ⟨HB8.out, v8, rfl, HO8.out, HS8.out⟩
set_option maxRecDepth 100000 in
set_option maxHeartbeats 3200000 in
theorem takeList_g (l : List UInt8) (v : Value) (adds : List Int) (w : World) (hg : FamSizes w) (hA : ∀ w', Beside w.heap.size w w' → IntsAt w' v adds) (hal : adds.length ≤ 1000000000) (hl : l.length ≤ 2000000) :
    Calls Tryd.prog 38 #[.string ⟨l.toArray⟩, v, .func (.func 44) #[] #[]] w fun e w' => GoneOk (tgI adds l) w e w' := by
  have hn0 : 0 < w.heap.size := lt_of_cell hg.c0
  have HG : Hid (FamSizes w) := hg
  have HA : Hid (∀ w', Beside w.heap.size w w' → IntsAt w' v adds) := hA
  have HL : Hid (l.length ≤ 2000000) := hl
  have HAL : Hid (adds.length ≤ 1000000000) := hal
  have HN0 : Hid (0 < w.heap.size) := hn0
  have HZ : Hid (0 < w.heap.size) := lt_of_cell hg.c0
  clear hg hA hl hal hn0
  go_enter Tryd.func38, Tryd.ntmps38
  go_wp2_with fail
  refine (new_any ⟨l.toArray⟩ w).mono ?_
  rintro e w1 ⟨rfl, hr1, hb1, hs1⟩
  have HB1 : Hid (Beside w.heap.size w w1) := Beside.of_below hb1 (Nat.le_refl _)
  have HR1 : Hid (RdrAt w1 w.heap.size ⟨l.toArray⟩) := hr1
  have HP : Hid (Below w.heap.size w w1) := hb1
  clear hr1 hb1 hs1
  by_cases h3 : l.length < 3
  · have K2 : Hid (_ : Prop) := takePair_short w.heap.size l w1 HR1.out h3
    have HX : Hid (tgI adds l = .error 4) := by unfold Hid tgI; rw [if_pos h3]
    clear h3
    go_wp2_with fail
    refine Calls.mono K2.out ?_
    rintro e w2 ⟨rfl, hb2⟩
    have HB2 : Hid (Beside w.heap.size w w2) := HB1.out.tail hb2 (Nat.le_refl _)
    clear hb2
    go_wp2
    go_ret3
    rw [HX.out]
    exact ⟨(HB2.out).below (Nat.le_refl _) (Nat.le_refl _), rfl⟩
  · have H3 : Hid (¬ l.length < 3) := h3
    have K2 : Hid (_ : Prop) := takePair_any w.heap.size l w1 (HG.out.below HP.out) HZ.out HR1.out (by omega)
    clear h3
    by_cases hf : tpF l = 0
    · have HX : Hid (tgI adds l = .error 5) := by unfold Hid tgI; rw [if_neg H3.out, if_pos hf]
      rw [if_pos hf] at K2
      clear hf
      go_wp2_with fail
      refine Calls.mono K2.out ?_
      rintro e w2 ⟨rfl, _, hb2⟩
      have HB2 : Hid (Beside w.heap.size w w2) := HB1.out.tail hb2 (Nat.le_refl _)
      clear hb2
      go_wp2
      go_ret3
      rw [HX.out]
      exact ⟨(HB2.out).below (Nat.le_refl _) (Nat.le_refl _), rfl⟩
    · have HF : Hid (isF (tpF l) = true) := fm_isF hf
      have HX : Hid (tgI adds l = match lstI (tpF l) adds (l.drop 3) with | none => .error 4 | some R => .ok (tpF l, R)) := by unfold Hid tgI; rw [if_neg H3.out, if_neg hf]; rfl
      rw [if_neg hf] at K2
      clear hf
      go_wp2_with fail
      refine Calls.mono K2.out ?_
      rintro e w2 ⟨rfl, hr2, hb2⟩
      have HB2 : Hid (Beside w.heap.size w w2) := HB1.out.tail hb2 (Nat.le_refl _)
      have HR2 : Hid (RdrAt w2 w.heap.size _) := hr2
      have HG2 : Hid (FamSizes w2) := HG.out.beside HB2.out HN0.out
      clear hr2 hb2 HR1 HB1 K2
      have K3 : Hid (_ : Prop) := familyOf_yes (tpF l) HF.out w2 HG2.out
      go_wp2_with fail
      refine Calls.mono K3.out ?_
      rintro e w3 ⟨rfl, hb3⟩
      unfold fam5
      have hb4 : Below w2.heap.size w2 (w3.alloc (.cells #[.int .u16 (afN (tpF l)), .int .u8 (sfN (tpF l)), .int .i64 (szOf (tpF l)), .string (ahB (tpF l)), .bool (twB (tpF l))] 55)) := hb3.alloc hb3.size _
      have HB4 : Hid (Beside w.heap.size w (w3.alloc (.cells #[.int .u16 (afN (tpF l)), .int .u8 (sfN (tpF l)), .int .i64 (szOf (tpF l)), .string (ahB (tpF l)), .bool (twB (tpF l))] 55))) := HB2.out.up hb4
      have HR4 : Hid (RdrAt (w3.alloc (.cells #[.int .u16 (afN (tpF l)), .int .u8 (sfN (tpF l)), .int .i64 (szOf (tpF l)), .string (ahB (tpF l)), .bool (twB (tpF l))] 55)) w.heap.size _) := HR2.out.kept hb4 HR2.out.lt
      clear hb3 hb4 HB2 HR2 K3 HG2
      go_wp2_with fail
      refine Calls.mono (passG_any _ (tpF l) _) ?_
      rintro e w5 ⟨rfl, hb5⟩
      have HB5 : Hid (Beside w.heap.size w w5) := HB4.out.up hb5
      have HRR : Hid (RdrAt w5 w.heap.size _) := HR4.out.kept hb5 HR4.out.lt
      clear hb5 HB4 HR4
      have HRL : Hid ((l.drop 3).length ≤ 2000000) := by unfold Hid; have := HL.out; simp; omega
      have HLI : Hid (lstI (tpF l) adds (l.drop 3) = decI (tpF l) (decide (tpF l ∈ adds)) (l.drop 3).length (l.drop 3)) := rfl
      generalize (l.drop 3) = r at *
      have K6 : Hid (_ : Prop) := rest_any w.heap.size r w5 HRR.out
      go_wp2_with fail
      refine Calls.mono K6.out ?_
      rintro e w6 ⟨rfl, hb6⟩
      have HB6 : Hid (Beside w.heap.size w w6) := HB5.out.tail hb6 (Nat.le_refl _)
      clear hb6 K6 HRR HB5
      have K7 : Hid (_ : Prop) := contains_any (tpF l) v adds w6 (HA.out _ HB6.out) HAL.out
      go_wp2_with fail
      refine Calls.mono K7.out ?_
      rintro e w7 ⟨rfl, hw7⟩
      obtain rfl : w6 = w7 := hw7.symm
      clear hw7 K7
      have K8 : Hid (_ : Prop) := decode_any (tpF l) (decide (tpF l ∈ adds)) r w6 (HG.out.beside HB6.out HN0.out) (sz_fam HF.out).1 HRL.out
      rw [← HLI.out] at K8
      clear HLI
      cases hd : lstI (tpF l) adds r with
      | none =>
        rw [hd] at K8 HX
        simp only at HX
        clear hd
        go_wp2_with fail
        refine Calls.mono K8.out ?_
        rintro e w8 ⟨hb8, rfl⟩
        have HB8 : Hid (Beside w.heap.size w w8) := HB6.out.up hb8
        clear hb8
        go_wp2
        go_ret3
        rw [HX.out]
        exact ⟨(HB8.out).below (Nat.le_refl _) (Nat.le_refl _), rfl⟩
      | some R =>
        rw [hd] at K8 HX
        simp only at HX
        clear hd
        go_wp2_with fail
        refine Calls.mono K8.out ?_
        rintro e w8 ⟨hb8, v8, rfl, ho8⟩
        have HB8 : Hid (Beside w.heap.size w w8) := HB6.out.up hb8
        have HO8 : Hid (OwnN w8 w.heap.size v8 R) := owns_mono ho8 HB6.out.size
        clear hb8 ho8
        go_wp2
        go_ret3
        rw [HX.out]
        exact ⟨HB8.out.below (Nat.le_refl _) (Nat.le_refl _), v8, rfl, HO8.out⟩
/-- What Take answers. -/
def TakeOk8 (x : Except Int (Int × List UInt8 × List Nl)) (w : World) (e : Ending) (w' : World) : Prop :=
  Below w.heap.size w w' ∧ match x with
  | .error er => e = .returned (.tuple #[.int .i64 0, .string ⟨#[]⟩, .slice none 0 0, .int .i64 er])
  | .ok (f, nx, R) => ∃ v, e = .returned (.tuple #[.int .i64 f, .string ⟨nx.toArray⟩, v, .int .i64 0]) ∧ OwnN w' w.heap.size v R
theorem takeGone_any (l : List UInt8) (v : Value) (adds : List Int) (w : World) (hg : FamSizes w) (hv : IntsAt w v adds) (hal : adds.length ≤ 1000000000) (hl : l.length ≤ 2000000) :
    Calls Tryd.prog 23 #[.string ⟨l.toArray⟩, v] w fun e w' => GoneOk (tgI adds l) w e w' := by
  have HK : Hid (_ : Prop) := takeList_g l v adds w hg (fun w' h => hv.below (h.below (Nat.le_refl _) (Nat.le_refl _))) hal hl
  clear hg hv hal hl
  cases hx : tgI adds l with
  | error er =>
    rw [hx] at HK
    clear hx
    go_enter Tryd.func23, Tryd.ntmps23
    go_wp2_with fail
    refine Calls.mono HK.out ?_
    rintro e w1 ⟨hb1, rfl⟩
    go_wp2
    go_ret3
    exact ⟨hb1, rfl⟩
  | ok r =>
    obtain ⟨f, R⟩ := r
    rw [hx] at HK
    clear hx
    go_enter Tryd.func23, Tryd.ntmps23
    go_wp2_with fail
    refine Calls.mono HK.out ?_
    rintro e w1 ⟨hb1, v1, rfl, ho1⟩
    go_wp2
    go_ret3
    exact ⟨hb1, v1, rfl, ho1⟩
set_option maxRecDepth 100000 in
set_option maxHeartbeats 1600000 in
theorem take_any8 (l : List UInt8) (v : Value) (adds : List Int) (w : World) (hg : FamSizes w) (hv : IntsAt w v adds) (hal : adds.length ≤ 1000000000) (hl : l.length ≤ 2000000) :
    Calls Tryd.prog 20 #[.string ⟨l.toArray⟩, v] w fun e w' => TakeOk8 (tkI adds l) w e w' := by
  have hz : 0 < w.heap.size := lt_of_cell hg.c0
  have hba : Below w.heap.size w (w.alloc (.cells #[.string ⟨#[]⟩] 9)) := (Below.refl _ _).alloc (Nat.le_refl _) _
  have hsa : (w.alloc (.cells #[.string ⟨#[]⟩] 9)).heap.size = w.heap.size + 1 := by simp
  have HK : Hid (_ : Prop) := takeList_t w.heap.size [] l v adds (w.alloc (.cells #[.string ⟨#[]⟩] 9)) (hg.below hba) (hp_new rfl) hz (fun w' h => hv.below (hba.trans (h.below (Nat.le_refl _) (by rw [hsa]; omega)))) hal hl
  have HBA : Hid (Below _ _ _ ∧ _) := ⟨hba, hsa⟩
  clear hg hv hal hl hz hba hsa
  cases hx : tkI adds l with
  | error er =>
    rw [hx] at HK
    clear hx
    go_enter Tryd.func20, Tryd.ntmps20
    go_wp2_with fail
    refine Calls.mono HK.out ?_
    rintro e w1 ⟨hb1, rfl, her, y, hs1⟩
    have c0 : w1.cell? ⟨w.heap.size, 0, none⟩ = some (.string ⟨y.toArray⟩) := cl_row (i := 0) hs1 rfl
    have z0 : w1.frozen? ⟨w.heap.size, 0, none⟩ = false := fz_row (i := 0) hs1
    have HB1 : Hid (Below w.heap.size w w1) := HBA.out.1.trans (hb1.below (Nat.le_refl _) (by rw [HBA.out.2]; omega))
    have c1 := World.cell?_setCell_same w1 ⟨w.heap.size, 0, none⟩ (.string ⟨#[]⟩) c0
    clear hb1 hs1 HK HBA
    rcases her with rfl | rfl
    · go_wp2
      exact bodyPost_ret (v := .tuple #[.int .i64 0, .string ⟨#[]⟩, .slice none 0 0, .int .i64 4]) (by simp [results, Tryd.results20, go_sem, c1]) rfl ⟨HB1.out.setCell (Nat.le_refl _) _, rfl⟩
    · go_wp2
      exact bodyPost_ret (v := .tuple #[.int .i64 0, .string ⟨#[]⟩, .slice none 0 0, .int .i64 5]) (by simp [results, Tryd.results20, go_sem, c1]) rfl ⟨HB1.out.setCell (Nat.le_refl _) _, rfl⟩
  | ok r =>
    obtain ⟨f, nx, R⟩ := r
    rw [hx] at HK
    clear hx
    go_enter Tryd.func20, Tryd.ntmps20
    go_wp2_with fail
    refine Calls.mono HK.out ?_
    rintro e w1 ⟨hb1, v1, rfl, ho1, hs1⟩
    have c0 : w1.cell? ⟨w.heap.size, 0, none⟩ = some (.string ⟨nx.toArray⟩) := cl_row (i := 0) hs1 rfl
    have z0 : w1.frozen? ⟨w.heap.size, 0, none⟩ = false := fz_row (i := 0) hs1
    have HB1 : Hid (Below w.heap.size w w1) := HBA.out.1.trans (hb1.below (Nat.le_refl _) (by rw [HBA.out.2]; omega))
    have HO1 : Hid (OwnN w1 (w.heap.size + 1) v1 R) := by unfold Hid; rw [HBA.out.2] at ho1; exact ho1
    clear hb1 hs1 HK HBA ho1
    have c1 := World.cell?_setCell_same w1 ⟨w.heap.size, 0, none⟩ (.string ⟨nx.toArray⟩) c0
    go_wp2_with fail
    go_region
    go_wp2
    refine bodyPost_ret (v := .tuple #[.int .i64 f, .string ⟨nx.toArray⟩, v1, .int .i64 0]) (by simp [results, Tryd.results20, go_sem, c1]) rfl ⟨?_, v1, rfl, ?_⟩
    · exact below_drewN (HB1.out.setCell (Nat.le_refl _) _) 1
    · have h := owns_heap' (w' := w1.setCell ⟨w.heap.size, 0, none⟩ (.string ⟨nx.toArray⟩)) HO1.out (fun g hg => Below.heap_setCell w1 ⟨w.heap.size, 0, none⟩ _ g (by have := (owns_lt HO1.out g hg).1; simp; omega))
      exact owns_mono (owns_heap' (w' := (w1.setCell ⟨w.heap.size, 0, none⟩ (.string ⟨nx.toArray⟩)).drew) h (fun g _ => rfl)) (by omega)
end Go.Proofs.YtjliopclpjeieaaDoor
