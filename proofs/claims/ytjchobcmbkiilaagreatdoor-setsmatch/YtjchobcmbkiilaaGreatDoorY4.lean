/-
  An AtomMany; the closure as a whole; Match.
-/
import Derived.Test.YtjchobcmbkiilaaGreatDoorY3A
import Derived.Test.YtjchobcmbkiilaaGreatDoorY3B
import Derived.Test.YtjchobcmbkiilaaGreatDoorY3C
set_option linter.unusedVariables false
set_option linter.unusedSimpArgs false
set_option maxRecDepth 100000
namespace Go.Proofs.YtjchobcmbkiilaaGreatDoor
open Go.RowKit
/-- From which place on nothing is to be tried. -/
def endOf (L : List Nat) (o : Option Nat) : Nat := o.getD (L.length + 1)
/-- What is known at a round of the loop. -/
structure LpR (w wr : World) (pb lb fb mb b : Nat) (vp vl : Value) (p : List Atm) (L : List Nat) (i k j : Nat) : Prop where
  m : FrM wr pb lb fb mb b vp vl p L
  b : Bst b w wr
  lo : k ≤ j
  no : ∀ q, k ≤ q → q < j → mt (p.drop (i + 1)) (L.drop q) = false
set_option maxHeartbeats 4000000 in
theorem from_many {pb lb fb mb b : Nat} {vp vl : Value} {p : List Atm} {L : List Nat} {i k : Nat} (hi : i < p.length) (h3 : p[i].1 = 3) (hk : k ≤ L.length) (hpl : p.length ≤ 1000) (hL : L.length ≤ 1000000000000)
    (ih : FrI pb lb fb mb b vp vl p L (i + 1)) (w : World) (h : FrM w pb lb fb mb b vp vl p L) :
    Calls Tryz.prog 78 #[.int .i64 (i : Int), .int .i64 (k : Int), .pointer (some ⟨pb, 0, none⟩), .pointer (some ⟨lb, 0, none⟩), .pointer (some ⟨fb, 0, none⟩), .pointer (some ⟨mb, 0, none⟩)] w (FrOk pb lb fb mb b vp vl p L w (mt (p.drop i) (L.drop k))) := by
  have HW : Hid (FrM w pb lb fb mb b vp vl p L) := h
  have HI : Hid (FrI pb lb fb mb b vp vl p L (i + 1)) := ih
  have HM : Hid (mt (p.drop i) (L.drop k) = true ↔ ∃ j, k ≤ j ∧ j ≤ L.length ∧ mt (p.drop (i + 1)) (L.drop j) = true) := by
    unfold Hid
    rw [List.drop_eq_getElem_cons hi]
    exact mt_many_at h3 _ _ _ hk
  have H3 : Hid (p[i].1 = 3) := h3
  generalize mt (p.drop i) (L.drop k) = r at *
  have HA := h.at'
  obtain ⟨f, hf, hmp⟩ := h.memo
  obtain ⟨ad, ab, ao, cap, rfl, had, hcap, hrow⟩ := HA.ap
  obtain rfl : ad = some ⟨ab, ao, none⟩ := by
    rcases had with e | e
    · exact e
    · omega
  obtain ⟨ad2, cap2, rfl⟩ := HA.al.len
  have cp := HA.cp
  have cl := HA.cl
  have cm := HA.cm
  have c0 := (hrow i hi).1
  rw [h3] at c0
  have hlook := hmp.look i (by omega)
  have HE : Hid (∀ j, endOf L (f i) ≤ j → j ≤ L.length → mt (p.drop (i + 1)) (L.drop j) = false) := by
    intro j h1 h2
    cases e : f i with
    | none => rw [e] at h1; unfold endOf at h1; simp at h1; omega
    | some x =>
      rw [e] at h1
      obtain ⟨_, _, _, h4⟩ := hf i x e
      exact h4 j h1 h2
  have HEL : Hid (endOf L (f i) ≤ L.length + 1) := by
    unfold Hid
    cases e : f i with
    | none => exact Nat.le_refl _
    | some x => have := (hf i x e).1; unfold endOf; simp; omega
  have hi0 : ((i : Int) == (p.length : Int)) = false := by rw [beq_eq_false_iff_ne]; omega
  have hEN : (f i).isSome = true → endOf L (f i) = (f i).getD 0 := by
    cases f i <;> simp [endOf]
  have hEN2 : (f i).isSome = false → endOf L (f i) = L.length + 1 := by
    cases f i <;> simp [endOf]
  generalize endOf L (f i) = E at *
  generalize (f i).isSome = z at *
  generalize (f i).getD 0 = u at *
  have hE := HEL.out
  clear ih h HA hrow had h3 hf hmp
  cases z with
  | true =>
    obtain rfl := hEN rfl
    clear hEN hEN2
    go_enter Tryz.func78, Tryz.ntmps78
    go_wp2
    go_loopw [11] (fun x wr => ∃ (j : Nat), x = .int .i64 j ∧ j ≤ L.length + 1 ∧ LpR w wr pb lb fb mb b (.slice (some ⟨ab, ao, none⟩) p.length cap) (.slice ad2 L.length cap2) p L i k j ∧ (j ≤ E ∨ j = k)) (fun x _ => L.length + 1 - (intOf x).toNat)
    case atStart => exact ⟨k, rfl, by omega, ⟨HW.out, Bst.refl HW.out.isMap, Nat.le_refl _, fun q h1 h2 => by omega⟩, Or.inr rfl⟩
    case round =>
      obtain ⟨j, rfl, hj, hR, hjE⟩ := hrel
      have HR : Hid (LpR _ _ _ _ _ _ _ _ _ _ _ _ _ _) := hR
      clear hR
      by_cases hlt : j < E
      · have hjL : j ≤ L.length := by omega
        have hcf := HR.out.m.at'.cf
        have hw1 : IntKind.i64.wrap ((i : Int) + 1) = ((i + 1 : Nat) : Int) := by rw [IntKind.wrap_i64]; omega
        have HK : Hid (_ : Prop) := HI.out j hjL wr HR.out.m
        have HQ : Hid (∀ v, mt (p.drop (i + 1)) (L.drop j) = v → _ = v) := fun v (h : mt (p.drop (i + 1)) (L.drop j) = v) => h
        cases hz : mt (p.drop (i + 1)) (L.drop j) with
        | true =>
          rw [hz] at HK
          go_wp2_with (go_at_call 78; refine Calls.mono HK.out ?_; rintro e w2 ⟨rfl, hm2, hb2⟩)
          go_ret
          exact ⟨ret_bool (HM.out.2 ⟨j, HR.out.lo, hjL, hz⟩).symm, hm2, HR.out.b.trans hb2⟩
        | false =>
          rw [hz] at HK
          go_wp2_with (go_at_call 78; refine Calls.mono HK.out ?_; rintro e w2 ⟨rfl, hm2, hb2⟩)
          go_roundw
          case rel => exact ⟨j + 1, by go_num, by omega, ⟨hm2, HR.out.b.trans hb2, by have := HR.out.lo; omega, fun q h1 h2 => by
            by_cases e : q = j
            · rw [e]; exact hz
            · exact HR.out.no q h1 (by omega)⟩, Or.inl (by omega)⟩
          case measure => simp [intOf]; omega
      · have HN : Hid (∀ q, min k E ≤ q → q ≤ L.length → mt (p.drop (i + 1)) (L.drop q) = false) := by
          intro q h1 h2
          by_cases e : E ≤ q
          · exact HE.out q e h2
          · exact HR.out.no q (by omega) (by omega)
        have HF : Hid (r = false) := by
          unfold Hid
          cases hr : r with
          | false => rfl
          | true =>
            rw [hr] at HM
            obtain ⟨q, h1, h2, h4⟩ := HM.out.1 rfl
            rw [HN.out q (by omega) h2] at h4
            cases h4
        have hcm := HR.out.m.at'.cm
        obtain ⟨f2, hf2, hmp2⟩ := HR.out.m.memo
        have hmin : min k E ≤ L.length := by omega
        obtain ⟨w2, hput, hmp3, hb2⟩ := hmp2.put i (min k E) hi hpl (by omega)
        have HFm : Hid (FrM w2 pb lb fb mb b (.slice (some ⟨ab, ao, none⟩) p.length cap) (.slice ad2 L.length cap2) p L) := ⟨HR.out.m.at'.bst hb2, _, hf2.upd hi H3.out hmin HN.out, hmp3⟩
        have HBm : Hid (Bst b w w2) := HR.out.b.trans hb2
        clear hmp2 hmp3 hf2 hb2 HI HN HE
        by_cases hke : k ≤ E
        · have hmk : min k E = k := by omega
          rw [hmk] at hput
          have hke' : (k : Int) ≤ (E : Int) := by omega
          go_wp2
          go_ret
          exact ⟨ret_bool HF.out.symm, HFm.out, HBm.out⟩
        · have hmk : min k E = E := by omega
          rw [hmk] at hput
          have hke' : ¬ (k : Int) ≤ (E : Int) := by omega
          go_wp2
          go_ret
          exact ⟨ret_bool HF.out.symm, HFm.out, HBm.out⟩
  | false =>
    obtain rfl := hEN2 rfl
    clear hEN hEN2
    have hwL : IntKind.i64.wrap ((L.length : Int) + 1) = ((L.length + 1 : Nat) : Int) := by rw [IntKind.wrap_i64]; omega
    go_enter Tryz.func78, Tryz.ntmps78
    go_wp2
    go_loopw [11] (fun x wr => ∃ (j : Nat), x = .int .i64 j ∧ j ≤ L.length + 1 ∧ LpR w wr pb lb fb mb b (.slice (some ⟨ab, ao, none⟩) p.length cap) (.slice ad2 L.length cap2) p L i k j ∧ (j ≤ (L.length + 1) ∨ j = k)) (fun x _ => L.length + 1 - (intOf x).toNat)
    case atStart => exact ⟨k, rfl, by omega, ⟨HW.out, Bst.refl HW.out.isMap, Nat.le_refl _, fun q h1 h2 => by omega⟩, Or.inr rfl⟩
    case round =>
      obtain ⟨j, rfl, hj, hR, hjE⟩ := hrel
      have HR : Hid (LpR _ _ _ _ _ _ _ _ _ _ _ _ _ _) := hR
      clear hR
      by_cases hlt : j < (L.length + 1)
      · have hjL : j ≤ L.length := by omega
        have hcf := HR.out.m.at'.cf
        have hw1 : IntKind.i64.wrap ((i : Int) + 1) = ((i + 1 : Nat) : Int) := by rw [IntKind.wrap_i64]; omega
        have HK : Hid (_ : Prop) := HI.out j hjL wr HR.out.m
        have HQ : Hid (∀ v, mt (p.drop (i + 1)) (L.drop j) = v → _ = v) := fun v (h : mt (p.drop (i + 1)) (L.drop j) = v) => h
        cases hz : mt (p.drop (i + 1)) (L.drop j) with
        | true =>
          rw [hz] at HK
          go_wp2_with (go_at_call 78; refine Calls.mono HK.out ?_; rintro e w2 ⟨rfl, hm2, hb2⟩)
          go_ret
          exact ⟨ret_bool (HM.out.2 ⟨j, HR.out.lo, hjL, hz⟩).symm, hm2, HR.out.b.trans hb2⟩
        | false =>
          rw [hz] at HK
          go_wp2_with (go_at_call 78; refine Calls.mono HK.out ?_; rintro e w2 ⟨rfl, hm2, hb2⟩)
          go_roundw
          case rel => exact ⟨j + 1, by go_num, by omega, ⟨hm2, HR.out.b.trans hb2, by have := HR.out.lo; omega, fun q h1 h2 => by
            by_cases e : q = j
            · rw [e]; exact hz
            · exact HR.out.no q h1 (by omega)⟩, Or.inl (by omega)⟩
          case measure => simp [intOf]; omega
      · have HN : Hid (∀ q, min k (L.length + 1) ≤ q → q ≤ L.length → mt (p.drop (i + 1)) (L.drop q) = false) := by
          intro q h1 h2
          by_cases e : (L.length + 1) ≤ q
          · exact HE.out q e h2
          · exact HR.out.no q (by omega) (by omega)
        have HF : Hid (r = false) := by
          unfold Hid
          cases hr : r with
          | false => rfl
          | true =>
            rw [hr] at HM
            obtain ⟨q, h1, h2, h4⟩ := HM.out.1 rfl
            rw [HN.out q (by omega) h2] at h4
            cases h4
        have hcm := HR.out.m.at'.cm
        obtain ⟨f2, hf2, hmp2⟩ := HR.out.m.memo
        have hmin : min k (L.length + 1) ≤ L.length := by omega
        obtain ⟨w2, hput, hmp3, hb2⟩ := hmp2.put i (min k (L.length + 1)) hi hpl (by omega)
        have HFm : Hid (FrM w2 pb lb fb mb b (.slice (some ⟨ab, ao, none⟩) p.length cap) (.slice ad2 L.length cap2) p L) := ⟨HR.out.m.at'.bst hb2, _, hf2.upd hi H3.out hmin HN.out, hmp3⟩
        have HBm : Hid (Bst b w w2) := HR.out.b.trans hb2
        clear hmp2 hmp3 hf2 hb2 HI HN HE
        by_cases hke : k ≤ (L.length + 1)
        · have hmk : min k (L.length + 1) = k := by omega
          rw [hmk] at hput
          have hke' : (k : Int) ≤ ((L.length + 1 : Nat) : Int) := by omega
          go_wp2
          go_ret
          exact ⟨ret_bool HF.out.symm, HFm.out, HBm.out⟩
        · have hmk : min k (L.length + 1) = (L.length + 1) := by omega
          rw [hmk] at hput
          have hke' : ¬ (k : Int) ≤ ((L.length + 1 : Nat) : Int) := by omega
          exfalso; omega
theorem from_any {pb lb fb mb b : Nat} {vp vl : Value} {p : List Atm} {L : List Nat} (hpl : p.length ≤ 1000) (hL : L.length ≤ 1000000000000) :
    ∀ n i, i + n = p.length → FrI pb lb fb mb b vp vl p L i
  | 0, i, h => by
    obtain rfl : i = p.length := by omega
    exact from_end
  | n + 1, i, h => by
    have ih := from_any (pb := pb) (lb := lb) (fb := fb) (mb := mb) (b := b) (vp := vp) (vl := vl) hpl hL n (i + 1) (by omega)
    have hi : i < p.length := by omega
    intro k hk w hw
    by_cases h3 : p[i].1 = 3
    · exact from_many hi h3 hk hpl hL ih w hw
    · have e0 : p.drop i = p[i] :: p.drop (i + 1) := List.drop_eq_getElem_cons hi
      by_cases e : k = L.length
      · have er : mt (p.drop i) (L.drop k) = false := by rw [e0]; exact mt_one_end h3 _ _ _ (by omega)
        rw [er]
        exact from_oneA hi h3 e hpl hL ih w hw
      · have hlt : k < L.length := by omega
        have er : mt (p.drop i) (L.drop k) = (oneA p[i] L[k] && mt (p.drop (i + 1)) (L.drop (k + 1))) := by rw [e0]; exact mt_one_at h3 _ _ _ hlt
        rw [er]
        cases ho : oneA p[i] L[k] with
        | true => exact from_oneC hi h3 hlt ho hpl hL ih w hw
        | false => exact from_oneB hi h3 hlt ho hpl hL ih w hw
end Go.Proofs.YtjchobcmbkiilaaGreatDoor
