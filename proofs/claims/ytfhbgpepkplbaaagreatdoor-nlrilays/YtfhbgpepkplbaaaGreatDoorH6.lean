/-
  The reference's Encode.
-/
import Derived.Test.YtfhbgpepkplbaaaGreatDoorH4
import Derived.Test.YtfhbgpepkplbaaaGreatDoorPW
import Derived.Lib.AppendStr
import Derived.Lib.BufferRead
namespace Go.Proofs.YtfhbgpepkplbaaaGreatDoor
open Go.RowKit
def bcells (l : List UInt8) : List Value := l.map fun b => Value.int .u8 (b.toNat : Int)
theorem bcells_app (a b : List UInt8) : bcells (a ++ b) = bcells a ++ bcells b := by simp [bcells]
theorem enc_str (l : List UInt8) : Go.Lib.strCells ⟨l.toArray⟩ = bcells l := rfl
/-- What is owned is turned into its text. -/
theorem back_owned {w : World} {base : Nat} {v : Value} (l : List UInt8) (h : w.ownsRow base 5 1 v l.length (bcells l)) :
    (convert 60 9 v).run Tryz.prog w = .ok (.string ⟨l.toArray⟩) w := by
  by_cases h0 : l.length = 0
  · obtain rfl : l = [] := List.length_eq_zero_iff.mp h0
    rcases h.2 with ⟨rfl, _⟩ | ⟨g, cap, cur, rfl, hg, hh, r⟩
    · exact Go.Lib.run_convert_nil_bytes (P := Tryz.prog) w 60 9 5 0 Tryz.underlying60 Tryz.underlying5 Tryz.underlying9
    · exact run_convert_bytes_back (P := Tryz.prog) w 60 9 5 ⟨g, 0, none⟩ cap [] Tryz.underlying60 Tryz.underlying5 Tryz.underlying9 (fun j hj => by simp at hj)
  · obtain ⟨g, cap, rfl, hc⟩ := owned_bytes l h0 h
    exact run_convert_bytes_back (P := Tryz.prog) w 60 9 5 ⟨g, 0, none⟩ cap l Tryz.underlying60 Tryz.underlying5 Tryz.underlying9 hc
set_option maxRecDepth 100000 in
theorem rencode_arg (fam : Int) (add : Bool) (v : Value) (w : World) (hz : szOf fam = 0) :
    Calls Tryz.prog 16 #[v, .int .i64 fam, .bool add] w fun e w' => e = .returned (.tuple #[.string ⟨#[]⟩, .int .i64 2]) ∧ w' = w := by
  have K : Hid (Calls Tryz.prog 37 #[.int .i64 fam] w fun e w' => e = .returned (.int .i64 0) ∧ w' = w) := by unfold Hid; rw [← hz]; exact refsize_any fam w
  clear hz
  go_enter Tryz.func16, Tryz.ntmps16
  go_wp2_with fail
  refine Calls.mono K.out ?_
  rintro e w1 ⟨rfl, rfl⟩
  go_wp2
  go_ret2
  exact ⟨rfl, rfl⟩
set_option maxRecDepth 100000 in
set_option maxHeartbeats 6400000 in
theorem rencode_any (fam : Int) (add : Bool) (v : Value) (R : List Nl) (w : World) (hz : szOf fam ≠ 0) (hv : NlsAt w v R) (hwf : ∀ n ∈ R, NlWf n) (hlen : R.length ≤ 30000) :
    Calls Tryz.prog 16 #[v, .int .i64 fam, .bool add] w fun e w' => e = encAns fam add R ∧ Below w.heap.size w w' := by
  obtain ⟨ad, b, off, cap, rfl, had, hcap, hrow⟩ := hv
  obtain ⟨i0, hi, hz0, hz1, hz2⟩ := info_parts infoB5
  have HI : Hid (Tryz.prog.info? 5 = some i0 ∧ _ ∧ _ ∧ _) := ⟨hi, hz0, hz1, hz2⟩
  have HR : Hid (RowN _ _ _ _) := hrow
  have hz' : (szOf fam == 0) = false := by simpa using hz
  have HWF : Hid (∀ n ∈ R, NlWf n) := hwf
  clear hz hrow hwf hi hz0 hz1 hz2
  go_enter Tryz.func16, Tryz.ntmps16
  go_wp2_with fail
  refine (refsize_any fam _).mono ?_
  rintro e w0 ⟨rfl, hw0⟩
  obtain rfl : w = w0 := hw0.symm
  clear hw0
  go_wp2
  go_loopw [8, 9] (fun v i wr => ∃ n : Nat, n ≤ R.length ∧ i = .int .i64 n ∧ wr.ownsRow w.heap.size 5 1 v (encL add (R.take n)).length (bcells (encL add (R.take n))) ∧ Below w.heap.size w wr ∧ (R.take n).all (okE fam add) = true) (fun _ i _ => R.length - (intOf i).toNat)
  case atStart => exact ⟨0, Nat.zero_le _, rfl, World.ownsRow_nil _ _ _ _, Below.refl _ _, rfl⟩
  case round =>
    obtain ⟨n, hn, rfl, hown, hb, hall⟩ := hrel
    have HB : Hid (Below _ _ _) := hb
    have HALL : Hid (_ = true) := hall
    have HOWN : Hid (_ : Prop) := hown
    clear hall
    by_cases hlt : n < R.length
    · obtain rfl : ad = some ⟨b, off, none⟩ := by rcases had with h | h; exact h; omega
      obtain ⟨c0, c1, c2, c3, c4, c5⟩ := (HR.out.below hb) n hlt
      have hwf := HWF.out R[n] (List.getElem_mem hlt)
      have HX : Hid (encL add (R.take (n + 1)) = encL add (R.take n) ++ R[n].enc add) := by unfold Hid; rw [take_snoc R n hlt, encL_snoc]
      have HAL : Hid ((R.take (n + 1)).all (okE fam add) = okE fam add R[n]) := by
        unfold Hid; rw [take_snoc R n hlt, List.all_append, HALL.out]; simp
      have HNO : Hid (okE fam add R[n] = false → encAns fam add R = .returned (.tuple #[.string ⟨#[]⟩, .int .i64 2])) := fun h => by
        unfold encAns
        rw [if_neg]
        intro ha
        rw [List.all_eq_true] at ha
        have := ha _ (List.getElem_mem hlt)
        rw [h] at this
        exact absurd this (by decide)
      have HEL : Hid ((encL add (R.take n)).length ≤ 1000000) := by
        unfold Hid
        have h1 := encL_len add (R.take n) fun m hm => by
          have := List.all_eq_true.mp HALL.out m hm
          exact ((okE_iff fam add m).1 this).1
        have h2 : (R.take n).length ≤ 30000 := by simp; omega
        omega
      have HOKE : Hid (okE fam add R[n] = true ↔ _) := okE_iff fam add R[n]
      have HEN : Hid (nchk R[n].f R[n].r R[n].s R[n].l R[n].lb = 0 → (R[n].enc add).length ≤ 32) := enc_len R[n] add
      unfold Nl.enc at HX HEN
      generalize encL add (R.take n) = E at *
      generalize R[n] = m at *
      clear hb had
      obtain ⟨mf, mr, ms, ml, mid, mlb⟩ := m
      obtain ⟨wr0, wr1, wi0, wi1, wb0, wb1, wz⟩ := hwf
      simp only at c0 c1 c2 c3 c4 c5 HX HAL HNO HOKE wr0 wr1 wi0 wi1 wb0 wb1 wz HEN
      have KM : Hid (∀ w, _) := fun w => rmay_any mf mr ms ml mid mlb w wz
      by_cases k0 : nchk mf mr ms ml mlb = 0
      · rw [k0] at KM
        simp only [decide_true] at KM
        have HE32 := HEN.out k0
        obtain ⟨kc, kl, _⟩ := nchk_zero k0
        obtain ⟨_, ks, kl0, kl1, _, _⟩ := chk_zero kc
        have hsb := szOf_bd mf
        by_cases k1 : mf = fam
        · by_cases k2 : mid = 0 ∨ add = true
          · have hokt : okE fam add ⟨mf, mr, ms, ml, mid, mlb⟩ = true := HOKE.out.2 ⟨k0, k1, k2⟩
            have HT : Hid ((R.take (n + 1)).all (okE fam add) = true) := by unfold Hid; rw [HAL.out]; exact hokt
            have HC : Hid (((decide (mid > 0)) && !add) = false) := by unfold Hid; rcases k2 with h | h <;> simp [h]
            subst k1
            obtain ⟨mr, rfl⟩ := Int.eq_ofNat_of_zero_le wr0
            obtain ⟨mid, rfl⟩ := Int.eq_ofNat_of_zero_le wi0
            obtain ⟨mlb, rfl⟩ := Int.eq_ofNat_of_zero_le wb0
            obtain ⟨ml, rfl⟩ := Int.eq_ofNat_of_zero_le kl0
            simp only [Int.toNat_natCast] at *
            have KO : Hid (∀ w, _) := fun w => one_any mf add mr ms ml mid mlb w (by omega) (by omega) (by omega) (by omega) (by omega)
            clear HAL HNO HOKE HEN k0 kc kl ks kl0 kl1 hsb hokt wr0 wr1 wi0 wi1 wb0 wb1 wz HALL
            generalize nlE mf add mr ms ml mid mlb = N at *
            have hmd : mid = 0 ∨ (mid ≠ 0 ∧ add = true) := by
              by_cases h : mid = 0
              · exact Or.inl h
              · exact Or.inr ⟨h, by rcases k2 with h' | h'; exact absurd (by omega) h; exact h'⟩
            clear k2 HC
            rcases hmd with rfl | ⟨hm0, rfl⟩
            · go_wp2_with fail
              refine Calls.mono (KM.out _) ?_
              rintro e w3 ⟨rfl, hb3⟩
              have d0 := below_cell hb3 c0
              have d1 := below_cell hb3 c1
              have d2 := below_cell hb3 c2
              have d3 := below_cell hb3 c3
              have d4 := below_cell hb3 c4
              have d5 := below_cell hb3 c5
              have HB3 : Hid (Below w.heap.size w w3) := HB.out.trans (hb3.mono HB.out.size)
              have HO3 : Hid (_ : Prop) := owns_below HOWN.out hb3
              clear hb3 c0 c1 c2 c3 c4 c5 KM HB HOWN hown
              go_wp2_with fail
              refine Calls.mono (KO.out _) ?_
              rintro e w4 ⟨rfl, hb4⟩
              have HB4 : Hid (Below w.heap.size w w4) := HB3.out.trans (hb4.mono HB3.out.size)
              have HO4 : Hid (_ : Prop) := owns_below HO3.out hb4
              clear hb4 d0 d1 d2 d3 d4 d5 HB3 HO3 KO
              have hsN : (ByteArray.mk N.toArray).size = N.length := list_size N
              go_wp2_with (at_builtin; refine Go.Lib.wpList_append_own_string _ rfl _ _ 60 9 rfl w.heap.size 5 i0 Tryz.underlying60 Tryz.underlying9 HI.out.1 HI.out.2.1 HI.out.2.2.1 HI.out.2.2.2 _ _ _ rfl HO4.out ⟨N.toArray⟩ rfl (by have := HEL.out; rw [hsN]; unfold maxLen; omega) (by have := HEL.out; rw [hsN]; omega) HB4.out.size ?_; intro v5 w5 ho5 hg5 _)
              have hb5 : Below w.heap.size w w5 := HB4.out.grown hg5 HB4.out.size (fun j e => (owns_lt HO4.out j e).1)
              rw [hsN, enc_str, ← bcells_app, ← List.length_append] at ho5
              have HO5 : Hid (_ : Prop) := ho5
              have HB5 : Hid (_ : Prop) := hb5
              clear ho5 hb5 hg5 HO4 HB4
              go_wp2
              go_roundw
              case rel => exact ⟨n + 1, by omega, by go_num, by rw [HX.out]; exact HO5.out, HB5.out, HT.out⟩
              case measure => simp [Go.RowKit.intOf]; omega
            · have hm1 : (0 : Int) < (mid : Int) := by omega
              go_wp2_with fail
              refine Calls.mono (KM.out _) ?_
              rintro e w3 ⟨rfl, hb3⟩
              have d0 := below_cell hb3 c0
              have d1 := below_cell hb3 c1
              have d2 := below_cell hb3 c2
              have d3 := below_cell hb3 c3
              have d4 := below_cell hb3 c4
              have d5 := below_cell hb3 c5
              have HB3 : Hid (Below w.heap.size w w3) := HB.out.trans (hb3.mono HB.out.size)
              have HO3 : Hid (_ : Prop) := owns_below HOWN.out hb3
              clear hb3 c0 c1 c2 c3 c4 c5 KM HB HOWN hown
              go_wp2_with fail
              refine Calls.mono (KO.out _) ?_
              rintro e w4 ⟨rfl, hb4⟩
              have HB4 : Hid (Below w.heap.size w w4) := HB3.out.trans (hb4.mono HB3.out.size)
              have HO4 : Hid (_ : Prop) := owns_below HO3.out hb4
              clear hb4 d0 d1 d2 d3 d4 d5 HB3 HO3 KO
              have hsN : (ByteArray.mk N.toArray).size = N.length := list_size N
              go_wp2_with (at_builtin; refine Go.Lib.wpList_append_own_string _ rfl _ _ 60 9 rfl w.heap.size 5 i0 Tryz.underlying60 Tryz.underlying9 HI.out.1 HI.out.2.1 HI.out.2.2.1 HI.out.2.2.2 _ _ _ rfl HO4.out ⟨N.toArray⟩ rfl (by have := HEL.out; rw [hsN]; unfold maxLen; omega) (by have := HEL.out; rw [hsN]; omega) HB4.out.size ?_; intro v5 w5 ho5 hg5 _)
              have hb5 : Below w.heap.size w w5 := HB4.out.grown hg5 HB4.out.size (fun j e => (owns_lt HO4.out j e).1)
              rw [hsN, enc_str, ← bcells_app, ← List.length_append] at ho5
              have HO5 : Hid (_ : Prop) := ho5
              have HB5 : Hid (_ : Prop) := hb5
              clear ho5 hb5 hg5 HO4 HB4
              go_wp2
              go_roundw
              case rel => exact ⟨n + 1, by omega, by go_num, by rw [HX.out]; exact HO5.out, HB5.out, HT.out⟩
              case measure => simp [Go.RowKit.intOf]; omega
          · obtain ⟨k3, k4⟩ : mid ≠ 0 ∧ add = false := ⟨fun h => k2 (Or.inl h), by cases h : add; rfl; exact absurd (Or.inr h) k2⟩
            have k3' : (0 : Int) < mid := by omega
            have HN : Hid (_ = _) := HNO.out (by cases h : okE fam add ⟨mf, mr, ms, ml, mid, mlb⟩ with
              | true => exact absurd (HOKE.out.1 h).2.2 k2
              | false => rfl)
            clear HX HAL HNO HOKE HEN k0 HOWN hown kc kl ks kl0 kl1 hsb HE32
            subst k1
            subst k4
            go_wp2_with fail
            refine Calls.mono (KM.out _) ?_
            rintro e w3 ⟨rfl, hb3⟩
            have d0 := below_cell hb3 c0
            have d4 := below_cell hb3 c4
            have HB3 : Hid (Below w.heap.size w w3) := HB.out.trans (hb3.mono HB.out.size)
            clear hb3 c0 c1 c2 c3 c4 c5 KM
            go_wp2
            go_ret2
            exact ⟨HN.out.symm, HB3.out⟩
        · have k1' : (mf == fam) = false := by simpa using k1
          have HN : Hid (_ = _) := HNO.out (by cases h : okE fam add ⟨mf, mr, ms, ml, mid, mlb⟩ with
            | true => exact absurd (HOKE.out.1 h).2.1 k1
            | false => rfl)
          clear HX HAL HNO HOKE HEN k0 HOWN hown kc kl ks kl0 kl1 hsb HE32
          go_wp2_with fail
          refine Calls.mono (KM.out _) ?_
          rintro e w3 ⟨rfl, hb3⟩
          have d0 := below_cell hb3 c0
          have d4 := below_cell hb3 c4
          have HB3 : Hid (Below w.heap.size w w3) := HB.out.trans (hb3.mono HB.out.size)
          clear hb3 c0 c1 c2 c3 c4 c5 KM
          go_wp2
          go_ret2
          exact ⟨HN.out.symm, HB3.out⟩
      · have HN : Hid (_ = _) := HNO.out (by cases h : okE fam add ⟨mf, mr, ms, ml, mid, mlb⟩ with
          | true => exact absurd (HOKE.out.1 h).1 k0
          | false => rfl)
        simp only [k0, decide_false] at KM
        clear HX HAL HNO HOKE HEN k0 HOWN hown
        go_wp2_with fail
        refine Calls.mono (KM.out _) ?_
        rintro e w3 ⟨rfl, hb3⟩
        have HB3 : Hid (Below w.heap.size w w3) := HB.out.trans (hb3.mono HB.out.size)
        clear hb3 c0 c1 c2 c3 c4 c5 KM
        go_wp2
        go_ret2
        exact ⟨HN.out.symm, HB3.out⟩
    · obtain rfl : n = R.length := by omega
      have HN : Hid (encAns fam add R = .returned (.tuple #[.string ⟨(encL add R).toArray⟩, .int .i64 0])) := by
        unfold Hid encAns; have := HALL.out; rw [List.take_length] at this; rw [if_pos this]
      rw [List.take_length] at HOWN
      have hcv := back_owned _ HOWN.out
      clear hown hb had HALL HOWN
      generalize encL add R = E at *
      go_wp2
      go_ret2
      exact ⟨HN.out.symm, HB.out⟩
end Go.Proofs.YtfhbgpepkplbaaaGreatDoor
