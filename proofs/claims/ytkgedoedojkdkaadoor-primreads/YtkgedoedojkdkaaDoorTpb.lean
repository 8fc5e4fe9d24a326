/-
  The program's Parse of every text.
-/
import Derived.Test.YtkgedoedojkdkaaDoorTpM
set_option linter.unusedVariables false
set_option linter.unusedSimpArgs false
set_option maxRecDepth 100000
namespace Go.Proofs.YtkgedoedojkdkaaDoor
open Go.RowKit
/-- What lies in memory while a prefix is read. -/
structure PrW (w wr : World) : Prop where
  r : PfxAt wr w.heap.size 0 0 ⟨#[]⟩ 0
  e : EnvE wr
  b : Below w.heap.size w wr
theorem PrW.next {w wr w' : World} (h : PrW w wr) (hb : Below wr.heap.size wr w') : PrW w w' := ⟨h.r.kept hb (lt_of_cell h.r.c0), h.e.below hb, h.b.trans (hb.mono h.b.size)⟩
theorem PrW.start {w : World} (h : EnvE w) : PrW w (w.alloc (.cells #[.int .i64 0, .int .u64 0, .string ⟨#[]⟩, .int .i64 0] 24)) :=
  ⟨PfxAt.of_alloc w _ 0 0 ⟨#[]⟩ 0 rfl, h.below ((Below.refl _ _).alloc (Nat.le_refl _) _), (Below.refl _ _).alloc (Nat.le_refl _) _⟩
theorem set4 {w wr : World} (h : Below w.heap.size w wr) (a b c d : Value) : Below w.heap.size w ((((wr.setCell ⟨w.heap.size, 0, none⟩ a).setCell ⟨w.heap.size, 1, none⟩ b).setCell ⟨w.heap.size, 2, none⟩ c).setCell ⟨w.heap.size, 3, none⟩ d) :=
  (((h.setCell (by simp) _).setCell (by simp) _).setCell (by simp) _).setCell (by simp) _
set_option maxHeartbeats 4000000 in
theorem prefix_any (l : List UInt8) (hl : l.length < 140737488351233) (w : World) (hE : EnvE w) :
    Calls Tryd.prog 47 #[.string ⟨l.toArray⟩] w fun e w' => RpA l e ∧ Below w.heap.size w w' := by
  have HC : Hid (∀ (x : List UInt8) (c : UInt8), x.length < 140737488351233 → ∀ W, EnvE W → _) := fun x c hx W h => cutL x c hx W h
  have HNm : Hid (∀ (x : List UInt8) W, EnvE W → _) := fun x W h => namedL x W h
  have H64 : Hid (∀ (x : List UInt8), x.length < 140737488351233 → ∀ W, EnvE W → _) := fun x hx W h => rnL64 x hx W h
  have H8 : Hid (∀ (x : List UInt8), x.length < 140737488351233 → ∀ W, EnvE W → _) := fun x hx W h => rnL8 x hx W h
  have HAd : Hid (∀ (x : List UInt8), x.length < 140737488351233 → ∀ W, EnvE W → _) := fun x hx W h => addrL x hx W h
  have HW0 : Hid (PrW w _) := PrW.start hE
  have HLl : Hid (l.length < 140737488351233) := hl
  clear hE hl
  go_enter Tryd.func47, Tryd.ntmps47
  go_wp2_with fail
  refine Calls.mono (HC.out l 32 HLl.out _ HW0.out.e) ?_
  rintro e w1 ⟨⟨nm, rest, m, hc1, ha1, hb1, rfl⟩, hbw⟩
  have HW1 : Hid (PrW w w1) := HW0.out.next hbw
  have HC1 : Hid (_ = _) := hc1
  have HLr : Hid (rest.length < 140737488351233) := by have := HLl.out; unfold Hid; omega
  clear hbw hc1 ha1 hb1 HW0
  go_wp2_with fail
  refine Calls.mono (HNm.out nm _ HW1.out.e) ?_
  rintro e w2 ⟨rfl, hbw⟩
  have HW2 : Hid (PrW w w2) := HW1.out.next hbw
  clear hbw HW1
  by_cases h0 : famOf nm = 0
  · have HZ : Hid (∀ n r' b' k', VP n r' b' k' → l ≠ pfT n r' b' k') := rp_zero HC1.out h0
    rw [h0]
    clear h0
    obtain ⟨d0, d1, d2, d3, g0, g1, g2, g3⟩ := HW2.out.r
    have HBl : Hid _ := HW2.out.b
    go_wp2
    refine bodyPost_ret (v := .tuple #[.agg #[.int .i64 0, .int .u64 0, .string ⟨#[]⟩, .int .i64 0], .bool false]) (by simp [results, Tryd.results47, go_sem, d0, d1, d2, d3]) rfl ⟨rpA_no HZ.out, ?_⟩
    exact (((HBl.out.setCell (by simp) _).setCell (by simp) _).setCell (by simp) _).setCell (by simp) _
  · obtain ⟨n, n1, n5, hn, _⟩ := fam_inv nm h0
    have HN : Hid (famOf nm = n) := hn
    rw [hn]
    clear h0 hn
    obtain ⟨t, fr, hf⟩ := HW2.out.e.t.t.fam
    by_cases h4 : n < 4
    · rcases (show n = 1 ∨ n = 2 ∨ n = 3 by omega) with rfl | rfl | rfl
      · have c14 := cell_of_row w2 0 5 _ t fr hf
        simp [famCells] at c14
        clear hf
        have HN1 : Hid (famOf nm = ((1 : Nat) : Int)) := HN.out
        go_wp2_with fail
        refine Calls.mono (HC.out rest 47 HLr.out _ HW2.out.e) ?_
        rintro e w5 ⟨⟨ad, sz, m3, hc3, ha3, hb3, rfl⟩, hb5⟩
        have HW5 : Hid (PrW w w5) := HW2.out.next hb5
        have HC3 : Hid (_ = _) := hc3
        have HLa : Hid (ad.length < 140737488351233) := Nat.lt_of_le_of_lt ha3 HLr.out
        have HLs : Hid (sz.length < 140737488351233) := Nat.lt_of_le_of_lt hb3 HLr.out
        clear hb5 hc3 ha3 hb3 HW2
        go_wp2_with fail
        refine Calls.mono (HAd.out ad HLa.out _ HW5.out.e) ?_
        rintro e w6 ⟨⟨o, ho, he⟩, hb6⟩
        have HW6 : Hid (PrW w w6) := HW5.out.next hb6
        have HOo : Hid (AdP _ _) := ho
        clear hb6 ho HW5
        obtain ⟨b, ee, he2, HEO⟩ : ∃ (b : ByteArray) (ee : Int), adV o = .tuple #[.string b, .int .i64 ee] ∧ Hid ((o = some b ∧ ee = 0) ∨ (o = none ∧ ee = 4)) := by
          cases o with
          | some b => exact ⟨b, 0, rfl, Or.inl ⟨rfl, rfl⟩⟩
          | none => exact ⟨⟨#[]⟩, 4, rfl, Or.inr ⟨rfl, rfl⟩⟩
        rw [he2] at he
        obtain rfl := he
        clear he2
        go_wp2_with fail
        refine Calls.mono (H8.out sz HLs.out _ HW6.out.e) ?_
        rintro e w7 ⟨⟨o8, h8, he⟩, hb7⟩
        have HW7 : Hid (PrW w w7) := HW6.out.next hb7
        have HO8 : Hid (RdP _ _ _ _) := h8
        clear hb7 h8 HW6
        have HT : Hid (_ ∧ _) := rp_low HC1.out HN1.out (by omega) (by omega) HC3.out HOo.out HO8.out
        obtain ⟨d0, d1, d2, d3, g0, g1, g2, g3⟩ := HW7.out.r
        cases o8 with
        | none =>
          obtain rfl : e = .returned (.tuple #[.int .u64 0, .bool false]) := he
          have HNN := HT.out.2 (Or.inr rfl)
          have HN3 : Hid (∀ n r' b' k', VP n r' b' k' → l ≠ pfT n r' b' k') := HNN
          clear HNN HT
          go_wp2
          refine bodyPost_ret (v := .tuple #[.agg #[.int .i64 1, .int .u64 0, .string b, .int .i64 0], .bool false]) (by simp [results, Tryd.results47, go_sem, d0, d1, d2, d3]) rfl ⟨⟨1, 0, b, 0, false, by omega, by omega, rfl, (fun h => by cases h), fun _ => HN3.out⟩, ?_⟩
          exact (((HW7.out.b.setCell (by simp) _).setCell (by simp) _).setCell (by simp) _).setCell (by simp) _
        | some k =>
          obtain rfl : e = .returned (.tuple #[.int .u64 (k : Int), .bool true]) := he
          have hk : k ≤ 255 := (HO8.out.sound k rfl).2
          have hkw : IntKind.i64.wrap (k : Int) = (k : Int) := by rw [IntKind.wrap_i64]; omega
          rcases HEO.out with ⟨ho, rfl⟩ | ⟨ho, rfl⟩
          · obtain ⟨hv, hl⟩ := HT.out.1 b k ho rfl
            have HV : Hid (VP _ _ _ _ ∧ _ = _) := ⟨hv, hl⟩
            clear hv hl ho HT HEO
            go_wp2
            refine bodyPost_ret (v := .tuple #[.agg #[.int .i64 1, .int .u64 0, .string b, .int .i64 (k : Int)], .bool true]) (by simp [results, Tryd.results47, go_sem, d0, d1, d2, d3]) rfl ⟨⟨1, 0, b, k, true, by omega, by omega, rfl, (fun _ => ⟨_, rfl, HV.out.1, HV.out.2⟩), fun h => by cases h⟩, ?_⟩
            exact (((HW7.out.b.setCell (by simp) _).setCell (by simp) _).setCell (by simp) _).setCell (by simp) _
          · have HNN := HT.out.2 (Or.inl ho)
            have HN3 : Hid (∀ n r' b' k', VP n r' b' k' → l ≠ pfT n r' b' k') := HNN
            clear HNN ho HT HEO
            go_wp2
            refine bodyPost_ret (v := .tuple #[.agg #[.int .i64 1, .int .u64 0, .string b, .int .i64 (k : Int)], .bool false]) (by simp [results, Tryd.results47, go_sem, d0, d1, d2, d3]) rfl ⟨⟨1, 0, b, k, false, by omega, by omega, rfl, (fun h => by cases h), fun _ => HN3.out⟩, ?_⟩
            exact (((HW7.out.b.setCell (by simp) _).setCell (by simp) _).setCell (by simp) _).setCell (by simp) _
      · have c14 := cell_of_row w2 0 8 _ t fr hf
        simp [famCells] at c14
        clear hf
        have HN1 : Hid (famOf nm = ((2 : Nat) : Int)) := HN.out
        go_wp2_with fail
        refine Calls.mono (HC.out rest 47 HLr.out _ HW2.out.e) ?_
        rintro e w5 ⟨⟨ad, sz, m3, hc3, ha3, hb3, rfl⟩, hb5⟩
        have HW5 : Hid (PrW w w5) := HW2.out.next hb5
        have HC3 : Hid (_ = _) := hc3
        have HLa : Hid (ad.length < 140737488351233) := Nat.lt_of_le_of_lt ha3 HLr.out
        have HLs : Hid (sz.length < 140737488351233) := Nat.lt_of_le_of_lt hb3 HLr.out
        clear hb5 hc3 ha3 hb3 HW2
        go_wp2_with fail
        refine Calls.mono (HAd.out ad HLa.out _ HW5.out.e) ?_
        rintro e w6 ⟨⟨o, ho, he⟩, hb6⟩
        have HW6 : Hid (PrW w w6) := HW5.out.next hb6
        have HOo : Hid (AdP _ _) := ho
        clear hb6 ho HW5
        obtain ⟨b, ee, he2, HEO⟩ : ∃ (b : ByteArray) (ee : Int), adV o = .tuple #[.string b, .int .i64 ee] ∧ Hid ((o = some b ∧ ee = 0) ∨ (o = none ∧ ee = 4)) := by
          cases o with
          | some b => exact ⟨b, 0, rfl, Or.inl ⟨rfl, rfl⟩⟩
          | none => exact ⟨⟨#[]⟩, 4, rfl, Or.inr ⟨rfl, rfl⟩⟩
        rw [he2] at he
        obtain rfl := he
        clear he2
        go_wp2_with fail
        refine Calls.mono (H8.out sz HLs.out _ HW6.out.e) ?_
        rintro e w7 ⟨⟨o8, h8, he⟩, hb7⟩
        have HW7 : Hid (PrW w w7) := HW6.out.next hb7
        have HO8 : Hid (RdP _ _ _ _) := h8
        clear hb7 h8 HW6
        have HT : Hid (_ ∧ _) := rp_low HC1.out HN1.out (by omega) (by omega) HC3.out HOo.out HO8.out
        obtain ⟨d0, d1, d2, d3, g0, g1, g2, g3⟩ := HW7.out.r
        cases o8 with
        | none =>
          obtain rfl : e = .returned (.tuple #[.int .u64 0, .bool false]) := he
          have HNN := HT.out.2 (Or.inr rfl)
          have HN3 : Hid (∀ n r' b' k', VP n r' b' k' → l ≠ pfT n r' b' k') := HNN
          clear HNN HT
          go_wp2
          refine bodyPost_ret (v := .tuple #[.agg #[.int .i64 2, .int .u64 0, .string b, .int .i64 0], .bool false]) (by simp [results, Tryd.results47, go_sem, d0, d1, d2, d3]) rfl ⟨⟨2, 0, b, 0, false, by omega, by omega, rfl, (fun h => by cases h), fun _ => HN3.out⟩, ?_⟩
          exact (((HW7.out.b.setCell (by simp) _).setCell (by simp) _).setCell (by simp) _).setCell (by simp) _
        | some k =>
          obtain rfl : e = .returned (.tuple #[.int .u64 (k : Int), .bool true]) := he
          have hk : k ≤ 255 := (HO8.out.sound k rfl).2
          have hkw : IntKind.i64.wrap (k : Int) = (k : Int) := by rw [IntKind.wrap_i64]; omega
          rcases HEO.out with ⟨ho, rfl⟩ | ⟨ho, rfl⟩
          · obtain ⟨hv, hl⟩ := HT.out.1 b k ho rfl
            have HV : Hid (VP _ _ _ _ ∧ _ = _) := ⟨hv, hl⟩
            clear hv hl ho HT HEO
            go_wp2
            refine bodyPost_ret (v := .tuple #[.agg #[.int .i64 2, .int .u64 0, .string b, .int .i64 (k : Int)], .bool true]) (by simp [results, Tryd.results47, go_sem, d0, d1, d2, d3]) rfl ⟨⟨2, 0, b, k, true, by omega, by omega, rfl, (fun _ => ⟨_, rfl, HV.out.1, HV.out.2⟩), fun h => by cases h⟩, ?_⟩
            exact (((HW7.out.b.setCell (by simp) _).setCell (by simp) _).setCell (by simp) _).setCell (by simp) _
          · have HNN := HT.out.2 (Or.inl ho)
            have HN3 : Hid (∀ n r' b' k', VP n r' b' k' → l ≠ pfT n r' b' k') := HNN
            clear HNN ho HT HEO
            go_wp2
            refine bodyPost_ret (v := .tuple #[.agg #[.int .i64 2, .int .u64 0, .string b, .int .i64 (k : Int)], .bool false]) (by simp [results, Tryd.results47, go_sem, d0, d1, d2, d3]) rfl ⟨⟨2, 0, b, k, false, by omega, by omega, rfl, (fun h => by cases h), fun _ => HN3.out⟩, ?_⟩
            exact (((HW7.out.b.setCell (by simp) _).setCell (by simp) _).setCell (by simp) _).setCell (by simp) _
      · have c14 := cell_of_row w2 0 11 _ t fr hf
        simp [famCells] at c14
        clear hf
        have HN1 : Hid (famOf nm = ((3 : Nat) : Int)) := HN.out
        go_wp2_with fail
        refine Calls.mono (HC.out rest 47 HLr.out _ HW2.out.e) ?_
        rintro e w5 ⟨⟨ad, sz, m3, hc3, ha3, hb3, rfl⟩, hb5⟩
        have HW5 : Hid (PrW w w5) := HW2.out.next hb5
        have HC3 : Hid (_ = _) := hc3
        have HLa : Hid (ad.length < 140737488351233) := Nat.lt_of_le_of_lt ha3 HLr.out
        have HLs : Hid (sz.length < 140737488351233) := Nat.lt_of_le_of_lt hb3 HLr.out
        clear hb5 hc3 ha3 hb3 HW2
        go_wp2_with fail
        refine Calls.mono (HAd.out ad HLa.out _ HW5.out.e) ?_
        rintro e w6 ⟨⟨o, ho, he⟩, hb6⟩
        have HW6 : Hid (PrW w w6) := HW5.out.next hb6
        have HOo : Hid (AdP _ _) := ho
        clear hb6 ho HW5
        obtain ⟨b, ee, he2, HEO⟩ : ∃ (b : ByteArray) (ee : Int), adV o = .tuple #[.string b, .int .i64 ee] ∧ Hid ((o = some b ∧ ee = 0) ∨ (o = none ∧ ee = 4)) := by
          cases o with
          | some b => exact ⟨b, 0, rfl, Or.inl ⟨rfl, rfl⟩⟩
          | none => exact ⟨⟨#[]⟩, 4, rfl, Or.inr ⟨rfl, rfl⟩⟩
        rw [he2] at he
        obtain rfl := he
        clear he2
        go_wp2_with fail
        refine Calls.mono (H8.out sz HLs.out _ HW6.out.e) ?_
        rintro e w7 ⟨⟨o8, h8, he⟩, hb7⟩
        have HW7 : Hid (PrW w w7) := HW6.out.next hb7
        have HO8 : Hid (RdP _ _ _ _) := h8
        clear hb7 h8 HW6
        have HT : Hid (_ ∧ _) := rp_low HC1.out HN1.out (by omega) (by omega) HC3.out HOo.out HO8.out
        obtain ⟨d0, d1, d2, d3, g0, g1, g2, g3⟩ := HW7.out.r
        cases o8 with
        | none =>
          obtain rfl : e = .returned (.tuple #[.int .u64 0, .bool false]) := he
          have HNN := HT.out.2 (Or.inr rfl)
          have HN3 : Hid (∀ n r' b' k', VP n r' b' k' → l ≠ pfT n r' b' k') := HNN
          clear HNN HT
          go_wp2
          refine bodyPost_ret (v := .tuple #[.agg #[.int .i64 3, .int .u64 0, .string b, .int .i64 0], .bool false]) (by simp [results, Tryd.results47, go_sem, d0, d1, d2, d3]) rfl ⟨⟨3, 0, b, 0, false, by omega, by omega, rfl, (fun h => by cases h), fun _ => HN3.out⟩, ?_⟩
          exact (((HW7.out.b.setCell (by simp) _).setCell (by simp) _).setCell (by simp) _).setCell (by simp) _
        | some k =>
          obtain rfl : e = .returned (.tuple #[.int .u64 (k : Int), .bool true]) := he
          have hk : k ≤ 255 := (HO8.out.sound k rfl).2
          have hkw : IntKind.i64.wrap (k : Int) = (k : Int) := by rw [IntKind.wrap_i64]; omega
          rcases HEO.out with ⟨ho, rfl⟩ | ⟨ho, rfl⟩
          · obtain ⟨hv, hl⟩ := HT.out.1 b k ho rfl
            have HV : Hid (VP _ _ _ _ ∧ _ = _) := ⟨hv, hl⟩
            clear hv hl ho HT HEO
            go_wp2
            refine bodyPost_ret (v := .tuple #[.agg #[.int .i64 3, .int .u64 0, .string b, .int .i64 (k : Int)], .bool true]) (by simp [results, Tryd.results47, go_sem, d0, d1, d2, d3]) rfl ⟨⟨3, 0, b, k, true, by omega, by omega, rfl, (fun _ => ⟨_, rfl, HV.out.1, HV.out.2⟩), fun h => by cases h⟩, ?_⟩
            exact (((HW7.out.b.setCell (by simp) _).setCell (by simp) _).setCell (by simp) _).setCell (by simp) _
          · have HNN := HT.out.2 (Or.inl ho)
            have HN3 : Hid (∀ n r' b' k', VP n r' b' k' → l ≠ pfT n r' b' k') := HNN
            clear HNN ho HT HEO
            go_wp2
            refine bodyPost_ret (v := .tuple #[.agg #[.int .i64 3, .int .u64 0, .string b, .int .i64 (k : Int)], .bool false]) (by simp [results, Tryd.results47, go_sem, d0, d1, d2, d3]) rfl ⟨⟨3, 0, b, k, false, by omega, by omega, rfl, (fun h => by cases h), fun _ => HN3.out⟩, ?_⟩
            exact (((HW7.out.b.setCell (by simp) _).setCell (by simp) _).setCell (by simp) _).setCell (by simp) _
    · have HR4 : Hid (¬ n < 4) := h4
      rcases (show n = 4 ∨ n = 5 by omega) with rfl | rfl
      · have c14 := cell_of_row w2 0 14 _ t fr hf
        simp [famCells] at c14
        clear hf
        have HN1 : Hid (famOf nm = ((4 : Nat) : Int)) := HN.out
        go_wp2_with fail
        refine Calls.mono (HC.out rest 32 HLr.out _ HW2.out.e) ?_
        rintro e w3 ⟨⟨wd, bh, m2, hc2, ha2, hb2, rfl⟩, hbw⟩
        have HW3 : Hid (PrW w w3) := HW2.out.next hbw
        have HC2 : Hid (_ = _) := hc2
        have HLw : Hid (wd.length < 140737488351233) := by have := HLr.out; unfold Hid; omega
        have HLb : Hid (bh.length < 140737488351233) := by have := HLr.out; unfold Hid; omega
        clear hbw hc2 ha2 hb2 HW2 c14
        go_wp2_with fail
        refine Calls.mono (H64.out wd HLw.out _ HW3.out.e) ?_
        rintro e w4 ⟨⟨o64, h64, he⟩, hbw⟩
        have HW4 : Hid (PrW w w4) := HW3.out.next hbw
        have HO64 : Hid (RdP _ _ _ _) := h64
        clear hbw h64 HW3
        cases o64 with
        | none =>
          obtain rfl : e = .returned (.tuple #[.int .u64 0, .bool false]) := he
          have HZ : Hid (∀ n r' b' k', VP n r' b' k' → l ≠ pfT n r' b' k') := rp_rd HC1.out (by rw [HN1.out]; decide) HC2.out HO64.out
          obtain ⟨d0, d1, d2, d3, g0, g1, g2, g3⟩ := HW4.out.r
          have HBl : Hid _ := HW4.out.b
          go_wp2
          refine bodyPost_ret (v := .tuple #[.agg #[.int .i64 0, .int .u64 0, .string ⟨#[]⟩, .int .i64 0], .bool false]) (by simp [results, Tryd.results47, go_sem, d0, d1, d2, d3]) rfl ⟨rpA_no HZ.out, ?_⟩
          exact (((HBl.out.setCell (by simp) _).setCell (by simp) _).setCell (by simp) _).setCell (by simp) _
        | some r =>
          obtain rfl : e = .returned (.tuple #[.int .u64 (r : Int), .bool true]) := he
          have HRl : Hid (r < 18446744073709551616) := by have := (HO64.out.sound r rfl).2; unfold Hid; omega
          go_wp2_with fail
          refine Calls.mono (HC.out bh 47 HLb.out _ HW4.out.e) ?_
          rintro e w5 ⟨⟨ad, sz, m3, hc3, ha3, hb3, rfl⟩, hb5⟩
          have HW5 : Hid (PrW w w5) := HW4.out.next hb5
          have HC3 : Hid (_ = _) := hc3
          have HLa : Hid (ad.length < 140737488351233) := Nat.lt_of_le_of_lt ha3 HLb.out
          have HLs : Hid (sz.length < 140737488351233) := Nat.lt_of_le_of_lt hb3 HLb.out
          clear hb5 hc3 ha3 hb3 HW4
          go_wp2_with fail
          refine Calls.mono (HAd.out ad HLa.out _ HW5.out.e) ?_
          rintro e w6 ⟨⟨o, ho, he⟩, hb6⟩
          have HW6 : Hid (PrW w w6) := HW5.out.next hb6
          have HOo : Hid (AdP _ _) := ho
          clear hb6 ho HW5
          obtain ⟨b, ee, he2, HEO⟩ : ∃ (b : ByteArray) (ee : Int), adV o = .tuple #[.string b, .int .i64 ee] ∧ Hid ((o = some b ∧ ee = 0) ∨ (o = none ∧ ee = 4)) := by
            cases o with
            | some b => exact ⟨b, 0, rfl, Or.inl ⟨rfl, rfl⟩⟩
            | none => exact ⟨⟨#[]⟩, 4, rfl, Or.inr ⟨rfl, rfl⟩⟩
          rw [he2] at he
          obtain rfl := he
          clear he2
          go_wp2_with fail
          refine Calls.mono (H8.out sz HLs.out _ HW6.out.e) ?_
          rintro e w7 ⟨⟨o8, h8, he⟩, hb7⟩
          have HW7 : Hid (PrW w w7) := HW6.out.next hb7
          have HO8 : Hid (RdP _ _ _ _) := h8
          clear hb7 h8 HW6
          have HT : Hid (_ ∧ _) := rp_high HC1.out HN1.out (by omega) HC2.out HO64.out HC3.out HOo.out HO8.out
          obtain ⟨d0, d1, d2, d3, g0, g1, g2, g3⟩ := HW7.out.r
          cases o8 with
          | none =>
            obtain rfl : e = .returned (.tuple #[.int .u64 0, .bool false]) := he
            have HNN := HT.out.2 (Or.inr rfl)
            have HN3 : Hid (∀ n r' b' k', VP n r' b' k' → l ≠ pfT n r' b' k') := HNN
            clear HNN HT
            go_wp2
            refine bodyPost_ret (v := .tuple #[.agg #[.int .i64 4, .int .u64 (r : Int), .string b, .int .i64 0], .bool false]) (by simp [results, Tryd.results47, go_sem, d0, d1, d2, d3]) rfl ⟨⟨4, r, b, 0, false, by omega, HRl.out, rfl, (fun h => by cases h), fun _ => HN3.out⟩, ?_⟩
            exact (((HW7.out.b.setCell (by simp) _).setCell (by simp) _).setCell (by simp) _).setCell (by simp) _
          | some k =>
            obtain rfl : e = .returned (.tuple #[.int .u64 (k : Int), .bool true]) := he
            have hk : k ≤ 255 := (HO8.out.sound k rfl).2
            have hkw : IntKind.i64.wrap (k : Int) = (k : Int) := by rw [IntKind.wrap_i64]; omega
            rcases HEO.out with ⟨ho, rfl⟩ | ⟨ho, rfl⟩
            · obtain ⟨hv, hl⟩ := HT.out.1 b k ho rfl
              have HV : Hid (VP _ _ _ _ ∧ _ = _) := ⟨hv, hl⟩
              clear hv hl ho HT HEO
              go_wp2
              refine bodyPost_ret (v := .tuple #[.agg #[.int .i64 4, .int .u64 (r : Int), .string b, .int .i64 (k : Int)], .bool true]) (by simp [results, Tryd.results47, go_sem, d0, d1, d2, d3]) rfl ⟨⟨4, r, b, k, true, by omega, HRl.out, rfl, (fun _ => ⟨_, rfl, HV.out.1, HV.out.2⟩), fun h => by cases h⟩, ?_⟩
              exact (((HW7.out.b.setCell (by simp) _).setCell (by simp) _).setCell (by simp) _).setCell (by simp) _
            · have HNN := HT.out.2 (Or.inl ho)
              have HN3 : Hid (∀ n r' b' k', VP n r' b' k' → l ≠ pfT n r' b' k') := HNN
              clear HNN ho HT HEO
              go_wp2
              refine bodyPost_ret (v := .tuple #[.agg #[.int .i64 4, .int .u64 (r : Int), .string b, .int .i64 (k : Int)], .bool false]) (by simp [results, Tryd.results47, go_sem, d0, d1, d2, d3]) rfl ⟨⟨4, r, b, k, false, by omega, HRl.out, rfl, (fun h => by cases h), fun _ => HN3.out⟩, ?_⟩
              exact (((HW7.out.b.setCell (by simp) _).setCell (by simp) _).setCell (by simp) _).setCell (by simp) _
      · have c14 := cell_of_row w2 0 17 _ t fr hf
        simp [famCells] at c14
        clear hf
        have HN1 : Hid (famOf nm = ((5 : Nat) : Int)) := HN.out
        go_wp2_with fail
        refine Calls.mono (HC.out rest 32 HLr.out _ HW2.out.e) ?_
        rintro e w3 ⟨⟨wd, bh, m2, hc2, ha2, hb2, rfl⟩, hbw⟩
        have HW3 : Hid (PrW w w3) := HW2.out.next hbw
        have HC2 : Hid (_ = _) := hc2
        have HLw : Hid (wd.length < 140737488351233) := by have := HLr.out; unfold Hid; omega
        have HLb : Hid (bh.length < 140737488351233) := by have := HLr.out; unfold Hid; omega
        clear hbw hc2 ha2 hb2 HW2 c14
        go_wp2_with fail
        refine Calls.mono (H64.out wd HLw.out _ HW3.out.e) ?_
        rintro e w4 ⟨⟨o64, h64, he⟩, hbw⟩
        have HW4 : Hid (PrW w w4) := HW3.out.next hbw
        have HO64 : Hid (RdP _ _ _ _) := h64
        clear hbw h64 HW3
        cases o64 with
        | none =>
          obtain rfl : e = .returned (.tuple #[.int .u64 0, .bool false]) := he
          have HZ : Hid (∀ n r' b' k', VP n r' b' k' → l ≠ pfT n r' b' k') := rp_rd HC1.out (by rw [HN1.out]; decide) HC2.out HO64.out
          obtain ⟨d0, d1, d2, d3, g0, g1, g2, g3⟩ := HW4.out.r
          have HBl : Hid _ := HW4.out.b
          go_wp2
          refine bodyPost_ret (v := .tuple #[.agg #[.int .i64 0, .int .u64 0, .string ⟨#[]⟩, .int .i64 0], .bool false]) (by simp [results, Tryd.results47, go_sem, d0, d1, d2, d3]) rfl ⟨rpA_no HZ.out, ?_⟩
          exact (((HBl.out.setCell (by simp) _).setCell (by simp) _).setCell (by simp) _).setCell (by simp) _
        | some r =>
          obtain rfl : e = .returned (.tuple #[.int .u64 (r : Int), .bool true]) := he
          have HRl : Hid (r < 18446744073709551616) := by have := (HO64.out.sound r rfl).2; unfold Hid; omega
          go_wp2_with fail
          refine Calls.mono (HC.out bh 47 HLb.out _ HW4.out.e) ?_
          rintro e w5 ⟨⟨ad, sz, m3, hc3, ha3, hb3, rfl⟩, hb5⟩
          have HW5 : Hid (PrW w w5) := HW4.out.next hb5
          have HC3 : Hid (_ = _) := hc3
          have HLa : Hid (ad.length < 140737488351233) := Nat.lt_of_le_of_lt ha3 HLb.out
          have HLs : Hid (sz.length < 140737488351233) := Nat.lt_of_le_of_lt hb3 HLb.out
          clear hb5 hc3 ha3 hb3 HW4
          go_wp2_with fail
          refine Calls.mono (HAd.out ad HLa.out _ HW5.out.e) ?_
          rintro e w6 ⟨⟨o, ho, he⟩, hb6⟩
          have HW6 : Hid (PrW w w6) := HW5.out.next hb6
          have HOo : Hid (AdP _ _) := ho
          clear hb6 ho HW5
          obtain ⟨b, ee, he2, HEO⟩ : ∃ (b : ByteArray) (ee : Int), adV o = .tuple #[.string b, .int .i64 ee] ∧ Hid ((o = some b ∧ ee = 0) ∨ (o = none ∧ ee = 4)) := by
            cases o with
            | some b => exact ⟨b, 0, rfl, Or.inl ⟨rfl, rfl⟩⟩
            | none => exact ⟨⟨#[]⟩, 4, rfl, Or.inr ⟨rfl, rfl⟩⟩
          rw [he2] at he
          obtain rfl := he
          clear he2
          go_wp2_with fail
          refine Calls.mono (H8.out sz HLs.out _ HW6.out.e) ?_
          rintro e w7 ⟨⟨o8, h8, he⟩, hb7⟩
          have HW7 : Hid (PrW w w7) := HW6.out.next hb7
          have HO8 : Hid (RdP _ _ _ _) := h8
          clear hb7 h8 HW6
          have HT : Hid (_ ∧ _) := rp_high HC1.out HN1.out (by omega) HC2.out HO64.out HC3.out HOo.out HO8.out
          obtain ⟨d0, d1, d2, d3, g0, g1, g2, g3⟩ := HW7.out.r
          cases o8 with
          | none =>
            obtain rfl : e = .returned (.tuple #[.int .u64 0, .bool false]) := he
            have HNN := HT.out.2 (Or.inr rfl)
            have HN3 : Hid (∀ n r' b' k', VP n r' b' k' → l ≠ pfT n r' b' k') := HNN
            clear HNN HT
            go_wp2
            refine bodyPost_ret (v := .tuple #[.agg #[.int .i64 5, .int .u64 (r : Int), .string b, .int .i64 0], .bool false]) (by simp [results, Tryd.results47, go_sem, d0, d1, d2, d3]) rfl ⟨⟨5, r, b, 0, false, by omega, HRl.out, rfl, (fun h => by cases h), fun _ => HN3.out⟩, ?_⟩
            exact (((HW7.out.b.setCell (by simp) _).setCell (by simp) _).setCell (by simp) _).setCell (by simp) _
          | some k =>
            obtain rfl : e = .returned (.tuple #[.int .u64 (k : Int), .bool true]) := he
            have hk : k ≤ 255 := (HO8.out.sound k rfl).2
            have hkw : IntKind.i64.wrap (k : Int) = (k : Int) := by rw [IntKind.wrap_i64]; omega
            rcases HEO.out with ⟨ho, rfl⟩ | ⟨ho, rfl⟩
            · obtain ⟨hv, hl⟩ := HT.out.1 b k ho rfl
              have HV : Hid (VP _ _ _ _ ∧ _ = _) := ⟨hv, hl⟩
              clear hv hl ho HT HEO
              go_wp2
              refine bodyPost_ret (v := .tuple #[.agg #[.int .i64 5, .int .u64 (r : Int), .string b, .int .i64 (k : Int)], .bool true]) (by simp [results, Tryd.results47, go_sem, d0, d1, d2, d3]) rfl ⟨⟨5, r, b, k, true, by omega, HRl.out, rfl, (fun _ => ⟨_, rfl, HV.out.1, HV.out.2⟩), fun h => by cases h⟩, ?_⟩
              exact (((HW7.out.b.setCell (by simp) _).setCell (by simp) _).setCell (by simp) _).setCell (by simp) _
            · have HNN := HT.out.2 (Or.inl ho)
              have HN3 : Hid (∀ n r' b' k', VP n r' b' k' → l ≠ pfT n r' b' k') := HNN
              clear HNN ho HT HEO
              go_wp2
              refine bodyPost_ret (v := .tuple #[.agg #[.int .i64 5, .int .u64 (r : Int), .string b, .int .i64 (k : Int)], .bool false]) (by simp [results, Tryd.results47, go_sem, d0, d1, d2, d3]) rfl ⟨⟨5, r, b, k, false, by omega, HRl.out, rfl, (fun h => by cases h), fun _ => HN3.out⟩, ?_⟩
              exact (((HW7.out.b.setCell (by simp) _).setCell (by simp) _).setCell (by simp) _).setCell (by simp) _
end Go.Proofs.YtkgedoedojkdkaaDoor
