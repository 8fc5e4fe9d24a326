/-
  NlriTaken: the walk.
-/
import Derived.Test.YtfhbgpepkplbaaaDoorQ2
import Derived.Test.YtfhbgpepkplbaaaDoorF1
namespace Go.Proofs.YtfhbgpepkplbaaaDoor
open Go.RowKit
theorem enc_okAll (f : Int) (add : Bool) (R : List Nl) (h : ∀ n ∈ R, NlWf n ∧ nchk n.f n.r n.s n.l n.lb = 0 ∧ (n.id = 0 ∨ add = true) ∧ n.f = f) : encAns f add R = .returned (.tuple #[.string ⟨(encL add R).toArray⟩, .int .i64 0]) := by
  unfold encAns
  rw [if_pos]
  rw [List.all_eq_true]
  intro n hn
  exact (okE_iff f add n).2 ⟨(h n hn).2.1, (h n hn).2.2.2, (h n hn).2.2.1⟩
theorem fam_pos (k : Nat) : szOf (1 + (k : Int) % 5) ≠ 0 := by
  have : (1 + (k : Int) % 5) = 1 ∨ (1 + (k : Int) % 5) = 2 ∨ (1 + (k : Int) % 5) = 3 ∨ (1 + (k : Int) % 5) = 4 ∨ (1 + (k : Int) % 5) = 5 := by omega
  rcases this with h | h | h | h | h <;> rw [h] <;> decide
set_option maxRecDepth 100000 in
set_option maxHeartbeats 6400000 in
theorem taken_walkc (s : ByteArray) (k : Nat) (add : Bool) (w : World) (ht : Tabs w) (hs : s.size ≤ maxLen) (hk : k < 256) :
    Calls Tryd.prog 4 #[.string s, .int .u8 k, .bool add] w fun e w' => e = .returned (.bool true) ∧ Below w.heap.size w w' := by
  have HT : Hid (Tabs w) := ht
  clear ht
  unfold maxLen at hs
  have HZ : Hid (szOf (1 + (k : Int) % 5) ≠ 0) := fam_pos k
  obtain ⟨l, hl, hle⟩ : ∃ l : List UInt8, s.extract 0 (min (s.size : Int) 2000).toNat = ⟨l.toArray⟩ ∧ (l.length : Int) = min (s.size : Int) 2000 := by
    refine ⟨s.data.toList.take (min (s.size : Int) 2000).toNat, ?_, ?_⟩
    · apply ByteArray.ext; apply Array.ext'; simp
    · rw [List.length_take, show s.data.toList.length = s.size by simp]; omega
  go_enter Tryd.func4, Tryd.ntmps4
  go_wp2_with fail
  generalize hF : 1 + (k : Int) % 5 = F at *
  have HL : Hid (l.length ≤ 2000) := by unfold Hid; omega
  refine (decode_any F add l w HT.out.sizes HZ.out (by have := HL.out; omega)).mono ?_
  rintro e w1 ⟨hb1, hd⟩
  have HT1 : Hid (Tabs w1) := HT.out.below hb1
  have HB1 : Hid (Below w.heap.size w w1) := hb1
  clear hb1 hl
  cases hX : decI F add l.length l with
  | none =>
    rw [hX] at hd
    simp only at hd
    subst hd
    clear hX
    go_wp2_with (go_at_call 10; refine (works_any _ HT1.out).mono ?_; rintro e w2 ⟨rfl, hb2⟩)
    go_ret
    exact ⟨rfl, HB1.out.trans (hb2.mono HB1.out.size)⟩
  | some R =>
    rw [hX] at hd
    obtain ⟨v, rfl, ho⟩ := hd
    obtain ⟨hall, hel, hrl⟩ := decI_facts F add HZ.out _ _ _ hX
    have HALL : Hid (_ : Prop) := hall
    have HEL : Hid ((encL add R).length = l.length) := hel
    have hR : R.length ≤ 2000 := by have := HL.out; omega
    have HN : Hid (NlsAt w1 v R) := ho.at
    obtain ⟨ad, b, off, cap, rfl, had, hcap, hrow⟩ := ho.at
    have HR1 : Hid (RowN w1 b off R) := hrow
    clear ho hrow hX hall hel hrl
    go_wp2
    go_loopw [10] (fun i wr => ∃ n : Nat, n ≤ R.length ∧ i = .int .i64 n ∧ Below w1.heap.size w1 wr) (fun i _ => R.length - (intOf i).toNat)
    case atStart => exact ⟨0, Nat.zero_le _, rfl, Below.refl _ _⟩
    case round =>
      obtain ⟨n, hn, rfl, hb⟩ := hrel
      have HB : Hid (Below _ _ _) := hb
      by_cases hlt : n < R.length
      · obtain rfl : ad = some ⟨b, off, none⟩ := by rcases had with h | h; exact h; omega
        obtain ⟨c0, c1, c2, c3, c4, c5⟩ := (HR1.out.below hb) n hlt
        obtain ⟨_, m2, _, m4⟩ := HALL.out R[n] (List.getElem_mem hlt)
        have HT2 : Hid (Tabs wr) := HT1.out.below hb
        have d0 : Hid (∀ w', Below wr.heap.size wr w' → w'.cell? ⟨b, off + n * 6, none⟩ = some (.int .i64 F)) := fun w' hw => by rw [← m4]; exact below_cell hw c0
        clear hb
        generalize R[n] = m at *
        obtain ⟨mf, mr, ms, ml, mid, mlb⟩ := m
        simp only at c0 c1 c2 c3 c4 c5 m2 m4
        subst m4
        have HC : Hid (Calls Tryd.prog 7 #[.agg #[.int .i64 mf, .int .u64 mr, .string ms, .int .i64 ml, .int .u32 mid, .int .u32 mlb]] wr fun e w' => e = .returned (.int .i64 0) ∧ Below wr.heap.size wr w') := by
          have := ncheck_any mf mr ms ml mid mlb wr HT2.out.sizes HT2.out.rds
          rw [m2] at this
          exact this
        clear m2
        go_wp2_with fail
        refine Calls.mono HC.out ?_
        rintro e w3 ⟨rfl, hb3⟩
        have e0 := d0.out w3 hb3
        have HB3 : Hid (Below w1.heap.size w1 w3) := HB.out.trans (hb3.mono HB.out.size)
        clear c0 c1 c2 c3 c4 c5 hb3 HC d0
        go_wp2
        go_roundw
        case rel => exact ⟨n + 1, by omega, by go_num, HB3.out⟩
        case measure => simp [intOf]; omega
      · have HTE : Hid (Tabs wr) := HT1.out.below hb
        have HNE : Hid (NlsAt wr (.slice ad R.length cap) R) := HN.out.below hb
        have HE : Hid (_ : Prop) := encode_any F add (.slice ad R.length cap) R wr HTE.out.sizes HTE.out.rds HZ.out HNE.out (fun m hm => (HALL.out m hm).1) (by omega)
        rw [enc_okAll F add R HALL.out] at HE
        have HBK : Hid (decI F add (encL add R).length (encL add R) = some R) := by
          unfold Hid
          have h1 := decI_back F add R HALL.out (max (encL add R).length R.length) (by omega)
          rw [← h1]
          exact decI_more F add _ _ _ (Nat.le_refl _) (by omega)
        generalize encL add R = E at *
        obtain rfl : n = R.length := by omega
        clear hlt hn
        go_wp2_with fail
        refine Calls.mono HE.out ?_
        rintro e w4 ⟨rfl, hb4⟩
        have HB4 : Hid (Below w1.heap.size w1 w4) := HB.out.trans (hb4.mono HB.out.size)
        have HT4 : Hid (Tabs w4) := HT1.out.below HB4.out
        have HD : Hid (_ : Prop) := decode_any F add E w4 HT4.out.sizes HZ.out (by have := HL.out; have := HEL.out; omega)
        rw [HBK.out] at HD
        clear hb4 HE HTE HNE hb HB
        go_wp2_with fail
        refine Calls.mono HD.out ?_
        rintro e w5 ⟨hb5, v5, rfl, ho5⟩
        have HB5 : Hid (Below w1.heap.size w1 w5) := HB4.out.trans (hb5.mono HB4.out.size)
        obtain ⟨ad5, b5, off5, cap5, rfl, had5, hcap5, hrow5⟩ := ho5.at
        have HR5 : Hid (RowN w5 b5 off5 R) := hrow5
        have HR6 : Hid (RowN w5 b off R) := HR1.out.below HB5.out
        have hz : ((⟨E.toArray⟩ : ByteArray).size : Int) = min (s.size : Int) 2000 := by rw [list_size, HEL.out]; exact hle
        have hz2 : (E.length : Int) = min (s.size : Int) 2000 := by rw [HEL.out]; exact hle
        clear hb5 ho5 hrow5 HD HB4 HT4
        go_wp2
        clear hz hz2
        go_loopw [14] (fun i wr => ∃ n : Nat, n ≤ R.length ∧ i = .int .i64 n ∧ Below w5.heap.size w5 wr) (fun i _ => R.length - (intOf i).toNat)
        case atStart => exact ⟨0, Nat.zero_le _, rfl, Below.refl _ _⟩
        case round =>
          obtain ⟨j, hj, rfl, hb⟩ := hrel
          have HB : Hid (Below _ _ _) := hb
          by_cases hlt : j < R.length
          · obtain rfl : ad = some ⟨b, off, none⟩ := by rcases had with h | h; exact h; omega
            obtain rfl : ad5 = some ⟨b5, off5, none⟩ := by rcases had5 with h | h; exact h; omega
            obtain ⟨c0, c1, c2, c3, c4, c5⟩ := (HR5.out.below hb) j hlt
            obtain ⟨d0, d1, d2, d3, d4, d5⟩ := (HR6.out.below hb) j hlt
            generalize R[j] = m at *
            obtain ⟨mf, mr, ms, ml, mid, mlb⟩ := m
            simp only at c0 c1 c2 c3 c4 c5 d0 d1 d2 d3 d4 d5
            clear hb had had5
            go_wp2
            go_quiet (fail)
            go_wp2
            go_roundw
            case rel => exact ⟨j + 1, by omega, by go_num, below_drewN HB.out _⟩
            case measure => simp [intOf]; omega
          · obtain rfl : j = R.length := by omega
            have HTE : Hid (Tabs wr) := (HT1.out.below HB5.out).below hb
            clear hlt hj hb had had5
            go_wp2_with fail
            refine (works_any _ HTE.out).mono ?_
            rintro e w7 ⟨rfl, hb7⟩
            have HB7 : Hid (Below w.heap.size w w7) := by
              have h1 : Below w.heap.size w w5 := HB1.out.trans (HB5.out.mono HB1.out.size)
              have h2 : Below w.heap.size w wr := h1.trans (HB.out.mono h1.size)
              exact h2.trans (hb7.mono h2.size)
            clear hb7
            go_wp2
            go_ret
            exact ⟨rfl, HB7.out⟩
end Go.Proofs.YtfhbgpepkplbaaaDoor
