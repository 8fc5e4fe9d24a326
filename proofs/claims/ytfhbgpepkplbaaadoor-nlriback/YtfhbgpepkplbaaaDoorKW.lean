/-
  Raw told prefixes that come in.
-/
import Derived.Test.YtfhbgpepkplbaaaDoorMDg
import Derived.Test.YtfhbgpepkplbaaaDoorQ2
import Derived.Test.YtfhbgpepkplbaaaDoorF1
import Derived.Deep.MidRow
import Derived.Test.YtfhbgpepkplbaaaDoorJC
import Derived.Deep.Strs
namespace Go.Proofs.YtfhbgpepkplbaaaDoor
open Go.RowKit
theorem decI_ahead (f : Int) (add : Bool) (R : List Nl) (t : List UInt8) (hR : ∀ n ∈ R, Good f add n) (ht : t ≠ []) (hn : ¬ okI f add t) (N : Nat) : decI f add N (encL add R ++ t) = none := by
  induction R generalizing N with
  | nil => simpa [encL] using decI_bad f add N t ht hn
  | cons n R ih =>
    obtain ⟨h1, h2, h3, rfl⟩ := hR n (List.mem_cons_self)
    obtain ⟨k1, k2, k3⟩ := back_at n add (encL add R ++ t) h1 h2 h3
    have hE : encL add (n :: R) ++ t = n.enc add ++ (encL add R ++ t) := by simp [encL]
    have hne : n.enc add ++ (encL add R ++ t) ≠ [] := by
      intro h
      have := k1.1
      rw [h] at this
      simp at this
    rw [hE]
    cases N with
    | zero => simp only [decI]; rw [if_neg hne]
    | succ M => rw [decI_step _ _ _ _ hne k1, k3, ih (fun m hm => hR m (List.mem_cons_of_mem _ hm)) M]; rfl
theorem short_no {f : Int} {add : Bool} {n : Nl} (h : Good f add n) : ¬ okI f add ((n.enc add).take ((n.enc add).length - 1)) := by
  intro ho
  obtain ⟨hw, hc, hi, rfl⟩ := h
  obtain ⟨k1, k2, _⟩ := back_at n add [] hw hc hi
  rw [List.append_nil] at k1 k2
  obtain ⟨o1, o2, _, o4, _⟩ := ho
  obtain ⟨_, p2, _, p4, _⟩ := k1
  have hlen : ((n.enc add).take ((n.enc add).length - 1)).length = (n.enc add).length - 1 := by simp
  rw [hlen] at o1 o4
  have hb : bitI' n.f add ((n.enc add).take ((n.enc add).length - 1)) = bitI' n.f add (n.enc add) := by
    unfold bitI'
    rw [List.drop_take, List.take_take, Nat.min_eq_left (by omega)]
  rw [hb] at o4
  have hl : bitI' n.f add (n.enc add) = n.l := by
    have := congrArg Nl.l k2
    exact this
  rw [hl] at o4 p2
  obtain ⟨kc, _, _⟩ := nchk_zero hc
  obtain ⟨hz, hs, h0, h1, _, _⟩ := chk_zero kc
  obtain ⟨m, hm⟩ := Int.eq_ofNat_of_zero_le p2
  have e1 : (n.enc add).length = hdN n.f add + (m + 7) / 8 := by
    rw [enc_length n add (by rw [hm, Int.toNat_natCast]; omega), hm, Int.toNat_natCast]
  rw [hm, byN_nat, e1] at o4
  have : 1 ≤ hdN n.f add := by unfold hdN; omega
  omega
theorem back_short (f : Int) (add : Bool) (R : List Nl) (n : Nl) (hR : ∀ m ∈ R ++ [n], Good f add m) (h2 : 2 ≤ (n.enc add).length) (N : Nat) : decI f add N ((encL add (R ++ [n])).take ((encL add (R ++ [n])).length - 1)) = none := by
  have hE : encL add (R ++ [n]) = encL add R ++ n.enc add := encL_snoc add R n
  have e : (encL add (R ++ [n])).take ((encL add (R ++ [n])).length - 1) = encL add R ++ (n.enc add).take ((n.enc add).length - 1) := by
    rw [hE, List.length_append, List.take_append]
    congr 1
    · exact List.take_of_length_le (by omega)
    · congr 1; omega
  rw [e]
  refine decI_ahead f add R _ (fun m hm => hR m (List.mem_append_left _ hm)) ?_ (short_no (hR n (by simp))) N
  intro h
  have := congrArg List.length h
  simp at this
  omega
end Go.Proofs.YtfhbgpepkplbaaaDoor
namespace Go.Proofs.YtfhbgpepkplbaaaDoor
open Go.RowKit
theorem enc_okAll (f : Int) (add : Bool) (R : List Nl) (h : ∀ n ∈ R, NlWf n ∧ nchk n.f n.r n.s n.l n.lb = 0 ∧ (n.id = 0 ∨ add = true) ∧ n.f = f) : encAns f add R = .returned (.tuple #[.string ⟨(encL add R).toArray⟩, .int .i64 0]) := by
  unfold encAns
  rw [if_pos]
  rw [List.all_eq_true]
  intro n hn
  exact (okE_iff f add n).2 ⟨(h n hn).2.1, (h n hn).2.2.2, (h n hn).2.2.1⟩
theorem fam_pos (k : Nat) : szOf (1 + (k : Int) % 5) ≠ 0 := by
  have : (1 + (k : Int) % 5) = 1 ∨ (1 + (k : Int) % 5) = 2 ∨ (1 + (k : Int) % 5) = 3 ∨ (1 + (k : Int) % 5) = 4 ∨ (1 + (k : Int) % 5) = 5 := by omega
  rcases this with h | h | h | h | h <;> rw [h] <;> decide
set_option maxRecDepth 100000 in
set_option maxHeartbeats 6400000 in
theorem taken_walkc (s : ByteArray) (k : Nat) (add : Bool) (w : World) (ht : Tabs w) (hs : s.size ≤ maxLen) (hk : k < 256) :
    Calls Tryd.prog 4 #[.string s, .int .u8 k, .bool add] w fun e w' => e = .returned (.bool true) ∧ Below w.heap.size w w' := by
  have HT : Hid (Tabs w) := ht
  clear ht
  unfold maxLen at hs
  have HZ : Hid (szOf (1 + (k : Int) % 5) ≠ 0) := fam_pos k
  obtain ⟨l, hl, hle⟩ : ∃ l : List UInt8, s.extract 0 (min (s.size : Int) 2000).toNat = ⟨l.toArray⟩ ∧ (l.length : Int) = min (s.size : Int) 2000 := by
    refine ⟨s.data.toList.take (min (s.size : Int) 2000).toNat, ?_, ?_⟩
    · apply ByteArray.ext; apply Array.ext'; simp
    · rw [List.length_take, show s.data.toList.length = s.size by simp]; omega
  go_enter Tryd.func4, Tryd.ntmps4
  go_wp2_with fail
  generalize hF : 1 + (k : Int) % 5 = F at *
  have HL : Hid (l.length ≤ 2000) := by unfold Hid; omega
  refine (decode_any F add l w HT.out.sizes HZ.out (by have := HL.out; omega)).mono ?_
  rintro e w1 ⟨hb1, hd⟩
  have HT1 : Hid (Tabs w1) := HT.out.below hb1
  have HB1 : Hid (Below w.heap.size w w1) := hb1
  clear hb1 hl
  cases hX : decI F add l.length l with
  | none =>
    rw [hX] at hd
    simp only at hd
    subst hd
    clear hX
    go_wp2_with (go_at_call 10; refine (works_any _ HT1.out).mono ?_; rintro e w2 ⟨rfl, hb2⟩)
    go_ret
    exact ⟨rfl, HB1.out.trans (hb2.mono HB1.out.size)⟩
  | some R =>
    rw [hX] at hd
    obtain ⟨v, rfl, ho⟩ := hd
    obtain ⟨hall, hel, hrl⟩ := decI_facts F add HZ.out _ _ _ hX
    have HALL : Hid (_ : Prop) := hall
    have HEL : Hid ((encL add R).length = l.length) := hel
    have hR : R.length ≤ 2000 := by have := HL.out; omega
    have HN : Hid (NlsAt w1 v R) := ho.at
    obtain ⟨ad, b, off, cap, rfl, had, hcap, hrow⟩ := ho.at
    have HR1 : Hid (RowN w1 b off R) := hrow
    clear ho hrow hX hall hel hrl
    go_wp2
    go_loopw [10] (fun i wr => ∃ n : Nat, n ≤ R.length ∧ i = .int .i64 n ∧ Below w1.heap.size w1 wr) (fun i _ => R.length - (intOf i).toNat)
    case atStart => exact ⟨0, Nat.zero_le _, rfl, Below.refl _ _⟩
    case round =>
      obtain ⟨n, hn, rfl, hb⟩ := hrel
      have HB : Hid (Below _ _ _) := hb
      by_cases hlt : n < R.length
      · obtain rfl : ad = some ⟨b, off, none⟩ := by rcases had with h | h; exact h; omega
        obtain ⟨c0, c1, c2, c3, c4, c5⟩ := (HR1.out.below hb) n hlt
        obtain ⟨_, m2, _, m4⟩ := HALL.out R[n] (List.getElem_mem hlt)
        have HT2 : Hid (Tabs wr) := HT1.out.below hb
        have d0 : Hid (∀ w', Below wr.heap.size wr w' → w'.cell? ⟨b, off + n * 6, none⟩ = some (.int .i64 F)) := fun w' hw => by rw [← m4]; exact below_cell hw c0
        clear hb
        generalize R[n] = m at *
        obtain ⟨mf, mr, ms, ml, mid, mlb⟩ := m
        simp only at c0 c1 c2 c3 c4 c5 m2 m4
        subst m4
        have HC : Hid (Calls Tryd.prog 7 #[.agg #[.int .i64 mf, .int .u64 mr, .string ms, .int .i64 ml, .int .u32 mid, .int .u32 mlb]] wr fun e w' => e = .returned (.int .i64 0) ∧ Below wr.heap.size wr w') := by
          have := ncheck_any mf mr ms ml mid mlb wr HT2.out.sizes HT2.out.rds
          rw [m2] at this
          exact this
        clear m2
        go_wp2_with fail
        refine Calls.mono HC.out ?_
        rintro e w3 ⟨rfl, hb3⟩
        have e0 := d0.out w3 hb3
        have HB3 : Hid (Below w1.heap.size w1 w3) := HB.out.trans (hb3.mono HB.out.size)
        clear c0 c1 c2 c3 c4 c5 hb3 HC d0
        go_wp2
        go_roundw
        case rel => exact ⟨n + 1, by omega, by go_num, HB3.out⟩
        case measure => simp [intOf]; omega
      · have HTE : Hid (Tabs wr) := HT1.out.below hb
        have HNE : Hid (NlsAt wr (.slice ad R.length cap) R) := HN.out.below hb
        have HE : Hid (_ : Prop) := encode_any F add (.slice ad R.length cap) R wr HTE.out.sizes HTE.out.rds HZ.out HNE.out (fun m hm => (HALL.out m hm).1) (by omega)
        rw [enc_okAll F add R HALL.out] at HE
        have HBK : Hid (decI F add (encL add R).length (encL add R) = some R) := by
          unfold Hid
          have h1 := decI_back F add R HALL.out (max (encL add R).length R.length) (by omega)
          rw [← h1]
          exact decI_more F add _ _ _ (Nat.le_refl _) (by omega)
        generalize encL add R = E at *
        obtain rfl : n = R.length := by omega
        clear hlt hn
        go_wp2_with fail
        refine Calls.mono HE.out ?_
        rintro e w4 ⟨rfl, hb4⟩
        have HB4 : Hid (Below w1.heap.size w1 w4) := HB.out.trans (hb4.mono HB.out.size)
        have HT4 : Hid (Tabs w4) := HT1.out.below HB4.out
        have HD : Hid (_ : Prop) := decode_any F add E w4 HT4.out.sizes HZ.out (by have := HL.out; have := HEL.out; omega)
        rw [HBK.out] at HD
        clear hb4 HE HTE HNE hb HB
        go_wp2_with fail
        refine Calls.mono HD.out ?_
        rintro e w5 ⟨hb5, v5, rfl, ho5⟩
        have HB5 : Hid (Below w1.heap.size w1 w5) := HB4.out.trans (hb5.mono HB4.out.size)
        obtain ⟨ad5, b5, off5, cap5, rfl, had5, hcap5, hrow5⟩ := ho5.at
        have HR5 : Hid (RowN w5 b5 off5 R) := hrow5
        have HR6 : Hid (RowN w5 b off R) := HR1.out.below HB5.out
        have hz : ((⟨E.toArray⟩ : ByteArray).size : Int) = min (s.size : Int) 2000 := by rw [list_size, HEL.out]; exact hle
        have hz2 : (E.length : Int) = min (s.size : Int) 2000 := by rw [HEL.out]; exact hle
        clear hb5 ho5 hrow5 HD HB4 HT4
        go_wp2
        clear hz hz2
        go_loopw [14] (fun i wr => ∃ n : Nat, n ≤ R.length ∧ i = .int .i64 n ∧ Below w5.heap.size w5 wr) (fun i _ => R.length - (intOf i).toNat)
        case atStart => exact ⟨0, Nat.zero_le _, rfl, Below.refl _ _⟩
        case round =>
          obtain ⟨j, hj, rfl, hb⟩ := hrel
          have HB : Hid (Below _ _ _) := hb
          by_cases hlt : j < R.length
          · obtain rfl : ad = some ⟨b, off, none⟩ := by rcases had with h | h; exact h; omega
            obtain rfl : ad5 = some ⟨b5, off5, none⟩ := by rcases had5 with h | h; exact h; omega
            obtain ⟨c0, c1, c2, c3, c4, c5⟩ := (HR5.out.below hb) j hlt
            obtain ⟨d0, d1, d2, d3, d4, d5⟩ := (HR6.out.below hb) j hlt
            generalize R[j] = m at *
            obtain ⟨mf, mr, ms, ml, mid, mlb⟩ := m
            simp only at c0 c1 c2 c3 c4 c5 d0 d1 d2 d3 d4 d5
            clear hb had had5
            go_wp2
            go_quiet (fail)
            go_wp2
            go_roundw
            case rel => exact ⟨j + 1, by omega, by go_num, below_drewN HB.out _⟩
            case measure => simp [intOf]; omega
          · obtain rfl : j = R.length := by omega
            have HTE : Hid (Tabs wr) := (HT1.out.below HB5.out).below hb
            clear hlt hj hb had had5
            go_wp2_with fail
            refine (works_any _ HTE.out).mono ?_
            rintro e w7 ⟨rfl, hb7⟩
            have HB7 : Hid (Below w.heap.size w w7) := by
              have h1 : Below w.heap.size w w5 := HB1.out.trans (HB5.out.mono HB1.out.size)
              have h2 : Below w.heap.size w wr := h1.trans (HB.out.mono h1.size)
              exact h2.trans (hb7.mono h2.size)
            clear hb7
            go_wp2
            go_ret
            exact ⟨rfl, HB7.out⟩
end Go.Proofs.YtfhbgpepkplbaaaDoor
namespace Go.Proofs.YtfhbgpepkplbaaaDoor
open Go.RowKit Go.Deep
/-- Raw ones that lie in a row. -/
def RowZ (w : World) (b off : Nat) (Z : List (List Value)) : Prop := ∀ i (h : i < Z.length), w.rangeAt b (off + i * 20) Z[i] ∧ RawOk Z[i]
def RawsAt (w : World) (v : Value) (Z : List (List Value)) : Prop :=
  ∃ (ad : Option Addr) (b off cap : Nat), v = .slice ad Z.length cap ∧ (ad = some ⟨b, off, none⟩ ∨ Z.length = 0) ∧ RowZ w b off Z
theorem RowZ.below {w w' : World} {b off : Nat} {Z : List (List Value)} (h : RowZ w b off Z) (hb : Below w.heap.size w w') : RowZ w' b off Z :=
  fun i hi => ⟨fun j v hv => below_cell hb ((h i hi).1 j v hv), (h i hi).2⟩
theorem info33 : (Tryd.prog.info? 33).map (·.size) = some 20 := by kernel_rfl
set_option maxRecDepth 100000 in
set_option maxHeartbeats 12800000 in
theorem back_walk (v : Value) (Z : List (List Value)) (k : Nat) (add : Bool) (w : World) (ht : Tabs w) (hv : RawsAt w v Z) (hk : k < 256) :
    Calls Tryd.prog 3 #[v, .int .u8 k, .bool add] w fun e w' => e = .returned (.bool true) ∧ Below w.heap.size w w' := by
  obtain ⟨i0, hi, hz0, hz1, hz2⟩ := info_parts info27
  obtain ⟨ad, b, off, cap, rfl, had, hrow⟩ := hv
  have HT : Hid (Tabs w) := ht
  have HRZ : Hid (RowZ w b off Z) := hrow
  clear ht hrow
  have HZ : Hid (szOf (1 + (k : Int) % 5) ≠ 0) := fam_pos k
  have HF5 : Hid ((1 + (k : Int) % 5) = 1 ∨ (1 + (k : Int) % 5) = 2 ∨ (1 + (k : Int) % 5) = 3 ∨ (1 + (k : Int) % 5) = 4 ∨ (1 + (k : Int) % 5) = 5) := by unfold Hid; omega
  go_enter Tryd.func3, Tryd.ntmps3
  go_wp2
  generalize hF : 1 + (k : Int) % 5 = F at *
  have HFF : Hid (_ = F) := hF
  clear hF
  go_loopw [8, 9, 10] (fun t tot i wr => ∃ R : List Nl, R.length ≤ Z.length ∧ R.length ≤ 30 ∧ OwnN wr w.heap.size t R ∧ tot = .int .i64 (encL add R).length ∧ i = .int .i64 R.length ∧ (∀ n ∈ R, Good F add n) ∧ Below w.heap.size w wr) (fun _ _ i _ => 30 - (intOf i).toNat)
  case atStart => exact ⟨[], Nat.zero_le _, Nat.zero_le _, World.ownsRow_nil _ _ _ _, rfl, rfl, fun n hn => by simp at hn, Below.refl _ _⟩
  case round =>
    obtain ⟨R, hR1, hR30, ho, rfl, rfl, hgood, hb⟩ := hrel
    obtain ⟨ad1, c1, rfl⟩ := slice_of_owns ho
    have HO : Hid (OwnN wr w.heap.size _ R) := ho
    have HGD : Hid (∀ n ∈ R, Good F add n) := hgood
    have HB : Hid (Below w.heap.size w wr) := hb
    have hEL : (encL add R).length ≤ 960 := by
      have := encL_len add R fun n hn => (hgood n hn).2.1
      omega
    have HEL : Hid ((encL add R).length ≤ 960) := hEL
    by_cases hlt : R.length < Z.length ∧ R.length < 30
    · obtain ⟨hlt1, hlt2⟩ := hlt
      have hlt1' : (R.length : Int) < Z.length := by omega
      have hlt2' : (R.length : Int) < 30 := by omega
      obtain rfl : ad = some ⟨b, off, none⟩ := by rcases had with h | h; exact h; omega
      obtain ⟨hrg, hok⟩ := (HRZ.out.below hb) R.length hlt1
      have HRG : Hid (wr.rangeAt b (off + R.length * 20) Z[R.length]) := hrg
      have hin : (Tryd.prog.info? 33).map (·.size) = some Z[R.length].length := by rw [hok.len]; exact info33
      have HT2 : Hid (Tabs wr) := HT.out.below hb
      have HM : Hid (_ : Prop) := made_any Z[R.length] hok F HF5.out add wr HT2.out.sizes HT2.out.rds
      generalize Z[R.length] = C at *
      clear hrg hok ho hgood hb had hEL
      go_wp2_with (refine wpList_load_mid rfl 33 _ rfl b (off + R.length * 20) rfl C _ HRG.out Tryd.underlying33 rfl hin ?_)
      refine Calls.mono HM.out ?_
      rintro e w2 ⟨nn, rfl, hgn, hb2⟩
      have HGN : Hid (Good F add nn) := hgn
      have HSZ : Hid (_ ∧ _) := good_size hgn
      have HCK : Hid (nchk nn.f nn.r nn.s nn.l nn.lb = 0) := hgn.2.1
      have HX : Hid (encL add (R ++ [nn]) = encL add R ++ nn.enc add) := encL_snoc add R nn
      have HB2 : Hid (Below w.heap.size w w2) := HB.out.trans (hb2.mono HB.out.size)
      have HO2 : Hid (OwnN w2 w.heap.size _ R) := owns_below HO.out hb2
      have HAL : Hid (∀ m ∈ R ++ [nn], Good F add m) := by
        intro m hm
        rcases List.mem_append.mp hm with h | h
        · exact HGD.out m h
        · rw [List.mem_singleton.mp h]; exact hgn
      obtain ⟨EN, hEN⟩ : ∃ EN : Nat, EN = (nn.enc add).length := ⟨_, rfl⟩
      rw [← hEN] at HSZ
      have hle : EN ≤ 32 := HSZ.out.2.1
      have HEN : Hid (EN = (nn.enc add).length) := hEN
      obtain ⟨T, hT⟩ : ∃ T : Nat, T = (encL add R).length := ⟨_, rfl⟩
      have HTT : Hid (T = (encL add R).length) := hT
      have hT960 : T ≤ 960 := by rw [hT]; exact HEL.out
      rw [← hT]
      clear hgn hb2 HM HRG hin HT2 HO hEN hT
      obtain ⟨nf, nr, ns, nl, nid, nlb⟩ := nn
      simp only at HSZ HCK
      have hba : Below w2.heap.size w2 (w2.alloc (.cells #[.int .i64 nf, .int .u64 nr, .string ns, .int .i64 nl, .int .u32 nid, .int .u32 nlb] 29)) := (Below.refl _ _).alloc (Nat.le_refl _) _
      have HB3 : Hid (Below w.heap.size w (w2.alloc (.cells #[.int .i64 nf, .int .u64 nr, .string ns, .int .i64 nl, .int .u32 nid, .int .u32 nlb] 29))) := HB2.out.trans (hba.mono HB2.out.size)
      have HO3 : Hid (OwnN (w2.alloc (.cells #[.int .i64 nf, .int .u64 nr, .string ns, .int .i64 nl, .int .u32 nid, .int .u32 nlb] 29)) w.heap.size _ R) := owns_below HO2.out hba
      have HT3 : Hid (Tabs (w2.alloc (.cells #[.int .i64 nf, .int .u64 nr, .string ns, .int .i64 nl, .int .u32 nid, .int .u32 nlb] 29))) := HT.out.below HB3.out
      have hg3 : (w2.alloc (.cells #[.int .i64 nf, .int .u64 nr, .string ns, .int .i64 nl, .int .u32 nid, .int .u32 nlb] 29)).heap[w2.heap.size]? = some (.cells #[.int .i64 nf, .int .u64 nr, .string ns, .int .i64 nl, .int .u32 nid, .int .u32 nlb] 29 (0, 0)) := heap_new _ _
      have HS : Hid (Calls Tryd.prog 6 #[.agg #[.int .i64 nf, .int .u64 nr, .string ns, .int .i64 nl, .int .u32 nid, .int .u32 nlb], .bool add] (w2.alloc (.cells #[.int .i64 nf, .int .u64 nr, .string ns, .int .i64 nl, .int .u32 nid, .int .u32 nlb] 29)) fun e w' => e = .returned (.tuple #[.int .i64 EN, .int .i64 0]) ∧ Below (w2.alloc (.cells #[.int .i64 nf, .int .u64 nr, .string ns, .int .i64 nl, .int .u32 nid, .int .u32 nlb] 29)).heap.size (w2.alloc (.cells #[.int .i64 nf, .int .u64 nr, .string ns, .int .i64 nl, .int .u32 nid, .int .u32 nlb] 29)) w') := by
        have := nsize_any nf nr ns nl nid nlb add (w2.alloc (.cells #[.int .i64 nf, .int .u64 nr, .string ns, .int .i64 nl, .int .u32 nid, .int .u32 nlb] 29)) HT3.out.sizes HT3.out.rds
        rw [HSZ.out.2.2.2] at this
        exact this
      clear hba
      go_wp2_with fail
      refine Calls.mono HS.out ?_
      rintro e w4 ⟨rfl, hb4⟩
      have HB4 : Hid (Below w.heap.size w w4) := HB3.out.trans (hb4.mono HB3.out.size)
      have HO4 : Hid (OwnN w4 w.heap.size _ R) := owns_below HO3.out hb4
      have HT4 : Hid (Tabs w4) := HT.out.below HB4.out
      have hg4 : w4.heap[w2.heap.size]? = some (.cells #[.int .i64 nf, .int .u64 nr, .string ns, .int .i64 nl, .int .u32 nid, .int .u32 nlb] 29 (0, 0)) := (hb4.block _ (Array.getElem?_eq_some_iff.mp hg3).1).trans hg3
      have HG4 : Hid (_ = _) := hg4
      have d0 : w4.cell? ⟨w2.heap.size, 0, none⟩ = some (.int .i64 nf) := cell_row hg4 rfl
      have d1 : w4.cell? ⟨w2.heap.size, 1, none⟩ = some (.int .u64 nr) := cell_row hg4 rfl
      have d2 : w4.cell? ⟨w2.heap.size, 2, none⟩ = some (.string ns) := cell_row hg4 rfl
      have d3 : w4.cell? ⟨w2.heap.size, 3, none⟩ = some (.int .i64 nl) := cell_row hg4 rfl
      have d4 : w4.cell? ⟨w2.heap.size, 4, none⟩ = some (.int .u32 nid) := cell_row hg4 rfl
      have d5 : w4.cell? ⟨w2.heap.size, 5, none⟩ = some (.int .u32 nlb) := cell_row hg4 rfl
      have HC : Hid (Calls Tryd.prog 7 #[.agg #[.int .i64 nf, .int .u64 nr, .string ns, .int .i64 nl, .int .u32 nid, .int .u32 nlb]] w4 fun e w' => e = .returned (.int .i64 0) ∧ Below w4.heap.size w4 w') := by
        have := ncheck_any nf nr ns nl nid nlb w4 HT4.out.sizes HT4.out.rds
        rw [HCK.out] at this
        exact this
      clear hb4 hg3 hg4 HS HB3 HO3 HT3 HO2 HB2
      go_wp2_with fail
      refine Calls.mono HC.out ?_
      rintro e w5 ⟨rfl, hb5⟩
      have HB5 : Hid (Below w.heap.size w w5) := HB4.out.trans (hb5.mono HB4.out.size)
      have HO5 : Hid (OwnN w5 w.heap.size _ R) := owns_below HO4.out hb5
      have hg5 : w5.heap[w2.heap.size]? = some (.cells #[.int .i64 nf, .int .u64 nr, .string ns, .int .i64 nl, .int .u32 nid, .int .u32 nlb] 29 (0, 0)) := (hb5.block _ (Array.getElem?_eq_some_iff.mp HG4.out).1).trans HG4.out
      have e0 : w5.cell? ⟨w2.heap.size, 0, none⟩ = some (.int .i64 nf) := cell_row hg5 rfl
      have e1 : w5.cell? ⟨w2.heap.size, 1, none⟩ = some (.int .u64 nr) := cell_row hg5 rfl
      have e2 : w5.cell? ⟨w2.heap.size, 2, none⟩ = some (.string ns) := cell_row hg5 rfl
      have e3 : w5.cell? ⟨w2.heap.size, 3, none⟩ = some (.int .i64 nl) := cell_row hg5 rfl
      have e4 : w5.cell? ⟨w2.heap.size, 4, none⟩ = some (.int .u32 nid) := cell_row hg5 rfl
      have e5 : w5.cell? ⟨w2.heap.size, 5, none⟩ = some (.int .u32 nlb) := cell_row hg5 rfl
      have hwt : IntKind.i64.wrap ((T : Int) + EN) = (T : Int) + EN := by rw [IntKind.wrap_i64]; omega
      have HNW : Hid (∀ (j : Nat) (u : Value), ([.int .i64 nf, .int .u64 nr, .string ns, .int .i64 nl, .int .u32 nid, .int .u32 nlb] : List Value)[j]? = some u → (w5.alloc (.cells #[.int .i64 nf, .int .u64 nr, .string ns, .int .i64 nl, .int .u32 nid, .int .u32 nlb] 29)).cell? (Addr.add ⟨w5.heap.size, 0, none⟩ j) = some u) := news6 w5 (.int .i64 nf) (.int .u64 nr) (.string ns) (.int .i64 nl) (.int .u32 nid) (.int .u32 nlb) 29
      clear hb5 hg5 HG4 HC HB4 HO4 HT4 d0 d1 d2 d3 d4 d5
      go_wp2_with (at_builtin; refine wpList_append_own _ rfl _ _ 23 rfl w.heap.size 29 i0 (.agg #[.int .i64 0, .int .u64 0, .string ⟨#[]⟩, .int .i64 0, .int .u32 0, .int .u32 0]) 6 48 Tryd.underlying23 hi hz0 hz1 hz2 rfl (by decide) _ _ _ rfl (World.ownsRow.alloc HO5.out _) ⟨w5.heap.size, 0, none⟩ 1 1 [.int .i64 nf, .int .u64 nr, .string ns, .int .i64 nl, .int .u32 nid, .int .u32 nlb] rfl rfl HNW.out (six_nl _ _ _ _ _ _) (by unfold maxLen; omega) (by omega) (Nat.le_trans HB5.out.size (by simp)) ?_; intro v6 w6 hown6 hgrow6 _)
      have hos : OwnN w6 w.heap.size v6 (R ++ [⟨nf, nr, ns, nl, nid, nlb⟩]) := by
        unfold OwnN; rw [cellsN_snoc, List.length_append]; exact hown6
      have hbw : Below w.heap.size w w6 := (HB5.out.alloc HB5.out.size _).grown hgrow6 (Nat.le_trans HB5.out.size (by simp)) (fun k e => (owns_lt HO5.out k e).1)
      have HB6 : Hid (Below w.heap.size w w6) := hbw
      obtain ⟨ad6, c6, rfl⟩ := slice_of_owns hown6
      clear hown6 hgrow6 hbw e0 e1 e2 e3 e4 e5
      go_wp2
      go_roundw
      case rel => exact ⟨R ++ [⟨nf, nr, ns, nl, nid, nlb⟩], by simp; omega, by simp; omega, hos, by rw [HX.out, List.length_append, ← HEN.out, ← HTT.out]; rfl, by simp, HAL.out, HB6.out⟩
      case measure => simp [intOf]; omega
    · by_cases hA : R.length < Z.length
      · have h30 : R.length = 30 := by omega
        have H30 : Hid (R.length = 30) := h30
        have hA' : (R.length : Int) < Z.length := by omega
        have hB' : ¬ ((R.length : Int) < 30) := by omega
        clear h30
        have HNE : Hid (NlsAt wr (.slice ad1 R.length c1) R) := ho.at
        have HTE : Hid (Tabs wr) := HT.out.below hb
        have HE : Hid (_ : Prop) := encode_any F add (.slice ad1 R.length c1) R wr HTE.out.sizes HTE.out.rds HZ.out HNE.out (fun m hm => (HGD.out m hm).1) (by omega)
        rw [enc_okAll F add R HGD.out] at HE
        have HBK : Hid (decI F add (encL add R).length (encL add R) = some R) := by
          unfold Hid
          have h1 := decI_back F add R HGD.out (max (encL add R).length R.length) (by omega)
          rw [← h1]
          exact decI_more F add _ _ _ (Nat.le_refl _) (by omega)
        have HSH : Hid (∀ (R' : List Nl) (n : Nl), R = R' ++ [n] → 2 ≤ (n.enc add).length → ∀ N, decI F add N ((encL add R).take ((encL add R).length - 1)) = none) := fun R' n h h2 N => by
          have hR := HGD.out
          subst h
          exact back_short F add R' n hR h2 N
        have HPOS : Hid (R ≠ [] → 1 ≤ (encL add R).length) := fun h => by
          cases R with
          | nil => exact absurd rfl h
          | cons n R =>
            have := (good_size (HGD.out n (List.mem_cons_self))).2.2.1
            simp only [encL, List.flatMap_cons, List.length_append]
            omega
        have HNIL : Hid (R = [] → encL add R = []) := fun h => by rw [h]; rfl
        have HR0 : Hid (NlsAt wr (.slice ad1 R.length c1) R) := ho.at
        obtain ⟨ad2, b2, off2, cap2, hs2, had2, hcap2, hrow2⟩ := ho.at
        obtain ⟨rfl, rfl⟩ : ad1 = ad2 ∧ c1 = cap2 := by injection hs2 with h1 _ h2; exact ⟨h1, h2⟩
        have HRW : Hid (RowN wr b2 off2 R) := hrow2
        have HAD : Hid (ad1 = some ⟨b2, off2, none⟩ ∨ R.length = 0) := had2
        generalize hEE : encL add R = E at *
        clear ho hgood hb had hs2 had2 hrow2 hEL hlt hEE
        go_wp2_with fail
        refine Calls.mono HE.out ?_
        rintro e w4 ⟨rfl, hb4⟩
        have HB4 : Hid (Below w.heap.size w w4) := HB.out.trans (hb4.mono HB.out.size)
        have HT4 : Hid (Tabs w4) := HT.out.below HB4.out
        have HRW4 : Hid (RowN w4 b2 off2 R) := HRW.out.below hb4
        have HD : Hid (_ : Prop) := decode_any F add E w4 HT4.out.sizes HZ.out (by have := HEL.out; omega)
        rw [HBK.out] at HD
        clear hb4 HE HTE HNE HR0 HRW
        go_wp2_with fail
        refine Calls.mono HD.out ?_
        rintro e w5 ⟨hb5, v5, rfl, ho5⟩
        have HB5 : Hid (Below w.heap.size w w5) := HB4.out.trans (hb5.mono HB4.out.size)
        obtain ⟨ad5, b5, off5, cap5, rfl, had5, hcap5, hrow5⟩ := ho5.at
        have HR5 : Hid (RowN w5 b5 off5 R) := hrow5
        have HR6 : Hid (RowN w5 b2 off2 R) := HRW4.out.below hb5
        have hz : ((⟨E.toArray⟩ : ByteArray).size : Int) = (E.length : Int) := by rw [list_size]
        clear hb5 ho5 hrow5 HD HB4 HT4 HRW4
        go_wp2
        clear hz
        go_loopw [18] (fun i wr => ∃ n : Nat, n ≤ R.length ∧ i = .int .i64 n ∧ Below w5.heap.size w5 wr) (fun i _ => R.length - (intOf i).toNat)
        case atStart => exact ⟨0, Nat.zero_le _, rfl, Below.refl _ _⟩
        case round =>
          obtain ⟨j, hj, rfl, hb⟩ := hrel
          have HBj : Hid (Below _ _ _) := hb
          by_cases hlt : j < R.length
          · obtain rfl : ad1 = some ⟨b2, off2, none⟩ := by rcases HAD.out with h | h; exact h; omega
            obtain rfl : ad5 = some ⟨b5, off5, none⟩ := by rcases had5 with h | h; exact h; omega
            obtain ⟨c0, c1', c2, c3, c4, c5⟩ := (HR5.out.below hb) j hlt
            obtain ⟨d0, d1, d2, d3, d4, d5⟩ := (HR6.out.below hb) j hlt
            generalize R[j] = m at *
            obtain ⟨mf, mr, ms, ml, mid, mlb⟩ := m
            simp only at c0 c1' c2 c3 c4 c5 d0 d1 d2 d3 d4 d5
            clear hb had5
            go_wp2
            go_quiet (fail)
            go_wp2
            go_roundw
            case rel => exact ⟨j + 1, by omega, by go_num, below_drewN HBj.out _⟩
            case measure => simp [intOf]; omega
          · obtain rfl : j = R.length := by omega
            have HB6 : Hid (Below w.heap.size w wr) := HB5.out.trans (HBj.out.mono HB5.out.size)
            have HT6 : Hid (Tabs wr) := HT.out.below HB6.out
            have HW6 : Hid (_ : Prop) := works_any wr HT6.out
            have HR7 : Hid (RowN wr b2 off2 R) := HR6.out.below hb
            clear hlt hj hb had5 HR5 HR6 HBj HB5
            by_cases hnil : R = []
            · have hE0 := HNIL.out hnil
              subst hE0
              subst hnil
              simp only [List.length_nil]
              go_wp2_with fail
              refine Calls.mono HW6.out ?_
              rintro e w7 ⟨rfl, hb7⟩
              have HB7 : Hid (Below w.heap.size w w7) := HB6.out.trans (hb7.mono HB6.out.size)
              clear hb7
              go_wp2
              go_ret
              exact ⟨rfl, HB7.out⟩
            · have HNN : Hid (R ≠ []) := hnil
              have hpE := HPOS.out hnil
              have hpR : 1 ≤ R.length := by cases R with | nil => exact absurd rfl hnil | cons => simp
              obtain ⟨R', m, hRm⟩ : ∃ R' m, R = R' ++ [m] := ⟨R.dropLast, R.getLast hnil, (List.dropLast_concat_getLast hnil).symm⟩
              have hq : R.length = R'.length + 1 := by rw [hRm]; simp
              have hRq : R[R'.length]'(by omega) = m := by simp [hRm]
              obtain rfl : ad1 = some ⟨b2, off2, none⟩ := by rcases HAD.out with h | h; exact h; omega
              obtain ⟨d0, d1, d2, d3, d4, d5⟩ := HR7.out R'.length (by omega)
              rw [hRq] at d0 d1 d2 d3 d4 d5
              have HGM : Hid (Good F add m) := HGD.out m (by rw [hRm]; simp)
              have HSM : Hid (2 ≤ (m.enc add).length → ∀ N, decI F add N (E.take (E.length - 1)) = none) := HSH.out R' m hRm
              have HSZ : Hid (_ ∧ _) := good_size HGM.out
              clear hRq
              generalize R'.length = q at *
              have hwq : IntKind.i64.wrap ((R.length : Int) - 1) = (q : Int) := by rw [IntKind.wrap_i64]; omega
              have hq1 : (q : Int) < R.length := by omega
              have hpR' : (0 : Int) < R.length := by omega
              have hpE' : (0 : Int) < E.length := by omega
              obtain ⟨EN, hEN⟩ : ∃ EN : Nat, EN = (m.enc add).length := ⟨_, rfl⟩
              rw [← hEN] at HSZ HSM
              obtain ⟨nf, nr, ns, nl, nid, nlb⟩ := m
              simp only at d0 d1 d2 d3 d4 d5 HSZ
              have HS : Hid (Calls Tryd.prog 6 #[.agg #[.int .i64 nf, .int .u64 nr, .string ns, .int .i64 nl, .int .u32 nid, .int .u32 nlb], .bool add] wr fun e w' => e = .returned (.tuple #[.int .i64 EN, .int .i64 0]) ∧ Below wr.heap.size wr w') := by
                have := nsize_any nf nr ns nl nid nlb add wr HT6.out.sizes HT6.out.rds
                rw [HSZ.out.2.2.2] at this
                exact this
              clear hq hRm hEN hpE hpR hnil
              go_wp2_with fail
              refine Calls.mono HS.out ?_
              rintro e w7 ⟨rfl, hb7⟩
              have HB7 : Hid (Below w.heap.size w w7) := HB6.out.trans (hb7.mono HB6.out.size)
              have HT7 : Hid (Tabs w7) := HT.out.below HB7.out
              have HW7 : Hid (_ : Prop) := works_any w7 HT7.out
              clear hb7 HS d0 d1 d2 d3 d4 d5 hwq hq1
              by_cases h2 : 2 ≤ EN
              · have h2' : (1 : Int) < EN := by omega
                have HDN : Hid (_ : Prop) := decode_any F add (E.take (E.length - 1)) w7 HT7.out.sizes HZ.out (by have := HEL.out; simp; omega)
                rw [HSM.out h2] at HDN
                clear h2
                obtain ⟨p, hp⟩ : ∃ p : Nat, p = E.length - 1 := ⟨_, rfl⟩
                rw [← hp] at HDN
                have hlE := HEL.out
                have hwe : wrap64 ((E.length : Int) - 1) = (p : Int) := by unfold wrap64; omega
                have hwe2 : IntKind.i64.wrap ((E.length : Int) - 1) = (p : Int) := by rw [IntKind.wrap_i64]; omega
                have hpl : (p : Int) ≤ E.length := by omega
                have hpl2 : p ≤ E.length := by omega
                have hex : (⟨E.toArray⟩ : ByteArray).extract 0 p = ⟨(E.take p).toArray⟩ := take_list E p
                clear hlE hp
                go_wp2_with fail
                refine Calls.mono HDN.out ?_
                rintro e w8 ⟨hb8, rfl⟩
                have HB8 : Hid (Below w.heap.size w w8) := HB7.out.trans (hb8.mono HB7.out.size)
                have HT8 : Hid (Tabs w8) := HT.out.below HB8.out
                have HW8 : Hid (_ : Prop) := works_any w8 HT8.out
                clear hb8 HDN hwe hwe2 hpl hpl2 hex
                go_wp2_with fail
                refine Calls.mono HW8.out ?_
                rintro e w9 ⟨rfl, hb9⟩
                have HB9 : Hid (Below w.heap.size w w9) := HB8.out.trans (hb9.mono HB8.out.size)
                clear hb9
                go_wp2
                go_ret
                exact ⟨rfl, HB9.out⟩
              · have h2' : ¬ ((1 : Int) < EN) := by omega
                go_wp2_with fail
                refine Calls.mono HW7.out ?_
                rintro e w8 ⟨rfl, hb8⟩
                have HB8 : Hid (Below w.heap.size w w8) := HB7.out.trans (hb8.mono HB7.out.size)
                clear hb8
                go_wp2
                go_ret
                exact ⟨rfl, HB8.out⟩
      · have hA' : ¬ ((R.length : Int) < Z.length) := by omega
        have HNE : Hid (NlsAt wr (.slice ad1 R.length c1) R) := ho.at
        have HTE : Hid (Tabs wr) := HT.out.below hb
        have HE : Hid (_ : Prop) := encode_any F add (.slice ad1 R.length c1) R wr HTE.out.sizes HTE.out.rds HZ.out HNE.out (fun m hm => (HGD.out m hm).1) (by omega)
        rw [enc_okAll F add R HGD.out] at HE
        have HBK : Hid (decI F add (encL add R).length (encL add R) = some R) := by
          unfold Hid
          have h1 := decI_back F add R HGD.out (max (encL add R).length R.length) (by omega)
          rw [← h1]
          exact decI_more F add _ _ _ (Nat.le_refl _) (by omega)
        have HSH : Hid (∀ (R' : List Nl) (n : Nl), R = R' ++ [n] → 2 ≤ (n.enc add).length → ∀ N, decI F add N ((encL add R).take ((encL add R).length - 1)) = none) := fun R' n h h2 N => by
          have hR := HGD.out
          subst h
          exact back_short F add R' n hR h2 N
        have HPOS : Hid (R ≠ [] → 1 ≤ (encL add R).length) := fun h => by
          cases R with
          | nil => exact absurd rfl h
          | cons n R =>
            have := (good_size (HGD.out n (List.mem_cons_self))).2.2.1
            simp only [encL, List.flatMap_cons, List.length_append]
            omega
        have HNIL : Hid (R = [] → encL add R = []) := fun h => by rw [h]; rfl
        have HR0 : Hid (NlsAt wr (.slice ad1 R.length c1) R) := ho.at
        obtain ⟨ad2, b2, off2, cap2, hs2, had2, hcap2, hrow2⟩ := ho.at
        obtain ⟨rfl, rfl⟩ : ad1 = ad2 ∧ c1 = cap2 := by injection hs2 with h1 _ h2; exact ⟨h1, h2⟩
        have HRW : Hid (RowN wr b2 off2 R) := hrow2
        have HAD : Hid (ad1 = some ⟨b2, off2, none⟩ ∨ R.length = 0) := had2
        generalize hEE : encL add R = E at *
        clear ho hgood hb had hs2 had2 hrow2 hEL hlt hEE
        go_wp2_with fail
        refine Calls.mono HE.out ?_
        rintro e w4 ⟨rfl, hb4⟩
        have HB4 : Hid (Below w.heap.size w w4) := HB.out.trans (hb4.mono HB.out.size)
        have HT4 : Hid (Tabs w4) := HT.out.below HB4.out
        have HRW4 : Hid (RowN w4 b2 off2 R) := HRW.out.below hb4
        have HD : Hid (_ : Prop) := decode_any F add E w4 HT4.out.sizes HZ.out (by have := HEL.out; omega)
        rw [HBK.out] at HD
        clear hb4 HE HTE HNE HR0 HRW
        go_wp2_with fail
        refine Calls.mono HD.out ?_
        rintro e w5 ⟨hb5, v5, rfl, ho5⟩
        have HB5 : Hid (Below w.heap.size w w5) := HB4.out.trans (hb5.mono HB4.out.size)
        obtain ⟨ad5, b5, off5, cap5, rfl, had5, hcap5, hrow5⟩ := ho5.at
        have HR5 : Hid (RowN w5 b5 off5 R) := hrow5
        have HR6 : Hid (RowN w5 b2 off2 R) := HRW4.out.below hb5
        have hz : ((⟨E.toArray⟩ : ByteArray).size : Int) = (E.length : Int) := by rw [list_size]
        clear hb5 ho5 hrow5 HD HB4 HT4 HRW4
        go_wp2
        clear hz
        go_loopw [18] (fun i wr => ∃ n : Nat, n ≤ R.length ∧ i = .int .i64 n ∧ Below w5.heap.size w5 wr) (fun i _ => R.length - (intOf i).toNat)
        case atStart => exact ⟨0, Nat.zero_le _, rfl, Below.refl _ _⟩
        case round =>
          obtain ⟨j, hj, rfl, hb⟩ := hrel
          have HBj : Hid (Below _ _ _) := hb
          by_cases hlt : j < R.length
          · obtain rfl : ad1 = some ⟨b2, off2, none⟩ := by rcases HAD.out with h | h; exact h; omega
            obtain rfl : ad5 = some ⟨b5, off5, none⟩ := by rcases had5 with h | h; exact h; omega
            obtain ⟨c0, c1', c2, c3, c4, c5⟩ := (HR5.out.below hb) j hlt
            obtain ⟨d0, d1, d2, d3, d4, d5⟩ := (HR6.out.below hb) j hlt
            generalize R[j] = m at *
            obtain ⟨mf, mr, ms, ml, mid, mlb⟩ := m
            simp only at c0 c1' c2 c3 c4 c5 d0 d1 d2 d3 d4 d5
            clear hb had5
            go_wp2
            go_quiet (fail)
            go_wp2
            go_roundw
            case rel => exact ⟨j + 1, by omega, by go_num, below_drewN HBj.out _⟩
            case measure => simp [intOf]; omega
          · obtain rfl : j = R.length := by omega
            have HB6 : Hid (Below w.heap.size w wr) := HB5.out.trans (HBj.out.mono HB5.out.size)
            have HT6 : Hid (Tabs wr) := HT.out.below HB6.out
            have HW6 : Hid (_ : Prop) := works_any wr HT6.out
            have HR7 : Hid (RowN wr b2 off2 R) := HR6.out.below hb
            clear hlt hj hb had5 HR5 HR6 HBj HB5
            by_cases hnil : R = []
            · have hE0 := HNIL.out hnil
              subst hE0
              subst hnil
              simp only [List.length_nil]
              go_wp2_with fail
              refine Calls.mono HW6.out ?_
              rintro e w7 ⟨rfl, hb7⟩
              have HB7 : Hid (Below w.heap.size w w7) := HB6.out.trans (hb7.mono HB6.out.size)
              clear hb7
              go_wp2
              go_ret
              exact ⟨rfl, HB7.out⟩
            · have HNN : Hid (R ≠ []) := hnil
              have hpE := HPOS.out hnil
              have hpR : 1 ≤ R.length := by cases R with | nil => exact absurd rfl hnil | cons => simp
              obtain ⟨R', m, hRm⟩ : ∃ R' m, R = R' ++ [m] := ⟨R.dropLast, R.getLast hnil, (List.dropLast_concat_getLast hnil).symm⟩
              have hq : R.length = R'.length + 1 := by rw [hRm]; simp
              have hRq : R[R'.length]'(by omega) = m := by simp [hRm]
              obtain rfl : ad1 = some ⟨b2, off2, none⟩ := by rcases HAD.out with h | h; exact h; omega
              obtain ⟨d0, d1, d2, d3, d4, d5⟩ := HR7.out R'.length (by omega)
              rw [hRq] at d0 d1 d2 d3 d4 d5
              have HGM : Hid (Good F add m) := HGD.out m (by rw [hRm]; simp)
              have HSM : Hid (2 ≤ (m.enc add).length → ∀ N, decI F add N (E.take (E.length - 1)) = none) := HSH.out R' m hRm
              have HSZ : Hid (_ ∧ _) := good_size HGM.out
              clear hRq
              generalize R'.length = q at *
              have hwq : IntKind.i64.wrap ((R.length : Int) - 1) = (q : Int) := by rw [IntKind.wrap_i64]; omega
              have hq1 : (q : Int) < R.length := by omega
              have hpR' : (0 : Int) < R.length := by omega
              have hpE' : (0 : Int) < E.length := by omega
              obtain ⟨EN, hEN⟩ : ∃ EN : Nat, EN = (m.enc add).length := ⟨_, rfl⟩
              rw [← hEN] at HSZ HSM
              obtain ⟨nf, nr, ns, nl, nid, nlb⟩ := m
              simp only at d0 d1 d2 d3 d4 d5 HSZ
              have HS : Hid (Calls Tryd.prog 6 #[.agg #[.int .i64 nf, .int .u64 nr, .string ns, .int .i64 nl, .int .u32 nid, .int .u32 nlb], .bool add] wr fun e w' => e = .returned (.tuple #[.int .i64 EN, .int .i64 0]) ∧ Below wr.heap.size wr w') := by
                have := nsize_any nf nr ns nl nid nlb add wr HT6.out.sizes HT6.out.rds
                rw [HSZ.out.2.2.2] at this
                exact this
              clear hq hRm hEN hpE hpR hnil
              go_wp2_with fail
              refine Calls.mono HS.out ?_
              rintro e w7 ⟨rfl, hb7⟩
              have HB7 : Hid (Below w.heap.size w w7) := HB6.out.trans (hb7.mono HB6.out.size)
              have HT7 : Hid (Tabs w7) := HT.out.below HB7.out
              have HW7 : Hid (_ : Prop) := works_any w7 HT7.out
              clear hb7 HS d0 d1 d2 d3 d4 d5 hwq hq1
              by_cases h2 : 2 ≤ EN
              · have h2' : (1 : Int) < EN := by omega
                have HDN : Hid (_ : Prop) := decode_any F add (E.take (E.length - 1)) w7 HT7.out.sizes HZ.out (by have := HEL.out; simp; omega)
                rw [HSM.out h2] at HDN
                clear h2
                obtain ⟨p, hp⟩ : ∃ p : Nat, p = E.length - 1 := ⟨_, rfl⟩
                rw [← hp] at HDN
                have hlE := HEL.out
                have hwe : wrap64 ((E.length : Int) - 1) = (p : Int) := by unfold wrap64; omega
                have hwe2 : IntKind.i64.wrap ((E.length : Int) - 1) = (p : Int) := by rw [IntKind.wrap_i64]; omega
                have hpl : (p : Int) ≤ E.length := by omega
                have hpl2 : p ≤ E.length := by omega
                have hex : (⟨E.toArray⟩ : ByteArray).extract 0 p = ⟨(E.take p).toArray⟩ := take_list E p
                clear hlE hp
                go_wp2_with fail
                refine Calls.mono HDN.out ?_
                rintro e w8 ⟨hb8, rfl⟩
                have HB8 : Hid (Below w.heap.size w w8) := HB7.out.trans (hb8.mono HB7.out.size)
                have HT8 : Hid (Tabs w8) := HT.out.below HB8.out
                have HW8 : Hid (_ : Prop) := works_any w8 HT8.out
                clear hb8 HDN hwe hwe2 hpl hpl2 hex
                go_wp2_with fail
                refine Calls.mono HW8.out ?_
                rintro e w9 ⟨rfl, hb9⟩
                have HB9 : Hid (Below w.heap.size w w9) := HB8.out.trans (hb9.mono HB8.out.size)
                clear hb9
                go_wp2
                go_ret
                exact ⟨rfl, HB9.out⟩
              · have h2' : ¬ ((1 : Int) < EN) := by omega
                go_wp2_with fail
                refine Calls.mono HW7.out ?_
                rintro e w8 ⟨rfl, hb8⟩
                have HB8 : Hid (Below w.heap.size w w8) := HB7.out.trans (hb8.mono HB7.out.size)
                clear hb8
                go_wp2
                go_ret
                exact ⟨rfl, HB8.out⟩
end Go.Proofs.YtfhbgpepkplbaaaDoor
namespace Go.Proofs.YtfhbgpepkplbaaaDoor
open Go.ChangeShapes Go.WideShapes Go.ChangeAt Go.RowKit Go.Joins Go.Deep Go.WideMaps Go.WideElems
theorem zs33 : Tryd.prog.cellsOf 33 = 20 := by kernel_rfl
theorem zs31 : Tryd.prog.cellsOf 31 = 16 := by kernel_rfl
theorem zs24 : Tryd.prog.cellsOf 24 = 1 := by kernel_rfl
theorem zs27 : Tryd.prog.cellsOf 27 = 1 := by kernel_rfl
theorem zs5 : Tryd.prog.cellsOf 5 = 1 := by kernel_rfl
theorem st22 : Tryd.prog.wantsStandIn 22 = false := by kernel_rfl
theorem add_off (b off i : Nat) : Addr.add ⟨b, off, none⟩ i = ⟨b, off + i, none⟩ := by unfold Addr.add; by_cases e : i = 0 <;> simp [e]
theorem u32_bd {n : Int} (h : (Lit.int .u32 n).wf = true) : 0 ≤ n ∧ n < 4294967296 := by
  have hb : 0 ≤ n ∧ n ≤ 4294967295 := by simpa [Lit.wf, IntKind.min, IntKind.max, IntKind.signed, IntKind.bits] using h
  omega
theorem u64_bd {n : Int} (h : (Lit.int .u64 n).wf = true) : 0 ≤ n ∧ n < 18446744073709551616 := by
  have hb : 0 ≤ n ∧ n ≤ 18446744073709551615 := by simpa [Lit.wf, IntKind.min, IntKind.max, IntKind.signed, IntKind.bits] using h
  omega
theorem byte_of {n : Int} (h : (Lit.int .u8 n).wf = true) : ∃ a : UInt8, n = (a.toNat : Int) := by
  have hx : 0 ≤ n ∧ n ≤ 255 := by simpa [Lit.wf, IntKind.min, IntKind.max, IntKind.signed, IntKind.bits] using h
  refine ⟨UInt8.ofNat n.toNat, ?_⟩
  rw [UInt8.toNat_ofNat']
  omega
theorem list20 {α : Type} (l : List α) (h : l.length = 20) : ∃ c0 c1 c2 c3 c4 c5 c6 c7 c8 c9 c10 c11 c12 c13 c14 c15 c16 c17 c18 c19, l = [c0, c1, c2, c3, c4, c5, c6, c7, c8, c9, c10, c11, c12, c13, c14, c15, c16, c17, c18, c19] := by
  match l, h with
  | [c0, c1, c2, c3, c4, c5, c6, c7, c8, c9, c10, c11, c12, c13, c14, c15, c16, c17, c18, c19], _ => exact ⟨c0, c1, c2, c3, c4, c5, c6, c7, c8, c9, c10, c11, c12, c13, c14, c15, c16, c17, c18, c19, rfl⟩
variable {H : Type} {enc : TypeId × Value → H} {w : World} {sp : Nat → Bool} {held : Bool} {fuel : Nat}
theorem trod_struct5 {P : Program} {base : Nat} {t : TypeId} {f0 f1 f2 f3 f4 : Field} {cs : List Value} {x : DataW H × List MemPlace} (ht : P.underlying t = some (.struct #[f0, f1, f2, f3, f4])) (h : DataW.trod enc P w base sp held fuel t cs = some x) :
    ∃ y0 y1 y2 y3 y4 n, DataW.trod enc P w base sp held n f0.type ((cs.drop f0.offset).take (P.cellsOf f0.type)) = some y0 ∧ DataW.trod enc P w base sp held n f1.type ((cs.drop f1.offset).take (P.cellsOf f1.type)) = some y1 ∧ DataW.trod enc P w base sp held n f2.type ((cs.drop f2.offset).take (P.cellsOf f2.type)) = some y2 ∧
      DataW.trod enc P w base sp held n f3.type ((cs.drop f3.offset).take (P.cellsOf f3.type)) = some y3 ∧ DataW.trod enc P w base sp held n f4.type ((cs.drop f4.offset).take (P.cellsOf f4.type)) = some y4 := by
  obtain ⟨xs, n, _, rfl, hl, hlen, hf⟩ := DataW.trod_struct ht h
  match xs, hlen with
  | [y0, y1, y2, y3, y4], _ => exact ⟨y0, y1, y2, y3, y4, n, by simpa using hf 0 f0 rfl, by simpa using hf 1 f1 rfl, by simpa using hf 2 f2 rfl, by simpa using hf 3 f3 rfl, by simpa using hf 4 f4 rfl⟩
set_option maxRecDepth 100000 in
theorem arr_u8 {base : Nat} {cs : List Value} {x : DataW H × List MemPlace} (h : DataW.trod enc Tryd.prog w base sp held fuel 31 cs = some x) (k : Nat) (hk : k < 16) : ∃ a : UInt8, cs[k]? = some (.int .u8 (a.toNat : Int)) := by
  obtain ⟨xs, m, _, _, hl, hn, hel⟩ := DataW.trod_array Tryd.underlying31 h
  rw [zs31] at hl
  have h1 := hel k hk
  rw [zs5, Nat.mul_one, List.getElem?_eq_getElem (by omega : k < xs.length)] at h1
  obtain ⟨n, e, _, q⟩ := DataW.trod_int (k := .u8) Tryd.underlying5 h1
  obtain ⟨a, rfl⟩ := byte_of q
  refine ⟨a, ?_⟩
  have hk' : k < cs.length := by omega
  rw [List.drop_eq_getElem_cons hk'] at e
  simp only [List.take_succ_cons, List.take_zero, List.cons.injEq, and_true] at e
  rw [List.getElem?_eq_getElem hk', e]
set_option maxRecDepth 100000 in
theorem raw_of {base : Nat} {cs : List Value} {x : DataW H × List MemPlace} (hl : cs.length = 20) (h : DataW.trod enc Tryd.prog w base sp held fuel 33 cs = some x) : RawOk cs := by
  obtain ⟨c0, c1, c2, c3, c4, c5, c6, c7, c8, c9, c10, c11, c12, c13, c14, c15, c16, c17, c18, c19, rfl⟩ := list20 cs hl
  obtain ⟨y0, y1, y2, y3, y4, n, h0, h1, h2, h3, h4⟩ := trod_struct5 Tryd.underlying33 h
  simp only [zs5, zs24, zs27, zs31, List.drop_zero, List.drop_succ_cons, List.take_succ_cons, List.take_zero] at h0 h1 h2 h3 h4
  obtain ⟨rd, e0, _, q0⟩ := DataW.trod_int (k := .u64) Tryd.underlying24 h0
  obtain ⟨ln, e2, _, q2⟩ := DataW.trod_int (k := .u8) Tryd.underlying5 h2
  obtain ⟨id, e3, _, q3⟩ := DataW.trod_int (k := .u32) Tryd.underlying27 h3
  obtain ⟨lb, e4, _, q4⟩ := DataW.trod_int (k := .u32) Tryd.underlying27 h4
  have HA := arr_u8 h1
  obtain ⟨a0, x0⟩ := HA 0 (by omega)
  obtain ⟨a1, x1⟩ := HA 1 (by omega)
  obtain ⟨a2, x2⟩ := HA 2 (by omega)
  obtain ⟨a3, x3⟩ := HA 3 (by omega)
  obtain ⟨a4, x4⟩ := HA 4 (by omega)
  obtain ⟨a5, x5⟩ := HA 5 (by omega)
  obtain ⟨a6, x6⟩ := HA 6 (by omega)
  obtain ⟨a7, x7⟩ := HA 7 (by omega)
  obtain ⟨a8, x8⟩ := HA 8 (by omega)
  obtain ⟨a9, x9⟩ := HA 9 (by omega)
  obtain ⟨a10, x10⟩ := HA 10 (by omega)
  obtain ⟨a11, x11⟩ := HA 11 (by omega)
  obtain ⟨a12, x12⟩ := HA 12 (by omega)
  obtain ⟨a13, x13⟩ := HA 13 (by omega)
  obtain ⟨a14, x14⟩ := HA 14 (by omega)
  obtain ⟨a15, x15⟩ := HA 15 (by omega)
  simp only [List.cons.injEq, and_true] at e0 e2 e3 e4
  simp only [List.getElem?_cons_zero, List.getElem?_cons_succ, Option.some.injEq] at x0 x1 x2 x3 x4 x5 x6 x7 x8 x9 x10 x11 x12 x13 x14 x15
  subst e0 e2 e3 e4 x0 x1 x2 x3 x4 x5 x6 x7 x8 x9 x10 x11 x12 x13 x14 x15
  have u2 : 0 ≤ ln ∧ ln ≤ 255 := by simpa [Lit.wf, IntKind.min, IntKind.max, IntKind.signed, IntKind.bits] using q2
  exact ⟨rd, ln, id, lb, a0, a1, a2, a3, a4, a5, a6, a7, a8, a9, a10, a11, a12, a13, a14, a15, rfl, u64_bd q0, u2, u32_bd q3, u32_bd q4⟩
theorem open_raws {v : Value} {x : DataW H × List MemPlace} (hf : DataW.trod enc Tryd.prog w 0 sp held fuel 22 [v] = some x) : ∃ Z, RawsAt w v Z := by
  rcases open_slice Tryd.underlying22 hf with ⟨hcs, _⟩ | ⟨a, len, cap, m, n, D, Pl, hcs, hb, hl, hm, hmm, hx, hel⟩
  · simp at hcs
    subst hcs
    exact ⟨[], none, 0, 0, 0, rfl, Or.inr rfl, fun j hj => by simp at hj⟩
  · simp at hcs
    subst hcs
    have each : ∀ i, i < len → ∃ C : List Value, RawOk C ∧ ∀ j u, C[j]? = some u → w.cell? (a.add (i * 20 + j)) = some u := by
      intro i hi
      obtain ⟨cs', h1, h2⟩ := hel i (by rw [hmm]; split <;> omega)
      rw [zs33] at h1
      obtain ⟨_, hlen, hcell⟩ := World.cells?_some h1
      refine ⟨cs', raw_of hlen h2, fun j u hj => ?_⟩
      have hjl : j < cs'.length := (List.getElem?_eq_some_iff.mp hj).1
      have d := hcell j (by omega)
      rw [add_add] at d
      rw [d]
      exact hj
    obtain ⟨q, hq⟩ := choose_lt each
    by_cases hz : len = 0
    · subst hz
      exact ⟨[], some a, 0, 0, cap, rfl, Or.inr rfl, fun j hj => by simp at hj⟩
    · obtain ⟨b, off, spot⟩ := a
      have hspot : spot = none := by
        obtain ⟨h1, h2⟩ := hq 0 (by omega)
        have hl0 : 0 < (q 0).length := by rw [h1.len]; omega
        have := h2 0 _ (List.getElem?_eq_getElem hl0)
        simpa [Addr.add] using World.cell?_spot this
      subst hspot
      refine ⟨(List.range len).map q, some ⟨b, off, none⟩, b, off, cap, by simp, Or.inl rfl, fun j hj => ?_⟩
      have hj' : j < len := by simpa using hj
      obtain ⟨h1, h2⟩ := hq j hj'
      simp only [add_off] at h2
      refine ⟨fun i u hu => ?_, by simpa using h1⟩
      have := h2 i u (by simpa using hu)
      rw [← Nat.add_assoc] at this
      exact this
end Go.Proofs.YtfhbgpepkplbaaaDoor
