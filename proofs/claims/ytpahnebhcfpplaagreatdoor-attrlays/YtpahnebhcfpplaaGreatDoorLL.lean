/-
  AttrLays answers true, of every list.
-/
import Derived.Test.YtpahnebhcfpplaaGreatDoorB5
import Derived.BigQuiet
import Derived.Test.YtpahnebhcfpplaaGreatDoorB6
import Derived.Deep.RegionHeld3
import Derived.Test.YtpahnebhcfpplaaGreatDoorCW
namespace Go.Proofs.YtpahnebhcfpplaaGreatDoor
open Go.RowKit
theorem worth_take (l : List UInt8) (k : Nat) (h : k < l.length) : worth (l.take (k + 1)) = worth (l.take k) * 256 + l[k].toNat := by
  rw [List.take_succ_eq_append_getElem h, worth_snoc]
theorem ix_str (l : List UInt8) (k : Nat) (h : k < l.length) (W : World) : (Instr.index 9 (.string ⟨l.toArray⟩) (.int .i64 (k : Int))).run Tryz.prog W = .ok (.int .u8 (l[k].toNat : Int)) W := by
  have hs := list_size l
  rw [run_index_string W 9 _ .i64 (k : Int) Tryz.underlying9, dif_pos ⟨by omega, by rw [hs]; omega⟩]
  have e : (⟨l.toArray⟩ : ByteArray)[(k : Int).toNat]'(by rw [hs]; omega) = l[k] := by
    show l.toArray[(k : Int).toNat] = l[k]
    simp
  rw [e]
set_option maxRecDepth 100000 in
theorem value_any (l : List UInt8) (w : World) (hl : l.length ≤ 2) :
    Calls Tryz.prog 51 #[.string ⟨l.toArray⟩] w fun e w' => e = .returned (.int .u64 (worth l : Nat)) ∧ w' = w := by
  have hsz : (⟨l.toArray⟩ : ByteArray).size = l.length := list_size l
  go_enter Tryz.func51, Tryz.ntmps51
  go_wp2
  go_loopw [3, 4] (fun t i wr => ∃ k : Nat, k ≤ l.length ∧ i = .int .i64 k ∧ t = .int .u64 (worth (l.take k) : Nat) ∧ wr = w) (fun _ i _ => l.length - (intOf i).toNat)
  case atStart => exact ⟨0, Nat.zero_le _, rfl, by simp [worth], rfl⟩
  case round =>
    obtain ⟨k, hk, rfl, rfl, rfl⟩ := hrel
    by_cases hlt : k < l.length
    · have HX : Hid (worth (l.take (k + 1)) = worth (l.take k) * 256 + l[k].toNat) := worth_take l k hlt
      have hb := worth_lt (l.take k)
      have hkl : (l.take k).length = k := by simp; omega
      rw [hkl] at hb
      have hb2 : worth (l.take k) < 256 := by
        rcases (show k = 0 ∨ k = 1 by omega) with rfl | rfl
        · show worth [] < 256; decide
        · simpa using hb
      have hix : ∀ W, (Instr.index 9 (.string ⟨l.toArray⟩) (.int .i64 (k : Int))).run Tryz.prog W = .ok (.int .u8 (l[k].toNat : Int)) W := fun W => ix_str l k hlt W
      have hc : l[k].toNat < 256 := UInt8.toNat_lt _
      generalize worth (l.take k) = q at *
      clear hb hkl
      generalize l[k].toNat = cc at *
      have hw1 : IntKind.u64.wrap ((q : Int) * 256) = (q : Int) * 256 := by rw [IntKind.wrap_u64]; omega
      have hw2 : IntKind.u64.wrap (cc : Int) = (cc : Int) := by rw [IntKind.wrap_u64]; omega
      have hw3 : IntKind.u64.wrap ((q : Int) * 256 + (cc : Int)) = (q : Int) * 256 + (cc : Int) := by rw [IntKind.wrap_u64]; omega
      go_wp2
      go_roundw
      case rel => exact ⟨k + 1, by omega, by go_num, by rw [HX.out]; simp, trivial⟩
      case measure => simp [intOf]; omega
    · obtain rfl : k = l.length := by omega
      rw [List.take_length]
      go_wp2
      go_ret
      exact ⟨rfl, rfl⟩
theorem ne_list {a b : ByteArray} (h : ¬ (a = b)) : (a.toList == b.toList) = false := by
  cases hb : (a.toList == b.toList) with
  | false => rfl
  | true =>
    have e : a.toList = b.toList := eq_of_beq hb
    rw [ByteArray.toList_eq, ByteArray.toList_eq] at e
    exact absurd (ByteArray.ext (Array.toList_inj.mp e)) h
set_option maxRecDepth 100000 in
set_option maxHeartbeats 1600000 in
theorem sameRaws_any (va vb : Value) (A B : List Rw) (w : World) (ha : RawsAt w va A) (hb : RawsAt w vb B) :
    Calls Tryz.prog 12 #[va, vb] w fun e w' => e = .returned (.bool (decide (A = B))) ∧ Below w.heap.size w w' := by
  obtain ⟨ad, b, off, cap, rfl, had, ⟨_, hl⟩, hr⟩ := ha
  obtain ⟨ad', b', off', cap', rfl, had', ⟨_, hl'⟩, hr'⟩ := hb
  have HR : Hid (RowR _ _ _ _) := hr
  have HR' : Hid (RowR _ _ _ _) := hr'
  clear hr hr'
  by_cases hlen : A.length = B.length
  · have HL : Hid (A.length = B.length) := hlen
    rw [← hlen] at had' hl' ⊢
    clear hlen
    go_enter Tryz.func12, Tryz.ntmps12
    go_wp2
    go_loopw [5] (fun i wr => ∃ k : Nat, k ≤ A.length ∧ i = .int .i64 k ∧ A.take k = B.take k ∧ Below w.heap.size w wr) (fun i _ => A.length - (intOf i).toNat)
    case atStart => exact ⟨0, Nat.zero_le _, rfl, by simp, Below.refl _ _⟩
    case round =>
      obtain ⟨k, hk, rfl, htk, hbe⟩ := hrel
      have HB : Hid (Below _ _ _) := hbe
      have HTK : Hid (_ = _) := htk
      clear htk
      by_cases hlt : k < A.length
      · have hltB : k < B.length := by rw [← HL.out]; exact hlt
        obtain rfl : ad = some ⟨b, off, none⟩ := by rcases had with h | h; exact h; omega
        obtain rfl : ad' = some ⟨b', off', none⟩ := by rcases had' with h | h; exact h; omega
        obtain ⟨⟨c0, c1, c2⟩, _⟩ := (HR.out.below hbe) k hlt
        obtain ⟨⟨d0, d1, d2⟩, _⟩ := (HR'.out.below hbe) k hltB
        have HEQ : Hid (A[k] = B[k] → A.take (k + 1) = B.take (k + 1)) := fun e => by rw [take_snoc A k hlt, take_snoc B k hltB, HTK.out, e]
        have HNE : Hid (A[k] ≠ B[k] → decide (A = B) = false) := fun e => by
          apply decide_eq_false
          intro h
          subst h
          exact e rfl
        rename_i hz1 hz2
        clear hz1 hz2
        clear had had' hbe
        generalize A[k] = x at *
        generalize B[k] = y at *
        clear hltB
        obtain ⟨x0, x1, x2⟩ := x
        obtain ⟨y0, y1, y2⟩ := y
        simp only at c0 c1 c2 d0 d1 d2
        by_cases h0 : x0 = y0
        · subst h0
          by_cases h1 : x1 = y1
          · subst h1
            by_cases h2 : x2 = y2
            · subst h2
              have HTN : Hid (_ = _) := HEQ.out rfl
              go_wp2
              go_quiet (fail)
              go_wp2
              go_roundw
              case rel => exact ⟨k + 1, by omega, by go_num, HTN.out, below_drewN' HB.out _⟩
              case measure => simp [intOf]; omega
            · have HD : Hid (_ = _) := HNE.out (by intro h; simp at h; exact h2 h)
              have hs : (x2.toList == y2.toList) = false := ne_list h2
              clear h2
              go_wp2
              go_quiet (fail)
              go_wp2
              go_ret
              exact ⟨ret_bool HD.out.symm, below_drewN' HB.out _⟩
          · have HD : Hid (_ = _) := HNE.out (by intro h; simp at h; exact h1 h.1)
            have hs : ((x1 : Int) == (y1 : Int)) = false := by simp; omega
            clear h1
            go_wp2
            go_quiet (fail)
            go_wp2
            go_ret
            exact ⟨ret_bool HD.out.symm, below_drewN' HB.out _⟩
        · have HD : Hid (_ = _) := HNE.out (by intro h; simp at h; exact h0 h.1)
          have hs : ((x0 : Int) == (y0 : Int)) = false := by simp; omega
          clear h0
          go_wp2
          go_quiet (fail)
          go_wp2
          go_ret
          exact ⟨ret_bool HD.out.symm, below_drewN' HB.out _⟩
      · obtain rfl : k = A.length := by omega
        have HE : Hid (decide (A = B) = true) := by
          unfold Hid
          have h1 := HTK.out
          have h2 := HL.out
          rw [List.take_length, h2, List.take_length] at h1
          exact decide_eq_true h1
        go_wp2
        go_ret
        exact ⟨ret_bool HE.out.symm, HB.out⟩
  · have hd : decide (A = B) = false := decide_eq_false (fun h => hlen (by rw [h]))
    rw [hd]
    have hn : ((A.length : Int) == (B.length : Int)) = false := by simp; omega
    have hn2 : ¬ ((A.length : Int) = (B.length : Int)) := by omega
    clear hd hlen
    go_enter Tryz.func12, Tryz.ntmps12
    go_wp2
    go_ret
    exact ⟨rfl, Below.refl _ _⟩
end Go.Proofs.YtpahnebhcfpplaaGreatDoor
namespace Go.Proofs.YtpahnebhcfpplaaGreatDoor
open Go.RowKit
theorem num29 (v n : Nat) (w : World) (h0 : 1 ≤ n) (h1 : n ≤ 8) (hv : v < 256 ^ n) :
    Calls Tryz.prog 29 #[.int .u64 (v : Int), .int .i64 (n : Int)] w fun e w' => e = .returned (.string ⟨(laid v n).toArray⟩) ∧ Below w.heap.size w w' := by
  go_enter Tryz.func29, Tryz.ntmps29
  go_wp2_with fail
  refine (rput_yes ⟨#[]⟩ v n w h0 h1 hv (by decide)).mono ?_
  rintro e w' ⟨rfl, hbel⟩
  rw [empty_append]
  go_wp2
  go_ret
  exact ⟨rfl, hbel⟩
theorem flag_back (f : Nat) (h : f < 256) : (f &&& 239) ||| 16 = f ||| 16 := by
  have : ∀ f : Fin 256, (f.1 &&& 239) ||| 16 = f.1 ||| 16 := by decide +kernel
  exact this ⟨f, h⟩
theorem add_str (l m : List UInt8) (h : l.length + m.length ≤ 1000000) (W : World) : (Op.stringOp .add (⟨l.toArray⟩ : ByteArray) ⟨m.toArray⟩).run Tryz.prog W = .ok (.string ⟨(l ++ m).toArray⟩) W := by
  have hx := run_string_add_if (P := Tryz.prog) W ⟨l.toArray⟩ ⟨m.toArray⟩
  rw [if_neg (by rw [list_size, list_size]; omega), strAdd] at hx
  exact hx
set_option maxRecDepth 100000 in
set_option maxHeartbeats 6400000 in
theorem rlay_any (v : Value) (R : List Rw) (w : World) (h : RawsAt w v R) :
    Calls Tryz.prog 20 #[v] w fun e w' => e = .returned (layAns R) ∧ Below w.heap.size w w' := by
  obtain ⟨ad, b, off, cap, rfl, had, ⟨_, hl⟩, hr⟩ := h
  have HR : Hid (RowR _ _ _ _) := hr
  clear hr
  go_enter Tryz.func20, Tryz.ntmps20
  go_wp2
  go_loopw [4, 5] (fun t i wr => ∃ k : Nat, k ≤ R.length ∧ i = .int .i64 k ∧ t = .int .i64 ((layE (R.take k)).length : Nat) ∧ (layE (R.take k)).length ≤ 4077 ∧ w = wr) (fun _ i _ => R.length - (intOf i).toNat)
  case atStart => exact ⟨0, Nat.zero_le _, rfl, by simp [layE], by simp [layE], rfl⟩
  case round =>
    obtain ⟨k, hk, rfl, rfl, hle, rfl⟩ := hrel
    by_cases hlt : k < R.length
    · obtain rfl : ad = some ⟨b, off, none⟩ := by rcases had with h | h; exact h; omega
      obtain ⟨⟨_, _, c2⟩, _, _, hs⟩ := HR.out k hlt
      have HX : Hid ((layE (R.take (k + 1))).length = (layE (R.take k)).length + (2 + sizeE R[k] + R[k].2.2.size)) := by unfold Hid; rw [take_snoc R k hlt, layE_snoc, List.length_append, rawE_length]
      have HTOT : Hid (¬ (layE (R.take (k + 1))).length ≤ 4077 → layAns R = .tuple #[.string ⟨#[]⟩, .int .i64 3]) := fun h => by
        unfold layAns
        rw [if_neg]
        have := layE_le R (k + 1)
        omega
      have HSE : Hid (sizeE R[k] = if 255 < R[k].2.2.size then 2 else 1) := rfl
      rename_i hz1 hz2 hz3 hz4
      clear hz1 hz2 hz3 hz4
      generalize R[k].2.2 = sv at *
      generalize sizeE R[k] = se at *
      clear had
      generalize (layE (R.take k)).length = E at *
      have hw1 : IntKind.i64.wrap ((E : Int) + 3) = (E : Int) + 3 := by rw [IntKind.wrap_i64]; omega
      have hw2 : IntKind.i64.wrap ((E : Int) + 3 + (sv.size : Int)) = (E : Int) + 3 + (sv.size : Int) := by rw [IntKind.wrap_i64]; omega
      have hw3 : IntKind.i64.wrap ((E : Int) + 3 + (sv.size : Int) + 1) = (E : Int) + 3 + (sv.size : Int) + 1 := by rw [IntKind.wrap_i64]; omega
      by_cases hlong : 255 < sv.size
      · have hli : (255 : Int) < (sv.size : Int) := by omega
        have HS2 : Hid ((layE (R.take (k + 1))).length = E + 3 + sv.size + 1) := by unfold Hid; have h1 := HX.out; have h2 := HSE.out; rw [if_pos hlong] at h2; omega
        by_cases hfit : E + 3 + sv.size + 1 ≤ 4077
        · have hgt : ¬ ((4077 : Int) < (E : Int) + 3 + (sv.size : Int) + 1) := by omega
          go_wp2
          go_roundw
          case rel => exact ⟨k + 1, by omega, by go_num, by rw [HS2.out]; simp, by rw [HS2.out]; exact hfit, trivial⟩
          case measure => simp [intOf]; omega
        · have hgt : (4077 : Int) < (E : Int) + 3 + (sv.size : Int) + 1 := by omega
          have HBAD : Hid (layAns R = _) := HTOT.out (by rw [HS2.out]; exact hfit)
          go_wp2
          go_ret2
          exact ⟨by rw [HBAD.out]; rfl, Below.refl _ _⟩
      · have hli : ¬ ((255 : Int) < (sv.size : Int)) := by omega
        have HS2 : Hid ((layE (R.take (k + 1))).length = E + 3 + sv.size) := by unfold Hid; have h1 := HX.out; have h2 := HSE.out; rw [if_neg hlong] at h2; omega
        by_cases hfit : E + 3 + sv.size ≤ 4077
        · have hgt : ¬ ((4077 : Int) < (E : Int) + 3 + (sv.size : Int)) := by omega
          go_wp2
          go_roundw
          case rel => exact ⟨k + 1, by omega, by go_num, by rw [HS2.out]; simp, by rw [HS2.out]; exact hfit, trivial⟩
          case measure => simp [intOf]; omega
        · have hgt : (4077 : Int) < (E : Int) + 3 + (sv.size : Int) := by omega
          have HBAD : Hid (layAns R = _) := HTOT.out (by rw [HS2.out]; exact hfit)
          go_wp2
          go_ret2
          exact ⟨by rw [HBAD.out]; rfl, Below.refl _ _⟩
    · obtain rfl : k = R.length := by omega
      rw [List.take_length] at hle ⊢
      have HLE : Hid ((layE R).length ≤ 4077) := hle
      have HAN : Hid (layAns R = .tuple #[.string ⟨(layE R).toArray⟩, .int .i64 0]) := by unfold Hid layAns; rw [if_pos hle]
      clear hle
      go_wp2
      go_loopw [6, 7] (fun t i wr => ∃ k : Nat, k ≤ R.length ∧ i = .int .i64 k ∧ t = .string ⟨(layE (R.take k)).toArray⟩ ∧ Below w.heap.size w wr) (fun _ i _ => R.length - (intOf i).toNat)
      case atStart => exact ⟨0, Nat.zero_le _, rfl, by simp [layE], Below.refl _ _⟩
      case round =>
        obtain ⟨k, hk, rfl, rfl, hb⟩ := hrel
        have HB : Hid (Below _ _ _) := hb
        by_cases hlt : k < R.length
        · obtain rfl : ad = some ⟨b, off, none⟩ := by rcases had with h | h; exact h; omega
          obtain ⟨⟨c0, c1, c2⟩, hf, ht, hs⟩ := (HR.out.below hb) k hlt
          have HX : Hid (layE (R.take (k + 1)) = layE (R.take k) ++ rawE R[k]) := by unfold Hid; rw [take_snoc R k hlt, layE_snoc]
          have HTAKE : Hid ((layE (R.take (k + 1))).length ≤ 4077) := by have h1 := layE_le R (k + 1); have h2 := HLE.out; unfold Hid; omega
          clear had hb
          generalize layE (R.take k) = E at *
          generalize R[k] = r at *
          obtain ⟨f, t, v⟩ := r
          simp only at c0 c1 c2 hf ht hs
          by_cases hlong : 255 < v.size
          · skip
            have HFL : Hid (flagE (f, t, v) = f ||| 16) := by unfold Hid flagE; exact if_pos hlong
            have HSZ : Hid (sizeE (f, t, v) = 2) := by unfold Hid sizeE; exact if_pos hlong
            have hli : (255 : Int) < (v.size : Int) := by omega
            have ha := andNot8 f hf
            have hfz := flag_lt f hf
            have hfb := flag_back f hf
            have hor := or8 (f &&& 239) hfz.2
            rw [hfb] at hor
            have HL2 : Hid (E.length + 2 + 2 + v.size ≤ 4077) := by
              unfold Hid
              have h1 := HTAKE.out
              rw [HX.out, List.length_append, rawE_length, HSZ.out] at h1
              simp only at h1
              omega
            have hl2 := HL2.out
            clear hfb
            generalize hFF : f ||| 16 = FF at *
            generalize f &&& 239 = F0 at *
            have hF256 : FF < 256 := by omega
            clear hFF hfz
            have hwF : IntKind.u64.wrap (FF : Int) = (FF : Int) := by rw [IntKind.wrap_u64]; omega
            have hwT : IntKind.u64.wrap (t : Int) = (t : Int) := by rw [IntKind.wrap_u64]; omega
            have hwS : IntKind.u64.wrap (v.size : Int) = (v.size : Int) := by rw [IntKind.wrap_u64]; omega
            have HN1 : Hid (∀ W, Calls Tryz.prog 29 #[.int .u64 (FF : Int), .int .i64 1] W fun e w' => e = .returned (.string ⟨(laid FF 1).toArray⟩) ∧ Below W.heap.size W w') := fun W => num29 FF 1 W (by omega) (by omega) (by omega)
            have HN2 : Hid (∀ W, Calls Tryz.prog 29 #[.int .u64 (t : Int), .int .i64 1] W fun e w' => e = .returned (.string ⟨(laid t 1).toArray⟩) ∧ Below W.heap.size W w') := fun W => num29 t 1 W (by omega) (by omega) (by omega)
            have HN3 : Hid (∀ W, Calls Tryz.prog 29 #[.int .u64 (v.size : Int), .int .i64 2] W fun e w' => e = .returned (.string ⟨(laid v.size 2).toArray⟩) ∧ Below W.heap.size W w') := fun W => num29 v.size 2 W (by omega) (by omega) (by omega)
            have q1 := laid_length FF 1
            have q2 := laid_length t 1
            have q3 := laid_length v.size 2
            have q4 : v.data.toList.length = v.size := Array.length_toList
            have g1 : ∀ W, (Op.stringOp .add (⟨E.toArray⟩ : ByteArray) ⟨(laid FF 1).toArray⟩).run Tryz.prog W = .ok (.string ⟨(E ++ laid FF 1).toArray⟩) W := fun W => add_str _ _ (by omega) W
            have g2 : ∀ W, (Op.stringOp .add (⟨(E ++ laid FF 1).toArray⟩ : ByteArray) ⟨(laid t 1).toArray⟩).run Tryz.prog W = .ok (.string ⟨(E ++ laid FF 1 ++ laid t 1).toArray⟩) W := fun W => add_str _ _ (by rw [List.length_append]; omega) W
            have g3 : ∀ W, (Op.stringOp .add (⟨(E ++ laid FF 1 ++ laid t 1).toArray⟩ : ByteArray) ⟨(laid v.size 2).toArray⟩).run Tryz.prog W = .ok (.string ⟨(E ++ laid FF 1 ++ laid t 1 ++ laid v.size 2).toArray⟩) W := fun W => add_str _ _ (by rw [List.length_append, List.length_append]; omega) W
            have g4 : ∀ W, (Op.stringOp .add (⟨(E ++ laid FF 1 ++ laid t 1 ++ laid v.size 2).toArray⟩ : ByteArray) v).run Tryz.prog W = .ok (.string ⟨(E ++ laid FF 1 ++ laid t 1 ++ laid v.size 2 ++ v.data.toList).toArray⟩) W := fun W => by
              have h := add_str (E ++ laid FF 1 ++ laid t 1 ++ laid v.size 2) v.data.toList (by rw [List.length_append, List.length_append, List.length_append]; omega) W
              rw [data_back] at h
              exact h
            have HE : Hid (layE (R.take (k + 1)) = E ++ laid FF 1 ++ laid t 1 ++ laid v.size 2 ++ v.data.toList) := by
              unfold Hid
              rw [HX.out]
              unfold rawE
              rw [HFL.out, HSZ.out]
              simp only [List.append_assoc]
            clear q1 q2 q3 q4 hl2
            have HS4 : Hid (Value.string ⟨(layE (R.take (k + 1))).toArray⟩ = .string ⟨(E ++ laid FF 1 ++ laid t 1 ++ laid v.size 2 ++ v.data.toList).toArray⟩) := by unfold Hid; rw [HE.out]
            generalize (⟨(E ++ laid FF 1 ++ laid t 1 ++ laid v.size 2 ++ v.data.toList).toArray⟩ : ByteArray) = s4 at *
            generalize (⟨(E ++ laid FF 1 ++ laid t 1 ++ laid v.size 2).toArray⟩ : ByteArray) = s3 at *
            generalize (⟨(E ++ laid FF 1 ++ laid t 1).toArray⟩ : ByteArray) = s2 at *
            generalize (⟨(E ++ laid FF 1).toArray⟩ : ByteArray) = s1 at *
            generalize (⟨E.toArray⟩ : ByteArray) = s0 at *
            generalize (⟨(laid FF 1).toArray⟩ : ByteArray) = b1 at *
            generalize (⟨(laid t 1).toArray⟩ : ByteArray) = b2 at *
            generalize (⟨(laid v.size 2).toArray⟩ : ByteArray) = b3 at *
            have tok1 : True := trivial
            have tok2 : True := trivial
            go_wp2
            go_region_held (fun w' => w'.cell? ⟨b, off + k * 3 + 1, none⟩ = some (.int .u8 (t : Int))) (go_keep)
              (first | (go_at_call 29; have _t := tok1; (try rw [hwF]); refine (HN1.out _).mono ?_; rintro e w5 ⟨rfl, hb5⟩; have r1 := below_cell (w := wr.drew) hb5 c1; clear tok1) | (go_at_call 29; have _t := tok2; (try rw [hwT]); refine (HN2.out _).mono ?_; rintro e w6 ⟨rfl, hb6⟩; have r2 := below_cell hb6 r1; clear tok2) | (go_at_call 29; (try rw [hwS]); refine (HN3.out _).mono ?_; rintro e w7 ⟨rfl, hb7⟩; have r3 := below_cell hb7 r2))
            have HB7 : Hid (Below w.heap.size w w7) := ((HB.out.drew.trans (hb5.mono HB.out.size)).trans (hb6.mono (Nat.le_trans HB.out.size hb5.size))).trans (hb7.mono (Nat.le_trans HB.out.size (Nat.le_trans hb5.size hb6.size)))
            have c27 : w7.cell? ⟨b, off + k * 3 + 2, none⟩ = some (.string v) := below_cell hb7 (below_cell hb6 (below_cell (w := wr.drew) hb5 c2))
            clear hb5 hb6 hb7 r1 r2 r3 c0 c1 c2 HN1 HN2 HN3
            go_wp2
            go_roundw
            case rel => exact ⟨k + 1, by omega, by go_num, HS4.out.symm, HB7.out⟩
            case measure => simp [intOf]; omega
          · skip
            have HFL : Hid (flagE (f, t, v) = f &&& 239) := by unfold Hid flagE; exact if_neg hlong
            have HSZ : Hid (sizeE (f, t, v) = 1) := by unfold Hid sizeE; exact if_neg hlong
            have hli : ¬ ((255 : Int) < (v.size : Int)) := by omega
            have ha := andNot8 f hf
            have hfz := flag_lt f hf
            have hfb := flag_back f hf
            have HL2 : Hid (E.length + 2 + 1 + v.size ≤ 4077) := by
              unfold Hid
              have h1 := HTAKE.out
              rw [HX.out, List.length_append, rawE_length, HSZ.out] at h1
              simp only at h1
              omega
            have hl2 := HL2.out
            clear hfb
            generalize hFF : f &&& 239 = FF at *
            skip
            have hF256 : FF < 256 := by omega
            clear hFF hfz
            have hwF : IntKind.u64.wrap (FF : Int) = (FF : Int) := by rw [IntKind.wrap_u64]; omega
            have hwT : IntKind.u64.wrap (t : Int) = (t : Int) := by rw [IntKind.wrap_u64]; omega
            have hwS : IntKind.u64.wrap (v.size : Int) = (v.size : Int) := by rw [IntKind.wrap_u64]; omega
            have HN1 : Hid (∀ W, Calls Tryz.prog 29 #[.int .u64 (FF : Int), .int .i64 1] W fun e w' => e = .returned (.string ⟨(laid FF 1).toArray⟩) ∧ Below W.heap.size W w') := fun W => num29 FF 1 W (by omega) (by omega) (by omega)
            have HN2 : Hid (∀ W, Calls Tryz.prog 29 #[.int .u64 (t : Int), .int .i64 1] W fun e w' => e = .returned (.string ⟨(laid t 1).toArray⟩) ∧ Below W.heap.size W w') := fun W => num29 t 1 W (by omega) (by omega) (by omega)
            have HN3 : Hid (∀ W, Calls Tryz.prog 29 #[.int .u64 (v.size : Int), .int .i64 1] W fun e w' => e = .returned (.string ⟨(laid v.size 1).toArray⟩) ∧ Below W.heap.size W w') := fun W => num29 v.size 1 W (by omega) (by omega) (by omega)
            have q1 := laid_length FF 1
            have q2 := laid_length t 1
            have q3 := laid_length v.size 1
            have q4 : v.data.toList.length = v.size := Array.length_toList
            have g1 : ∀ W, (Op.stringOp .add (⟨E.toArray⟩ : ByteArray) ⟨(laid FF 1).toArray⟩).run Tryz.prog W = .ok (.string ⟨(E ++ laid FF 1).toArray⟩) W := fun W => add_str _ _ (by omega) W
            have g2 : ∀ W, (Op.stringOp .add (⟨(E ++ laid FF 1).toArray⟩ : ByteArray) ⟨(laid t 1).toArray⟩).run Tryz.prog W = .ok (.string ⟨(E ++ laid FF 1 ++ laid t 1).toArray⟩) W := fun W => add_str _ _ (by rw [List.length_append]; omega) W
            have g3 : ∀ W, (Op.stringOp .add (⟨(E ++ laid FF 1 ++ laid t 1).toArray⟩ : ByteArray) ⟨(laid v.size 1).toArray⟩).run Tryz.prog W = .ok (.string ⟨(E ++ laid FF 1 ++ laid t 1 ++ laid v.size 1).toArray⟩) W := fun W => add_str _ _ (by rw [List.length_append, List.length_append]; omega) W
            have g4 : ∀ W, (Op.stringOp .add (⟨(E ++ laid FF 1 ++ laid t 1 ++ laid v.size 1).toArray⟩ : ByteArray) v).run Tryz.prog W = .ok (.string ⟨(E ++ laid FF 1 ++ laid t 1 ++ laid v.size 1 ++ v.data.toList).toArray⟩) W := fun W => by
              have h := add_str (E ++ laid FF 1 ++ laid t 1 ++ laid v.size 1) v.data.toList (by rw [List.length_append, List.length_append, List.length_append]; omega) W
              rw [data_back] at h
              exact h
            have HE : Hid (layE (R.take (k + 1)) = E ++ laid FF 1 ++ laid t 1 ++ laid v.size 1 ++ v.data.toList) := by
              unfold Hid
              rw [HX.out]
              unfold rawE
              rw [HFL.out, HSZ.out]
              simp only [List.append_assoc]
            clear q1 q2 q3 q4 hl2
            have HS4 : Hid (Value.string ⟨(layE (R.take (k + 1))).toArray⟩ = .string ⟨(E ++ laid FF 1 ++ laid t 1 ++ laid v.size 1 ++ v.data.toList).toArray⟩) := by unfold Hid; rw [HE.out]
            generalize (⟨(E ++ laid FF 1 ++ laid t 1 ++ laid v.size 1 ++ v.data.toList).toArray⟩ : ByteArray) = s4 at *
            generalize (⟨(E ++ laid FF 1 ++ laid t 1 ++ laid v.size 1).toArray⟩ : ByteArray) = s3 at *
            generalize (⟨(E ++ laid FF 1 ++ laid t 1).toArray⟩ : ByteArray) = s2 at *
            generalize (⟨(E ++ laid FF 1).toArray⟩ : ByteArray) = s1 at *
            generalize (⟨E.toArray⟩ : ByteArray) = s0 at *
            generalize (⟨(laid FF 1).toArray⟩ : ByteArray) = b1 at *
            generalize (⟨(laid t 1).toArray⟩ : ByteArray) = b2 at *
            generalize (⟨(laid v.size 1).toArray⟩ : ByteArray) = b3 at *
            have tok1 : True := trivial
            have tok2 : True := trivial
            go_wp2
            go_region_held (fun w' => w'.cell? ⟨b, off + k * 3 + 1, none⟩ = some (.int .u8 (t : Int))) (go_keep)
              (first | (go_at_call 29; have _t := tok1; (try rw [hwF]); refine (HN1.out _).mono ?_; rintro e w5 ⟨rfl, hb5⟩; have r1 := below_cell (w := wr.drew) hb5 c1; clear tok1) | (go_at_call 29; have _t := tok2; (try rw [hwT]); refine (HN2.out _).mono ?_; rintro e w6 ⟨rfl, hb6⟩; have r2 := below_cell hb6 r1; clear tok2) | (go_at_call 29; (try rw [hwS]); refine (HN3.out _).mono ?_; rintro e w7 ⟨rfl, hb7⟩; have r3 := below_cell hb7 r2))
            have HB7 : Hid (Below w.heap.size w w7) := ((HB.out.drew.trans (hb5.mono HB.out.size)).trans (hb6.mono (Nat.le_trans HB.out.size hb5.size))).trans (hb7.mono (Nat.le_trans HB.out.size (Nat.le_trans hb5.size hb6.size)))
            have c27 : w7.cell? ⟨b, off + k * 3 + 2, none⟩ = some (.string v) := below_cell hb7 (below_cell hb6 (below_cell (w := wr.drew) hb5 c2))
            clear hb5 hb6 hb7 r1 r2 r3 c0 c1 c2 HN1 HN2 HN3
            go_wp2
            go_roundw
            case rel => exact ⟨k + 1, by omega, by go_num, HS4.out.symm, HB7.out⟩
            case measure => simp [intOf]; omega
        · obtain rfl : k = R.length := by omega
          rw [List.take_length]
          go_wp2
          go_ret2
          exact ⟨by rw [HAN.out]; rfl, HB.out⟩
end Go.Proofs.YtpahnebhcfpplaaGreatDoor
namespace Go.Proofs.YtpahnebhcfpplaaGreatDoor
open Go.RowKit
theorem RawsAt.first {w : World} {ad : Option Addr} {n cap : Nat} {R : List Rw} (h : RawsAt w (.slice ad n cap) R) (k : Nat) (hk : k ≤ R.length) : RawsAt w (.slice ad k cap) (R.take k) := by
  obtain ⟨ad', b, off, cap', h1, h2, ⟨h3, h3'⟩, h4⟩ := h
  simp only [Value.slice.injEq] at h1
  obtain ⟨rfl, rfl, rfl⟩ := h1
  have hl : (R.take k).length = k := by simp; omega
  refine ⟨ad, b, off, cap, by rw [hl], ?_, ⟨by omega, by omega⟩, ?_⟩
  · rcases h2 with h2 | h2
    · exact Or.inl h2
    · right; omega
  · intro i hi
    have := h4 i (by omega)
    rw [List.getElem_take]
    exact this
theorem cellsR_one (R : List Rw) : ∀ u ∈ cellsR R, u.oneCell' = true := by
  intro u hu
  simp only [cellsR, List.mem_flatMap] at hu
  obtain ⟨r, _, hr⟩ := hu
  simp at hr
  rcases hr with rfl | rfl | rfl <;> rfl
theorem cellsR_length (R : List Rw) : (cellsR R).length = R.length * 3 := by
  induction R with
  | nil => rfl
  | cons r R ih => simp only [cellsR, List.flatMap_cons, List.length_append, List.length_cons, List.length_nil] at *; omega
theorem cellsR_in {w : World} {b off : Nat} {R : List Rw} (hr : RowR w b off R) : ∀ (j : Nat) (u : Value), (cellsR R)[j]? = some u → w.cell? (Addr.add ⟨b, off, none⟩ j) = some u := by
  intro j u hj
  have hlt : j < R.length * 3 := by rw [← cellsR_length]; exact (List.getElem?_eq_some_iff.mp hj).1
  have hk : j / 3 < R.length := by omega
  obtain ⟨⟨c0, c1, c2⟩, _⟩ := hr (j / 3) hk
  obtain ⟨a0, a1, a2⟩ := cellsR_at R (j / 3) hk
  have ha : Addr.add ⟨b, off, none⟩ j = ⟨b, off + j, none⟩ := by unfold Addr.add; by_cases e : j = 0 <;> simp [e]
  rw [ha]
  rcases (show j % 3 = 0 ∨ j % 3 = 1 ∨ j % 3 = 2 by omega) with e | e | e
  · rw [show j / 3 * 3 = j by omega] at a0 c0
    rw [a0] at hj; cases hj; exact c0
  · rw [show j / 3 * 3 + 1 = j by omega] at a1
    rw [Nat.add_assoc, show j / 3 * 3 + 1 = j by omega] at c1
    rw [a1] at hj; cases hj; exact c1
  · rw [show j / 3 * 3 + 2 = j by omega] at a2
    rw [Nat.add_assoc, show j / 3 * 3 + 2 = j by omega] at c2
    rw [a2] at hj; cases hj; exact c2
theorem RawsAt.ok {w : World} {v : Value} {R : List Rw} (h : RawsAt w v R) : ∀ r ∈ R, r.1 < 256 ∧ r.2.1 < 256 ∧ r.2.2.size ≤ 4611686018427387904 := by
  obtain ⟨_, _, _, _, _, _, _, hr⟩ := h
  intro r hr'
  obtain ⟨j, hj, e⟩ := List.getElem_of_mem hr'
  rw [← e]; exact (hr j hj).2
set_option maxRecDepth 100000 in
set_option maxHeartbeats 3200000 in
theorem lays_any (v : Value) (R : List Rw) (w : World) (h : RawsAt w v R) (ht : Tabs w) :
    Calls Tryz.prog 4 #[v] w fun e w' => e = .returned (.bool true) ∧ Below w.heap.size w w' := by
  obtain ⟨i0, hi, hz0, hz1, hz2⟩ := info_parts info46
  have HT : Hid (Tabs _) := ht
  have H : Hid (RawsAt _ _ _) := h
  clear ht
  obtain ⟨ad, b, off, cap, rfl, had, ⟨hcap, hl⟩, hr⟩ := h
  by_cases h0 : R.length = 0
  · obtain rfl : R = [] := List.length_eq_zero_iff.mp h0
    have HNIL : Hid (∀ W (ad : Option Addr) (c : Nat), RawsAt W (.slice ad 0 c) []) := fun W ad c => ⟨ad, 0, 0, c, rfl, Or.inr rfl, by simp, fun j hj => absurd hj (by simp)⟩
    clear had hr H hcap hl h0
    cases ad with
    | none =>
      have hm : min (0 : Int) 100 = 0 := by omega
      go_enter Tryz.func4, Tryz.ntmps4
      go_wp2_with fail
      refine (lay_any _ [] w (HNIL.out _ _ _)).mono ?_
      rintro e w4 ⟨rfl, hb4⟩
      have HB4 : Hid (Below w.heap.size w w4) := hb4
      clear hb4
      have HRL : Hid (∀ ad c, Calls Tryz.prog 20 #[.slice ad 0 c] w4 fun e w' => e = .returned (layAns []) ∧ Below w4.heap.size w4 w') := fun ad c => rlay_any _ [] w4 (HNIL.out _ _ _)
      obtain ⟨bs, ec, hans⟩ : ∃ (bs : ByteArray) (ec : Int), layAns [] = .tuple #[.string bs, .int .i64 ec] := by unfold layAns; split <;> exact ⟨_, _, rfl⟩
      rw [hans] at HRL ⊢
      clear hans
      go_wp2_with fail
      refine (HRL.out _ _).mono ?_
      rintro e w5 ⟨rfl, hb5⟩
      have HB5 : Hid (Below w.heap.size w w5) := HB4.out.trans (hb5.mono HB4.out.size)
      clear hb5 HB4 HRL
      go_wp2_with fail
      refine (sameRaws_any _ _ [] [] w5 (HNIL.out _ _ _) (HNIL.out _ _ _)).mono ?_
      rintro e w6 ⟨rfl, hb6⟩
      rw [show decide (([] : List Rw) = []) = true by decide]
      have HB6 : Hid (Below w.heap.size w w6) := HB5.out.trans (hb6.mono HB5.out.size)
      clear hb6 HB5
      go_wp2_with fail
      refine (works_any w6 (HT.out.below HB6.out)).mono ?_
      rintro e w7 ⟨rfl, hb7⟩
      have HB7 : Hid (Below w.heap.size w w7) := HB6.out.trans (hb7.mono HB6.out.size)
      clear hb7
      go_wp2
      go_ret
      exact ⟨rfl, HB7.out⟩
    | some a =>
      have hm : min (0 : Int) 100 = 0 := by omega
      go_enter Tryz.func4, Tryz.ntmps4
      go_wp2_with fail
      refine (lay_any _ [] w (HNIL.out _ _ _)).mono ?_
      rintro e w4 ⟨rfl, hb4⟩
      have HB4 : Hid (Below w.heap.size w w4) := hb4
      clear hb4
      have HRL : Hid (∀ ad c, Calls Tryz.prog 20 #[.slice ad 0 c] w4 fun e w' => e = .returned (layAns []) ∧ Below w4.heap.size w4 w') := fun ad c => rlay_any _ [] w4 (HNIL.out _ _ _)
      obtain ⟨bs, ec, hans⟩ : ∃ (bs : ByteArray) (ec : Int), layAns [] = .tuple #[.string bs, .int .i64 ec] := by unfold layAns; split <;> exact ⟨_, _, rfl⟩
      rw [hans] at HRL ⊢
      clear hans
      go_wp2_with fail
      refine (HRL.out _ _).mono ?_
      rintro e w5 ⟨rfl, hb5⟩
      have HB5 : Hid (Below w.heap.size w w5) := HB4.out.trans (hb5.mono HB4.out.size)
      clear hb5 HB4 HRL
      go_wp2_with fail
      refine (sameRaws_any _ _ [] [] w5 (HNIL.out _ _ _) (HNIL.out _ _ _)).mono ?_
      rintro e w6 ⟨rfl, hb6⟩
      rw [show decide (([] : List Rw) = []) = true by decide]
      have HB6 : Hid (Below w.heap.size w w6) := HB5.out.trans (hb6.mono HB5.out.size)
      clear hb6 HB5
      go_wp2_with fail
      refine (works_any w6 (HT.out.below HB6.out)).mono ?_
      rintro e w7 ⟨rfl, hb7⟩
      have HB7 : Hid (Below w.heap.size w w7) := HB6.out.trans (hb7.mono HB6.out.size)
      clear hb7
      go_wp2
      go_ret
      exact ⟨rfl, HB7.out⟩
  · obtain rfl : ad = some ⟨b, off, none⟩ := by rcases had with h | h; exact h; omega
    by_cases h100 : R.length ≤ 100
    · have hm : min (R.length : Int) 100 = R.length := by omega
      have hn : ¬ (100 < (R.length : Int)) := by omega
      have HA : Hid (RawsAt w _ R) := H.out
      have HIN : Hid (∀ (j : Nat) (u : Value), (cellsR R)[j]? = some u → w.cell? (Addr.add ⟨b, off, none⟩ j) = some u) := cellsR_in hr
      have HAOK : Hid (∀ r ∈ R, r.1 < 256 ∧ r.2.1 < 256 ∧ r.2.2.size ≤ 4611686018427387904) := H.out.ok
      have HAL : Hid (R.length ≤ 100) := h100
      have HALN : Hid (R.length = R.length) := rfl
      clear h100 had hr H h0
      generalize R = A at *
      go_enter Tryz.func4, Tryz.ntmps4
      go_wp2_with (at_builtin; refine wpList_append_own _ rfl _ _ 30 rfl w.heap.size 46 i0 (.agg #[.int .u8 0, .int .u8 0, .string ⟨#[]⟩]) 3 24 Tryz.underlying30 hi hz0 hz1 hz2 rfl (by decide) (.slice none 0 0) 0 [] rfl (World.ownsRow_nil _ _ _ _) ⟨b, off, none⟩ A.length cap (cellsR A) rfl (cellsR_length A) HIN.out (cellsR_one A) (by unfold maxLen; have := HAL.out; omega) (by have := HAL.out; omega) (Nat.le_refl _) ?_; intro v3 W3 hown3 hgrow3 _)
      have hb3 : Below w.heap.size w W3 := (Below.refl _ w).grown hgrow3 (Nat.le_refl _) (by intro k hk; simp [Value.ownBlock] at hk)
      rw [Nat.zero_add, List.nil_append] at hown3
      obtain ⟨ad3, c3, rfl⟩ := slice_of_owns hown3
      have HOW : Hid (OwnR W3 w.heap.size _ A) := hown3
      have HRA : Hid (RawsAt W3 _ A) := HA.out.below hb3
      have HBW : Hid (Below w.heap.size w W3) := hb3
      clear hown3 hgrow3 hb3
      go_wp2_with fail
      refine (lay_any _ A W3 (HOW.out.at HAOK.out (by have := HAL.out; omega))).mono ?_
      rintro e w4 ⟨rfl, hb4⟩
      have HA4 : Hid (RawsAt w4 _ A) := HRA.out.below hb4
      have HO4 : Hid (OwnR w4 _ _ A) := HOW.out.below hb4
      have HB4 : Hid (Below w.heap.size w w4) := HBW.out.trans (hb4.mono HBW.out.size)
      clear hb4 HRA HOW HBW
      have HRL : Hid (Calls Tryz.prog 20 #[_] w4 fun e w' => e = .returned (layAns A) ∧ Below w4.heap.size w4 w') := rlay_any _ A w4 HA4.out
      obtain ⟨bs, ec, hans⟩ : ∃ (bs : ByteArray) (ec : Int), layAns A = .tuple #[.string bs, .int .i64 ec] := by unfold layAns; split <;> exact ⟨_, _, rfl⟩
      rw [hans] at HRL ⊢
      clear hans
      go_wp2_with fail
      refine HRL.out.mono ?_
      rintro e w5 ⟨rfl, hb5⟩
      have HA5 : Hid (RawsAt w5 _ A) := HA4.out.below hb5
      have HO5 : Hid (OwnR w5 _ _ A) := HO4.out.below hb5
      have HB5 : Hid (Below w.heap.size w w5) := HB4.out.trans (hb5.mono HB4.out.size)
      clear hb5 HA4 HO4 HB4 HRL
      go_wp2_with fail
      refine (sameRaws_any _ _ A A w5 (HO5.out.at HAOK.out (by have := HAL.out; omega)) HA5.out).mono ?_
      rintro e w6 ⟨rfl, hb6⟩
      rw [show decide (A = A) = true by simp]
      have HB6 : Hid (Below w.heap.size w w6) := HB5.out.trans (hb6.mono HB5.out.size)
      clear hb6 HB5 HA5 HO5
      go_wp2_with fail
      refine (works_any w6 (HT.out.below HB6.out)).mono ?_
      rintro e w7 ⟨rfl, hb7⟩
      have HB7 : Hid (Below w.heap.size w w7) := HB6.out.trans (hb7.mono HB6.out.size)
      clear hb7
      go_wp2
      go_ret
      exact ⟨rfl, HB7.out⟩
    · have h101 : 100 < (R.length : Int) := by omega
      have hm : min (R.length : Int) 100 = 100 := by omega
      have HA : Hid (RawsAt w (.slice (some ⟨b, off, none⟩) 100 cap) (R.take 100)) := H.out.first 100 (by omega)
      have hrt : RowR w b off (R.take 100) := fun i hi => by
        have := hr i (by simp at hi; omega)
        rw [List.getElem_take]
        exact this
      have HIN : Hid (∀ (j : Nat) (u : Value), (cellsR (R.take 100))[j]? = some u → w.cell? (Addr.add ⟨b, off, none⟩ j) = some u) := cellsR_in hrt
      have HAOK : Hid (∀ r ∈ R.take 100, r.1 < 256 ∧ r.2.1 < 256 ∧ r.2.2.size ≤ 4611686018427387904) := HA.out.ok
      have HALN : Hid ((R.take 100).length = 100) := by unfold Hid; simp; omega
      have HAL : Hid ((R.take 100).length ≤ 100) := by unfold Hid; simp; omega
      clear h100 had hr H h0 hrt
      generalize R.take 100 = A at *
      go_enter Tryz.func4, Tryz.ntmps4
      go_wp2_with (at_builtin; refine wpList_append_own _ rfl _ _ 30 rfl w.heap.size 46 i0 (.agg #[.int .u8 0, .int .u8 0, .string ⟨#[]⟩]) 3 24 Tryz.underlying30 hi hz0 hz1 hz2 rfl (by decide) (.slice none 0 0) 0 [] rfl (World.ownsRow_nil _ _ _ _) ⟨b, off, none⟩ 100 cap (cellsR A) rfl (by rw [cellsR_length, HALN.out]) HIN.out (cellsR_one A) (by unfold maxLen; omega) (by omega) (Nat.le_refl _) ?_; intro v3 W3 hown3 hgrow3 _)
      have hb3 : Below w.heap.size w W3 := (Below.refl _ w).grown hgrow3 (Nat.le_refl _) (by intro k hk; simp [Value.ownBlock] at hk)
      rw [Nat.zero_add, List.nil_append] at hown3
      obtain ⟨ad3, c3, rfl⟩ := slice_of_owns hown3
      have HOW : Hid (OwnR W3 w.heap.size (.slice ad3 100 c3) A) := by unfold Hid OwnR; rw [HALN.out]; exact hown3
      have HRA : Hid (RawsAt W3 _ A) := HA.out.below hb3
      have HBW : Hid (Below w.heap.size w W3) := hb3
      clear hown3 hgrow3 hb3
      go_wp2_with fail
      refine (lay_any _ A W3 (HOW.out.at HAOK.out (by have := HAL.out; omega))).mono ?_
      rintro e w4 ⟨rfl, hb4⟩
      have HA4 : Hid (RawsAt w4 _ A) := HRA.out.below hb4
      have HO4 : Hid (OwnR w4 _ _ A) := HOW.out.below hb4
      have HB4 : Hid (Below w.heap.size w w4) := HBW.out.trans (hb4.mono HBW.out.size)
      clear hb4 HRA HOW HBW
      have HRL : Hid (Calls Tryz.prog 20 #[_] w4 fun e w' => e = .returned (layAns A) ∧ Below w4.heap.size w4 w') := rlay_any _ A w4 HA4.out
      obtain ⟨bs, ec, hans⟩ : ∃ (bs : ByteArray) (ec : Int), layAns A = .tuple #[.string bs, .int .i64 ec] := by unfold layAns; split <;> exact ⟨_, _, rfl⟩
      rw [hans] at HRL ⊢
      clear hans
      go_wp2_with fail
      refine HRL.out.mono ?_
      rintro e w5 ⟨rfl, hb5⟩
      have HA5 : Hid (RawsAt w5 _ A) := HA4.out.below hb5
      have HO5 : Hid (OwnR w5 _ _ A) := HO4.out.below hb5
      have HB5 : Hid (Below w.heap.size w w5) := HB4.out.trans (hb5.mono HB4.out.size)
      clear hb5 HA4 HO4 HB4 HRL
      go_wp2_with fail
      refine (sameRaws_any _ _ A A w5 (HO5.out.at HAOK.out (by have := HAL.out; omega)) HA5.out).mono ?_
      rintro e w6 ⟨rfl, hb6⟩
      rw [show decide (A = A) = true by simp]
      have HB6 : Hid (Below w.heap.size w w6) := HB5.out.trans (hb6.mono HB5.out.size)
      clear hb6 HB5 HA5 HO5
      go_wp2_with fail
      refine (works_any w6 (HT.out.below HB6.out)).mono ?_
      rintro e w7 ⟨rfl, hb7⟩
      have HB7 : Hid (Below w.heap.size w w7) := HB6.out.trans (hb7.mono HB6.out.size)
      clear hb7
      go_wp2
      go_ret
      exact ⟨rfl, HB7.out⟩
end Go.Proofs.YtpahnebhcfpplaaGreatDoor
