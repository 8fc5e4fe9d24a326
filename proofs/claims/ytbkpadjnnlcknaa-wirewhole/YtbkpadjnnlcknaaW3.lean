/-
  WireWhole, whatever the text.
-/
import Derived.Test.YtbkpadjnnlcknaaW2
import Derived.Test.YtbkpadjnnlcknaaH8
import Derived.Test.YtbkpadjnnlcknaaH9
namespace Go.Proofs.Ytbkpadjnnlcknaa
open Go.RowKit Go.Lib
set_option maxRecDepth 100000 in
set_option maxHeartbeats 1600000 in
theorem whole_walkB (s : ByteArray) (b off len cap : Nat) (X : Nat → Int) (w : World) (hs : s.size ≤ 140737488351232) (hb : b < w.heap.size)
    (hX : ∀ i, i < len → w.cell? ⟨b, off + i, none⟩ = some (.int .i64 (X i))) :
    Calls Try.prog 7 #[.string s, .slice (some ⟨b, off, none⟩) len cap] w fun e w' => e = .returned (.bool true) ∧ Below w.heap.size w w' := by
  obtain ⟨i0, hi, hz0, hz1, hz2⟩ := info_parts info5'
  have HX : Hid (_ : Prop) := hX
  clear hX
  go_enter Try.func7, Try.ntmps7
  go_wp2_with fail
  refine (works_any _).mono ?_
  rintro e w0 ⟨rfl, hb0⟩
  go_wp2_with fail
  refine (new_any _ w0).mono ?_
  rintro e w1 ⟨rfl, hr1, hb1, _⟩
  have hpw := hb0.size
  have hb2 := hb0.trans (hb1.mono hpw)
  generalize w0.heap.size = p at *
  clear hb1 hb0
  go_wp2_with fail
  go_loopw [6, 7] (fun v i wr => ∃ (k : Nat) (cur : ByteArray) (gl : List UInt8), (k ≤ len ∧ k ≤ 100) ∧ i = .int .i64 k ∧ WholeAt w wr p v s cur gl) (fun _ i _ => 100 - (intOf i).toNat)
  case atStart => exact ⟨0, s, [], by omega, rfl, hr1, World.ownsRow_nil _ _ _ _, by simp, hb2⟩
  case round =>
    obtain ⟨k, cur, gl, hk, rfl, hq⟩ := hrel
    clear hr1 hb2
    have hlen : gl.length + cur.size = s.size := by
      have := congrArg List.length hq.all
      simp at this; omega
    by_cases hlt : k < len ∧ k < 100
    · obtain ⟨hlt1, hlt2⟩ := hlt
      have cX := (hq.bel.cell (p := ⟨b, off + k, none⟩) hb).trans (HX.out k (by omega))
      have hrd := hq.rdr
      generalize X k = x at *
      by_cases hn1 : x < 0
      · have hn : x < 0 ∨ (cur.size : Int) < x := Or.inl hn1
        have HQ : Hid (WholeAt _ _ _ _ _ _ _) := hq
        clear hq
        go_wp2_with fail
        refine (left_any p cur _ hrd).mono ?_
        rintro e w2 ⟨rfl, rfl⟩
        go_wp2_with fail
        refine (take_no p cur x _ hrd hn).mono ?_
        rintro e w3 ⟨rfl, rfl⟩
        go_wp2_with (at_builtin; refine wpList_append_own_string _ rfl _ _ 52 9 rfl (p + 1) 5 i0 Try.underlying52 Try.underlying9 hi hz0 hz1 hz2 _ _ _ rfl HQ.out.own ⟨#[]⟩ rfl (by unfold maxLen; show gl.length + 0 ≤ _; omega) (by show gl.length + 0 ≤ _; omega) HQ.out.rdr.lt ?_; intro v4 w4 ho4 hg4 _)
        have hq4 : WholeAt w w4 p v4 s cur (gl ++ (⟨#[]⟩ : ByteArray).data.toList) := WholeAt.put hrd HQ.out.own HQ.out.bel hpw HQ.out.all (by simp) ho4 hg4
        have H4 : Hid (WholeAt _ _ _ _ _ _ _) := hq4
        clear hq4 ho4 hg4 HQ hrd cX
        refine (left_any p cur _ H4.out.rdr).mono ?_
        rintro e w5 ⟨rfl, rfl⟩
        go_wp2
        go_roundw
        case rel => exact ⟨k + 1, cur, _, by omega, by go_num, H4.out⟩
        case measure => simp [intOf]; omega
      · by_cases hn2 : (cur.size : Int) < x
        · have hn : x < 0 ∨ (cur.size : Int) < x := Or.inr hn2
          have HQ : Hid (WholeAt _ _ _ _ _ _ _) := hq
          clear hq
          go_wp2_with fail
          refine (left_any p cur _ hrd).mono ?_
          rintro e w2 ⟨rfl, rfl⟩
          go_wp2_with fail
          refine (take_no p cur x _ hrd hn).mono ?_
          rintro e w3 ⟨rfl, rfl⟩
          go_wp2_with (at_builtin; refine wpList_append_own_string _ rfl _ _ 52 9 rfl (p + 1) 5 i0 Try.underlying52 Try.underlying9 hi hz0 hz1 hz2 _ _ _ rfl HQ.out.own ⟨#[]⟩ rfl (by unfold maxLen; show gl.length + 0 ≤ _; omega) (by show gl.length + 0 ≤ _; omega) HQ.out.rdr.lt ?_; intro v4 w4 ho4 hg4 _)
          have hq4 : WholeAt w w4 p v4 s cur (gl ++ (⟨#[]⟩ : ByteArray).data.toList) := WholeAt.put hrd HQ.out.own HQ.out.bel hpw HQ.out.all (by simp) ho4 hg4
          have H4 : Hid (WholeAt _ _ _ _ _ _ _) := hq4
          clear hq4 ho4 hg4 HQ hrd cX
          refine (left_any p cur _ H4.out.rdr).mono ?_
          rintro e w5 ⟨rfl, rfl⟩
          go_wp2
          go_roundw
          case rel => exact ⟨k + 1, cur, _, by omega, by go_num, H4.out⟩
          case measure => simp [intOf]; omega
        · obtain ⟨n, rfl⟩ := Int.eq_ofNat_of_zero_le (show 0 ≤ x by omega)
          have hn : n ≤ cur.size := by omega
          have hz : (cur.extract 0 n).size = n := size_extract cur n hn
          have hz2' : ((cur.extract n cur.size).size : Int) = cur.size - n := by simp; omega
          have hcut := cut_list cur n
          have hall := hq.all
          obtain ⟨hr2, ho2, hb2⟩ := hq.taken hpw (cur.extract n cur.size)
          have HQ : Hid (_ = _) := hall
          have HC : Hid (_ = _) := hcut
          have hcx : (wr.setCell ⟨p, 1, none⟩ (.string (cur.extract n cur.size))).cell? ⟨b, off + k, none⟩ = some (.int .i64 (n : Int)) := by
            rw [World.cell?_setCell_other _ _ _ _ (by intro e; injection e; omega)]; exact cX
          clear hq hall hcut
          go_wp2_with fail
          refine (left_any p cur _ hrd).mono ?_
          rintro e w2 ⟨rfl, rfl⟩
          go_wp2_with fail
          refine (take_yes p cur n _ hrd hn).mono ?_
          rintro e w3 ⟨rfl, rfl⟩
          clear cX hrd
          generalize w2.setCell ⟨p, 1, none⟩ (.string (cur.extract n cur.size)) = w3 at *
          generalize cur.extract 0 n = t at *
          generalize cur.extract n cur.size = rest at *
          go_wp2_with (at_builtin; refine wpList_append_own_string _ rfl _ _ 52 9 rfl (p + 1) 5 i0 Try.underlying52 Try.underlying9 hi hz0 hz1 hz2 _ _ _ rfl ho2 t rfl (by unfold maxLen; omega) (by omega) hr2.lt ?_; intro v4 w4 ho4 hg4 _)
          have hq4 : WholeAt w w4 p v4 s rest (gl ++ t.data.toList) := WholeAt.put hr2 ho2 hb2 hpw HQ.out HC.out ho4 hg4
          have H4 : Hid (WholeAt _ _ _ _ _ _ _) := hq4
          clear hq4 ho4 hg4 hr2 ho2 hb2
          refine (left_any p rest _ H4.out.rdr).mono ?_
          rintro e w5 ⟨rfl, rfl⟩
          go_wp2
          go_roundw
          case rel => exact ⟨k + 1, rest, _, by omega, by go_num, H4.out⟩
          case measure => simp [intOf]; omega
    · by_cases hl : k < len
      · have h1 : ¬ ((k : Int) < 100) := by omega
        have HQ : Hid (WholeAt _ _ _ _ _ _ _) := hq
        clear hq
        go_wp2_with fail
        refine (rest_any p cur _ HQ.out.rdr).mono ?_
        rintro e w2 ⟨rfl, rfl⟩
        obtain ⟨hr2, ho2, hb2⟩ := HQ.out.taken hpw ByteArray.empty
        generalize wr.setCell ⟨p, 1, none⟩ (.string ByteArray.empty) = w2 at *
        go_wp2_with (at_builtin; refine wpList_append_own_string _ rfl _ _ 52 9 rfl (p + 1) 5 i0 Try.underlying52 Try.underlying9 hi hz0 hz1 hz2 _ _ _ rfl ho2 cur rfl (by unfold maxLen; omega) (by omega) hr2.lt ?_; intro v4 w4 ho4 hg4 _)
        have hq4 : WholeAt w w4 p v4 s ByteArray.empty (gl ++ cur.data.toList) := WholeAt.put hr2 ho2 hb2 hpw HQ.out.all (by simp) ho4 hg4
        have e1 : gl ++ cur.data.toList = s.data.toList := HQ.out.all.symm
        rw [e1] at hq4
        have H4 : Hid (WholeAt _ _ _ _ _ _ _) := hq4
        clear hq4 ho4 hg4 hr2 ho2 hb2 HQ e1
        refine (hex_big s _ hs).mono ?_
        rintro e w5 ⟨rfl, hb5⟩
        go_wp2_with fail
        refine (unhex_big _ _ (by show (hexL s.data.toList).length ≤ _; rw [hexL_length]; simp; omega)).mono ?_
        rintro e w6 ⟨rfl, hb6⟩
        rw [unOut_hex]
        have hb7 : Below w4.heap.size w4 w6 := hb5.trans (hb6.mono hb5.size)
        have hback := conv_own s.data.toList (ownsRow_below H4.out.own hb7)
        have hrd7 := H4.out.rdr.kept hb7 H4.out.rdr.lt
        rw [show (ByteArray.mk s.data.toList.toArray) = s from by apply ByteArray.ext; simp] at hback
        go_wp2_with fail
        refine (left_any p _ _ hrd7).mono ?_
        rintro e w7 ⟨rfl, rfl⟩
        go_wp2
        go_ret
        exact ⟨rfl, H4.out.bel.trans (hb7.mono H4.out.bel.size)⟩
      · have h1 : ¬ ((k : Int) < len) := by omega
        have HQ : Hid (WholeAt _ _ _ _ _ _ _) := hq
        clear hq
        go_wp2_with fail
        refine (rest_any p cur _ HQ.out.rdr).mono ?_
        rintro e w2 ⟨rfl, rfl⟩
        obtain ⟨hr2, ho2, hb2⟩ := HQ.out.taken hpw ByteArray.empty
        generalize wr.setCell ⟨p, 1, none⟩ (.string ByteArray.empty) = w2 at *
        go_wp2_with (at_builtin; refine wpList_append_own_string _ rfl _ _ 52 9 rfl (p + 1) 5 i0 Try.underlying52 Try.underlying9 hi hz0 hz1 hz2 _ _ _ rfl ho2 cur rfl (by unfold maxLen; omega) (by omega) hr2.lt ?_; intro v4 w4 ho4 hg4 _)
        have hq4 : WholeAt w w4 p v4 s ByteArray.empty (gl ++ cur.data.toList) := WholeAt.put hr2 ho2 hb2 hpw HQ.out.all (by simp) ho4 hg4
        have e1 : gl ++ cur.data.toList = s.data.toList := HQ.out.all.symm
        rw [e1] at hq4
        have H4 : Hid (WholeAt _ _ _ _ _ _ _) := hq4
        clear hq4 ho4 hg4 hr2 ho2 hb2 HQ e1
        refine (hex_big s _ hs).mono ?_
        rintro e w5 ⟨rfl, hb5⟩
        go_wp2_with fail
        refine (unhex_big _ _ (by show (hexL s.data.toList).length ≤ _; rw [hexL_length]; simp; omega)).mono ?_
        rintro e w6 ⟨rfl, hb6⟩
        rw [unOut_hex]
        have hb7 : Below w4.heap.size w4 w6 := hb5.trans (hb6.mono hb5.size)
        have hback := conv_own s.data.toList (ownsRow_below H4.out.own hb7)
        have hrd7 := H4.out.rdr.kept hb7 H4.out.rdr.lt
        rw [show (ByteArray.mk s.data.toList.toArray) = s from by apply ByteArray.ext; simp] at hback
        go_wp2_with fail
        refine (left_any p _ _ hrd7).mono ?_
        rintro e w7 ⟨rfl, rfl⟩
        go_wp2
        go_ret
        exact ⟨rfl, H4.out.bel.trans (hb7.mono H4.out.bel.size)⟩
end Go.Proofs.Ytbkpadjnnlcknaa
