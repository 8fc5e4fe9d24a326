/-
  WireReads answers true, for every argument, and leaves what was there.
-/
import Derived.Test.YtbkpadjnnlcknaaR1
import Derived.Test.YtbkpadjnnlcknaaA8
namespace Go.Proofs.Ytbkpadjnnlcknaa
open Go.RowKit
theorem below_drewN {B : Nat} {a w : World} (h : Below B a w) (n : Nat) : Below B a (w.drewN n) := ⟨h.os, h.tape, h.output, h.size, h.block⟩
theorem RdrAt.drewN {w : World} {p : Nat} {s : ByteArray} (h : RdrAt w p s) (n : Nat) : RdrAt (w.drewN n) p s := ⟨h.c0, h.c1, h.f0, h.f1⟩
theorem kind_form (x : Int) : (wrap64 (x.tmod 4 + 4)).tmod 4 = x % 4 := by
  have hm := Int.tmod_lt_of_pos x (show (0 : Int) < 4 by omega)
  have hm' := Int.lt_tmod_of_pos x (show (0 : Int) < 4 by omega)
  have e1 : wrap64 (x.tmod 4 + 4) = x.tmod 4 + 4 := by unfold wrap64; omega
  rw [e1, Int.tmod_eq_emod_of_nonneg (by omega), Int.add_emod_right, Int.tmod_eq_emod]
  split <;> omega
set_option maxRecDepth 100000 in
set_option maxHeartbeats 1600000 in
theorem reads_walk (s : ByteArray) (b off len cap : Nat) (K S : Nat → Int) (w : World) (hb : b < w.heap.size)
    (hK : ∀ i, i < len → w.cell? ⟨b, off + i * 2, none⟩ = some (.int .i64 (K i)))
    (hS : ∀ i, i < len → w.cell? ⟨b, off + i * 2 + 1, none⟩ = some (.int .i64 (S i))) :
    Calls Try.prog 3 #[.string s, .slice (some ⟨b, off, none⟩) len cap] w fun e w' => e = .returned (.bool true) ∧ Below w.heap.size w w' := by
  have HK : Hid (_ : Prop) := hK
  have HS : Hid (_ : Prop) := hS
  clear hK hS
  go_enter Try.func3, Try.ntmps3
  go_wp2_with fail
  refine (new_any _ _).mono ?_
  rintro e w1 ⟨rfl, hr1, hb1, _⟩
  have hpw := Nat.le_refl w.heap.size
  generalize hP : w.heap.size = p at hr1 ⊢
  rw [hP] at hpw
  rw [← hP] at hpw
  have hpw : w.heap.size ≤ p := by omega
  clear hP
  go_wp2_with fail
  go_loopw [6, 7] (fun t i wr => ∃ (k : Nat) (cur : ByteArray), (k ≤ len ∧ k ≤ 100) ∧ i = .int .i64 k ∧ t = .string cur ∧ RdrAt wr p cur ∧ Below w.heap.size w wr) (fun _ i _ => 100 - (intOf i).toNat)
  case atStart => exact ⟨0, s, by omega, rfl, rfl, hr1, hb1⟩
  case round =>
    obtain ⟨k, cur, hk, rfl, rfl, hrd, hbel⟩ := hrel
    clear hr1 hb1
    by_cases hlt : k < len ∧ k < 100
    · obtain ⟨hlt1, hlt2⟩ := hlt
      have cK := (hbel.cell (p := ⟨b, off + k * 2, none⟩) hb).trans (HK.out k (by omega))
      have cS := (hbel.cell (p := ⟨b, off + k * 2 + 1, none⟩) hb).trans (HS.out k (by omega))
      clear HK HS
      have hq := kind_form (K k)
      have hq4 : K k % 4 = 0 ∨ K k % 4 = 1 ∨ K k % 4 = 2 ∨ K k % 4 = 3 := by omega
      generalize K k = kk at *
      generalize S k = x at *
      have cx : (wr.alloc (.cells #[.int .i64 kk, .int .i64 x] 26)).cell? ⟨wr.heap.size, 1, none⟩ = some (.int .i64 x) := by simp
      have hrx : RdrAt (wr.alloc (.cells #[.int .i64 kk, .int .i64 x] 26)) p cur := hrd.kept ((Below.refl _ _).alloc (Nat.le_refl _) _) hrd.lt
      have hbx : Below w.heap.size w (wr.alloc (.cells #[.int .i64 kk, .int .i64 x] 26)) := hbel.alloc hbel.size _
      have hsx : wr.heap.size < (wr.alloc (.cells #[.int .i64 kk, .int .i64 x] 26)).heap.size := by simp
      have hpl := hrd.lt
      clear hrd
      rcases hq4 with e | e | e | e
      · rw [e] at hq
        clear e
        by_cases hn : x < 0 ∨ (cur.size : Int) < x
        · go_wp2_with fail
          generalize hWx : wr.alloc (.cells #[.int .i64 kk, .int .i64 x] 26) = Wx at *
          clear hWx
          refine (take_no p cur x _ hrx hn).mono ?_
          rintro e w2 ⟨rfl, rfl⟩
          go_wp2_with fail
          refine (rtake_no cur x _ hn).mono ?_
          rintro e w3 ⟨rfl, rfl⟩
          go_wp2_with fail
          refine (left_any p cur _ hrx).mono ?_
          rintro e w9 ⟨rfl, rfl⟩
          clear cx
          go_wp2
          go_roundw
          case rel => exact ⟨k + 1, cur, by omega, by go_num, rfl, hrx, hbx⟩
          case measure => simp [intOf]; omega
        · obtain ⟨n, rfl⟩ := Int.eq_ofNat_of_zero_le (show 0 ≤ x by omega)
          have hn : n ≤ cur.size := by omega
          go_wp2_with fail
          generalize hWx : wr.alloc (.cells #[.int .i64 kk, .int .i64 (n : Int)] 26) = Wx at *
          clear hWx
          refine (take_yes p cur n _ hrx hn).mono ?_
          rintro e w2 ⟨rfl, rfl⟩
          have hr2 := hrx.set (cur.extract n cur.size)
          have hb2 := hbx.setCell (p := ⟨p, 1, none⟩) hpw (.string (cur.extract n cur.size))
          have cx2 : (Wx.setCell ⟨p, 1, none⟩ (.string (cur.extract n cur.size))).cell? ⟨wr.heap.size, 1, none⟩ = some (.int .i64 (n : Int)) := by
            rw [World.cell?_setCell_other _ _ _ _ (by intro e; injection e; omega)]; exact cx
          generalize Wx.setCell ⟨p, 1, none⟩ (.string (cur.extract n cur.size)) = Wy at *
          clear cx hrx hbx
          go_wp2_with fail
          refine (rtake_yes cur n _ hn).mono ?_
          rintro e w3 ⟨rfl, q, rfl⟩
          have hr3 := hr2.drewN q
          have hb3 := below_drewN hb2 q
          generalize Wy.drewN q = Wz at *
          have cx := cx2
          go_wp2_with fail
          refine (left_any p (cur.extract n cur.size) _ hr3).mono ?_
          rintro e w9 ⟨rfl, rfl⟩
          clear cx
          go_wp2
          go_roundw
          case rel => exact ⟨k + 1, (cur.extract n cur.size), by omega, by go_num, rfl, hr3, hb3⟩
          case measure => simp [intOf]; omega
      · rw [e] at hq
        clear e
        by_cases hn : x < 1 ∨ 8 < x
        · go_wp2_with fail
          generalize hWx : wr.alloc (.cells #[.int .i64 kk, .int .i64 x] 26) = Wx at *
          clear hWx
          refine (num_bad p x _ hn).mono ?_
          rintro e w2 ⟨rfl, rfl⟩
          go_wp2_with fail
          refine (rnum_no cur x _ (by omega)).mono ?_
          rintro e w3 ⟨rfl, rfl⟩
          go_wp2_with fail
          refine (left_any p cur _ hrx).mono ?_
          rintro e w9 ⟨rfl, rfl⟩
          clear cx
          go_wp2
          go_roundw
          case rel => exact ⟨k + 1, cur, by omega, by go_num, rfl, hrx, hbx⟩
          case measure => simp [intOf]; omega
        · obtain ⟨n, rfl⟩ := Int.eq_ofNat_of_zero_le (show 0 ≤ x by omega)
          have hn0 : 1 ≤ n ∧ n ≤ 8 := by omega
          clear hn
          by_cases hn : cur.size < n
          · go_wp2_with fail
            generalize hWx : wr.alloc (.cells #[.int .i64 kk, .int .i64 (n : Int)] 26) = Wx at *
            clear hWx
            refine (num_no p cur n _ hrx (by omega) (by omega) hn).mono ?_
            rintro e w2 ⟨rfl, hr2, hbe⟩
            have hb2 : Below w.heap.size w w2 := hbx.trans (hbe.below hpw hbx.size)
            have cx2 : w2.cell? ⟨wr.heap.size, 1, none⟩ = some (.int .i64 (n : Int)) := (World.cell?_of_block (w := Wx) (hbe.block wr.heap.size hsx (by omega))).trans cx
            clear cx hrx hbx
            clear hbe
            go_wp2_with fail
            refine (rnum_no cur n _ (by omega)).mono ?_
            rintro e w3 ⟨rfl, rfl⟩
            have cx := cx2
            go_wp2_with fail
            refine (left_any p cur _ hr2).mono ?_
            rintro e w9 ⟨rfl, rfl⟩
            clear cx
            go_wp2
            go_roundw
            case rel => exact ⟨k + 1, cur, by omega, by go_num, rfl, hr2, hb2⟩
            case measure => simp [intOf]; omega
          · have hn : n ≤ cur.size := by omega
            go_wp2_with fail
            generalize hWx : wr.alloc (.cells #[.int .i64 kk, .int .i64 (n : Int)] 26) = Wx at *
            clear hWx
            refine (num_yes p cur n _ hrx (by omega) (by omega) hn).mono ?_
            rintro e w2 ⟨rfl, hr2, hbe⟩
            have hb2 : Below w.heap.size w w2 := hbx.trans (hbe.below hpw hbx.size)
            have cx2 : w2.cell? ⟨wr.heap.size, 1, none⟩ = some (.int .i64 (n : Int)) := (World.cell?_of_block (w := Wx) (hbe.block wr.heap.size hsx (by omega))).trans cx
            clear cx hrx hbx
            clear hbe
            go_wp2_with fail
            refine (rnum_yes cur n _ (by omega) (by omega) hn).mono ?_
            rintro e w3 ⟨rfl, q, rfl⟩
            have hr3 := hr2.drewN q
            have hb3 := below_drewN hb2 q
            generalize w2.drewN q = Wz at *
            have cx := cx2
            go_wp2_with fail
            refine (left_any p (cur.extract n cur.size) _ hr3).mono ?_
            rintro e w9 ⟨rfl, rfl⟩
            clear cx
            go_wp2
            go_roundw
            case rel => exact ⟨k + 1, (cur.extract n cur.size), by omega, by go_num, rfl, hr3, hb3⟩
            case measure => simp [intOf]; omega
      · rw [e] at hq
        clear e
        go_wp2_with fail
        generalize hWx : wr.alloc (.cells #[.int .i64 kk, .int .i64 x] 26) = Wx at *
        clear hWx
        refine (left_any p cur _ hrx).mono ?_
        rintro e w9 ⟨rfl, rfl⟩
        clear cx
        go_wp2
        go_roundw
        case rel => exact ⟨k + 1, cur, by omega, by go_num, rfl, hrx, hbx⟩
        case measure => simp [intOf]; omega
      · rw [e] at hq
        clear e
        go_wp2_with fail
        generalize hWx : wr.alloc (.cells #[.int .i64 kk, .int .i64 x] 26) = Wx at *
        clear hWx
        refine (rest_any p cur _ hrx).mono ?_
        rintro e w2 ⟨rfl, rfl⟩
        have hr2 := hrx.set ByteArray.empty
        have hb2 := hbx.setCell (p := ⟨p, 1, none⟩) hpw (.string ByteArray.empty)
        generalize Wx.setCell ⟨p, 1, none⟩ (.string ByteArray.empty) = Wy at *
        go_wp2_with fail
        refine (left_any p _ _ hr2).mono ?_
        rintro e w9 ⟨rfl, rfl⟩
        clear cx
        go_wp2
        go_roundw
        case rel => exact ⟨k + 1, ByteArray.empty, by omega, by go_num, rfl, hr2, hb2⟩
        case measure => simp [intOf]; omega
    · by_cases hl : k < len
      · have h1 : ¬ ((k : Int) < 100) := by omega
        go_wp2_with fail
        refine (works_any _).mono ?_
        rintro e w2 ⟨rfl, hb2⟩
        go_wp2
        go_ret
        exact ⟨rfl, hbel.trans (hb2.mono hbel.size)⟩
      · have h1 : ¬ ((k : Int) < len) := by omega
        go_wp2_with fail
        refine (works_any _).mono ?_
        rintro e w2 ⟨rfl, hb2⟩
        go_wp2
        go_ret
        exact ⟨rfl, hbel.trans (hb2.mono hbel.size)⟩
end Go.Proofs.Ytbkpadjnnlcknaa
