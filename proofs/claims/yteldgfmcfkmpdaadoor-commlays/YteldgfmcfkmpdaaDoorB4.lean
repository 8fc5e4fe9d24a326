/-
  The reference's EncodeExts, EncodeLarges.
-/
import Derived.Test.YteldgfmcfkmpdaaDoorB2
namespace Go.Proofs.YteldgfmcfkmpdaaDoor
open Go.RowKit

set_option maxRecDepth 100000 in
set_option maxHeartbeats 600000 in
theorem rencL (v : Value) (l : List Lg) (w : World) (h : LargesAt w v l) :
    Calls Tryd.prog 24 #[v] w fun e w' => e = .returned (encAns (mayL ltL l) (bytesL l)) ∧ Below w.heap.size w w' := by
  cases hm : mayL ltL l with
  | false =>
    obtain ⟨ad, b, off, cap, rfl, _⟩ := id h
    have HM : Hid (_ = _) := hm
    clear hm
    go_enter Tryd.func24, Tryd.ntmps24
    go_wp2_with fail
    refine (rmayLg _ l w h).mono ?_
    rintro e w1 ⟨rfl, hb⟩
    rw [HM.out]
    go_wp2
    go_ret2
    exact ⟨rfl, hb⟩
  | true =>
    have HM : Hid (_ = _) := hm
    have hl64 : l.length ≤ 64 := by simp [mayL] at hm; exact hm.1
    clear hm
    obtain ⟨ad, b, off, cap, rfl, had, ⟨_, hl⟩, hr⟩ := id h
    have HR : Hid (RowL _ _ _ _) := hr
    clear hr
    go_enter Tryd.func24, Tryd.ntmps24
    go_wp2_with fail
    refine (rmayLg _ l w h).mono ?_
    rintro e w1 ⟨rfl, hb⟩
    rw [HM.out]
    clear h
    go_wp2
    go_loopw [4, 5] (fun t i wr => ∃ (k : Nat) (cur : ByteArray), k ≤ l.length ∧ i = .int .i64 k ∧ t = .string cur ∧ cur.size ≤ 12 * k ∧ cur = bytesL (l.take k) ∧ Below w.heap.size w wr) (fun _ i _ => l.length - (intOf i).toNat)
    case atStart => exact ⟨0, ⟨#[]⟩, Nat.zero_le _, rfl, rfl, Nat.le_refl 0, rfl, hb⟩
    case round =>
      obtain ⟨k, cur, hk, rfl, rfl, hs, hcur, hbel⟩ := hrel
      have HC : Hid (_ = _) := hcur
      clear hcur hb
      by_cases hlt : k < l.length
      · obtain rfl : ad = some ⟨b, off, none⟩ := by rcases had with h | h; exact h; omega
        obtain ⟨⟨c1, c2, c3⟩, hx⟩ := (HR.out.below hbel) k hlt
        have HT : Hid (cur ++ ⟨(byteL l[k]).toArray⟩ = bytesL (l.take (k + 1))) := by unfold Hid; rw [HC.out, take_snoc _ _ hlt, bytesL_snoc]
        clear had
        generalize l[k] = x at *
        obtain ⟨x1, x2, x3⟩ := x
        obtain ⟨hx1, hx2, hx3⟩ := hx
        simp only at c1 c2 c3 hx1 hx2 hx3
        have HQ : Hid (cur ++ ⟨(laid x1 4).toArray⟩ ++ ⟨(laid x2 4).toArray⟩ ++ ⟨(laid x3 4).toArray⟩ = cur ++ ⟨(byteL (x1, x2, x3)).toArray⟩) := by unfold Hid; rw [app2, app2]; rfl
        have HSz : Hid ((cur ++ ⟨(byteL (x1, x2, x3)).toArray⟩ : ByteArray).size ≤ 12 * (k + 1)) := by unfold Hid; rw [size_b, byteL_length]; omega
        have a1 : ∀ W, (Op.stringOp .add cur ⟨(laid x1 4).toArray⟩).run Tryd.prog W = .ok (.string (cur ++ ⟨(laid x1 4).toArray⟩)) W := fun W => add_b W cur _ (by omega) (by rw [laid_length]; omega)
        have hs2 : (cur ++ ⟨(laid x1 4).toArray⟩ : ByteArray).size ≤ 900000 := by rw [size_b, laid_length]; omega
        have a2 : ∀ W, (Op.stringOp .add (cur ++ ⟨(laid x1 4).toArray⟩) ⟨(laid x2 4).toArray⟩).run Tryd.prog W = .ok (.string (cur ++ ⟨(laid x1 4).toArray⟩ ++ ⟨(laid x2 4).toArray⟩)) W := fun W => add_b W _ _ (by omega) (by rw [laid_length]; omega)
        have hs3 : (cur ++ ⟨(laid x1 4).toArray⟩ ++ ⟨(laid x2 4).toArray⟩ : ByteArray).size ≤ 1000000 := by rw [size_b, laid_length]; omega
        have a3 : ∀ W, (Op.stringOp .add (cur ++ ⟨(laid x1 4).toArray⟩ ++ ⟨(laid x2 4).toArray⟩) ⟨(laid x3 4).toArray⟩).run Tryd.prog W = .ok (.string (cur ++ ⟨(laid x1 4).toArray⟩ ++ ⟨(laid x2 4).toArray⟩ ++ ⟨(laid x3 4).toArray⟩)) W := fun W => add_b W _ _ hs3 (by rw [laid_length]; omega)
        rw [HQ.out] at a3
        have F1 : Hid (∀ W, Calls Tryd.prog 44 #[.int .u32 (x1 : Int)] W fun e w' => e = .returned (.string ⟨(laid x1 4).toArray⟩) ∧ Below W.heap.size W w') := fun W => four_any x1 W hx1
        have F2 : Hid (∀ W, Calls Tryd.prog 44 #[.int .u32 (x2 : Int)] W fun e w' => e = .returned (.string ⟨(laid x2 4).toArray⟩) ∧ Below W.heap.size W w') := fun W => four_any x2 W hx2
        have F3 : Hid (∀ W, Calls Tryd.prog 44 #[.int .u32 (x3 : Int)] W fun e w' => e = .returned (.string ⟨(laid x3 4).toArray⟩) ∧ Below W.heap.size W w') := fun W => four_any x3 W hx3
        generalize cur ++ ⟨(byteL (x1, x2, x3)).toArray⟩ = nx at *
        generalize cur ++ ⟨(laid x1 4).toArray⟩ = mx at *
        generalize mx ++ ⟨(laid x2 4).toArray⟩ = my at *
        generalize (laid x1 4).toArray = s1 at *
        generalize (laid x2 4).toArray = s2 at *
        generalize (laid x3 4).toArray = s3 at *
        have HB0 : Hid (Below w.heap.size w wr) := hbel
        clear hbel hs2 hs3 hx1 hx2 hx3
        have tok1 : True := trivial
        have tok2 : True := trivial
        go_wp2
        go_region_held (fun w' => w'.cell? ⟨b, off + k * 3, none⟩ = some (.int .u32 (x1 : Int)) ∧ w'.cell? ⟨b, off + k * 3 + 1, none⟩ = some (.int .u32 (x2 : Int)) ∧ w'.cell? ⟨b, off + k * 3 + 2, none⟩ = some (.int .u32 (x3 : Int))) (go_keep)
          (first | (go_at_call 44; have _t := tok1; refine (F1.out _).mono ?_; rintro e w5 ⟨rfl, hb5⟩; have q0 := below_cell (w := wr.drew) hb5 c1; have q1 := below_cell (w := wr.drew) hb5 c2; have q2 := below_cell (w := wr.drew) hb5 c3; clear tok1) | (go_at_call 44; have _t := tok2; refine (F2.out _).mono ?_; rintro e w6 ⟨rfl, hb6⟩; have r0 := below_cell hb6 q0; have r1 := below_cell hb6 q1; have r2 := below_cell hb6 q2; clear tok2) | (go_at_call 44; refine (F3.out _).mono ?_; rintro e w7 ⟨rfl, hb7⟩; have s0 := below_cell hb7 r0; have s4 := below_cell hb7 r1; have s5 := below_cell hb7 r2))
        have HB : Hid (Below w.heap.size w w7) := ((HB0.out.drew.trans (hb5.mono HB0.out.size)).trans (hb6.mono (Nat.le_trans HB0.out.size hb5.size))).trans (hb7.mono (Nat.le_trans (Nat.le_trans HB0.out.size hb5.size) hb6.size))
        clear hb5 hb6 hb7 q0 q1 q2 r0 r1 r2 s0 s4 s5 c1 c2 c3 a1 a2 a3
        go_wp2
        go_roundw
        case rel => exact ⟨k + 1, nx, by omega, by go_num, rfl, HSz.out, HT.out, HB.out⟩
        case measure => simp [intOf]; omega
      · obtain rfl : k = l.length := by omega
        have HE : Hid (cur = bytesL l) := by have := HC.out; rw [List.take_length] at this; exact this
        go_wp2
        go_ret2
        exact ⟨by rw [HE.out]; rfl, hbel⟩
end Go.Proofs.YteldgfmcfkmpdaaDoor
