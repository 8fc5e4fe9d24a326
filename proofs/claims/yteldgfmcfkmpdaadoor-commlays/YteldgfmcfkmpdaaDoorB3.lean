/-
  The reference's EncodeExts, EncodeLarges.
-/
import Derived.Test.YteldgfmcfkmpdaaDoorB2
namespace Go.Proofs.YteldgfmcfkmpdaaDoor
open Go.RowKit

set_option maxRecDepth 100000 in
set_option maxHeartbeats 600000 in
theorem rencX (v : Value) (l : List Nat) (w : World) (h : ExtsAt w v l) :
    Calls Tryd.prog 22 #[v] w fun e w' => e = .returned (encAns (mayL ltN l) (bytesN 8 l)) ∧ Below w.heap.size w w' := by
  cases hm : mayL ltN l with
  | false =>
    obtain ⟨ad, b, off, cap, rfl, _⟩ := id h
    have HM : Hid (_ = _) := hm
    clear hm
    go_enter Tryd.func22, Tryd.ntmps22
    go_wp2_with fail
    refine (rmayX _ l w h).mono ?_
    rintro e w1 ⟨rfl, hb⟩
    rw [HM.out]
    go_wp2
    go_ret2
    exact ⟨rfl, hb⟩
  | true =>
    have HM : Hid (_ = _) := hm
    have hl64 : l.length ≤ 64 := by simp [mayL] at hm; exact hm.1
    clear hm
    obtain ⟨ad, b, off, cap, rfl, had, ⟨_, hl⟩, hr⟩ := id h
    have HR : Hid (RowQ _ _ _ _ _ _) := hr
    clear hr
    go_enter Tryd.func22, Tryd.ntmps22
    go_wp2_with fail
    refine (rmayX _ l w h).mono ?_
    rintro e w1 ⟨rfl, hb⟩
    rw [HM.out]
    clear h
    go_wp2
    go_loopw [4, 5] (fun t i wr => ∃ (k : Nat) (cur : ByteArray), k ≤ l.length ∧ i = .int .i64 k ∧ t = .string cur ∧ cur.size ≤ 8 * k ∧ cur = bytesN 8 (l.take k) ∧ Below w.heap.size w wr) (fun _ i _ => l.length - (intOf i).toNat)
    case atStart => exact ⟨0, ⟨#[]⟩, Nat.zero_le _, rfl, rfl, Nat.le_refl 0, rfl, hb⟩
    case round =>
      obtain ⟨k, cur, hk, rfl, rfl, hs, hcur, hbel⟩ := hrel
      have HC : Hid (_ = _) := hcur
      clear hcur hb
      by_cases hlt : k < l.length
      · obtain rfl : ad = some ⟨b, off, none⟩ := by rcases had with h | h; exact h; omega
        have c1 := ((HR.out.below hbel) k hlt).1
        have hx := ((HR.out.below hbel) k hlt).2
        have HT : Hid (cur ++ ⟨(laid l[k] 8).toArray⟩ = bytesN 8 (l.take (k + 1))) := by unfold Hid; rw [HC.out, take_snoc _ _ hlt, bytesN_snoc]
        clear had
        generalize l[k] = x at *
        have h1 : 0 ≤ (x : Int) / 4294967296 ∧ (x : Int) / 4294967296 < 4294967296 := by omega
        have h2 : 0 ≤ (x : Int) % 4294967296 ∧ (x : Int) % 4294967296 < 4294967296 := by omega
        have HQ : Hid (cur ++ ⟨(laid ((x : Int) / 4294967296).toNat 4).toArray⟩ ++ ⟨(laid ((x : Int) % 4294967296).toNat 4).toArray⟩ = cur ++ ⟨(laid x 8).toArray⟩) := by
          unfold Hid
          rw [app2, laid8 x, show ((x : Int) / 4294967296).toNat = x / 4294967296 by omega, show ((x : Int) % 4294967296).toNat = x % 4294967296 by omega]
        have HSz : Hid ((cur ++ ⟨(laid x 8).toArray⟩ : ByteArray).size ≤ 8 * (k + 1)) := by unfold Hid; rw [size_b, laid_length]; omega
        have a1 : ∀ W, (Op.stringOp .add cur ⟨(laid ((x : Int) / 4294967296).toNat 4).toArray⟩).run Tryd.prog W = .ok (.string (cur ++ ⟨(laid ((x : Int) / 4294967296).toNat 4).toArray⟩)) W := fun W => add_b W cur _ (by omega) (by rw [laid_length]; omega)
        have hs2 : (cur ++ ⟨(laid ((x : Int) / 4294967296).toNat 4).toArray⟩ : ByteArray).size ≤ 1000000 := by rw [size_b, laid_length]; omega
        have a2 : ∀ W, (Op.stringOp .add (cur ++ ⟨(laid ((x : Int) / 4294967296).toNat 4).toArray⟩) ⟨(laid ((x : Int) % 4294967296).toNat 4).toArray⟩).run Tryd.prog W = .ok (.string (cur ++ ⟨(laid ((x : Int) / 4294967296).toNat 4).toArray⟩ ++ ⟨(laid ((x : Int) % 4294967296).toNat 4).toArray⟩)) W := fun W => add_b W _ _ hs2 (by rw [laid_length]; omega)
        rw [HQ.out] at a2
        have F1 : Hid (∀ W, Calls Tryd.prog 44 #[.int .u32 (IntKind.u32.wrap ((x : Int) / 4294967296))] W fun e w' => e = .returned (.string ⟨(laid ((x : Int) / 4294967296).toNat 4).toArray⟩) ∧ Below W.heap.size W w') := fun W => by rw [show IntKind.u32.wrap ((x : Int) / 4294967296) = (x : Int) / 4294967296 by rw [IntKind.wrap_u32]; omega]; exact fourI _ W h1
        have F2 : Hid (∀ W, Calls Tryd.prog 44 #[.int .u32 (IntKind.u32.wrap (x : Int))] W fun e w' => e = .returned (.string ⟨(laid ((x : Int) % 4294967296).toNat 4).toArray⟩) ∧ Below W.heap.size W w') := fun W => by rw [show IntKind.u32.wrap (x : Int) = (x : Int) % 4294967296 by rw [IntKind.wrap_u32]]; exact fourI _ W h2
        generalize cur ++ ⟨(laid x 8).toArray⟩ = nx at *
        generalize cur ++ ⟨(laid ((x : Int) / 4294967296).toNat 4).toArray⟩ = mx at *
        generalize (laid ((x : Int) / 4294967296).toNat 4).toArray = s1 at *
        generalize (laid ((x : Int) % 4294967296).toNat 4).toArray = s2 at *
        have HB0 : Hid (Below w.heap.size w wr) := hbel
        clear hbel hs2 h1 h2
        have tok1 : True := trivial
        go_wp2
        go_region_held (fun w' => w'.cell? ⟨b, off + k, none⟩ = some (.int .u64 (x : Int))) (go_keep)
          (first | (go_at_call 44; have _t := tok1; refine (F1.out _).mono ?_; rintro e w5 ⟨rfl, hb5⟩; have q0 := below_cell (w := wr.drew) hb5 c1; clear tok1) | (go_at_call 44; refine (F2.out _).mono ?_; rintro e w6 ⟨rfl, hb6⟩; have q1 := below_cell hb6 q0))
        have HB : Hid (Below w.heap.size w w6) := (HB0.out.drew.trans (hb5.mono HB0.out.size)).trans (hb6.mono (Nat.le_trans HB0.out.size hb5.size))
        clear hb5 hb6 q0 q1 c1 a1 a2
        go_wp2
        go_roundw
        case rel => exact ⟨k + 1, nx, by omega, by go_num, rfl, HSz.out, HT.out, HB.out⟩
        case measure => simp [intOf]; omega
      · obtain rfl : k = l.length := by omega
        have HE : Hid (cur = bytesN 8 l) := by have := HC.out; rw [List.take_length] at this; exact this
        go_wp2
        go_ret2
        exact ⟨by rw [HE.out]; rfl, hbel⟩
end Go.Proofs.YteldgfmcfkmpdaaDoor
