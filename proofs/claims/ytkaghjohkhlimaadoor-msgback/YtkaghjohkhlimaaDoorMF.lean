/-
  The reference's Note; ReadNote and the reference's.
-/
import Derived.Test.YtkaghjohkhlimaaDoorME
namespace Go.Proofs.YtkaghjohkhlimaaDoor
open Go.RowKit
theorem laid1 (c : Nat) : laid c 1 = [UInt8.ofNat c] := by simp [laid, byteAt]
theorem of_toNat {c : Nat} (h : c < 256) : ((UInt8.ofNat c).toNat : Int) = (c : Int) := by rw [UInt8.toNat_ofNat']; omega
/-- Bytes that were just made, as a text. -/
theorem conv_new (W : World) (l : List UInt8) (C : Array Value) (n b : Nat) (hb : b = W.heap.size) (hn : n = l.length) (hC : ∀ j (h : j < l.length), C[j]? = some (.int .u8 (l[j].toNat : Int))) :
    (convert 52 9 (.slice (some ⟨b, 0, none⟩) n n)).run Tryd.prog (W.alloc (.cells C 5)) = .ok (.string ⟨l.toArray⟩) (W.alloc (.cells C 5)) := by
  subst hb hn
  refine run_convert_bytes_back (P := Tryd.prog) _ 52 9 5 ⟨W.heap.size, 0, none⟩ _ l Tryd.underlying52 Tryd.underlying5 Tryd.underlying9 (fun j hj => ?_)
  rw [show Addr.add ⟨W.heap.size, 0, none⟩ j = ⟨W.heap.size, j, none⟩ from by unfold Addr.add; by_cases e : j = 0 <;> simp [e]]
  exact cl_row (hp_new rfl) (hC j hj)
set_option maxHeartbeats 1600000 in
theorem rnote_any (c s : Nat) (d : List UInt8) (hc : c < 256) (hs : s < 256) (hd : d.length ≤ 281474976710656) (w : World) : Calls Tryd.prog 15 #[.agg (ntC c s d)] w fun e w' => e = .returned (ntA c s d) ∧ Below w.heap.size w w' := by
  have hb : Below w.heap.size w (w.alloc (.cells #[.int .u8 (c : Int), .int .u8 (s : Int), .string ⟨d.toArray⟩] 30)) := (Below.refl _ _).alloc (Nat.le_refl _) _
  by_cases h0 : c = 0
  · have HA : Hid (ntA c s d = .tuple #[.string ⟨#[]⟩, .int .i64 2]) := by unfold Hid ntA; rw [if_pos h0]
    rw [HA.out]
    subst h0
    clear HA hc hs hd
    unfold ntC
    go_enter Tryd.func15, Tryd.ntmps15
    go_wp2
    go_ret2
    exact ⟨rfl, hb⟩
  · have g0 : ((c : Int) == 0) = false := beq_eq_false_iff_ne.2 (by omega)
    have hsz : (⟨d.toArray⟩ : ByteArray).size = d.length := rfl
    by_cases h1 : 4075 < d.length
    · have HA : Hid (ntA c s d = .tuple #[.string ⟨#[]⟩, .int .i64 3]) := by unfold Hid ntA; rw [if_neg h0, if_pos h1]
      have g1 : (4075 : Int) < (d.length : Int) := by omega
      rw [HA.out]
      clear HA hc hs h1 h0
      unfold ntC
      go_enter Tryd.func15, Tryd.ntmps15
      go_wp2
      go_ret2
      exact ⟨rfl, hb⟩
    · have HA : Hid (ntA c s d = .tuple #[.string ⟨(ntL c s d).toArray⟩, .int .i64 0]) := by unfold Hid ntA; rw [if_neg h0, if_neg h1]
      have g1 : decide ((4075 : Int) < (d.length : Int)) = false := by simp; omega
      rw [HA.out]
      have hap := app_l (laid c 1 ++ laid s 1) d
      have HE : Hid ((laid c 1 ++ laid s 1) ++ d = ntL c s d) := rfl
      have hs2 : (⟨(laid c 1 ++ laid s 1).toArray⟩ : ByteArray).size = 2 := by rw [list_size, List.length_append, laid_length, laid_length]
      rw [HE.out] at hap
      have hcv : (convert 52 9 (.slice (some ⟨w.heap.size + 1, 0, none⟩) 2 2)).run Tryd.prog ((w.alloc (.cells #[.int .u8 (c : Int), .int .u8 (s : Int), .string ⟨d.toArray⟩] 30)).alloc (.cells #[.int .u8 (c : Int), .int .u8 (s : Int)] 5)) = .ok (.string ⟨(laid c 1 ++ laid s 1).toArray⟩) ((w.alloc (.cells #[.int .u8 (c : Int), .int .u8 (s : Int), .string ⟨d.toArray⟩] 30)).alloc (.cells #[.int .u8 (c : Int), .int .u8 (s : Int)] 5)) := by
        refine conv_new _ _ _ 2 _ (by simp) (by rw [List.length_append, laid_length, laid_length]) ?_
        rw [laid1, laid1]
        intro j hj
        have hj2 : j = 0 ∨ j = 1 := by simp at hj; omega
        rcases hj2 with rfl | rfl
        · simp [-UInt8.toNat_ofNat', of_toNat hc]
        · simp [-UInt8.toNat_ofNat', of_toNat hs]
      generalize ntL c s d = R at *
      generalize laid c 1 ++ laid s 1 = X2 at *
      have HB : Hid (Below _ _ _) := hb
      clear HA hc hs h1 h0 hb HE
      unfold ntC
      go_enter Tryd.func15, Tryd.ntmps15
      go_wp2
      go_ret2
      exact ⟨rfl, HB.out.alloc HB.out.size _⟩
end Go.Proofs.YtkaghjohkhlimaaDoor
