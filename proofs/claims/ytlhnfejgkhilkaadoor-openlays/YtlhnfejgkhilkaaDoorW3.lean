/-
  The reference's num, pair, capability.
-/
import Derived.Test.YtlhnfejgkhilkaaDoorV1
import Derived.Test.YtlhnfejgkhilkaaDoorP4
set_option linter.unusedVariables false
set_option linter.unusedSimpArgs false
namespace Go.Proofs.YtlhnfejgkhilkaaDoor
open Go.RowKit
theorem append_one (b : ByteArray) (c : UInt8) (l : List UInt8) : b ++ ⟨#[c]⟩ ++ ⟨l.toArray⟩ = b ++ ⟨(c :: l).toArray⟩ := by
  apply ByteArray.ext
  simp
theorem end_str {v : Nat} {a b : ByteArray} {x : Value} (h : a ++ ⟨(laid v 0).toArray⟩ = b) : Ending.returned (.tuple #[.string a, x]) = .returned (.tuple #[.string b, x]) := by
  rw [← h, show a ++ ⟨(laid v 0).toArray⟩ = a from by apply ByteArray.ext; simp [laid]]
set_option maxRecDepth 100000 in
set_option maxHeartbeats 400000 in
theorem rput_yes (b : ByteArray) (v n : Nat) (w : World) (h0 : 1 ≤ n) (h1 : n ≤ 8) (hv : v < 256 ^ n) (hb : b.size ≤ 281474976710656) :
    Calls Tryd.prog 56 #[.string b, .int .u64 (v : Int), .int .i64 (n : Int)] w fun e w' =>
      e = .returned (.tuple #[.string (b ++ ⟨(laid v n).toArray⟩), .int .i64 0]) ∧ Below w.heap.size w w' := by
  by_cases h8 : n = 8
  · subst h8
    clear hv h0 h1
    go_enter Tryd.func56, Tryd.ntmps56
    go_wp2
    go_loopw [0, 8] (fun t i wr => ∃ (j : Nat) (cur : ByteArray), j ≤ 8 ∧ i = .int .i64 ((j : Int) - 1) ∧ t = .string cur ∧ cur.size ≤ b.size + (8 - j) ∧ cur ++ ⟨(laid v j).toArray⟩ = b ++ ⟨(laid v 8).toArray⟩ ∧ Below w.heap.size w wr) (fun _ i _ => (intOf i + 1).toNat)
    case atStart => exact ⟨8, b, by omega, rfl, rfl, by omega, rfl, Below.refl _ _⟩
    case round =>
      obtain ⟨j, cur, hj, rfl, rfl, hs, hcur, hbel⟩ := hrel
      have HC : Hid (_ = _) := hcur
      clear hcur
      cases j with
      | zero =>
        go_wp2
        go_ret2
        exact ⟨end_str HC.out, hbel⟩
      | succ j =>
        rw [show ((j + 1 : Nat) : Int) - 1 = (j : Int) from by omega]
        have hbt := byteAt_toNat v j
        have hback := run_convert_bytes_back (P := Tryd.prog) (wr.alloc (.cells #[.int .u8 ((v : Int) / 2 ^ (8 * j) % 256)] 5)) 110 9 5 ⟨wr.heap.size, 0, none⟩ 1 [byteAt v j] Tryd.underlying110 Tryd.underlying5 Tryd.underlying9 (fun i hi => by
          obtain rfl : i = 0 := by simpa using hi
          rw [← hbt]; simp [Addr.add])
        have hadd := run_string_add_if (P := Tryd.prog) (wr.alloc (.cells #[.int .u8 ((v : Int) / 2 ^ (8 * j) % 256)] 5)) cur ⟨#[byteAt v j]⟩
        rw [if_neg (by rw [show (ByteArray.mk #[byteAt v j]).size = 1 from rfl]; omega)] at hadd
        simp only [List.length_cons, List.length_nil, Nat.zero_add] at hback
        clear hbt
        go_wp2
        go_roundw
        case rel =>
          refine ⟨j, cur ++ ⟨#[byteAt v j]⟩, by omega, rfl, rfl, ?_, ?_, hbel.alloc hbel.size _⟩
          · rw [ByteArray.size_append, show (ByteArray.mk #[byteAt v j]).size = 1 from rfl]; omega
          · rw [append_one]; exact HC.out
        case measure => simp [intOf]
  · have h7 : n < 8 := by omega
    have hq := shr_zero v n hv
    clear hv
    go_enter Tryd.func56, Tryd.ntmps56
    go_wp2
    clear hq
    go_loopw [0, 8] (fun t i wr => ∃ (j : Nat) (cur : ByteArray), j ≤ n ∧ i = .int .i64 ((j : Int) - 1) ∧ t = .string cur ∧ cur.size ≤ b.size + (n - j) ∧ cur ++ ⟨(laid v j).toArray⟩ = b ++ ⟨(laid v n).toArray⟩ ∧ Below w.heap.size w wr) (fun _ i _ => (intOf i + 1).toNat)
    case atStart => exact ⟨n, b, by omega, rfl, rfl, by omega, rfl, Below.refl _ _⟩
    case round =>
      obtain ⟨j, cur, hj, rfl, rfl, hs, hcur, hbel⟩ := hrel
      have HC : Hid (_ = _) := hcur
      clear hcur
      cases j with
      | zero =>
        go_wp2
        go_ret2
        exact ⟨end_str HC.out, hbel⟩
      | succ j =>
        rw [show ((j + 1 : Nat) : Int) - 1 = (j : Int) from by omega]
        have hbt := byteAt_toNat v j
        have hback := run_convert_bytes_back (P := Tryd.prog) (wr.alloc (.cells #[.int .u8 ((v : Int) / 2 ^ (8 * j) % 256)] 5)) 110 9 5 ⟨wr.heap.size, 0, none⟩ 1 [byteAt v j] Tryd.underlying110 Tryd.underlying5 Tryd.underlying9 (fun i hi => by
          obtain rfl : i = 0 := by simpa using hi
          rw [← hbt]; simp [Addr.add])
        have hadd := run_string_add_if (P := Tryd.prog) (wr.alloc (.cells #[.int .u8 ((v : Int) / 2 ^ (8 * j) % 256)] 5)) cur ⟨#[byteAt v j]⟩
        rw [if_neg (by rw [show (ByteArray.mk #[byteAt v j]).size = 1 from rfl]; omega)] at hadd
        simp only [List.length_cons, List.length_nil, Nat.zero_add] at hback
        clear hbt
        go_wp2
        go_roundw
        case rel =>
          refine ⟨j, cur ++ ⟨#[byteAt v j]⟩, by omega, rfl, rfl, ?_, ?_, hbel.alloc hbel.size _⟩
          · rw [ByteArray.size_append, show (ByteArray.mk #[byteAt v j]).size = 1 from rfl]; omega
          · rw [append_one]; exact HC.out
        case measure => simp [intOf]

theorem rnum (v n : Nat) (w : World) (h0 : 1 ≤ n) (h1 : n ≤ 4) (hv : v < 256 ^ n) (hv2 : v < 4294967296) :
    Calls Tryd.prog 29 #[.int .i64 (v : Int), .int .i64 (n : Int)] w fun e w' => e = .returned (.string ⟨(laid v n).toArray⟩) ∧ Below w.heap.size w w' := by
  have HK : Hid (Calls Tryd.prog 56 #[.string ⟨#[]⟩, .int .u64 (v : Int), .int .i64 (n : Int)] w fun e w' => e = .returned (.tuple #[.string ⟨(laid v n).toArray⟩, .int .i64 0]) ∧ Below w.heap.size w w') := by
    have h := rput_yes ⟨#[]⟩ v n w h0 (by omega) hv (by decide)
    rw [show (⟨#[]⟩ : ByteArray) ++ ⟨(laid v n).toArray⟩ = ⟨(laid v n).toArray⟩ from by apply ByteArray.ext; simp] at h
    exact h
  have hm : IntKind.u64.wrap (v : Int) = (v : Int) := by simp [IntKind.wrap, IntKind.signed, IntKind.bits]; omega
  clear hv
  go_enter Tryd.func29, Tryd.ntmps29
  go_wp2_with (go_at_call 56; refine Calls.mono HK.out ?_; rintro e w2 ⟨rfl, hb2⟩)
  go_ret
  exact ⟨rfl, hb2⟩
set_option maxHeartbeats 1600000 in
theorem rafi_yes (f : Int) (w : World) (h : isF f = true) : Calls Tryd.prog 55 #[.int .i64 f] w fun e w' => e = .returned (.tuple #[.int .u16 (afN f), .int .u8 (sfN f), .bool true]) ∧ w' = w := by
  rcases isF_cases h with rfl | rfl | rfl | rfl | rfl
  all_goals
    clear h
    go_enter Tryd.func55, Tryd.ntmps55
    go_wp2
    go_ret3
    exact ⟨rfl, rfl⟩
/-- A family's pair, with something between and behind. -/
def prL (f : Int) (x y : List UInt8) : List UInt8 := laid (afN f) 2 ++ x ++ laid (sfN f) 1 ++ y
theorem prL_length (f : Int) (x y : List UInt8) : (prL f x y).length = 3 + x.length + y.length := by simp [prL, laid_length]; omega
set_option maxHeartbeats 1600000 in
theorem rpair (f : Int) (x y : List UInt8) (w : World) (h : isF f = true) (hx : x.length ≤ 1) (hy : y.length ≤ 1) :
    Calls Tryd.prog 28 #[.int .i64 f, .string ⟨x.toArray⟩, .string ⟨y.toArray⟩] w fun e w' => e = .returned (.string ⟨(prL f x y).toArray⟩) ∧ Below w.heap.size w w' := by
  have K0 : Hid (∀ X, Calls Tryd.prog 55 #[.int .i64 f] X fun e w' => e = .returned (.tuple #[.int .u16 (afN f), .int .u8 (sfN f), .bool true]) ∧ w' = X) := fun X => rafi_yes f X h
  have b1 := afN_bd f
  have b2 := sfN_bd f
  have K1 : Hid (∀ X, Calls Tryd.prog 29 #[.int .i64 (afN f : Int), .int .i64 2] X fun e w' => e = .returned (.string ⟨(laid (afN f) 2).toArray⟩) ∧ Below X.heap.size X w') := fun X => rnum (afN f) 2 X (by omega) (by omega) (by omega) (by omega)
  have K2 : Hid (∀ X, Calls Tryd.prog 29 #[.int .i64 (sfN f : Int), .int .i64 1] X fun e w' => e = .returned (.string ⟨(laid (sfN f) 1).toArray⟩) ∧ Below X.heap.size X w') := fun X => rnum (sfN f) 1 X (by omega) (by omega) (by omega) (by omega)
  have a1 : ∀ X : World, (Op.stringOp .add ⟨(laid (afN f) 2).toArray⟩ ⟨x.toArray⟩).run Tryd.prog X = .ok (.string ⟨(laid (afN f) 2 ++ x).toArray⟩) X := fun X => add_l _ _ (by simp [laid_length]) (by omega) X
  have a2 : ∀ X : World, (Op.stringOp .add ⟨(laid (afN f) 2 ++ x).toArray⟩ ⟨(laid (sfN f) 1).toArray⟩).run Tryd.prog X = .ok (.string ⟨(laid (afN f) 2 ++ x ++ laid (sfN f) 1).toArray⟩) X := fun X => add_l _ _ (by simp [laid_length]; omega) (by simp [laid_length]) X
  have a3 : ∀ X : World, (Op.stringOp .add ⟨(laid (afN f) 2 ++ x ++ laid (sfN f) 1).toArray⟩ ⟨y.toArray⟩).run Tryd.prog X = .ok (.string ⟨(prL f x y).toArray⟩) X := fun X => add_l _ _ (by simp [laid_length]; omega) (by omega) X
  generalize prL f x y = R at *
  generalize laid (afN f) 2 ++ x ++ laid (sfN f) 1 = C at *
  generalize laid (afN f) 2 ++ x = B at *
  generalize laid (afN f) 2 = A at *
  generalize laid (sfN f) 1 = D at *
  generalize afN f = p at *
  generalize sfN f = q at *
  clear h hx hy
  go_enter Tryd.func28, Tryd.ntmps28
  go_wp2_with fail
  refine Calls.mono (K0.out _) ?_
  rintro e w0 ⟨rfl, rfl⟩
  go_wp2_with fail
  refine Calls.mono (K1.out _) ?_
  rintro e w1 ⟨rfl, hb1⟩
  go_wp2_with fail
  refine Calls.mono (K2.out _) ?_
  rintro e w2 ⟨rfl, hb2⟩
  go_wp2
  go_ret
  exact ⟨rfl, hb1.trans (hb2.mono hb1.size)⟩
set_option maxHeartbeats 1600000 in
theorem rcap (c : Nat) (l : List UInt8) (w : World) (hc : c < 256) (hl : l.length < 256) :
    Calls Tryd.prog 27 #[.int .i64 (c : Int), .string ⟨l.toArray⟩] w fun e w' => e = .returned (.string ⟨(pcL c l).toArray⟩) ∧ Below w.heap.size w w' := by
  have K1 : Hid (∀ X, Calls Tryd.prog 29 #[.int .i64 (c : Int), .int .i64 1] X fun e w' => e = .returned (.string ⟨(laid c 1).toArray⟩) ∧ Below X.heap.size X w') := fun X => rnum c 1 X (by omega) (by omega) (by omega) (by omega)
  have K2 : Hid (∀ X, Calls Tryd.prog 29 #[.int .i64 (l.length : Int), .int .i64 1] X fun e w' => e = .returned (.string ⟨(laid l.length 1).toArray⟩) ∧ Below X.heap.size X w') := fun X => rnum l.length 1 X (by omega) (by omega) (by omega) (by omega)
  have a1 : ∀ X : World, (Op.stringOp .add ⟨(laid c 1).toArray⟩ ⟨(laid l.length 1).toArray⟩).run Tryd.prog X = .ok (.string ⟨(laid c 1 ++ laid l.length 1).toArray⟩) X := fun X => add_l _ _ (by simp [laid_length]) (by simp [laid_length]) X
  have a2 : ∀ X : World, (Op.stringOp .add ⟨(laid c 1 ++ laid l.length 1).toArray⟩ ⟨l.toArray⟩).run Tryd.prog X = .ok (.string ⟨(pcL c l).toArray⟩) X := fun X => add_l _ _ (by simp [laid_length]) (by omega) X
  have hs : (⟨l.toArray⟩ : ByteArray).size = l.length := rfl
  generalize laid c 1 ++ laid l.length 1 = B at *
  generalize laid c 1 = A at *
  generalize laid l.length 1 = D at *
  generalize pcL c l = C at *
  generalize l.length = n at *
  go_enter Tryd.func27, Tryd.ntmps27
  go_wp2_with fail
  refine Calls.mono (K1.out _) ?_
  rintro e w1 ⟨rfl, hb1⟩
  go_wp2_with fail
  refine Calls.mono (K2.out _) ?_
  rintro e w2 ⟨rfl, hb2⟩
  go_wp2
  go_ret
  exact ⟨rfl, hb1.trans (hb2.mono hb1.size)⟩
end Go.Proofs.YtlhnfejgkhilkaaDoor
