/-
  The contracts of Put and of the reference's Put, for every number and size.
-/
import Derived.Test.YtbdfigfjoiefiaaDoorW3
namespace Go.Proofs.YtbdfigfjoiefiaaDoor
open Go.RowKit
theorem put_arg (b : ByteArray) (v : Int) (n : Int) (w : World) (h : n < 1 ∨ 8 < n) :
    Calls Tryd.prog 49 #[.string b, .int .u64 v, .int .i64 n] w fun e w' =>
      e = .returned (.tuple #[.string ⟨#[]⟩, .int .i64 2]) ∧ Below w.heap.size w w' := by
  go_enter Tryd.func49, Tryd.ntmps49
  go_wp2_with (go_at_call 70; refine (isSize_no _ h _).mono ?_; rintro e w' ⟨rfl, rfl⟩)
  go_ret2
  exact ⟨rfl, ((Below.refl _ _).alloc (by simp) _).alloc (by simp) _⟩
theorem shr_some (v n : Nat) (hv : 256 ^ n ≤ v) : ¬ ((v : Int) / 2 ^ (8 * n) = 0) := by
  rw [show (2 : Int) ^ (8 * n) = ((256 ^ n : Nat) : Int) from by rw [show 256 = 2 ^ 8 from rfl, ← Nat.pow_mul]; simp, ← Int.natCast_ediv]
  have : 0 < v / 256 ^ n := Nat.div_pos hv (Nat.pow_pos (by omega))
  omega
theorem put_long (b : ByteArray) (v n : Nat) (w : World) (h0 : 1 ≤ n) (h1 : n ≤ 8) (hv : 256 ^ n ≤ v) :
    Calls Tryd.prog 49 #[.string b, .int .u64 (v : Int), .int .i64 (n : Int)] w fun e w' =>
      e = .returned (.tuple #[.string ⟨#[]⟩, .int .i64 3]) ∧ Below w.heap.size w w' := by
  have hq := shr_some v n hv
  clear hv
  go_enter Tryd.func49, Tryd.ntmps49
  go_wp2_with (go_at_call 70; refine (isSize_yes _ (by omega) (by omega) _).mono ?_; rintro e w' ⟨rfl, rfl⟩)
  go_ret2
  exact ⟨rfl, ((Below.refl _ _).alloc (by simp) _).alloc (by simp) _⟩
theorem rput_arg (b : ByteArray) (v : Int) (n : Int) (w : World) (h : n < 1 ∨ 8 < n) :
    Calls Tryd.prog 54 #[.string b, .int .u64 v, .int .i64 n] w fun e w' =>
      e = .returned (.tuple #[.string ⟨#[]⟩, .int .i64 2]) ∧ Below w.heap.size w w' := by
  by_cases h0 : n < 1
  · clear h
    go_enter Tryd.func54, Tryd.ntmps54
    go_wp2
    go_ret2
    exact ⟨rfl, Below.refl _ _⟩
  · have h1 : 8 < n := by omega
    clear h
    go_enter Tryd.func54, Tryd.ntmps54
    go_wp2
    go_ret2
    exact ⟨rfl, Below.refl _ _⟩
theorem rput_long (b : ByteArray) (v n : Nat) (w : World) (h0 : 1 ≤ n) (h1 : n < 8) (hv : 256 ^ n ≤ v) :
    Calls Tryd.prog 54 #[.string b, .int .u64 (v : Int), .int .i64 (n : Int)] w fun e w' =>
      e = .returned (.tuple #[.string ⟨#[]⟩, .int .i64 3]) ∧ Below w.heap.size w w' := by
  have hq := shr_some v n hv
  clear hv
  go_enter Tryd.func54, Tryd.ntmps54
  go_wp2
  go_ret2
  exact ⟨rfl, Below.refl _ _⟩
theorem append_one (b : ByteArray) (c : UInt8) (l : List UInt8) : b ++ ⟨#[c]⟩ ++ ⟨l.toArray⟩ = b ++ ⟨(c :: l).toArray⟩ := by
  apply ByteArray.ext
  simp
theorem end_str {v : Nat} {a b : ByteArray} {x : Value} (h : a ++ ⟨(laid v 0).toArray⟩ = b) : Ending.returned (.tuple #[.string a, x]) = .returned (.tuple #[.string b, x]) := by
  rw [← h, show a ++ ⟨(laid v 0).toArray⟩ = a from by apply ByteArray.ext; simp [laid]]
set_option maxRecDepth 100000 in
set_option maxHeartbeats 400000 in
theorem rput_yes (b : ByteArray) (v n : Nat) (w : World) (h0 : 1 ≤ n) (h1 : n ≤ 8) (hv : v < 256 ^ n) (hb : b.size ≤ 281474976710656) :
    Calls Tryd.prog 54 #[.string b, .int .u64 (v : Int), .int .i64 (n : Int)] w fun e w' =>
      e = .returned (.tuple #[.string (b ++ ⟨(laid v n).toArray⟩), .int .i64 0]) ∧ Below w.heap.size w w' := by
  by_cases h8 : n = 8
  · subst h8
    clear hv h0 h1
    go_enter Tryd.func54, Tryd.ntmps54
    go_wp2
    go_loopw [0, 8] (fun t i wr => ∃ (j : Nat) (cur : ByteArray), j ≤ 8 ∧ i = .int .i64 ((j : Int) - 1) ∧ t = .string cur ∧ cur.size ≤ b.size + (8 - j) ∧ cur ++ ⟨(laid v j).toArray⟩ = b ++ ⟨(laid v 8).toArray⟩ ∧ Below w.heap.size w wr) (fun _ i _ => (intOf i + 1).toNat)
    case atStart => exact ⟨8, b, by omega, rfl, rfl, by omega, rfl, Below.refl _ _⟩
    case round =>
      obtain ⟨j, cur, hj, rfl, rfl, hs, hcur, hbel⟩ := hrel
      have HC : Hid (_ = _) := hcur
      clear hcur
      cases j with
      | zero =>
        go_wp2
        go_ret2
        exact ⟨end_str HC.out, hbel⟩
      | succ j =>
        rw [show ((j + 1 : Nat) : Int) - 1 = (j : Int) from by omega]
        have hbt := byteAt_toNat v j
        have hback := run_convert_bytes_back (P := Tryd.prog) (wr.alloc (.cells #[.int .u8 ((v : Int) / 2 ^ (8 * j) % 256)] 5)) 58 9 5 ⟨wr.heap.size, 0, none⟩ 1 [byteAt v j] Tryd.underlying58 Tryd.underlying5 Tryd.underlying9 (fun i hi => by
          obtain rfl : i = 0 := by simpa using hi
          rw [← hbt]; simp [Addr.add])
        have hadd := run_string_add_if (P := Tryd.prog) (wr.alloc (.cells #[.int .u8 ((v : Int) / 2 ^ (8 * j) % 256)] 5)) cur ⟨#[byteAt v j]⟩
        rw [if_neg (by rw [show (ByteArray.mk #[byteAt v j]).size = 1 from rfl]; omega)] at hadd
        simp only [List.length_cons, List.length_nil, Nat.zero_add] at hback
        clear hbt
        go_wp2
        go_roundw
        case rel =>
          refine ⟨j, cur ++ ⟨#[byteAt v j]⟩, by omega, rfl, rfl, ?_, ?_, hbel.alloc hbel.size _⟩
          · rw [ByteArray.size_append, show (ByteArray.mk #[byteAt v j]).size = 1 from rfl]; omega
          · rw [append_one]; exact HC.out
        case measure => simp [intOf]
  · have h7 : n < 8 := by omega
    have hq := shr_zero v n hv
    clear hv
    go_enter Tryd.func54, Tryd.ntmps54
    go_wp2
    clear hq
    go_loopw [0, 8] (fun t i wr => ∃ (j : Nat) (cur : ByteArray), j ≤ n ∧ i = .int .i64 ((j : Int) - 1) ∧ t = .string cur ∧ cur.size ≤ b.size + (n - j) ∧ cur ++ ⟨(laid v j).toArray⟩ = b ++ ⟨(laid v n).toArray⟩ ∧ Below w.heap.size w wr) (fun _ i _ => (intOf i + 1).toNat)
    case atStart => exact ⟨n, b, by omega, rfl, rfl, by omega, rfl, Below.refl _ _⟩
    case round =>
      obtain ⟨j, cur, hj, rfl, rfl, hs, hcur, hbel⟩ := hrel
      have HC : Hid (_ = _) := hcur
      clear hcur
      cases j with
      | zero =>
        go_wp2
        go_ret2
        exact ⟨end_str HC.out, hbel⟩
      | succ j =>
        rw [show ((j + 1 : Nat) : Int) - 1 = (j : Int) from by omega]
        have hbt := byteAt_toNat v j
        have hback := run_convert_bytes_back (P := Tryd.prog) (wr.alloc (.cells #[.int .u8 ((v : Int) / 2 ^ (8 * j) % 256)] 5)) 58 9 5 ⟨wr.heap.size, 0, none⟩ 1 [byteAt v j] Tryd.underlying58 Tryd.underlying5 Tryd.underlying9 (fun i hi => by
          obtain rfl : i = 0 := by simpa using hi
          rw [← hbt]; simp [Addr.add])
        have hadd := run_string_add_if (P := Tryd.prog) (wr.alloc (.cells #[.int .u8 ((v : Int) / 2 ^ (8 * j) % 256)] 5)) cur ⟨#[byteAt v j]⟩
        rw [if_neg (by rw [show (ByteArray.mk #[byteAt v j]).size = 1 from rfl]; omega)] at hadd
        simp only [List.length_cons, List.length_nil, Nat.zero_add] at hback
        clear hbt
        go_wp2
        go_roundw
        case rel =>
          refine ⟨j, cur ++ ⟨#[byteAt v j]⟩, by omega, rfl, rfl, ?_, ?_, hbel.alloc hbel.size _⟩
          · rw [ByteArray.size_append, show (ByteArray.mk #[byteAt v j]).size = 1 from rfl]; omega
          · rw [append_one]; exact HC.out
        case measure => simp [intOf]
end Go.Proofs.YtbdfigfjoiefiaaDoor
