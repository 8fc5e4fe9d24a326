/-
  Contracts of the first bit in which two keys differ, and of a key's bit.
-/
import Derived.Test.YtjjhimdjhfdmiaaDoorC1
import Derived.Test.YtjjhimdjhfdmiaaDoorB3
import Derived.Deep.RegionHeld
namespace Go.Proofs.YtjjhimdjhfdmiaaDoor
open Go.RowKit
def tab8 : ByteArray := ⟨#[0, 1, 2, 2, 3, 3, 3, 3, 4, 4, 4, 4, 4, 4, 4, 4, 5, 5, 5, 5, 5, 5, 5, 5, 5, 5, 5, 5, 5, 5, 5, 5, 6, 6, 6, 6, 6, 6, 6, 6, 6, 6, 6, 6, 6, 6, 6, 6, 6, 6, 6, 6, 6, 6, 6, 6, 6, 6, 6, 6, 6, 6, 6, 6, 7, 7, 7, 7, 7, 7, 7, 7, 7, 7, 7, 7, 7, 7, 7, 7, 7, 7, 7, 7, 7, 7, 7, 7, 7, 7, 7, 7, 7, 7, 7, 7, 7, 7, 7, 7, 7, 7, 7, 7, 7, 7, 7, 7, 7, 7, 7, 7, 7, 7, 7, 7, 7, 7, 7, 7, 7, 7, 7, 7, 7, 7, 7, 7, 8, 8, 8, 8, 8, 8, 8, 8, 8, 8, 8, 8, 8, 8, 8, 8, 8, 8, 8, 8, 8, 8, 8, 8, 8, 8, 8, 8, 8, 8, 8, 8, 8, 8, 8, 8, 8, 8, 8, 8, 8, 8, 8, 8, 8, 8, 8, 8, 8, 8, 8, 8, 8, 8, 8, 8, 8, 8, 8, 8, 8, 8, 8, 8, 8, 8, 8, 8, 8, 8, 8, 8, 8, 8, 8, 8, 8, 8, 8, 8, 8, 8, 8, 8, 8, 8, 8, 8, 8, 8, 8, 8, 8, 8, 8, 8, 8, 8, 8, 8, 8, 8, 8, 8, 8, 8, 8, 8, 8, 8, 8, 8, 8, 8, 8, 8, 8, 8, 8, 8, 8, 8, 8, 8, 8, 8, 8, 8]⟩
theorem tab8_size : tab8.size = 256 := by kernel_rfl
theorem tab8_at : ∀ x : Fin 256, wrap64 (((tab8[x.val]'(by rw [tab8_size]; exact x.isLt)).toNat : Nat) : Int) = ((8 - lz x.val : Nat) : Int) := by decide +kernel
set_option maxRecDepth 100000 in
theorem len8_any (x : Nat) (hx : x < 256) (w : World) :
    Calls Tryd.prog 62 #[.int .u8 x] w fun e w' => e = .returned (.int .i64 ((8 - lz x : Nat) : Int)) ∧ w' = w := by
  go_enter Tryd.func62, Tryd.ntmps62
  go_wp2
  go_ret
  exact ⟨ret_int (tab8_at ⟨x, hx⟩), rfl⟩
theorem lz_le (x : Nat) : lz x ≤ 8 := by unfold lz; split <;> omega
theorem lz8_any (x : Nat) (hx : x < 256) (w : World) :
    Calls Tryd.prog 53 #[.int .u8 x] w fun e w' => e = .returned (.int .i64 (lz x : Int)) ∧ w' = w := by
  have hl := lz_le x
  go_enter Tryd.func53, Tryd.ntmps53
  go_wp2_with (go_at_call 62; refine (len8_any x hx _).mono ?_; rintro e w' ⟨rfl, rfl⟩)
  go_ret
  exact ⟨ret_int (by omega), rfl⟩
theorem kbit_any (s : ByteArray) (l : Int) (n : Nat) (w : World) (hs : s.size ≤ 25) (hn : n ≤ 1000) :
    Calls Tryd.prog 44 #[.agg #[.string s, .int .i64 l], .int .i64 n] w fun e w' => e = .returned (.int .i64 (bt s n : Int)) ∧ Below w.heap.size w w' := by
  have hb : bitI s n = (bt s n : Int) := by unfold bitI; rw [if_pos (by omega)]; rfl
  have HB : Hid (bitI s n = (bt s n : Int)) := hb
  clear hb
  go_enter Tryd.func44, Tryd.ntmps44
  go_wp2_with (go_at_call 54; refine (bit_any s n _ (by unfold maxLen; omega) (by omega) (by omega)).mono ?_; rintro e w' ⟨rfl, rfl⟩; rw [HB.out])
  go_ret
  exact ⟨rfl, (Below.refl _ _).alloc (Nat.le_refl _) _⟩
/-- The two cells of a key. -/
structure KeyAt (w : World) (b : Nat) (s : ByteArray) (l : Int) : Prop where
  c0 : w.cell? ⟨b, 0, none⟩ = some (.string s)
  c1 : w.cell? ⟨b, 1, none⟩ = some (.int .i64 l)
theorem KeyAt.drew {w : World} {b : Nat} {s : ByteArray} {l : Int} (h : KeyAt w b s l) : KeyAt w.drew b s l := ⟨h.c0, h.c1⟩
theorem KeyAt.kept {w w' : World} {b B : Nat} {s : ByteArray} {l : Int} (h : KeyAt w b s l) (hb : Below B w w') (hB : b < B) : KeyAt w' b s l := ⟨(hb.cell (p := ⟨b, 0, none⟩) hB).trans h.c0, (hb.cell (p := ⟨b, 1, none⟩) hB).trans h.c1⟩
theorem KeyAt.new (w : World) (b : Nat) (s : ByteArray) (l : Int) (h : b = w.heap.size) : KeyAt (w.alloc (.cells #[.string s, .int .i64 l] 58)) b s l := by subst h; constructor <;> simp
theorem xor_u8 (a b : UInt8) : bits .xor .u8 (a.toNat : Int) (b.toNat : Int) = ((a.toNat ^^^ b.toNat : Nat) : Int) := by
  rw [u8_xor_nat _ _ a.toNat_lt b.toNat_lt]
set_option maxRecDepth 100000 in
set_option maxHeartbeats 400000 in
theorem com_any (a b : ByteArray) (la lb : Nat) (w : World) (ha : la ≤ 8 * a.size) (hb : lb ≤ 8 * b.size) (za : a.size ≤ 25) :
    Calls Tryd.prog 43 #[.agg #[.string a, .int .i64 la], .agg #[.string b, .int .i64 lb]] w fun e w' => e = .returned (.int .i64 (com a b (min la lb) : Int)) ∧ Below w.heap.size w w' := by
  have k0 : KeyAt ((w.alloc (.cells #[.string a, .int .i64 la] 58)).alloc (.cells #[.string b, .int .i64 lb] 58)) w.heap.size a la := (KeyAt.new w _ a la rfl).kept (B := w.heap.size + 1) ((Below.refl _ _).alloc (by simp) _) (by simp)
  have k1 : KeyAt ((w.alloc (.cells #[.string a, .int .i64 la] 58)).alloc (.cells #[.string b, .int .i64 lb] 58)) (w.heap.size + 1) b lb := KeyAt.new _ _ b lb (by simp)
  have hB : Below w.heap.size w ((w.alloc (.cells #[.string a, .int .i64 la] 58)).alloc (.cells #[.string b, .int .i64 lb] 58)) := ((Below.refl _ _).alloc (Nat.le_refl _) _).alloc (by simp) _
  go_enter Tryd.func43, Tryd.ntmps43
  go_wp2
  go_loopw [6] (fun i wr => ∃ k : Nat, i = .int .i64 k ∧ 8 * k ≤ min la lb + 7 ∧ (∀ i, i < 8 * k → bt a i = bt b i) ∧ KeyAt wr w.heap.size a la ∧ KeyAt wr (w.heap.size + 1) b lb ∧ Below w.heap.size w wr) (fun i _ => 100 - (intOf i).toNat)
  case atStart => exact ⟨0, rfl, by omega, fun i h => by omega, k0, k1, hB⟩
  case round =>
    clear k0 k1 hB
    obtain ⟨k, rfl, hk, hag, k0, k1, hB⟩ := hrel
    have HA : Hid (∀ i, i < 8 * k → bt a i = bt b i) := hag
    clear hag
    by_cases hlt : 8 * k < min la lb
    · have hka : k < a.size := by omega
      have hkb : k < b.size := by omega
      have hkl : 8 * (k : Int) < min (la : Int) (lb : Int) := by omega
      obtain ⟨x, hx⟩ : ∃ x, a[k].toNat ^^^ b[k].toNat = x := ⟨_, rfl⟩
      have hx2 : x < 256 := by rw [← hx]; exact Nat.xor_lt_two_pow (n := 8) a[k].toNat_lt b[k].toNat_lt
      have e1 : bits .xor .u8 (a[k].toNat : Int) (b[k].toNat : Int) = (x : Int) := by rw [xor_u8, hx]
      have HX : Hid (a[k].toNat ^^^ b[k].toNat = x) := hx
      clear hx
      by_cases hd : x = 0
      · subst hd
        have c0 := k0.c0
        have c1 := k1.c0
        go_wp2
        go_region_held (fun w' => w'.cell? ⟨w.heap.size, 0, none⟩ = some (.string a) ∧ w'.cell? ⟨w.heap.size + 1, 0, none⟩ = some (.string b)) (go_keep) (fail)
        all_goals go_wp2
        all_goals
          go_roundw
          case rel => exact ⟨k + 1, by go_num, by omega, agree_next a b k HA.out hka hkb HX.out, k0.drew, k1.drew, hB.drew⟩
          case measure => simp [intOf]; omega
      · have e2 : ((x : Int) != 0) = true := by simp [hd]
        have hl := lz_le x
        have HC : Hid (com a b (min la lb) = min (min la lb) (8 * k + lz x)) := by
          have := com_differ a b (min la lb) k HA.out hka hkb (by rw [HX.out]; exact hd)
          rw [HX.out] at this
          exact this
        have c0 := k0.c0
        have c1 := k1.c0
        go_wp2
        go_region_held (fun w' => w'.cell? ⟨w.heap.size, 0, none⟩ = some (.string a) ∧ w'.cell? ⟨w.heap.size + 1, 0, none⟩ = some (.string b)) (go_keep) (fail)
        all_goals go_wp2_with (go_at_call 53; refine (lz8_any x hx2 _).mono ?_; rintro e w' ⟨rfl, rfl⟩)
        all_goals go_ret
        all_goals exact ⟨ret_int (by rw [HC.out]; omega), hB.drew⟩
    · have HC : Hid (com a b (min la lb) = min la lb) := com_same a b (min la lb) k HA.out (by omega)
      have hkl : ¬ 8 * (k : Int) < min (la : Int) (lb : Int) := by omega
      go_wp2
      go_ret
      exact ⟨ret_int (by rw [HC.out]; omega), hB⟩
end Go.Proofs.YtjjhimdjhfdmiaaDoor
