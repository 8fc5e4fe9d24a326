/-
  The contract of a key's prefix: what the key was made of.
-/
import Derived.Test.YtjjhimdjhfdmiaaDoorC3
import Derived.Laws.Bits64b
namespace Go.Proofs.YtjjhimdjhfdmiaaDoor
open Go.RowKit
theorem or_low (v c : Nat) (h1 : v < 72057594037927936) (h3 : c < 256) : bits .or .u64 ((v : Int) * 256) (c : Int) = ((v * 256 + c : Nat) : Int) := by
  have h := bits_or_u64_nat (v * 256) c (by omega) (by omega)
  rw [show ((v * 256 : Nat) : Int) = (v : Int) * 256 from by simp] at h
  rw [h, Nat.mul_comm v 256, Nat.two_pow_add_eq_or_of_lt (i := 8) h3 v]
/-- The distinguisher, of which the first k bytes are in. -/
def rdTo (r k : Nat) : Nat := r / 256 ^ (8 - k)
theorem row_at (f r : Nat) (s : ByteArray) (i : Nat) (h : i < (keyRow f r s).size) : (keyRow f r s)[i] = (keyHd f r ++ s.data.toList)[i]'(by rw [keyRow_size] at h; simp [keyHd_length]; exact h) := rfl
theorem row_fam (f r : Nat) (s : ByteArray) (hf : f ≤ 5) (h : 0 < (keyRow f r s).size) : (keyRow f r s)[0].toNat = f := by
  rw [row_at]
  show (UInt8.ofNat f).toNat = f
  rw [UInt8.toNat_ofNat', Nat.mod_eq_of_lt (by omega)]
theorem row_rd (f r : Nat) (s : ByteArray) (k : Nat) (hk : k < 8) (h : 1 + k < (keyRow f r s).size) : (keyRow f r s)[1 + k].toNat = r / 256 ^ (7 - k) % 256 := by
  rw [row_at]
  have c : k = 0 ∨ k = 1 ∨ k = 2 ∨ k = 3 ∨ k = 4 ∨ k = 5 ∨ k = 6 ∨ k = 7 := by omega
  rcases c with rfl | rfl | rfl | rfl | rfl | rfl | rfl | rfl
  · show (UInt8.ofNat (r / 72057594037927936)).toNat = _
    rw [UInt8.toNat_ofNat']
  · show (UInt8.ofNat (r / 281474976710656 % 256)).toNat = _
    rw [UInt8.toNat_ofNat', Nat.mod_mod]
  · show (UInt8.ofNat (r / 1099511627776 % 256)).toNat = _
    rw [UInt8.toNat_ofNat', Nat.mod_mod]
  · show (UInt8.ofNat (r / 4294967296 % 256)).toNat = _
    rw [UInt8.toNat_ofNat', Nat.mod_mod]
  · show (UInt8.ofNat (r / 16777216 % 256)).toNat = _
    rw [UInt8.toNat_ofNat', Nat.mod_mod]
  · show (UInt8.ofNat (r / 65536 % 256)).toNat = _
    rw [UInt8.toNat_ofNat', Nat.mod_mod]
  · show (UInt8.ofNat (r / 256 % 256)).toNat = _
    rw [UInt8.toNat_ofNat', Nat.mod_mod]
  · show (UInt8.ofNat (r % 256)).toNat = _
    rw [UInt8.toNat_ofNat', Nat.mod_mod]; simp
theorem rdTo_next (r k : Nat) (hk : k < 8) : rdTo r k * 256 + r / 256 ^ (7 - k) % 256 = rdTo r (k + 1) := by
  unfold rdTo
  rw [show 8 - k = (7 - k) + 1 by omega, Nat.pow_succ, ← Nat.div_div_eq_div_mul, show 8 - (k + 1) = 7 - k by omega]
  omega
theorem rdTo_lt (r k : Nat) (hk : k < 8) (hr : r < 18446744073709551616) : rdTo r k < 72057594037927936 := by
  unfold rdTo
  have h : 256 ^ 1 ≤ 256 ^ (8 - k) := Nat.pow_le_pow_right (by decide) (by omega)
  have h2 : r / 256 ^ (8 - k) ≤ r / 256 ^ 1 := Nat.div_le_div_left h (by decide)
  omega
theorem row_addr (f r : Nat) (s : ByteArray) : (keyRow f r s).extract 9 (keyRow f r s).size = s := by
  apply ByteArray.ext
  apply Array.toList_inj.1
  rw [keyRow_size]
  simp [keyRow, keyHd, rdL]
  exact List.take_of_length_le (by simp)
set_option maxRecDepth 100000 in
set_option maxHeartbeats 400000 in
theorem prefix_m (f r : Nat) (s : ByteArray) (l : Nat) (m : Int) (w : World) (hm : m = 72 + (l : Int)) (hs : s.size ≤ 16) (hf : f ≤ 5) (hl : l ≤ 128) (hr : r < 18446744073709551616) :
    Calls Tryd.prog 38 #[.agg #[.string (keyRow f r s), .int .i64 m]] w fun e w' => e = .returned (.agg #[.int .i64 f, .int .u64 r, .string s, .int .i64 l]) ∧ Below w.heap.size w w' := by
  have em : IntKind.i64.wrap (m - 72) = (l : Int) := by rw [IntKind.wrap_i64]; omega
  clear hm hl
  have hz : (keyRow f r s).size = 9 + s.size := keyRow_size f r s
  have H0 : Hid (∀ h, (keyRow f r s)[0].toNat = f) := fun h => row_fam f r s hf h
  have H1 : Hid (∀ k (hk : k < 8) (h : 1 + k < (keyRow f r s).size), (keyRow f r s)[1 + k].toNat = r / 256 ^ (7 - k) % 256) := fun k hk h => row_rd f r s k hk h
  have H2 : Hid ((keyRow f r s).extract 9 (keyRow f r s).size = s) := row_addr f r s
  generalize keyRow f r s = t at *
  have k0 : KeyAt ((w.alloc (.cells #[.string t, .int .i64 m] 58)).alloc (.cells #[.int .i64 0, .int .u64 0, .string ⟨#[]⟩, .int .i64 0] 29)) w.heap.size t m := (KeyAt.new w _ t _ rfl).kept (B := w.heap.size + 1) ((Below.refl _ _).alloc (by simp) _) (by simp)
  have p0 : PfxAt ((w.alloc (.cells #[.string t, .int .i64 m] 58)).alloc (.cells #[.int .i64 0, .int .u64 0, .string ⟨#[]⟩, .int .i64 0] 29)) (w.heap.size + 1) 0 0 ⟨#[]⟩ 0 := PfxAt.of_alloc _ _ 0 0 ⟨#[]⟩ 0 (by simp)
  have hB : Below w.heap.size w ((w.alloc (.cells #[.string t, .int .i64 m] 58)).alloc (.cells #[.int .i64 0, .int .u64 0, .string ⟨#[]⟩, .int .i64 0] 29)) := ((Below.refl _ _).alloc (Nat.le_refl _) _).alloc (by simp) _
  go_enter Tryd.func38, Tryd.ntmps38
  go_wp2
  refine with_world (fun wx => KeyAt wx w.heap.size t m ∧ PfxAt wx (w.heap.size + 1) 0 0 ⟨#[]⟩ 0 ∧ Below w.heap.size w wx) ⟨k0, p0, hB⟩ ?_
  clear k0 p0 hB
  rintro wx ⟨k0, p0, hB⟩
  go_loop [3, 5] (fun v i => ∃ k : Nat, k ≤ 8 ∧ i = .int .i64 k ∧ v = .int .u64 (rdTo r k)) (fun _ i => 8 - (intOf i).toNat)
  case atStart => exact ⟨0, by omega, rfl, by unfold rdTo; rw [Nat.div_eq_of_lt (by omega)]; rfl⟩
  case round =>
    obtain ⟨k, hk, rfl, rfl⟩ := hrel
    have c0 := k0.c0
    by_cases hlt : k < 8
    · have hb : 1 + k < t.size := by omega
      have hv := rdTo_lt r k hlt hr
      have h3 := t[1 + k].toNat_lt
      have HO : Hid (_ = _) := or_low (rdTo r k) t[1 + k].toNat hv h3
      have HN : Hid (rdTo r k * 256 + t[1 + k].toNat = rdTo r (k + 1)) := by rw [H1.out k hlt hb]; exact rdTo_next r k hlt
      go_wp2
      go_round
      case rel => exact ⟨k + 1, by omega, by go_num, by rw [HO.out, HN.out]⟩
      case measure => simp [intOf]; omega
    · obtain rfl : k = 8 := by omega
      have e8 : rdTo r 8 = r := by unfold rdTo; simp
      have hb : 0 < t.size := by omega
      have c1 := k0.c1
      obtain ⟨d0, d1, d2, d3, g0, g1, g2, g3⟩ := p0
      have hb9 : (9 : Int) ≤ t.size := by omega
      have e0 : IntKind.i64.wrap ((t[0].toNat : Nat) : Int) = (f : Int) := by rw [H0.out hb, IntKind.wrap_i64]; omega
      have e9 : t.extract 9 (9 + s.size) = s := by rw [← hz]; exact H2.out
      go_wp2
      go_region_held (fun w' => w'.cell? ⟨w.heap.size, 0, none⟩ = some (.string t) ∧ w'.cell? ⟨w.heap.size, 1, none⟩ = some (.int .i64 m)) (go_keep) (fail)
      all_goals go_wp2
      all_goals exact bodyPost_ret (v := .agg #[.int .i64 f, .int .u64 r, .string s, .int .i64 l]) (by simp [results, Tryd.results38, go_sem, d0, d1, d2, d3]) rfl ⟨rfl, ((((hB.setCell (by simp) _).setCell (by simp) _).setCell (by simp) _).setCell (by simp) _).drew⟩
theorem prefix_any (f r : Nat) (s : ByteArray) (l : Nat) (w : World) (hs : s.size ≤ 16) (hf : f ≤ 5) (hl : l ≤ 128) (hr : r < 18446744073709551616) :
    Calls Tryd.prog 38 #[.agg #[.string (keyRow f r s), .int .i64 ((72 + l : Nat) : Int)]] w fun e w' => e = .returned (.agg #[.int .i64 f, .int .u64 r, .string s, .int .i64 l]) ∧ Below w.heap.size w w' :=
  prefix_m f r s l _ w (by omega) hs hf hl hr
end Go.Proofs.YtjjhimdjhfdmiaaDoor
