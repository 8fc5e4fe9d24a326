/-
  The reference's Encode, EncodeExts, EncodeLarges.
-/
import Derived.Test.YteldgfmcfkmpdaaDoorB1
namespace Go.Proofs.YteldgfmcfkmpdaaDoor
open Go.RowKit
theorem fourI (n : Int) (w : World) (h : 0 ≤ n ∧ n < 4294967296) : Calls Tryd.prog 44 #[.int .u32 n] w fun e w' => e = .returned (.string ⟨(laid n.toNat 4).toArray⟩) ∧ Below w.heap.size w w' := by
  have := four_any n.toNat w (by omega)
  rw [show ((n.toNat : Nat) : Int) = n by omega] at this
  exact this
theorem add_b (W : World) (a : ByteArray) (l : List UInt8) (ha : a.size ≤ 1000000) (hl : l.length ≤ 100) : (Op.stringOp .add a ⟨l.toArray⟩).run Tryd.prog W = .ok (.string (a ++ ⟨l.toArray⟩)) W :=
  run_string_add_sum W a ⟨l.toArray⟩ (by rw [show (ByteArray.mk l.toArray).size = l.length from rfl]; omega)
theorem size_b (a : ByteArray) (l : List UInt8) : (a ++ ⟨l.toArray⟩ : ByteArray).size = a.size + l.length := by
  rw [ByteArray.size_append]; rfl
theorem laid8 (x : Nat) : laid x 8 = laid (x / 4294967296) 4 ++ laid (x % 4294967296) 4 := by
  apply List.ext_getElem
  · simp [laid_length]
  · intro i h1 h2
    rw [laid_length] at h1
    rw [laid_at, List.getElem_append]
    split
    · rename_i h3
      rw [laid_length] at h3
      rw [laid_at]
      unfold byteAt
      rw [Nat.div_div_eq_div_mul, show 4294967296 = 2 ^ 32 from rfl, ← Nat.pow_add]
      congr 3; omega
    · rename_i h3
      rw [laid_length] at h3
      rw [laid_at]
      unfold byteAt
      apply UInt8.toNat_inj.mp
      rw [UInt8.toNat_ofNat', UInt8.toNat_ofNat', laid_length]
      rw [show 8 - 1 - i = 4 - 1 - (i - 4) by omega]
      have h4 : 4 - 1 - (i - 4) < 4 := by omega
      generalize 4 - 1 - (i - 4) = j at *
      rcases (show j = 0 ∨ j = 1 ∨ j = 2 ∨ j = 3 by omega) with rfl | rfl | rfl | rfl <;> simp <;> omega
theorem rless (a b : Lg) (w : World) : Calls Tryd.prog 75 #[.agg (cellsL a), .agg (cellsL b)] w fun e w' => e = .returned (.bool (ltL a b)) ∧ Below w.heap.size w w' := by
  obtain ⟨a1, a2, a3⟩ := a
  obtain ⟨b1, b2, b3⟩ := b
  have HB : Hid (∀ o o', Below w.heap.size w ((w.alloc o).alloc o')) := fun o o' => ((Below.refl _ _).alloc (Nat.le_refl _) _).alloc (by simp) _
  unfold cellsL
  by_cases h1 : a1 = b1
  · subst h1
    by_cases h2 : a2 = b2
    · subst h2
      by_cases h3 : a3 < b3
      · have h3i : (a3 : Int) < (b3 : Int) := by omega
        have HE : Hid (ltL (a1, a2, a3) (a1, a2, b3) = true) := by unfold Hid; simp [ltL, h3]
        go_enter Tryd.func75, Tryd.ntmps75
        go_wp2
        go_ret
        exact ⟨ret_bool HE.out.symm, HB.out _ _⟩
      · have h3i : ¬ ((a3 : Int) < (b3 : Int)) := by omega
        have HE : Hid (ltL (a1, a2, a3) (a1, a2, b3) = false) := by unfold Hid; simp [ltL, h3]
        go_enter Tryd.func75, Tryd.ntmps75
        go_wp2
        go_ret
        exact ⟨ret_bool HE.out.symm, HB.out _ _⟩
    · have h2i : ¬ ((a2 : Int) = (b2 : Int)) := by omega
      by_cases h3 : a2 < b2
      · have h3i : (a2 : Int) < (b2 : Int) := by omega
        have HE : Hid (ltL (a1, a2, a3) (a1, b2, b3) = true) := by unfold Hid; simp [ltL, h3]
        go_enter Tryd.func75, Tryd.ntmps75
        go_wp2
        go_ret
        exact ⟨ret_bool HE.out.symm, HB.out _ _⟩
      · have h3i : ¬ ((a2 : Int) < (b2 : Int)) := by omega
        have HE : Hid (ltL (a1, a2, a3) (a1, b2, b3) = false) := by unfold Hid; simp [ltL]; omega
        go_enter Tryd.func75, Tryd.ntmps75
        go_wp2
        go_ret
        exact ⟨ret_bool HE.out.symm, HB.out _ _⟩
  · have h2i : ¬ ((a1 : Int) = (b1 : Int)) := by omega
    by_cases h3 : a1 < b1
    · have h3i : (a1 : Int) < (b1 : Int) := by omega
      have HE : Hid (ltL (a1, a2, a3) (b1, b2, b3) = true) := by unfold Hid; simp [ltL, h3]
      go_enter Tryd.func75, Tryd.ntmps75
      go_wp2
      go_ret
      exact ⟨ret_bool HE.out.symm, HB.out _ _⟩
    · have h3i : ¬ ((a1 : Int) < (b1 : Int)) := by omega
      have HE : Hid (ltL (a1, a2, a3) (b1, b2, b3) = false) := by unfold Hid; simp [ltL]; omega
      go_enter Tryd.func75, Tryd.ntmps75
      go_wp2
      go_ret
      exact ⟨ret_bool HE.out.symm, HB.out _ _⟩
set_option maxRecDepth 100000 in
set_option maxHeartbeats 1600000 in
theorem rmayLg (v : Value) (l : List Lg) (w : World) (h : LargesAt w v l) :
    Calls Tryd.prog 52 #[v] w fun e w' => e = .returned (.bool (mayL ltL l)) ∧ Below w.heap.size w w' := by
  obtain ⟨ad, b, off, cap, rfl, had, ⟨_, hl⟩, hr⟩ := h
  have HR : Hid (RowL _ _ _ _) := hr
  clear hr
  go_enter Tryd.func52, Tryd.ntmps52
  go_wp2
  go_loopw [3] (fun i wr => ∃ k : Nat, (k = 0 ∨ k + 1 ≤ l.length) ∧ i = .int .i64 ((k : Int) + 1) ∧ Below w.heap.size w wr ∧ ∀ j (h : j + 1 < l.length), j < k → ltL l[j] l[j + 1] = true) (fun i _ => l.length + 1 - (intOf i).toNat)
  case atStart => exact ⟨0, Or.inl rfl, rfl, Below.refl _ _, fun j _ h => absurd h (Nat.not_lt_zero _)⟩
  case round =>
    obtain ⟨k, hk, rfl, hb, hn⟩ := hrel
    have HN : Hid (∀ j (h : j + 1 < l.length), j < k → ltL l[j] l[j + 1] = true) := hn
    clear hn
    by_cases hlt : k + 1 < l.length
    · obtain rfl : ad = some ⟨b, off, none⟩ := by rcases had with h | h; exact h; omega
      obtain ⟨c1, c2, c3⟩ := ((HR.out.below hb) k (by omega)).1
      obtain ⟨d1, d2, d3⟩ := ((HR.out.below hb) (k + 1) hlt).1
      clear had hk
      have HF : Hid (ltL l[k] l[k + 1] = true → ∀ j (h : j + 1 < l.length), j < k + 1 → ltL l[j] l[j + 1] = true) := fun h j hj hjk => by
        by_cases e : j = k
        · subst e; exact h
        · exact HN.out j hj (by omega)
      have HG : Hid (ltL l[k] l[k + 1] = false → mayL ltL l = false) := fun h => by simp [mayL, rising_false k hlt h]
      generalize l[k] = x at *
      generalize l[k + 1] = y at *
      have HL : Hid (_ < _) := hlt
      have hk1 : k < l.length := by omega
      have hk0 : (0 : Int) ≤ (k : Int) + 1 := by omega
      have hk2 : (k : Int) + 1 < (l.length : Int) := by omega
      have hkn : ((k : Int) + 1).toNat = k + 1 := by omega
      have hkm : (k : Int) + 1 - 1 = (k : Int) := by omega
      have hwr1 : IntKind.i64.wrap ((k : Int) + 1 - 1) = (k : Int) := by rw [IntKind.wrap_i64]; omega
      have hwr2 : IntKind.i64.wrap (k : Int) = (k : Int) := by rw [IntKind.wrap_i64]; omega
      obtain ⟨x1, x2, x3⟩ := x
      obtain ⟨y1, y2, y3⟩ := y
      simp only at c1 c2 c3 d1 d2 d3
      have HCM : Hid (∀ W, Calls Tryd.prog 75 #[.agg #[.int .u32 (x1 : Int), .int .u32 (x2 : Int), .int .u32 (x3 : Int)], .agg #[.int .u32 (y1 : Int), .int .u32 (y2 : Int), .int .u32 (y3 : Int)]] W fun e w' => e = .returned (.bool (ltL (x1, x2, x3) (y1, y2, y3))) ∧ Below W.heap.size W w') := fun W => rless (x1, x2, x3) (y1, y2, y3) W
      generalize ltL (x1, x2, x3) (y1, y2, y3) = cc at *
      have HB0 : Hid (Below w.heap.size w wr) := hb
      clear hlt hb
      go_wp2
      go_region_held (fun w' => w'.cell? ⟨b, off + k * 3, none⟩ = some (.int .u32 (x1 : Int)) ∧ w'.cell? ⟨b, off + k * 3 + 1, none⟩ = some (.int .u32 (x2 : Int)) ∧ w'.cell? ⟨b, off + k * 3 + 2, none⟩ = some (.int .u32 (x3 : Int)) ∧ w'.cell? ⟨b, off + (k + 1) * 3, none⟩ = some (.int .u32 (y1 : Int)) ∧ w'.cell? ⟨b, off + (k + 1) * 3 + 1, none⟩ = some (.int .u32 (y2 : Int)) ∧ w'.cell? ⟨b, off + (k + 1) * 3 + 2, none⟩ = some (.int .u32 (y3 : Int))) (go_keep)
        (first | (go_at_call 75; refine (HCM.out _).mono ?_; rintro e w5 ⟨rfl, hb5⟩; have q0 := below_cell (w := wr.drew) hb5 c1; have q1 := below_cell (w := wr.drew) hb5 c2; have q2 := below_cell (w := wr.drew) hb5 c3; have q3 := below_cell (w := wr.drew) hb5 d1; have q4 := below_cell (w := wr.drew) hb5 d2; have q5 := below_cell (w := wr.drew) hb5 d3))
      have HB2 : Hid (Below w.heap.size w w5) := HB0.out.drew.trans (hb5.mono HB0.out.size)
      clear hb5 q0 q1 q2 q3 q4 q5 c1 c2 c3 d1 d2 d3 HCM
      cases cc with
      | true =>
        go_wp2
        go_roundw
        case rel => exact ⟨k + 1, Or.inr HL.out, by go_num, HB2.out, HF.out (by simp)⟩
        case measure => have := HL.out; simp [intOf]; omega
      | false =>
        go_wp2
        go_ret
        exact ⟨ret_bool (HG.out (by simp)).symm, HB2.out⟩
    · have hge : ¬ ((k : Int) + 1 < (l.length : Int)) := by omega
      have HE : Hid (mayL ltL l = decide (l.length ≤ 64)) := by
        unfold Hid mayL
        rw [(rising_iff ltL l).mpr (fun i hi => HN.out i hi (by omega))]
        simp
      by_cases h64 : l.length ≤ 64
      · have h64i : (l.length : Int) ≤ 64 := by omega
        go_wp2
        go_ret
        exact ⟨ret_bool (by rw [HE.out]; simp [h64]), hb⟩
      · have h64i : ¬ ((l.length : Int) ≤ 64) := by omega
        go_wp2
        go_ret
        exact ⟨ret_bool (by rw [HE.out]; simp [h64]), hb⟩

set_option maxRecDepth 100000 in
set_option maxHeartbeats 1600000 in
theorem rencU (v : Value) (l : List Nat) (w : World) (h : PlainAt w v l) :
    Calls Tryd.prog 20 #[v] w fun e w' => e = .returned (encAns (mayL ltN l) (bytesN 4 l)) ∧ Below w.heap.size w w' := by
  cases hm : mayL ltN l with
  | false =>
    obtain ⟨ad, b, off, cap, rfl, _⟩ := id h
    have HM : Hid (_ = _) := hm
    clear hm
    go_enter Tryd.func20, Tryd.ntmps20
    go_wp2_with fail
    refine (rmayU _ l w h).mono ?_
    rintro e w1 ⟨rfl, hb⟩
    rw [HM.out]
    go_wp2
    go_ret2
    exact ⟨rfl, hb⟩
  | true =>
    have HM : Hid (_ = _) := hm
    have hl64 : l.length ≤ 64 := by simp [mayL] at hm; exact hm.1
    clear hm
    obtain ⟨ad, b, off, cap, rfl, had, ⟨_, hl⟩, hr⟩ := id h
    have HR : Hid (RowQ _ _ _ _ _ _) := hr
    clear hr
    go_enter Tryd.func20, Tryd.ntmps20
    go_wp2_with fail
    refine (rmayU _ l w h).mono ?_
    rintro e w1 ⟨rfl, hb⟩
    rw [HM.out]
    clear h
    go_wp2
    go_loopw [4, 5] (fun t i wr => ∃ (k : Nat) (cur : ByteArray), k ≤ l.length ∧ i = .int .i64 k ∧ t = .string cur ∧ cur.size ≤ 4 * k ∧ cur = bytesN 4 (l.take k) ∧ Below w.heap.size w wr) (fun _ i _ => l.length - (intOf i).toNat)
    case atStart => exact ⟨0, ⟨#[]⟩, Nat.zero_le _, rfl, rfl, Nat.le_refl 0, rfl, hb⟩
    case round =>
      obtain ⟨k, cur, hk, rfl, rfl, hs, hcur, hbel⟩ := hrel
      have HC : Hid (_ = _) := hcur
      clear hcur hb
      by_cases hlt : k < l.length
      · obtain rfl : ad = some ⟨b, off, none⟩ := by rcases had with h | h; exact h; omega
        have c1 := ((HR.out.below hbel) k hlt).1
        have hx := ((HR.out.below hbel) k hlt).2
        have HT : Hid (cur ++ ⟨(laid l[k] 4).toArray⟩ = bytesN 4 (l.take (k + 1))) := by unfold Hid; rw [HC.out, take_snoc _ _ hlt, bytesN_snoc]
        clear had
        generalize l[k] = x at *
        have ha : ∀ W, (Op.stringOp .add cur ⟨(laid x 4).toArray⟩).run Tryd.prog W = .ok (.string (cur ++ ⟨(laid x 4).toArray⟩)) W := fun W => add_b W cur _ (by omega) (by rw [laid_length]; omega)
        have HSz : Hid ((cur ++ ⟨(laid x 4).toArray⟩ : ByteArray).size ≤ 4 * (k + 1)) := by unfold Hid; rw [size_b, laid_length]; omega
        generalize cur ++ ⟨(laid x 4).toArray⟩ = nx at *
        go_wp2_with fail
        refine (four_any x _ hx).mono ?_
        rintro e w2 ⟨rfl, hb2⟩
        have HB : Hid (Below w.heap.size w w2) := hbel.trans (hb2.mono hbel.size)
        clear hb2 c1 hbel hx
        go_wp2
        go_roundw
        case rel => exact ⟨k + 1, nx, by omega, by go_num, rfl, HSz.out, HT.out, HB.out⟩
        case measure => simp [intOf]; omega
      · obtain rfl : k = l.length := by omega
        have HE : Hid (cur = bytesN 4 l) := by have := HC.out; rw [List.take_length] at this; exact this
        go_wp2
        go_ret2
        exact ⟨by rw [HE.out]; rfl, hbel⟩
end Go.Proofs.YteldgfmcfkmpdaaDoor
