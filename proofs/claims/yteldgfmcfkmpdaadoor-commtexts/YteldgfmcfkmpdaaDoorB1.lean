/-
  The reference's Four, May and Encode.
-/
import Derived.Test.YteldgfmcfkmpdaaDoorA4
import Derived.Deep.RegionHeld
namespace Go.Proofs.YteldgfmcfkmpdaaDoor
open Go.RowKit
theorem laid4 (v : Nat) : laid v 4 = [byteAt v 3, byteAt v 2, byteAt v 1, byteAt v 0] := rfl
set_option maxRecDepth 100000 in
theorem four_any (v : Nat) (w : World) (hv : v < 4294967296) : Calls Tryd.prog 44 #[.int .u32 (v : Int)] w fun e w' => e = .returned (.string ⟨(laid v 4).toArray⟩) ∧ Below w.heap.size w w' := by
  have e3 := byteAt_toNat v 3
  have e2 := byteAt_toNat v 2
  have e1 := byteAt_toNat v 1
  have e0 := byteAt_toNat v 0
  simp only [Nat.mul_zero, Int.pow_zero, Int.ediv_one, show 8 * 3 = 24 from rfl, show 8 * 2 = 16 from rfl, show 8 * 1 = 8 from rfl, show (2 : Int) ^ 24 = 16777216 from rfl, show (2 : Int) ^ 16 = 65536 from rfl, show (2 : Int) ^ 8 = 256 from rfl] at e0 e1 e2 e3
  have e3' : (v : Int) / 16777216 % 256 = (v : Int) / 16777216 := by omega
  rw [e3'] at e3
  clear e3'
  have hbk := run_convert_bytes_back (P := Tryd.prog) (w.alloc (.cells #[.int .u8 ((v : Int) / 16777216), .int .u8 ((v : Int) / 65536 % 256), .int .u8 ((v : Int) / 256 % 256), .int .u8 ((v : Int) % 256)] 5)) 102 9 5 ⟨w.heap.size, 0, none⟩ 4 (laid v 4) Tryd.underlying102 Tryd.underlying5 Tryd.underlying9 (fun j hj => by
    rw [show Addr.add ⟨w.heap.size, 0, none⟩ j = ⟨w.heap.size, j, none⟩ from by unfold Addr.add; by_cases e : j = 0 <;> simp [e]]
    rw [laid_length] at hj
    rw [World.cell?_alloc_at _ _ _ _ rfl]
    rcases j with _ | _ | _ | _ | j
    · simp [laid, e3]
    · simp [laid, e2]
    · simp [laid, e1]
    · simp [laid, e0]
    · omega)
  rw [laid_length] at hbk
  clear e0 e1 e2 e3
  generalize (laid v 4).toArray = res at *
  go_enter Tryd.func44, Tryd.ntmps44
  go_wp2
  go_ret
  exact ⟨rfl, (Below.refl _ _).alloc (Nat.le_refl _) _⟩

set_option maxRecDepth 100000 in
theorem rmayU (v : Value) (l : List Nat) (w : World) (h : PlainAt w v l) :
    Calls Tryd.prog 43 #[v] w fun e w' => e = .returned (.bool (mayL ltN l)) ∧ Below w.heap.size w w' := by
  obtain ⟨ad, b, off, cap, rfl, had, ⟨_, hl⟩, hr⟩ := h
  have HR : Hid (RowQ _ _ _ _ _ _) := hr
  clear hr
  go_enter Tryd.func43, Tryd.ntmps43
  go_wp2
  go_loopw [3] (fun i wr => ∃ k : Nat, (k = 0 ∨ k + 1 ≤ l.length) ∧ i = .int .i64 ((k : Int) + 1) ∧ Below w.heap.size w wr ∧ ∀ j (h : j + 1 < l.length), j < k → ltN l[j] l[j + 1] = true) (fun i _ => l.length + 1 - (intOf i).toNat)
  case atStart => exact ⟨0, Or.inl rfl, rfl, Below.refl _ _, fun j _ h => absurd h (Nat.not_lt_zero _)⟩
  case round =>
    obtain ⟨k, hk, rfl, hb, hn⟩ := hrel
    have HN : Hid (∀ j (h : j + 1 < l.length), j < k → ltN l[j] l[j + 1] = true) := hn
    clear hn
    by_cases hlt : k + 1 < l.length
    · obtain rfl : ad = some ⟨b, off, none⟩ := by rcases had with h | h; exact h; omega
      have c1 := ((HR.out.below hb) k (by omega)).1
      have c2 := ((HR.out.below hb) (k + 1) hlt).1
      clear had hk
      have HF : Hid (ltN l[k] l[k + 1] = true → ∀ j (h : j + 1 < l.length), j < k + 1 → ltN l[j] l[j + 1] = true) := fun h j hj hjk => by
        by_cases e : j = k
        · subst e; exact h
        · exact HN.out j hj (by omega)
      have HG : Hid (ltN l[k] l[k + 1] = false → mayL ltN l = false) := fun h => by simp [mayL, rising_false k hlt h]
      generalize l[k] = x at *
      generalize l[k + 1] = y at *
      have HL : Hid (_ < _) := hlt
      have hk1 : k < l.length := by omega
      have hk0 : (0 : Int) ≤ (k : Int) + 1 := by omega
      have hk2 : (k : Int) + 1 < (l.length : Int) := by omega
      have hkn : ((k : Int) + 1).toNat = k + 1 := by omega
      have hkm : (k : Int) + 1 - 1 = (k : Int) := by omega
      by_cases hxy : x < y
      · have hxi : ¬ ((y : Int) ≤ (x : Int)) := by omega
        have HX : Hid (ltN x y = true) := by unfold Hid ltN; simpa using hxy
        clear hxy
        go_wp2
        go_region
        go_wp2
        go_roundw
        case rel => exact ⟨k + 1, Or.inr HL.out, by go_num, hb.drew, HF.out HX.out⟩
        case measure => have := HL.out; simp [intOf]; omega
      · have hxi : (y : Int) ≤ (x : Int) := by omega
        have HX : Hid (ltN x y = false) := by unfold Hid ltN; simpa using hxy
        clear hxy
        go_wp2
        go_region
        go_wp2
        go_ret
        exact ⟨ret_bool (HG.out HX.out).symm, hb.drew⟩
    · have hge : ¬ ((k : Int) + 1 < (l.length : Int)) := by omega
      have HE : Hid (mayL ltN l = decide (l.length ≤ 64)) := by
        unfold Hid mayL
        rw [(rising_iff ltN l).mpr (fun i hi => HN.out i hi (by omega))]
        simp
      by_cases h64 : l.length ≤ 64
      · have h64i : (l.length : Int) ≤ 64 := by omega
        go_wp2
        go_ret
        exact ⟨ret_bool (by rw [HE.out]; simp [h64]), hb⟩
      · have h64i : ¬ ((l.length : Int) ≤ 64) := by omega
        go_wp2
        go_ret
        exact ⟨ret_bool (by rw [HE.out]; simp [h64]), hb⟩

set_option maxRecDepth 100000 in
theorem rmayX (v : Value) (l : List Nat) (w : World) (h : ExtsAt w v l) :
    Calls Tryd.prog 48 #[v] w fun e w' => e = .returned (.bool (mayL ltN l)) ∧ Below w.heap.size w w' := by
  obtain ⟨ad, b, off, cap, rfl, had, ⟨_, hl⟩, hr⟩ := h
  have HR : Hid (RowQ _ _ _ _ _ _) := hr
  clear hr
  go_enter Tryd.func48, Tryd.ntmps48
  go_wp2
  go_loopw [3] (fun i wr => ∃ k : Nat, (k = 0 ∨ k + 1 ≤ l.length) ∧ i = .int .i64 ((k : Int) + 1) ∧ Below w.heap.size w wr ∧ ∀ j (h : j + 1 < l.length), j < k → ltN l[j] l[j + 1] = true) (fun i _ => l.length + 1 - (intOf i).toNat)
  case atStart => exact ⟨0, Or.inl rfl, rfl, Below.refl _ _, fun j _ h => absurd h (Nat.not_lt_zero _)⟩
  case round =>
    obtain ⟨k, hk, rfl, hb, hn⟩ := hrel
    have HN : Hid (∀ j (h : j + 1 < l.length), j < k → ltN l[j] l[j + 1] = true) := hn
    clear hn
    by_cases hlt : k + 1 < l.length
    · obtain rfl : ad = some ⟨b, off, none⟩ := by rcases had with h | h; exact h; omega
      have c1 := ((HR.out.below hb) k (by omega)).1
      have c2 := ((HR.out.below hb) (k + 1) hlt).1
      clear had hk
      have HF : Hid (ltN l[k] l[k + 1] = true → ∀ j (h : j + 1 < l.length), j < k + 1 → ltN l[j] l[j + 1] = true) := fun h j hj hjk => by
        by_cases e : j = k
        · subst e; exact h
        · exact HN.out j hj (by omega)
      have HG : Hid (ltN l[k] l[k + 1] = false → mayL ltN l = false) := fun h => by simp [mayL, rising_false k hlt h]
      generalize l[k] = x at *
      generalize l[k + 1] = y at *
      have HL : Hid (_ < _) := hlt
      have hk1 : k < l.length := by omega
      have hk0 : (0 : Int) ≤ (k : Int) + 1 := by omega
      have hk2 : (k : Int) + 1 < (l.length : Int) := by omega
      have hkn : ((k : Int) + 1).toNat = k + 1 := by omega
      have hkm : (k : Int) + 1 - 1 = (k : Int) := by omega
      by_cases hxy : x < y
      · have hxi : ¬ ((y : Int) ≤ (x : Int)) := by omega
        have HX : Hid (ltN x y = true) := by unfold Hid ltN; simpa using hxy
        clear hxy
        go_wp2
        go_region
        go_wp2
        go_roundw
        case rel => exact ⟨k + 1, Or.inr HL.out, by go_num, hb.drew, HF.out HX.out⟩
        case measure => have := HL.out; simp [intOf]; omega
      · have hxi : (y : Int) ≤ (x : Int) := by omega
        have HX : Hid (ltN x y = false) := by unfold Hid ltN; simpa using hxy
        clear hxy
        go_wp2
        go_region
        go_wp2
        go_ret
        exact ⟨ret_bool (HG.out HX.out).symm, hb.drew⟩
    · have hge : ¬ ((k : Int) + 1 < (l.length : Int)) := by omega
      have HE : Hid (mayL ltN l = decide (l.length ≤ 64)) := by
        unfold Hid mayL
        rw [(rising_iff ltN l).mpr (fun i hi => HN.out i hi (by omega))]
        simp
      by_cases h64 : l.length ≤ 64
      · have h64i : (l.length : Int) ≤ 64 := by omega
        go_wp2
        go_ret
        exact ⟨ret_bool (by rw [HE.out]; simp [h64]), hb⟩
      · have h64i : ¬ ((l.length : Int) ≤ 64) := by omega
        go_wp2
        go_ret
        exact ⟨ret_bool (by rw [HE.out]; simp [h64]), hb⟩
end Go.Proofs.YteldgfmcfkmpdaaDoor
