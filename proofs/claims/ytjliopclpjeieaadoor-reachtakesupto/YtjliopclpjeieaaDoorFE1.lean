/-
  Values read: Rest, the pair, families with ids, what stands ahead of a next hop.
-/
import Derived.Test.YtjliopclpjeieaaDoorFC
import Derived.Test.YtjliopclpjeieaaDoorFD
namespace Go.Proofs.YtjliopclpjeieaaDoor
open Go.RowKit
theorem rest_any (p : Nat) (l : List UInt8) (w : World) (h : RdrAt w p ⟨l.toArray⟩) :
    Calls Tryd.prog 55 #[.pointer (some ⟨p, 0, none⟩)] w fun e w' => e = .returned (.string ⟨l.toArray⟩) ∧ Beside p w w' := by
  have HK : Hid (_ : Prop) := left_any p _ w h
  have HT : Hid (_ : Prop) := take_yes p ⟨l.toArray⟩ (⟨l.toArray⟩ : ByteArray).size w h (Nat.le_refl _)
  have hx : (⟨l.toArray⟩ : ByteArray).extract 0 (⟨l.toArray⟩ : ByteArray).size = ⟨l.toArray⟩ := by apply ByteArray.ext; simp
  rw [hx] at HT
  clear hx h
  go_enter Tryd.func55, Tryd.ntmps55
  go_wp2_with fail
  refine Calls.mono HK.out ?_
  rintro e w1 ⟨rfl, hw1⟩
  obtain rfl : w = w1 := hw1.symm
  clear hw1
  go_wp2_with fail
  refine Calls.mono HT.out ?_
  rintro e w2 ⟨rfl, rfl⟩
  go_wp2
  go_ret
  exact ⟨rfl, Beside.set _ _ _⟩
/-- The family of the first three bytes. -/
def tpF (l : List UInt8) : Int := fmN ((worth (l.take 3) / 256 : Nat) : Int) ((worth (l.take 3) % 256 : Nat) : Int)
theorem lsz (l : List UInt8) (n : Nat) : (⟨l.toArray⟩ : ByteArray).extract n (⟨l.toArray⟩ : ByteArray).size = ⟨(l.drop n).toArray⟩ := by
  apply ByteArray.ext
  simp [list_size]
  exact List.take_of_length_le (by simp)
theorem FamSizes.beside {w w' : World} {p : Nat} (h : FamSizes w) (hb : Beside p w w') (hp : 0 < p) : FamSizes w' :=
  ⟨hb.cell h.c0 (by omega), hb.cell h.c1 (by omega), hb.cell h.c2 (by omega), hb.cell h.c3 (by omega), hb.cell h.c4 (by omega), hb.cell h.c5 (by omega)⟩
theorem takePair_short (p : Nat) (l : List UInt8) (w : World) (h : RdrAt w p ⟨l.toArray⟩) (hl : l.length < 3) :
    Calls Tryd.prog 53 #[.pointer (some ⟨p, 0, none⟩)] w fun e w' => e = .returned (.tuple #[.int .i64 0, .int .i64 4]) ∧ Beside p w w' := by
  have HK : Hid (_ : Prop) := num_no p ⟨l.toArray⟩ 3 w h (by omega) (by omega) (by rw [list_size]; exact hl)
  clear h hl
  go_enter Tryd.func53, Tryd.ntmps53
  go_wp2_with fail
  refine Calls.mono HK.out ?_
  rintro e w1 ⟨rfl, h1, hb1⟩
  go_wp2
  go_ret2
  exact ⟨rfl, hb1⟩
theorem worth3 (l : List UInt8) : worth (l.take 3) < 16777216 := by
  have := worth_lt (l.take 3)
  have hl : (l.take 3).length ≤ 3 := by simp; omega
  exact Nat.lt_of_lt_of_le this (Nat.le_trans (Nat.pow_le_pow_right (by omega) hl) (by decide))
set_option maxHeartbeats 1600000 in
theorem takePair_any (p : Nat) (l : List UInt8) (w : World) (hg : FamSizes w) (hp9 : 0 < p) (h : RdrAt w p ⟨l.toArray⟩) (hl : 3 ≤ l.length) :
    Calls Tryd.prog 53 #[.pointer (some ⟨p, 0, none⟩)] w fun e w' => e = (if tpF l = 0 then .returned (.tuple #[.int .i64 0, .int .i64 5]) else .returned (.tuple #[.int .i64 (tpF l), .int .i64 0])) ∧ RdrAt w' p ⟨(l.drop 3).toArray⟩ ∧ Beside p w w' := by
  have HK : Hid (_ : Prop) := num_yes p ⟨l.toArray⟩ 3 w h (by omega) (by omega) (by rw [list_size]; exact hl)
  have hpl := h.lt
  rw [lsz] at HK
  have hw3 := worth3 l
  have HG : Hid (FamSizes w) := hg
  have HF : Hid (tpF l = fmN ((worth (l.take 3) / 256 : Nat) : Int) ((worth (l.take 3) % 256 : Nat) : Int)) := rfl
  rw [show (⟨l.toArray⟩ : ByteArray).data.toList = l by simp] at HK
  generalize worth (l.take 3) = v at *
  generalize tpF l = f at *
  clear hl h hg
  have e1 : (v : Int) / 256 % 65536 = (v : Int) / 256 := by omega
  have KF : Hid (∀ w1, FamSizes w1 → Calls Tryd.prog 11 #[.int .u16 ((v : Int) / 256), .int .u8 ((v : Int) % 256)] w1 fun e w' => e = .returned (.int .i64 f) ∧ Below w1.heap.size w1 w') := fun w1 hg1 => by
    have := fam_any ((v / 256 : Nat) : Int) ((v % 256 : Nat) : Int) w1 hg1
    rw [← HF.out] at this
    rw [show ((v / 256 : Nat) : Int) = (v : Int) / 256 by omega, show ((v % 256 : Nat) : Int) = (v : Int) % 256 by omega] at this
    exact this
  by_cases hf : f = 0
  · rw [if_pos hf]
    subst hf
    go_enter Tryd.func53, Tryd.ntmps53
    go_wp2_with fail
    refine Calls.mono HK.out ?_
    rintro e w1 ⟨rfl, h1, hb1⟩
    have HG1 : Hid (FamSizes w1) := HG.out.beside hb1 hp9
    have H1 : Hid (_ ∧ _) := ⟨h1, hb1⟩
    clear h1 hb1
    go_wp2_with fail
    refine Calls.mono (KF.out _ HG1.out) ?_
    rintro e w2 ⟨rfl, hb2⟩
    go_wp2
    go_ret2
    exact ⟨rfl, H1.out.1.kept hb2 H1.out.1.lt, H1.out.2.trans (Beside.of_below hb2 (Nat.le_refl _))⟩
  · rw [if_neg hf]
    have hf' : (f == 0) = false := by simpa using hf
    clear hf
    go_enter Tryd.func53, Tryd.ntmps53
    go_wp2_with fail
    refine Calls.mono HK.out ?_
    rintro e w1 ⟨rfl, h1, hb1⟩
    have HG1 : Hid (FamSizes w1) := HG.out.beside hb1 hp9
    have H1 : Hid (_ ∧ _) := ⟨h1, hb1⟩
    clear h1 hb1
    go_wp2_with fail
    refine Calls.mono (KF.out _ HG1.out) ?_
    rintro e w2 ⟨rfl, hb2⟩
    go_wp2
    go_ret2
    exact ⟨rfl, H1.out.1.kept hb2 H1.out.1.lt, H1.out.2.trans (Beside.of_below hb2 (Nat.le_refl _))⟩
/-- Whole numbers that lie in memory. -/
def IntsAt (w : World) (v : Value) (L : List Int) : Prop :=
  ∃ (ad : Option Addr) (b off cap : Nat), v = .slice ad L.length cap ∧ (ad = some ⟨b, off, none⟩ ∨ L.length = 0) ∧ L.length ≤ cap ∧ ∀ j (h : j < L.length), w.cell? ⟨b, off + j, none⟩ = some (.int .i64 L[j])
theorem IntsAt.below {w w' : World} {v : Value} {L : List Int} (h : IntsAt w v L) (hb : Below w.heap.size w w') : IntsAt w' v L := by
  obtain ⟨ad, b, off, cap, h1, h2, h3, h4⟩ := h
  exact ⟨ad, b, off, cap, h1, h2, h3, fun j hj => below_cell hb (h4 j hj)⟩
/-- Where a number stands first; -1, if it does not. -/
def idxOf (f : Int) (L : List Int) : Int := if f ∈ L then (L.idxOf f : Nat) else -1
theorem index_int (f : Int) (v : Value) (L : List Int) (w : World) (hv : IntsAt w v L) (hl : L.length ≤ 1000000000) :
    Calls Tryd.prog 73 #[v, .int .i64 f] w fun e w' => e = .returned (.int .i64 (idxOf f L)) ∧ w' = w := by
  obtain ⟨ad, b, off, cap, rfl, had, hcap, hrow⟩ := hv
  have HR : Hid (∀ j (h : j < L.length), w.cell? ⟨b, off + j, none⟩ = some (.int .i64 L[j])) := hrow
  clear hrow
  go_enter Tryd.func73, Tryd.ntmps73
  go_wp2
  go_loop [8] (fun i => ∃ k : Nat, k ≤ L.length ∧ i = .int .i64 k ∧ ∀ j (h : j < L.length), j < k → L[j] ≠ f) (fun i => L.length - (intOf i).toNat)
  case atStart => exact ⟨0, Nat.zero_le _, rfl, fun j _ hj => absurd hj (by omega)⟩
  case round =>
    obtain ⟨k, hk, rfl, hno⟩ := hrel
    have HN : Hid (∀ j (h : j < L.length), j < k → L[j] ≠ f) := hno
    clear hno
    by_cases hlt : k < L.length
    · obtain rfl : ad = some ⟨b, off, none⟩ := by rcases had with h | h; exact h; omega
      have c := HR.out k hlt
      by_cases he : f = L[k]
      · have HI : Hid (idxOf f L = k) := by
          unfold Hid idxOf
          rw [if_pos (by rw [he]; exact List.getElem_mem hlt)]
          have : L.idxOf f = k := by
            have h1 : L.idxOf f ≤ k := by
              rcases Nat.lt_or_ge k (L.idxOf f) with h | h
              · have := List.not_of_lt_findIdx (p := (· == f)) (xs := L) (i := k) h
                exact absurd he.symm (by simpa using this)
              · exact h
            rcases Nat.lt_or_ge (L.idxOf f) k with h | h
            · have h2 : L.idxOf f < L.length := by omega
              exact absurd (List.getElem_idxOf h2) (HN.out _ h2 h)
            · omega
          rw [this]
        rw [← he] at c
        clear he
        go_wp2
        go_ret
        exact ⟨ret_int HI.out.symm, rfl⟩
      · have he' : (f == L[k]) = false := by simpa using he
        have HE : Hid (f ≠ L[k]) := he
        clear he
        go_wp2
        go_round
        case rel => exact ⟨k + 1, by omega, by go_num, fun j hj hjk => by
          by_cases e : j = k
          · subst e; exact fun h => HE.out h.symm
          · exact HN.out j hj (by omega)⟩
        case measure => simp [intOf]; omega
    · have HI : Hid (idxOf f L = -1) := by
        unfold Hid idxOf
        rw [if_neg]
        intro hm
        obtain ⟨j, hj, e⟩ := List.mem_iff_getElem.mp hm
        exact HN.out j hj (by omega) e
      go_wp2
      go_ret
      exact ⟨ret_int HI.out.symm, rfl⟩
theorem idx_pos (f : Int) (L : List Int) : decide (0 ≤ idxOf f L) = decide (f ∈ L) := by
  unfold idxOf
  split
  · rename_i h; simp [h]
  · rename_i h; simp [h]
theorem contains_any (f : Int) (v : Value) (L : List Int) (w : World) (hv : IntsAt w v L) (hl : L.length ≤ 1000000000) :
    Calls Tryd.prog 56 #[v, .int .i64 f] w fun e w' => e = .returned (.bool (decide (f ∈ L))) ∧ w' = w := by
  have HK : Hid (_ : Prop) := index_int f v L w hv hl
  have HI : Hid (_ = _) := idx_pos f L
  clear hv hl
  go_enter Tryd.func56, Tryd.ntmps56
  go_wp2_with fail
  refine Calls.mono HK.out ?_
  rintro e w1 ⟨rfl, rfl⟩
  go_wp2
  go_ret
  exact ⟨ret_bool HI.out, rfl⟩
end Go.Proofs.YtjliopclpjeieaaDoor
