/-
  AttrSplits answers true, of every text that is not too long.
-/
import Derived.Test.YtpahnebhcfpplaaGreatDoorC13
import Derived.Test.YtpahnebhcfpplaaGreatDoorD2
namespace Go.Proofs.YtpahnebhcfpplaaGreatDoor
open Go.RowKit
theorem rawI_ok {l rest : List UInt8} {r : Rw} (h : rawI l = some (r, rest)) : r.1 < 256 ∧ r.2.1 < 256 ∧ r.2.2.size ≤ l.length := by
  rw [rawI_eq] at h
  split at h
  · simp only [Option.some.injEq, Prod.mk.injEq] at h
    obtain ⟨rfl, _⟩ := h
    have hr : ∀ n (m : List UInt8), (restN n m).length ≤ m.length := fun n m => by unfold restN; split <;> simp
    refine ⟨by have := gotN_lt 1 l; omega, by have := gotN_lt 1 (restN 1 l); omega, ?_⟩
    show (⟨_⟩ : ByteArray).size ≤ _
    rw [list_size, List.length_take]
    have h1 := hr (zOf (gotN 1 l)) (restN 1 (restN 1 l))
    have h2 := hr 1 (restN 1 l)
    have h3 := hr 1 l
    omega
  · exact absurd h (by simp)
theorem splitI_ok : ∀ (n : Nat) (l : List UInt8) (R : List Rw), splitI n l = some R → R.length ≤ l.length ∧ ∀ r ∈ R, r.1 < 256 ∧ r.2.1 < 256 ∧ r.2.2.size ≤ l.length
  | 0, l, R, h => by
    unfold splitI at h
    split at h
    · simp at h; subst h; simp
    · simp at h
  | n + 1, l, R, h => by
    unfold splitI at h
    split at h
    · simp at h; subst h; simp
    · rename_i hl
      cases hr : rawI l with
      | none => rw [hr] at h; simp at h
      | some x =>
        obtain ⟨r, rest⟩ := x
        rw [hr] at h
        simp only [Option.map_eq_some_iff] at h
        obtain ⟨R', h1, rfl⟩ := h
        have ih := splitI_ok n rest R' h1
        have hle := rawI_len hl hr
        have hok := rawI_ok hr
        refine ⟨by have := ih.1; simp; omega, fun q hq => ?_⟩
        rcases List.mem_cons.mp hq with rfl | hq
        · exact hok
        · have := ih.2 q hq
          exact ⟨this.1, this.2.1, by omega⟩
/-- A row that is being emptied: all but its block is as it was. -/
structure EmpAt (w2 wr : World) (g n : Nat) : Prop where
  blk : ∃ cur, wr.heap[g]? = some (.cells cur 46 (0, 0)) ∧ n * 3 ≤ cur.size
  bes : Beside g w2 wr
theorem EmpAt.cell {w2 wr : World} {g n k j : Nat} (h : EmpAt w2 wr g n) (hk : k < n) (hj : j < 3) : (∃ x, wr.cell? ⟨g, k * 3 + j, none⟩ = some x) ∧ wr.frozen? ⟨g, k * 3 + j, none⟩ = false := by
  obtain ⟨cur, hc, hs⟩ := h.blk
  have hlt : k * 3 + j < cur.size := by omega
  exact ⟨⟨cur[k * 3 + j], cell_row hc _ _ (by simp [hlt])⟩, frozen_of hc⟩
theorem EmpAt.set {w2 wr : World} {g n : Nat} (h : EmpAt w2 wr g n) (i : Nat) (v : Value) : EmpAt w2 (wr.setCell ⟨g, i, none⟩ v) g n := by
  obtain ⟨cur, hc, hs⟩ := h.blk
  exact ⟨⟨_, heap_setCell_same wr g i cur 46 v hc, by simpa using hs⟩, h.bes.trans (Beside.set _ _ _)⟩
def Emp2 (w w1 w3 wr : World) (ad : Option Addr) (n : Nat) : Prop := (n = 0 ∧ wr = w3) ∨ ∃ g, ad = some ⟨g, 0, none⟩ ∧ w.heap.size ≤ g ∧ g < w1.heap.size ∧ EmpAt w3 wr g n
set_option maxRecDepth 100000 in
set_option maxHeartbeats 6400000 in
theorem splits_any (l : List UInt8) (w : World) (hl : l.length ≤ 1000000000000) (ht : Tabs w) :
    Calls Tryz.prog 5 #[.string ⟨l.toArray⟩] w fun e w' => e = .returned (.bool true) ∧ Below w.heap.size w w' := by
  have HT : Hid (Tabs _) := ht
  clear ht
  have HS : Hid (∀ W, Calls Tryz.prog 21 #[.string ⟨l.toArray⟩] W fun e w' => SplitOk (splitI l.length l) W e w') := fun W => split_any l W hl
  have HRS : Hid (∀ W, Calls Tryz.prog 22 #[.string ⟨l.toArray⟩] W fun e w' => SplitOk (splitI l.length l) W e w') := fun W => rsplit_any l W hl
  cases hX : splitI l.length l with
  | none =>
    rw [hX] at HS HRS
    clear hX
    go_enter Tryz.func5, Tryz.ntmps5
    go_wp2_with fail
    refine (HS.out w).mono ?_
    rintro e w1 ⟨hb1, rfl⟩
    have HB1 : Hid (Below w.heap.size w w1) := hb1
    clear hb1
    go_wp2_with fail
    refine (HRS.out w1).mono ?_
    rintro e w2 ⟨hb2, rfl⟩
    have HB2 : Hid (Below w.heap.size w w2) := HB1.out.trans (hb2.mono HB1.out.size)
    clear hb2 HB1
    have hnil : ∀ W, RawsAt W (.slice none 0 0) [] := fun W => ⟨none, 0, 0, 0, rfl, Or.inr rfl, by decide, fun j hj => absurd hj (by simp)⟩
    have HNIL : Hid (∀ W, RawsAt W (.slice none 0 0) []) := hnil
    clear hnil
    go_wp2_with fail
    refine (sameRaws_any _ _ [] [] w2 (HNIL.out _) (HNIL.out _)).mono ?_
    rintro e w3 ⟨rfl, hb3⟩
    rw [show decide (([] : List Rw) = []) = true by decide]
    have HB3 : Hid (Below w.heap.size w w3) := HB2.out.trans (hb3.mono HB2.out.size)
    clear hb3 HB2
    go_wp2
    go_loopw [7] (fun i wr => i = .int .i64 0 ∧ wr = w3) (fun _ _ => 0)
    case atStart => exact ⟨rfl, rfl⟩
    case round =>
      obtain ⟨rfl, rfl⟩ := hrel
      go_wp2_with fail
      refine (HS.out _).mono ?_
      rintro e w4 ⟨hb4, rfl⟩
      have HB4 : Hid (Below w.heap.size w w4) := HB3.out.trans (hb4.mono HB3.out.size)
      clear hb4 HB3
      go_wp2_with fail
      refine (sameRaws_any _ _ [] [] w4 (HNIL.out _) (HNIL.out _)).mono ?_
      rintro e w5 ⟨rfl, hb5⟩
      rw [show decide (([] : List Rw) = []) = true by decide]
      have HB5 : Hid (Below w.heap.size w w5) := HB4.out.trans (hb5.mono HB4.out.size)
      clear hb5 HB4
      go_wp2_with fail
      refine (works_any w5 (HT.out.below HB5.out)).mono ?_
      rintro e w6 ⟨rfl, hb6⟩
      have HB6 : Hid (Below w.heap.size w w6) := HB5.out.trans (hb6.mono HB5.out.size)
      clear hb6
      go_wp2
      go_ret
      exact ⟨rfl, HB6.out⟩
  | some R =>
    have hok := splitI_ok _ _ _ hX
    have HOK : Hid (∀ r ∈ R, r.1 < 256 ∧ r.2.1 < 256 ∧ r.2.2.size ≤ 4611686018427387904) := fun r hr => ⟨(hok.2 r hr).1, (hok.2 r hr).2.1, by have := (hok.2 r hr).2.2; omega⟩
    have hRl : R.length ≤ 35184372088832 := by have := hok.1; omega
    rw [hX] at HS HRS
    clear hX hok
    go_enter Tryz.func5, Tryz.ntmps5
    go_wp2_with fail
    refine (HS.out w).mono ?_
    rintro e w1 ⟨hb1, v1, rfl, ho1⟩
    obtain ⟨ad1, c1, rfl⟩ := slice_of_owns ho1
    have HO1 : Hid (OwnR w1 w.heap.size _ R) := ho1
    have HB1 : Hid (Below w.heap.size w w1) := hb1
    clear hb1 ho1
    go_wp2_with fail
    refine (HRS.out w1).mono ?_
    rintro e w2 ⟨hb2, v2, rfl, ho2⟩
    obtain ⟨ad2, c2, rfl⟩ := slice_of_owns ho2
    have HO2 : Hid (OwnR w2 w1.heap.size _ R) := ho2
    have HO12 : Hid (OwnR w2 w.heap.size (.slice ad1 R.length c1) R) := HO1.out.below hb2
    have hap : ∀ g, (Value.slice ad1 R.length c1).ownBlock = some g → g < w1.heap.size := fun g hg => (HO1.out.lt g hg).2
    have HAP : Hid (∀ g, (Value.slice ad1 R.length c1).ownBlock = some g → g < w1.heap.size) := hap
    have HB2 : Hid (Below w.heap.size w w2) := HB1.out.trans (hb2.mono HB1.out.size)
    clear hb2 HB1 HO1 ho2 hap
    go_wp2_with fail
    refine (sameRaws_any _ _ R R w2 (HO12.out.at HOK.out hRl) (HO2.out.at HOK.out hRl)).mono ?_
    rintro e w3 ⟨rfl, hb3⟩
    rw [show decide (R = R) = true by simp]
    have HB3 : Hid (Below w.heap.size w w3) := HB2.out.trans (hb3.mono HB2.out.size)
    have HO13 : Hid (OwnR w3 w.heap.size (.slice ad1 R.length c1) R) := HO12.out.below hb3
    have HO23 : Hid (OwnR w3 w1.heap.size (.slice ad2 R.length c2) R) := HO2.out.below hb3
    clear hb3 HB2 HO12 HO2
    go_wp2
    have HG : Hid (Emp2 w w1 w3 w3 ad1 R.length) := by
      rcases HO13.out.2 with ⟨h, h0⟩ | ⟨g, cap, cur, h, hg, hh, hc, hm, hs, ht⟩
      · exact Or.inl ⟨h0, rfl⟩
      · simp only [Value.slice.injEq] at h
        obtain ⟨rfl, _, rfl⟩ := h
        exact Or.inr ⟨g, rfl, hg, HAP.out g rfl, ⟨cur, hh, by rw [hs]; exact Nat.mul_le_mul_right 3 hc⟩, Beside.of_below (Below.refl _ _) (Nat.le_refl _)⟩
    go_loopw [7] (fun i wr => ∃ k : Nat, k ≤ R.length ∧ i = .int .i64 k ∧ Emp2 w w1 w3 wr ad1 R.length) (fun i _ => R.length - (intOf i).toNat)
    case atStart => exact ⟨0, Nat.zero_le _, rfl, HG.out⟩
    case round =>
      obtain ⟨k, hk, rfl, hq⟩ := hrel
      by_cases hlt : k < R.length
      · rcases hq with ⟨h0, _⟩ | ⟨g, rfl, hg1, hg2, hemp⟩
        · omega
        · obtain ⟨⟨x0, c0⟩, f0⟩ := hemp.cell (j := 0) hlt (by omega)
          obtain ⟨⟨x1, c1'⟩, f1⟩ := hemp.cell (j := 1) hlt (by omega)
          obtain ⟨⟨x2, c2'⟩, f2⟩ := hemp.cell (j := 2) hlt (by omega)
          have HEM : Hid (EmpAt _ _ _ _) := hemp
          rw [Nat.add_zero] at c0 f0
          clear hemp HG
          go_wp2
          go_roundw
          case rel => exact ⟨k + 1, by omega, by go_num, Or.inr ⟨g, rfl, hg1, hg2, ((HEM.out.set _ _).set _ _).set _ _⟩⟩
          case measure => simp [intOf]; omega
      · obtain rfl : k = R.length := by omega
        have HBX : Hid (Below w.heap.size w wr) := by
          rcases hq with ⟨_, rfl⟩ | ⟨g, _, hg1, _, hemp⟩
          · exact HB3.out
          · exact HB3.out.trans (hemp.bes.below hg1 HB3.out.size)
        have HOX : Hid (OwnR wr w1.heap.size (.slice ad2 R.length c2) R) := by
          rcases hq with ⟨_, rfl⟩ | ⟨g, _, _, hg2, hemp⟩
          · exact HO23.out
          · exact HO23.out.beside hemp.bes hg2
        clear hq HG
        go_wp2_with fail
        refine (HS.out _).mono ?_
        rintro e w4 ⟨hb4, v4, rfl, ho4⟩
        obtain ⟨ad4, c4, rfl⟩ := slice_of_owns ho4
        have HO4 : Hid (OwnR w4 _ _ R) := ho4
        have HO24 : Hid (OwnR w4 w1.heap.size (.slice ad2 R.length c2) R) := HOX.out.below hb4
        have HB4 : Hid (Below w.heap.size w w4) := HBX.out.trans (hb4.mono HBX.out.size)
        clear hb4 ho4 HBX HOX
        go_wp2_with fail
        refine (sameRaws_any _ _ R R w4 (HO4.out.at HOK.out hRl) (HO24.out.at HOK.out hRl)).mono ?_
        rintro e w5 ⟨rfl, hb5⟩
        rw [show decide (R = R) = true by simp]
        have HB5 : Hid (Below w.heap.size w w5) := HB4.out.trans (hb5.mono HB4.out.size)
        clear hb5 HB4
        go_wp2_with fail
        refine (works_any w5 (HT.out.below HB5.out)).mono ?_
        rintro e w6 ⟨rfl, hb6⟩
        have HB6 : Hid (Below w.heap.size w w6) := HB5.out.trans (hb6.mono HB5.out.size)
        clear hb6
        go_wp2
        go_ret
        exact ⟨rfl, HB6.out⟩
end Go.Proofs.YtpahnebhcfpplaaGreatDoor
