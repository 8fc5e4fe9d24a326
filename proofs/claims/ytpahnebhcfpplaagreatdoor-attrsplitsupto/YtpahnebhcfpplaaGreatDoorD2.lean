/-
  The reference's Split.
-/
import Derived.Test.YtpahnebhcfpplaaGreatDoorD1
import Derived.Test.YtpahnebhcfpplaaGreatDoorB3
import Derived.Deep.RegionLaw
import Derived.Deep.AppendLies
namespace Go.Proofs.YtpahnebhcfpplaaGreatDoor
open Go.RowKit
theorem sl_mid (l : List UInt8) (i j : Nat) (h1 : i ≤ j) (h2 : j ≤ l.length) (W : World) : (Instr.slice 9 (.string ⟨l.toArray⟩) (some (.int .i64 (i : Int))) (some (.int .i64 (j : Int))) none).run Tryz.prog W = .ok (.string ⟨((l.drop i).take (j - i)).toArray⟩) W := by
  have hs := list_size l
  rw [run_slice_string W 9 _ .i64 .i64 (i : Int) (j : Int) Tryz.underlying9 (by omega) (by omega) (by rw [hs]; omega), show (i : Int).toNat = i by omega, show (j : Int).toNat = j by omega]
  have e : (⟨l.toArray⟩ : ByteArray).extract i j = ⟨((l.drop i).take (j - i)).toArray⟩ := by
    apply ByteArray.ext
    simp [List.take_drop, show i + (j - i) = j by omega]
  rw [e]
theorem sl_from (l : List UInt8) (i : Nat) (h : i ≤ l.length) (W : World) : (Instr.slice 9 (.string ⟨l.toArray⟩) (some (.int .i64 (i : Int))) none none).run Tryz.prog W = .ok (.string ⟨(l.drop i).toArray⟩) W := by
  have hs := list_size l
  rw [run_slice_string_l W 9 _ Tryz.underlying9 .i64 (i : Int) (by omega) (by rw [hs]; omega), show (i : Int).toNat = i by omega, drop_list]
theorem and8 (f : Nat) (h : f < 256) : bits .and .u8 (f : Int) 16 = ((f &&& 16 : Nat) : Int) := by
  have : ∀ f : Fin 256, bits .and .u8 ((f.1 : Nat) : Int) 16 = ((f.1 &&& 16 : Nat) : Int) := by decide +kernel
  exact this ⟨f, h⟩
theorem worth1 (l : List UInt8) (h : 0 < l.length) : worth (l.take 1) = l[0].toNat := by
  cases l with
  | nil => simp at h
  | cons a t => simp [worth]
/-- The first raw attribute of three bytes or more, as the reference takes it. -/
theorem rawI_ref (l : List UInt8) (h3 : 3 ≤ l.length) : rawI l = if 2 + zOf (l[0].toNat) + worth ((l.drop 2).take (zOf (l[0].toNat))) ≤ l.length ∧ 2 + zOf (l[0].toNat) ≤ l.length then
    some ((l[0].toNat, l[1].toNat, ⟨((l.drop (2 + zOf (l[0].toNat))).take (worth ((l.drop 2).take (zOf (l[0].toNat))))).toArray⟩), l.drop (2 + zOf (l[0].toNat) + worth ((l.drop 2).take (zOf (l[0].toNat))))) else none := by
  have g1 : gotN 1 l = l[0].toNat := by unfold gotN; rw [if_pos (by omega), worth1 l (by omega)]
  have e1 : restN 1 l = l.drop 1 := by unfold restN; rw [if_pos (by omega)]
  have g2 : gotN 1 (l.drop 1) = l[1].toNat := by
    unfold gotN
    rw [if_pos (by simp; omega), worth1 _ (by simp; omega)]
    simp
  have e2 : restN 1 (l.drop 1) = l.drop 2 := by unfold restN; rw [if_pos (by simp; omega)]; simp
  rw [rawI_eq, g1, e1, g2, e2]
  generalize zOf (l[0].toNat) = z
  by_cases hz : z ≤ (l.drop 2).length
  · have g3 : gotN z (l.drop 2) = worth ((l.drop 2).take z) := by unfold gotN; rw [if_pos hz]
    have e3 : restN z (l.drop 2) = l.drop (2 + z) := by unfold restN; rw [if_pos hz, List.drop_drop]
    rw [g3, e3]
    generalize worth ((l.drop 2).take z) = N
    simp only [List.length_drop, List.drop_drop] at *
    by_cases hN : N ≤ l.length - (2 + z)
    · rw [if_pos ⟨hz, hN⟩, if_pos ⟨by omega, by omega⟩]
    · rw [if_neg (fun h => hN h.2), if_neg (fun h => by omega)]
  · rw [if_neg (fun h => hz h.1), if_neg (fun h => by simp only [List.length_drop] at hz; omega)]
theorem rawI_short (l : List UInt8) (hl : l ≠ []) (h3 : l.length < 3) : rawI l = none := by
  cases h : rawI l with
  | none => rfl
  | some x =>
    obtain ⟨r, rest⟩ := x
    have := rawI_len hl h
    omega
def slenS : Value → Nat
  | .string s => s.size
  | _ => 0
set_option maxRecDepth 100000 in
set_option maxHeartbeats 6400000 in
theorem rsplit_any (l0 : List UInt8) (w : World) (hl : l0.length ≤ 1000000000000) :
    Calls Tryz.prog 22 #[.string ⟨l0.toArray⟩] w fun e w' => SplitOk (splitI l0.length l0) w e w' := by
  obtain ⟨i0, hi, hz0, hz1, hz2⟩ := info_parts info46
  obtain ⟨X, hX⟩ : ∃ X, X = splitI l0.length l0 := ⟨_, rfl⟩
  have HX : Hid (_ = _) := hX
  rw [← hX]
  clear hX
  go_enter Tryz.func22, Tryz.ntmps22
  go_wp2
  go_loopw [0, 4] (fun s t wr => ∃ (R : List Rw) (l : List UInt8), s = .string ⟨l.toArray⟩ ∧ OwnR wr w.heap.size t R ∧ Below w.heap.size w wr ∧ R.length * 3 + l.length ≤ l0.length ∧ X = (splitI (l0.length - R.length) l).map (R ++ ·)) (fun s _ _ => slenS s)
  case atStart => exact ⟨[], l0, rfl, World.ownsRow_nil _ _ _ _, Below.refl _ _, by simp, by rw [HX.out]; simp⟩
  case round =>
    obtain ⟨R, l, rfl, ho, hb, hlen, hx⟩ := hrel
    obtain ⟨ad, c, rfl⟩ := slice_of_owns ho
    have HO : Hid (OwnR wr w.heap.size _ R) := ho
    have HB : Hid (Below _ _ _) := hb
    have HXX : Hid (X = _) := hx
    have hlen2 : R.length ≤ 1000000000000 := by omega
    have HLEN : Hid (_ ≤ _) := hlen
    have hll : l.length ≤ 1000000000000 := by omega
    have hsz := list_size l
    clear ho hb hx hlen
    by_cases hl0 : l = []
    · subst hl0
      have HXN : Hid (X = some R) := by unfold Hid; rw [HXX.out, splitI_nil]; simp
      go_wp2
      go_ret2
      rw [HXN.out]
      exact ⟨HB.out, .slice ad R.length c, rfl, HO.out⟩
    · have hl1 : 1 ≤ l.length := by cases l with | nil => exact absurd rfl hl0 | cons => simp
      have HL : Hid (l ≠ []) := hl0
      clear hl0
      by_cases h3 : l.length < 3
      · have HXN : Hid (X = none) := by unfold Hid; rw [HXX.out, splitI_bad _ _ HL.out (rawI_short l HL.out h3)]; rfl
        have h3i : (l.length : Int) < 3 := by omega
        go_wp2
        go_ret2
        rw [HXN.out]
        exact ⟨HB.out, rfl⟩
      · have h3i : ¬ ((l.length : Int) < 3) := by omega
        have h3' : 3 ≤ l.length := by omega
        have HRI : Hid (_ = _) := rawI_ref l h3'
        have hi0 : ∀ W, (Instr.index 9 (.string ⟨l.toArray⟩) (.int .i64 0)).run Tryz.prog W = .ok (.int .u8 (l[0].toNat : Int)) W := fun W => ix_str l 0 (by omega) W
        have hi1 : ∀ W, (Instr.index 9 (.string ⟨l.toArray⟩) (.int .i64 1)).run Tryz.prog W = .ok (.int .u8 (l[1].toNat : Int)) W := fun W => ix_str l 1 (by omega) W
        have hF : l[0].toNat < 256 := UInt8.toNat_lt _
        have hT : l[1].toNat < 256 := UInt8.toNat_lt _
        have ha := and8 _ hF
        generalize l[0].toNat = F at *
        generalize l[1].toNat = T at *
        by_cases h16 : F &&& 16 = 0
        · have hz : zOf F = 1 := by simp [zOf, h16]
          rw [hz] at HRI
          rw [h16] at ha
          clear h16 hz
          by_cases h4 : l.length < 2 + 1
          · exact absurd h4 (by omega)
          · have h4' : ¬ ((l.length : Int) < 3) := by omega
            have hwk : IntKind.i64.wrap (3 : Int) = 3 := by rw [IntKind.wrap_i64]; omega
            have hs1 : ∀ W, (Instr.slice 9 (.string ⟨l.toArray⟩) (some (.int .i64 2)) (some (.int .i64 3)) none).run Tryz.prog W = .ok (.string ⟨((l.drop 2).take 1).toArray⟩) W := fun W => sl_mid l 2 3 (by omega) (by omega) W
            have hvl : ((l.drop 2).take 1).length = 1 := by simp; omega
            have HV : Hid (∀ W, Calls Tryz.prog 51 #[.string ⟨((l.drop 2).take 1).toArray⟩] W fun e w' => e = .returned (.int .u64 (worth ((l.drop 2).take 1) : Nat)) ∧ w' = W) := fun W => value_any _ W (by omega)
            have hN := worth_lt ((l.drop 2).take 1)
            rw [hvl] at hN
            generalize worth ((l.drop 2).take 1) = N at *
            have hwN : IntKind.i64.wrap (N : Int) = (N : Int) := by rw [IntKind.wrap_i64]; omega
            generalize (⟨((l.drop 2).take 1).toArray⟩ : ByteArray) = vb at *
            go_wp2_with fail
            refine (HV.out _).mono ?_
            rintro e w2 ⟨rfl, rfl⟩
            clear HV hs1 hvl
            have hw4 : IntKind.i64.wrap ((3 : Int) + (N : Int)) = (3 : Int) + (N : Int) := by rw [IntKind.wrap_i64]; omega
            by_cases h5 : l.length < 3 + N
            · have HXN : Hid (X = none) := by unfold Hid; rw [HXX.out, splitI_bad _ _ HL.out (by rw [HRI.out, if_neg]; intro h; omega)]; rfl
              have h5' : (l.length : Int) < (3 : Int) + (N : Int) := by omega
              go_wp2
              go_ret2
              rw [HXN.out]
              exact ⟨HB.out, rfl⟩
            · have h5' : ¬ ((l.length : Int) < (3 : Int) + (N : Int)) := by omega
              have HYES : Hid (rawI l = some ((F, T, ⟨((l.drop 3).take N).toArray⟩), l.drop (3 + N))) := by unfold Hid; rw [HRI.out, if_pos ⟨by omega, by omega⟩]
              have HLE := rawI_len HL.out HYES.out
              have hs2 : ∀ W, (Instr.slice 9 (.string ⟨l.toArray⟩) (some (.int .i64 3)) (some (.int .i64 ((3 : Int) + (N : Int)))) none).run Tryz.prog W = .ok (.string ⟨((l.drop 3).take N).toArray⟩) W := fun W => by
                have h := sl_mid l 3 (3 + N) (by omega) (by omega) W
                rw [show 3 + N - 3 = N by omega, show ((3 + N : Nat) : Int) = (3 : Int) + (N : Int) by omega] at h
                exact h
              have hs3 : ∀ W, (Instr.slice 9 (.string ⟨l.toArray⟩) (some (.int .i64 ((3 : Int) + (N : Int)))) none none).run Tryz.prog W = .ok (.string ⟨(l.drop (3 + N)).toArray⟩) W := fun W => by
                have h := sl_from l (3 + N) (by omega) W
                rw [show ((3 + N : Nat) : Int) = (3 : Int) + (N : Int) by omega] at h
                exact h
              have HXN : Hid (X = (splitI (l0.length - (R.length + 1)) (l.drop (3 + N))).map ((R ++ [(F, T, ⟨((l.drop 3).take N).toArray⟩)]) ++ ·)) := by
                unfold Hid
                have h1 := HLEN.out
                rw [HXX.out, show l0.length - R.length = (l0.length - (R.length + 1)) + 1 by omega, splitI_step _ _ _ _ HL.out HYES.out]
                cases splitI (l0.length - (R.length + 1)) (l.drop (3 + N)) <;> simp
              have HLL : Hid (_ ≤ _) := HLE
              clear HLE HYES HRI
              generalize l.drop (3 + N) = rest at *
              generalize (⟨((l.drop 3).take N).toArray⟩ : ByteArray) = bs at *
              have hwz := HB.out.size
              have HOA : Hid ((w2.alloc (.cells #[.int .u8 (F : Int), .int .u8 (T : Int), .string bs] 46)).drew.ownsRow w.heap.size 46 3 (.slice ad R.length c) R.length (cellsR R)) := HO.out.alloc _
              have HNW : Hid (∀ (k : Nat) (u : Value), [Value.int .u8 (F : Int), .int .u8 (T : Int), .string bs][k]? = some u → (w2.alloc (.cells #[.int .u8 (F : Int), .int .u8 (T : Int), .string bs] 46)).drew.cell? (Addr.add ⟨w2.heap.size, 0, none⟩ k) = some u) := news3 w2 _ _ _ 46
              go_wp2
              go_region_law ((refine step_append_lies _ (by rfl) _ _ 30 (by rfl) w.heap.size 46 i0 (.agg #[.int .u8 0, .int .u8 0, .string ⟨#[]⟩]) 3 24 Tryz.underlying30 hi hz0 hz1 hz2 rfl (by decide) (.slice ad R.length c) R.length (cellsR R) (by rfl) HOA.out ⟨w2.heap.size, 0, none⟩ 1 1 [.int .u8 (F : Int), .int .u8 (T : Int), .string bs] (by rfl) rfl HNW.out (three_raw _ _ _) (by decide) (by unfold maxLen; omega) (by omega) (by show w.heap.size ≤ (w2.alloc _).heap.size; simp; omega) (w2.heap.size + 1) (by show (w2.alloc _).heap.size = _; simp) ?_; intro g cap1 w3 hown3 hgrow3 hat hlt4))
              all_goals have HOS : Hid (OwnR w3 w.heap.size (.slice (some ⟨g, 0, none⟩) (R.length + 1) cap1) (R ++ [(F, T, bs)])) := (by unfold Hid OwnR; rw [cellsR_snoc, List.length_append]; exact hown3)
              all_goals have HB3 : Hid (Below w.heap.size w w3) := (HB.out.alloc HB.out.size _).drew.grown hgrow3 (by show w.heap.size ≤ (w2.alloc _).heap.size; simp; omega) (fun k e => (HO.out.lt k e).1)
              all_goals clear hown3 hgrow3 hat hs2 hi0 hi1
              all_goals go_wp2
              all_goals go_roundw
              all_goals first
                | exact ⟨R ++ [(F, T, bs)], rest, rfl, HOS.out, HB3.out, by have h1 := HLEN.out; have h2 := HLL.out; simp; omega, by rw [List.length_append]; exact HXN.out⟩
                | (have h2 := HLL.out; simp [slenS, list_size]; omega)
        · have hz : zOf F = 2 := by simp [zOf, h16]
          rw [hz] at HRI
          have h16' : ¬ (((F &&& 16 : Nat) : Int) = 0) := by omega
          have h16'' : (((F &&& 16 : Nat) : Int) == 0) = false := by simpa using h16'
          generalize F &&& 16 = FF at *
          clear h16 hz
          by_cases h4 : l.length < 2 + 2
          · have HXN : Hid (X = none) := by unfold Hid; rw [HXX.out, splitI_bad _ _ HL.out (by rw [HRI.out, if_neg]; intro h; omega)]; rfl
            have h4x : (l.length : Int) < 4 := by omega
            go_wp2
            go_ret2
            rw [HXN.out]
            exact ⟨HB.out, rfl⟩
          · have h4' : ¬ ((l.length : Int) < 4) := by omega
            have hwk : IntKind.i64.wrap (4 : Int) = 4 := by rw [IntKind.wrap_i64]; omega
            have hs1 : ∀ W, (Instr.slice 9 (.string ⟨l.toArray⟩) (some (.int .i64 2)) (some (.int .i64 4)) none).run Tryz.prog W = .ok (.string ⟨((l.drop 2).take 2).toArray⟩) W := fun W => sl_mid l 2 4 (by omega) (by omega) W
            have hvl : ((l.drop 2).take 2).length = 2 := by simp; omega
            have HV : Hid (∀ W, Calls Tryz.prog 51 #[.string ⟨((l.drop 2).take 2).toArray⟩] W fun e w' => e = .returned (.int .u64 (worth ((l.drop 2).take 2) : Nat)) ∧ w' = W) := fun W => value_any _ W (by omega)
            have hN := worth_lt ((l.drop 2).take 2)
            rw [hvl] at hN
            generalize worth ((l.drop 2).take 2) = N at *
            have hwN : IntKind.i64.wrap (N : Int) = (N : Int) := by rw [IntKind.wrap_i64]; omega
            generalize (⟨((l.drop 2).take 2).toArray⟩ : ByteArray) = vb at *
            go_wp2_with fail
            refine (HV.out _).mono ?_
            rintro e w2 ⟨rfl, rfl⟩
            clear HV hs1 hvl
            have hw4 : IntKind.i64.wrap ((4 : Int) + (N : Int)) = (4 : Int) + (N : Int) := by rw [IntKind.wrap_i64]; omega
            by_cases h5 : l.length < 4 + N
            · have HXN : Hid (X = none) := by unfold Hid; rw [HXX.out, splitI_bad _ _ HL.out (by rw [HRI.out, if_neg]; intro h; omega)]; rfl
              have h5' : (l.length : Int) < (4 : Int) + (N : Int) := by omega
              go_wp2
              go_ret2
              rw [HXN.out]
              exact ⟨HB.out, rfl⟩
            · have h5' : ¬ ((l.length : Int) < (4 : Int) + (N : Int)) := by omega
              have HYES : Hid (rawI l = some ((F, T, ⟨((l.drop 4).take N).toArray⟩), l.drop (4 + N))) := by unfold Hid; rw [HRI.out, if_pos ⟨by omega, by omega⟩]
              have HLE := rawI_len HL.out HYES.out
              have hs2 : ∀ W, (Instr.slice 9 (.string ⟨l.toArray⟩) (some (.int .i64 4)) (some (.int .i64 ((4 : Int) + (N : Int)))) none).run Tryz.prog W = .ok (.string ⟨((l.drop 4).take N).toArray⟩) W := fun W => by
                have h := sl_mid l 4 (4 + N) (by omega) (by omega) W
                rw [show 4 + N - 4 = N by omega, show ((4 + N : Nat) : Int) = (4 : Int) + (N : Int) by omega] at h
                exact h
              have hs3 : ∀ W, (Instr.slice 9 (.string ⟨l.toArray⟩) (some (.int .i64 ((4 : Int) + (N : Int)))) none none).run Tryz.prog W = .ok (.string ⟨(l.drop (4 + N)).toArray⟩) W := fun W => by
                have h := sl_from l (4 + N) (by omega) W
                rw [show ((4 + N : Nat) : Int) = (4 : Int) + (N : Int) by omega] at h
                exact h
              have HXN : Hid (X = (splitI (l0.length - (R.length + 1)) (l.drop (4 + N))).map ((R ++ [(F, T, ⟨((l.drop 4).take N).toArray⟩)]) ++ ·)) := by
                unfold Hid
                have h1 := HLEN.out
                rw [HXX.out, show l0.length - R.length = (l0.length - (R.length + 1)) + 1 by omega, splitI_step _ _ _ _ HL.out HYES.out]
                cases splitI (l0.length - (R.length + 1)) (l.drop (4 + N)) <;> simp
              have HLL : Hid (_ ≤ _) := HLE
              clear HLE HYES HRI
              generalize l.drop (4 + N) = rest at *
              generalize (⟨((l.drop 4).take N).toArray⟩ : ByteArray) = bs at *
              have hwz := HB.out.size
              have HOA : Hid ((w2.alloc (.cells #[.int .u8 (F : Int), .int .u8 (T : Int), .string bs] 46)).drew.ownsRow w.heap.size 46 3 (.slice ad R.length c) R.length (cellsR R)) := HO.out.alloc _
              have HNW : Hid (∀ (k : Nat) (u : Value), [Value.int .u8 (F : Int), .int .u8 (T : Int), .string bs][k]? = some u → (w2.alloc (.cells #[.int .u8 (F : Int), .int .u8 (T : Int), .string bs] 46)).drew.cell? (Addr.add ⟨w2.heap.size, 0, none⟩ k) = some u) := news3 w2 _ _ _ 46
              go_wp2
              go_region_law ((refine step_append_lies _ (by rfl) _ _ 30 (by rfl) w.heap.size 46 i0 (.agg #[.int .u8 0, .int .u8 0, .string ⟨#[]⟩]) 3 24 Tryz.underlying30 hi hz0 hz1 hz2 rfl (by decide) (.slice ad R.length c) R.length (cellsR R) (by rfl) HOA.out ⟨w2.heap.size, 0, none⟩ 1 1 [.int .u8 (F : Int), .int .u8 (T : Int), .string bs] (by rfl) rfl HNW.out (three_raw _ _ _) (by decide) (by unfold maxLen; omega) (by omega) (by show w.heap.size ≤ (w2.alloc _).heap.size; simp; omega) (w2.heap.size + 1) (by show (w2.alloc _).heap.size = _; simp) ?_; intro g cap1 w3 hown3 hgrow3 hat hlt4))
              all_goals have HOS : Hid (OwnR w3 w.heap.size (.slice (some ⟨g, 0, none⟩) (R.length + 1) cap1) (R ++ [(F, T, bs)])) := (by unfold Hid OwnR; rw [cellsR_snoc, List.length_append]; exact hown3)
              all_goals have HB3 : Hid (Below w.heap.size w w3) := (HB.out.alloc HB.out.size _).drew.grown hgrow3 (by show w.heap.size ≤ (w2.alloc _).heap.size; simp; omega) (fun k e => (HO.out.lt k e).1)
              all_goals clear hown3 hgrow3 hat hs2 hi0 hi1
              all_goals go_wp2
              all_goals go_roundw
              all_goals first
                | exact ⟨R ++ [(F, T, bs)], rest, rfl, HOS.out, HB3.out, by have h1 := HLEN.out; have h2 := HLL.out; simp; omega, by rw [List.length_append]; exact HXN.out⟩
                | (have h2 := HLL.out; simp [slenS, list_size]; omega)
end Go.Proofs.YtpahnebhcfpplaaGreatDoor
