/-
  The reference's MayAtoms, SameAtoms.
-/
import Derived.Test.YtjchobcmbkiilaaGreatDoorV6
import Derived.Laws.StructEq
set_option linter.unusedVariables false
set_option linter.unusedSimpArgs false
set_option maxRecDepth 100000
namespace Go.Proofs.YtjchobcmbkiilaaGreatDoor
open Go.RowKit
set_option maxHeartbeats 2000000 in
theorem rmay_any (v : Value) (L : List Atm) (w : World) (hv : AtAt w v L) (hlen : L.length < 9223372036854775807) :
    Calls Tryz.prog 56 #[v] w fun e w' => e = .returned (.bool (okP L)) ∧ Below w.heap.size w w' := by
  obtain ⟨ad, bb, off, cap, rfl, had, hcap, hrow⟩ := hv
  have HR : Hid (_ : Prop) := hrow
  have HREF : Hid (okP L = (decide (L.length ≤ 64) && L.all okA)) := rfl
  generalize okP L = r at *
  clear hrow
  go_enter Tryz.func56, Tryz.ntmps56
  go_wp2
  go_loopw [3] (fun i wr => ∃ (k : Nat), k ≤ L.length ∧ i = .int .i64 k ∧ Below w.heap.size w wr ∧ L.all okA = (L.drop k).all okA) (fun i _ => L.length - (intOf i).toNat)
  case atStart => exact ⟨0, Nat.zero_le _, rfl, Below.refl _ _, rfl⟩
  case round =>
    obtain ⟨k, hk, rfl, hb, hany⟩ := hrel
    have HB : Hid (Below w.heap.size w wr) := hb
    have HRI : Hid (_ = _) := hany
    clear hb hany
    by_cases hlt : k < L.length
    · obtain rfl : ad = some ⟨bb, off, none⟩ := by
        rcases had with h | h
        · exact h
        · omega
      have c0 := below_cell HB.out (HR.out k hlt).1
      have c1 := below_cell HB.out (HR.out k hlt).2
      have HD : Hid ((L.drop k).all okA = (okA L[k] && (L.drop (k + 1)).all okA)) := by
        unfold Hid
        rw [List.drop_eq_getElem_cons hlt, List.all_cons]
      rw [HD.out] at HRI
      clear HD
      have HOK : Hid (okA L[k] = if L[k].1 = 1 then decide (0 < L[k].2) else if L[k].1 = 2 ∨ L[k].1 = 3 then decide (L[k].2 = 0) else false) := rfl
      have HB1 : Hid (Below w.heap.size w _) := HB.out.trans ((below_box wr (.cells #[.int .i64 L[k].1, .int .u32 (L[k].2 : Int)] 53)).mono HB.out.size)
      generalize okA L[k] = z at *
      generalize L[k].1 = f at *
      generalize L[k].2 = s at *
      have YES : z = true → Hid (L.all okA = (L.drop (k + 1)).all okA) := fun h => by unfold Hid; rw [HRI.out, h]; rfl
      have NO : z = false → Hid (r = false) := fun h => by unfold Hid; rw [HREF.out, HRI.out, h]; simp
      by_cases h1 : f < 1
      · have HN := NO (by rw [HOK.out, if_neg (by omega), if_neg (by omega)])
        clear YES NO HOK
        go_wp2
        go_ret
        exact ⟨ret_bool HN.out.symm, HB1.out⟩
      · by_cases h3 : 3 < f
        · have HN := NO (by rw [HOK.out, if_neg (by omega), if_neg (by omega)])
          clear YES NO HOK
          go_wp2
          go_ret
          exact ⟨ret_bool HN.out.symm, HB1.out⟩
        · by_cases e1 : f = 1
          · subst e1
            rw [if_pos rfl] at HOK
            by_cases hs : 0 < s
            · have HY := YES (by rw [HOK.out, decide_eq_true hs])
              have hs' : (0 : Int) < (s : Int) := by omega
              have hsd : decide ((0 : Int) < (s : Int)) = true := decide_eq_true hs'
              have hsn : decide (0 < s) = true := decide_eq_true hs
              clear YES NO HOK hs
              go_wp2
              go_roundw
              case rel => exact ⟨k + 1, by omega, by go_num, HB1.out, HY.out⟩
              case measure => simp [intOf]; omega
            · have HN := NO (by rw [HOK.out, decide_eq_false hs])
              have hs' : ¬ (0 : Int) < (s : Int) := by omega
              have hsd : decide ((0 : Int) < (s : Int)) = false := decide_eq_false hs'
              have hsn : decide (0 < s) = false := decide_eq_false hs
              clear YES NO HOK hs
              go_wp2
              go_ret
              exact ⟨ret_bool HN.out.symm, HB1.out⟩
          · rw [if_neg e1, if_pos (by omega)] at HOK
            have e1' : (f == 1) = false := by rw [beq_eq_false_iff_ne]; exact e1
            by_cases hs : 0 < s
            · have HN := NO (by rw [HOK.out, decide_eq_false (by omega)])
              have hs' : (0 : Int) < (s : Int) := by omega
              have hsd : decide ((0 : Int) < (s : Int)) = true := decide_eq_true hs'
              have hsn : decide (0 < s) = true := decide_eq_true hs
              clear YES NO HOK hs
              go_wp2
              go_ret
              exact ⟨ret_bool HN.out.symm, HB1.out⟩
            · have HY := YES (by rw [HOK.out, decide_eq_true (by omega)])
              have hs' : ¬ (0 : Int) < (s : Int) := by omega
              have hsd : decide ((0 : Int) < (s : Int)) = false := decide_eq_false hs'
              have hsn : decide (0 < s) = false := decide_eq_false hs
              clear YES NO HOK hs
              go_wp2
              go_roundw
              case rel => exact ⟨k + 1, by omega, by go_num, HB1.out, HY.out⟩
              case measure => simp [intOf]; omega
    · obtain rfl : k = L.length := by omega
      rw [List.drop_eq_nil_of_le (by simp)] at HRI
      have HE : Hid (r = decide (L.length ≤ 64)) := by unfold Hid; rw [HREF.out, HRI.out]; simp
      clear HREF HRI
      go_wp2
      go_ret
      exact ⟨ret_bool (by rw [HE.out]; first | rfl | (rw [Bool.eq_iff_iff, decide_eq_true_eq, decide_eq_true_eq]; omega)), HB.out⟩
set_option maxHeartbeats 2000000 in
/-- Two patterns that are alike. -/
theorem rsameA_yes (v u : Value) (L : List Atm) (w : World) (hv : AtAt w v L) (hu : AtAt w u L) (hlen : L.length < 9223372036854775807) :
    Calls Tryz.prog 28 #[v, u] w fun e w' => e = .returned (.bool true) ∧ Below w.heap.size w w' := by
  obtain ⟨ad, bb, off, cap, rfl, had, hcap, hrow⟩ := hv
  obtain ⟨ad2, bb2, off2, cap2, rfl, had2, hcap2, hrow2⟩ := hu
  have HR : Hid (_ : Prop) := hrow
  have HR2 : Hid (_ : Prop) := hrow2
  clear hrow hrow2
  go_enter Tryz.func28, Tryz.ntmps28
  go_wp2
  go_loopw [5] (fun i wr => ∃ (k : Nat), k ≤ L.length ∧ i = .int .i64 k ∧ Below w.heap.size w wr) (fun i _ => L.length - (intOf i).toNat)
  case atStart => exact ⟨0, Nat.zero_le _, rfl, Below.refl _ _⟩
  case round =>
    obtain ⟨k, hk, rfl, hb⟩ := hrel
    have HB : Hid (Below w.heap.size w wr) := hb
    clear hb
    by_cases hlt : k < L.length
    · obtain rfl : ad = some ⟨bb, off, none⟩ := by
        rcases had with h | h
        · exact h
        · omega
      obtain rfl : ad2 = some ⟨bb2, off2, none⟩ := by
        rcases had2 with h | h
        · exact h
        · omega
      have c0 := below_cell HB.out (HR.out k hlt).1
      have c1 := below_cell HB.out (HR.out k hlt).2
      have d0 := below_cell HB.out (HR2.out k hlt).1
      have d1 := below_cell HB.out (HR2.out k hlt).2
      generalize L[k].1 = f at *
      generalize L[k].2 = s at *
      go_wp2
      go_quiet (fail)
      go_wp2
      go_roundw
      case rel => exact ⟨k + 1, by omega, by go_num, below_drewN HB.out _⟩
      case measure => simp [intOf]; omega
    · obtain rfl : k = L.length := by omega
      go_wp2
      go_ret
      exact ⟨rfl, HB.out⟩
end Go.Proofs.YtjchobcmbkiilaaGreatDoor
