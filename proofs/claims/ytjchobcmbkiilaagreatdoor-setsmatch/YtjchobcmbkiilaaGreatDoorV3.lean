/-
  join.
-/
import Derived.Test.YtjchobcmbkiilaaGreatDoorV2
set_option linter.unusedVariables false
set_option linter.unusedSimpArgs false
set_option maxRecDepth 100000
namespace Go.Proofs.YtjchobcmbkiilaaGreatDoor
open Go.RowKit
theorem flat_snoc (l : List (List Atm)) (k : Nat) (h : k < l.length) : (l.take (k + 1)).flatten = (l.take k).flatten ++ l[k] := by
  rw [List.take_succ_eq_append_getElem h, List.flatten_append, List.flatten_singleton]
theorem flat_le (l : List (List Atm)) (k : Nat) (h : k < l.length) : (l.take k).flatten.length + l[k].length ≤ l.flatten.length := by
  have h1 : (l.take (k + 1)).flatten.length ≤ l.flatten.length := by
    conv => rhs; rw [← List.take_append_drop (k + 1) l]
    rw [List.flatten_append, List.length_append]; omega
  rw [flat_snoc l k h, List.length_append] at h1
  exact h1
set_option maxHeartbeats 2000000 in
theorem join_any (v : Value) (l : List (List Atm)) (w : World) (hv : PsAt w v l) (hlen : l.length ≤ 1000) (hfl : l.flatten.length ≤ 1000000) :
    Calls Tryz.prog 31 #[v] w fun e w' => (∃ v', e = .returned v' ∧ OwnA w' w.heap.size v' l.flatten) ∧ Below w.heap.size w w' := by
  obtain ⟨ad, bb, off, cap, rfl, had, hcap, hrow⟩ := hv
  have HR : Hid (_ : Prop) := hrow
  clear hrow
  go_enter Tryz.func31, Tryz.ntmps31
  go_wp2
  go_loopw [3, 4] (fun x3 x4 wr => ∃ (k : Nat), x4 = .int .i64 k ∧ k ≤ l.length ∧ OwnA wr w.heap.size x3 (l.take k).flatten ∧ Below w.heap.size w wr) (fun _ x4 _ => l.length - (intOf x4).toNat)
  case atStart => exact ⟨0, rfl, Nat.zero_le _, OwnA.nil _ _, Below.refl _ _⟩
  case round =>
    obtain ⟨k, rfl, hk, ho, hb⟩ := hrel
    obtain ⟨acc, hacc⟩ : ∃ acc, acc = (l.take k).flatten := ⟨_, rfl⟩
    rw [← hacc] at ho
    have HA : Hid (acc = _) := hacc
    clear hacc
    obtain ⟨av, cv, ev, hcv⟩ := own_len ho
    subst ev
    have HO : Hid (OwnA wr w.heap.size (.slice av acc.length cv) acc) := ho
    have HB : Hid (Below w.heap.size w wr) := hb
    clear ho hb
    by_cases hlt : k < l.length
    · obtain rfl : ad = some ⟨bb, off, none⟩ := by
        rcases had with h | h
        · exact h
        · omega
      obtain ⟨y, hc, hy⟩ := HR.out k hlt
      have c0 := below_cell HB.out hc
      have HN : Hid (AtAt wr y l[k]) := hy.below HB.out
      obtain ⟨yad, ycap, rfl⟩ := hy.len
      have HS : Hid ((l.take (k + 1)).flatten = acc ++ l[k]) := by unfold Hid; rw [HA.out]; exact flat_snoc l k hlt
      have HL : Hid (acc.length + l[k].length ≤ 1000000) := by unfold Hid; rw [HA.out]; exact Nat.le_trans (flat_le l k hlt) hfl
      clear hc hy HA
      generalize l[k] = m at *
      go_wp2_with (at_builtin; refine wpList_append_A _ rfl _ _ rfl w.heap.size _ _ acc m rfl rfl HO.out HN.out HL.out (by have := HB.out.size; exact this) ?_; intro v6 w6 hown6 hb6)
      rw [← HS.out] at hown6
      go_roundw
      case rel => exact ⟨k + 1, by go_num, by omega, hown6, HB.out.trans hb6⟩
      case measure => simp [intOf]; omega
    · have HE : Hid (l.flatten = acc) := by unfold Hid; rw [HA.out, List.take_of_length_le (by omega)]
      clear HA
      go_wp2
      go_ret
      exact ⟨⟨_, rfl, by rw [HE.out]; exact HO.out⟩, HB.out⟩
end Go.Proofs.YtjchobcmbkiilaaGreatDoor
