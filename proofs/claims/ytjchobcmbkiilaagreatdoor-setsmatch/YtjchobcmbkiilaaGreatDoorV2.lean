/-
  The laws' own makers of patterns and lists: atoms, few, join.
-/
import Derived.Test.YtjchobcmbkiilaaGreatDoorW4
set_option linter.unusedVariables false
set_option linter.unusedSimpArgs false
set_option maxRecDepth 100000
namespace Go.Proofs.YtjchobcmbkiilaaGreatDoor
open Go.RowKit
/-- A slice of bytes. -/
def U8At (w : World) (v : Value) (L : List Nat) : Prop :=
  ∃ (ad : Option Addr) (b off cap : Nat), v = .slice ad L.length cap ∧ (ad = some ⟨b, off, none⟩ ∨ L.length = 0) ∧ L.length ≤ cap ∧ ∀ j (h : j < L.length), w.cell? ⟨b, off + j, none⟩ = some (.int .u8 (L[j] : Int)) ∧ L[j] < 256
theorem U8At.below {w w' : World} {v : Value} {L : List Nat} (h : U8At w v L) (hb : Below w.heap.size w w') : U8At w' v L := by
  obtain ⟨ad, b, off, cap, h1, h2, h3, h4⟩ := h
  exact ⟨ad, b, off, cap, h1, h2, h3, fun j hj => ⟨below_cell hb (h4 j hj).1, (h4 j hj).2⟩⟩
def fewN (b : Nat) : Nat := 1 + b % 4
def fewL (l : List Nat) : List Nat := (l.take 12).map fewN
def atmN (b : Nat) : Atm := if b % 3 = 0 then (1, 1 + b / 3 % 4) else (((1 + b % 3 : Nat) : Int), 0)
def atL (l : List Nat) : List Atm := (l.take 10).map atmN
theorem take_snocM {α : Type} (f : Nat → α) (l : List Nat) (k : Nat) (h : k < l.length) : (l.take (k + 1)).map f = (l.take k).map f ++ [f l[k]] := by
  rw [List.take_succ_eq_append_getElem h, List.map_append]; rfl
set_option maxHeartbeats 2000000 in
theorem few_any (v : Value) (l : List Nat) (w : World) (hv : U8At w v l) (hlen : l.length ≤ 9223372036854775807) :
    Calls Tryz.prog 30 #[v] w fun e w' => (∃ v', e = .returned v' ∧ OwnU w' w.heap.size v' (fewL l)) ∧ Below w.heap.size w w' := by
  obtain ⟨ad, bb, off, cap, rfl, had, hcap, hrow⟩ := hv
  have HR : Hid (_ : Prop) := hrow
  clear hrow
  go_enter Tryz.func30, Tryz.ntmps30
  go_wp2
  go_loopw [3, 4] (fun x3 x4 wr => ∃ (k : Nat), x4 = .int .i64 k ∧ k ≤ l.length ∧ k ≤ 12 ∧ OwnU wr w.heap.size x3 ((l.take k).map fewN) ∧ Below w.heap.size w wr) (fun _ x4 _ => 12 - (intOf x4).toNat)
  case atStart => exact ⟨0, rfl, Nat.zero_le _, by omega, OwnU.nil _ _, Below.refl _ _⟩
  case round =>
    obtain ⟨k, rfl, hk, hkN, ho, hb⟩ := hrel
    have HL : Hid (((l.take k).map fewN).length = k) := by unfold Hid; simp; omega
    obtain ⟨acc, hacc⟩ : ∃ acc, acc = (l.take k).map fewN := ⟨_, rfl⟩
    rw [← hacc] at ho HL
    have HA : Hid (acc = _) := hacc
    clear hacc
    obtain ⟨av, cv, ev, hcv⟩ := own_len ho
    subst ev
    have HO : Hid (OwnU wr w.heap.size (.slice av acc.length cv) acc) := ho
    have HB : Hid (Below w.heap.size w wr) := hb
    clear ho hb
    by_cases hlt : k < l.length
    · by_cases hN : k < 12
      · obtain rfl : ad = some ⟨bb, off, none⟩ := by
          rcases had with h | h
          · exact h
          · omega
        have c0 := below_cell HB.out (HR.out k hlt).1
        have hlt8 := (HR.out k hlt).2
        have HS : Hid ((l.take (k + 1)).map fewN = acc ++ [fewN l[k]]) := by unfold Hid; rw [HA.out]; exact take_snocM fewN l k hlt
        have HF : Hid (fewN l[k] = 1 + l[k] % 4) := rfl
        generalize fewN l[k] = fw at *
        generalize l[k] = bv at *
        have HN : Hid (ASAt (wr.alloc (.cells #[.int .u32 (1 + (bv : Int) % 4)] 50)) (.slice (some ⟨wr.heap.size, 0, none⟩) 1 1) [fw]) := by
          have h := new1 wr fw
          rw [HF.out] at h ⊢
          have e : ((1 + bv % 4 : Nat) : Int) = 1 + (bv : Int) % 4 := by omega
          rw [e] at h
          exact h
        have hba := below_box wr (.cells #[.int .u32 (1 + (bv : Int) % 4)] 50)
        have HB1 : Hid (Below w.heap.size w _) := HB.out.trans (hba.mono HB.out.size)
        have HO1 : Hid (OwnU _ w.heap.size (.slice av acc.length cv) acc) := HO.out.below hba
        clear HO hba HA
        go_wp2_with (at_builtin; refine wpList_append_U _ rfl _ _ rfl w.heap.size _ _ acc [fw] rfl rfl HO1.out HN.out (by rw [HL.out]; simp; omega) (by have := HB1.out.size; exact this) ?_; intro v6 w6 hown6 hb6)
        rw [← HS.out] at hown6
        go_roundw
        case rel => exact ⟨k + 1, by go_num, by omega, by omega, hown6, HB1.out.trans hb6⟩
        case measure => simp [intOf]; omega
      · have HE : Hid (fewL l = acc) := by unfold Hid fewL; rw [HA.out, show k = 12 by omega]
        clear HA
        have hN' : ¬ (k : Int) < 12 := by omega
        go_wp2
        go_ret
        exact ⟨⟨_, rfl, by rw [HE.out]; exact HO.out⟩, HB.out⟩
    · have HE : Hid (fewL l = acc) := by unfold Hid fewL; rw [HA.out, List.take_of_length_le (by omega), List.take_of_length_le (by omega)]
      clear HA
      go_wp2
      go_ret
      exact ⟨⟨_, rfl, by rw [HE.out]; exact HO.out⟩, HB.out⟩
set_option maxHeartbeats 2000000 in
theorem atoms_any (v : Value) (l : List Nat) (w : World) (hv : U8At w v l) (hlen : l.length ≤ 9223372036854775807) :
    Calls Tryz.prog 29 #[v] w fun e w' => (∃ v', e = .returned v' ∧ OwnA w' w.heap.size v' (atL l)) ∧ Below w.heap.size w w' := by
  obtain ⟨ad, bb, off, cap, rfl, had, hcap, hrow⟩ := hv
  have HR : Hid (_ : Prop) := hrow
  clear hrow
  go_enter Tryz.func29, Tryz.ntmps29
  go_wp2
  go_loopw [3, 4] (fun x3 x4 wr => ∃ (k : Nat), x4 = .int .i64 k ∧ k ≤ l.length ∧ k ≤ 10 ∧ OwnA wr w.heap.size x3 ((l.take k).map atmN) ∧ Below w.heap.size w wr) (fun _ x4 _ => 10 - (intOf x4).toNat)
  case atStart => exact ⟨0, rfl, Nat.zero_le _, by omega, OwnA.nil _ _, Below.refl _ _⟩
  case round =>
    obtain ⟨k, rfl, hk, hkN, ho, hb⟩ := hrel
    have HL : Hid (((l.take k).map atmN).length = k) := by unfold Hid; simp; omega
    obtain ⟨acc, hacc⟩ : ∃ acc, acc = (l.take k).map atmN := ⟨_, rfl⟩
    rw [← hacc] at ho HL
    have HA : Hid (acc = _) := hacc
    clear hacc
    obtain ⟨av, cv, ev, hcv⟩ := own_len ho
    subst ev
    have HO : Hid (OwnA wr w.heap.size (.slice av acc.length cv) acc) := ho
    have HB : Hid (Below w.heap.size w wr) := hb
    clear ho hb
    by_cases hlt : k < l.length
    · by_cases hN : k < 10
      · obtain rfl : ad = some ⟨bb, off, none⟩ := by
          rcases had with h | h
          · exact h
          · omega
        have c0 := below_cell HB.out (HR.out k hlt).1
        have hlt8 := (HR.out k hlt).2
        have HS : Hid ((l.take (k + 1)).map atmN = acc ++ [atmN l[k]]) := by unfold Hid; rw [HA.out]; exact take_snocM atmN l k hlt
        have HF : Hid (atmN l[k] = if l[k] % 3 = 0 then (1, 1 + l[k] / 3 % 4) else (((1 + l[k] % 3 : Nat) : Int), 0)) := rfl
        generalize atmN l[k] = fw at *
        generalize l[k] = bv at *
        obtain ⟨fk, fn⟩ := fw
        have HN : Hid (AtAt ((wr.alloc (.cells #[.int .i64 fk, .int .u32 (fn : Int)] 53)).alloc (.cells #[.int .i64 fk, .int .u32 (fn : Int)] 53)) (.slice (some ⟨wr.heap.size + 1, 0, none⟩) 1 1) [(fk, fn)]) := by
          have := one_at (wr.alloc (.cells #[.int .i64 fk, .int .u32 (fn : Int)] 53)) (fk, fn)
          rw [size_alloc'] at this
          exact this
        have hba := (below_box wr (.cells #[.int .i64 fk, .int .u32 (fn : Int)] 53)).trans ((below_box (wr.alloc (.cells #[.int .i64 fk, .int .u32 (fn : Int)] 53)) (.cells #[.int .i64 fk, .int .u32 (fn : Int)] 53)).mono (by simp))
        have HB1 : Hid (Below w.heap.size w _) := HB.out.trans (hba.mono HB.out.size)
        have HO1 : Hid (OwnA _ w.heap.size (.slice av acc.length cv) acc) := HO.out.below hba
        clear HO hba HA
        by_cases h0 : bv % 3 = 0
        · rw [if_pos h0] at HF
          obtain ⟨e1, e2⟩ := Prod.mk.inj HF.out
          subst e1
          have c9 := below_cell (below_box wr (.cells #[.int .i64 1, .int .u32 0] 53)) c0
          have h0' : (bv : Int) % 3 = 0 := by omega
          have hw : IntKind.u32.wrap (1 + (bv : Int) / 3 % 4) = (fn : Int) := by rw [IntKind.wrap_u32, e2]; omega
          clear e2 h0 HF
          go_wp2_with (at_builtin; refine wpList_append_A _ rfl _ _ rfl w.heap.size _ _ acc [(1, fn)] rfl rfl HO1.out HN.out (by rw [HL.out]; simp; omega) (by have := HB1.out.size; exact this) ?_; intro v6 w6 hown6 hb6)
          rw [← HS.out] at hown6
          go_roundw
          case rel => exact ⟨k + 1, by go_num, by omega, by omega, hown6, HB1.out.trans hb6⟩
          case measure => simp [intOf]; omega
        · rw [if_neg h0] at HF
          obtain ⟨e1, e2⟩ := Prod.mk.inj HF.out
          subst e2
          have hw : IntKind.i64.wrap (1 + (bv : Int) % 3) = fk := by rw [IntKind.wrap_i64, e1]; omega
          have hne : (fk == 1) = false := by rw [beq_eq_false_iff_ne, e1]; omega
          have c9 := below_cell (below_box wr (.cells #[.int .i64 fk, .int .u32 0] 53)) c0
          clear e1 h0 HF
          go_wp2_with (at_builtin; refine wpList_append_A _ rfl _ _ rfl w.heap.size _ _ acc [(fk, 0)] rfl rfl HO1.out HN.out (by rw [HL.out]; simp; omega) (by have := HB1.out.size; exact this) ?_; intro v6 w6 hown6 hb6)
          rw [← HS.out] at hown6
          go_roundw
          case rel => exact ⟨k + 1, by go_num, by omega, by omega, hown6, HB1.out.trans hb6⟩
          case measure => simp [intOf]; omega
      · have HE : Hid (atL l = acc) := by unfold Hid atL; rw [HA.out, show k = 10 by omega]
        clear HA
        have hN' : ¬ (k : Int) < 10 := by omega
        go_wp2
        go_ret
        exact ⟨⟨_, rfl, by rw [HE.out]; exact HO.out⟩, HB.out⟩
    · have HE : Hid (atL l = acc) := by unfold Hid atL; rw [HA.out, List.take_of_length_le (by omega), List.take_of_length_le (by omega)]
      clear HA
      go_wp2
      go_ret
      exact ⟨⟨_, rfl, by rw [HE.out]; exact HO.out⟩, HB.out⟩
end Go.Proofs.YtjchobcmbkiilaaGreatDoor
