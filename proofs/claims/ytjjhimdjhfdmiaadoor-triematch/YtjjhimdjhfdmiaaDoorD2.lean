/-
  The contract of Get.
-/
import Derived.Test.YtjjhimdjhfdmiaaDoorQ3
namespace Go.Proofs.YtjjhimdjhfdmiaaDoor
open Go.Deep (BT)
open Go.RowKit
end Go.Proofs.YtjjhimdjhfdmiaaDoor
namespace Go.Deep
open Go.Proofs.YtjjhimdjhfdmiaaDoor
/-- The value of a key. -/
def BT.get (k : ByteArray) (n : Nat) (t : T) : Option Int := match t.mt k n none with
  | none => none
  | some e => if e.row = k ∧ e.len = n then some e.val else none
end Go.Deep
namespace Go.Proofs.YtjjhimdjhfdmiaaDoor
open Go.Deep (BT)
open Go.RowKit
theorem get_spec {k : ByteArray} {n : Nat} {t : T} (hw : t.WF Can) (hC : Can k n) : (∃ v, ⟨k, n, v⟩ ∈ t.ents ∧ t.get k n = some v) ∨ (t.get k n = none ∧ ∀ v, ⟨k, n, v⟩ ∉ t.ents) := by
  unfold BT.get
  rcases mt_spec (C := Can) k n t none hw with ⟨e, h1, h2, h3, h4⟩ | ⟨h1, h2⟩
  · rw [h2]
    by_cases c : e.row = k ∧ e.len = n
    · left
      obtain ⟨rfl, rfl⟩ := c
      exact ⟨e.val, h1, if_pos ⟨rfl, rfl⟩⟩
    · right
      refine ⟨if_neg c, fun v hv => c ?_⟩
      have hl : e.len = n := by have := h4 _ hv ⟨Nat.le_refl _, fun _ _ => rfl⟩; have := h3.1; simp at *; omega
      refine ⟨can_uniq e.row k n ?_ hC (fun i hi => h3.2 i (by omega)), hl⟩
      rw [← hl]; exact BT.WF.ent t hw e h1
  · right
    rw [h1]
    exact ⟨rfl, fun v hv => h2 _ hv ⟨Nat.le_refl _, fun _ _ => rfl⟩⟩
set_option maxRecDepth 100000 in
set_option maxHeartbeats 800000 in
theorem get_any (tb : Nat) (t : T) (c : Int) (f r : Nat) (s : ByteArray) (l : Nat) (w : World) (ht : TrAt w tb t c) (hT : Tabs w) (hc : chk f r s l = 0) (hr : r < 18446744073709551616) :
    Calls Tryd.prog 10 #[.pointer (some ⟨tb, 0, none⟩), .agg #[.int .i64 f, .int .u64 r, .string s, .int .i64 l]] w fun e w' =>
      e = .returned (.tuple #[.int .i64 ((t.get (keyRow f r s) (72 + l)).getD 0), .bool (t.get (keyRow f r s) (72 + l)).isSome]) ∧ Below w.heap.size w w' := by
  have bd := chk_bd hc
  have HC : Hid (chk f r s l = 0) := hc
  clear hc
  have hB1 : Below w.heap.size w (w.alloc (.cells #[.int .i64 f, .int .u64 r, .string s, .int .i64 l] 29)) := (Below.refl _ _).alloc (Nat.le_refl _) _
  have pa := PfxAt.of_alloc w _ f r s l rfl
  go_enter Tryd.func10, Tryd.ntmps10
  go_wp2_with fail
  refine (matchT_any tb t c f r s l _ (ht.below hB1) (hT.below hB1) HC.out hr).mono ?_
  rintro e w2 ⟨v, rfl, hm, hb2⟩
  have pa2 := pa.kept hb2 (by simp)
  have hB2 := hB1.trans (hb2.mono (by simp))
  have hz2 : w.heap.size < w2.heap.size := by have := hb2.size; simp at this; omega
  have ne : w2.heap.size ≠ w.heap.size := by omega
  clear hb2 hB1 pa ht hT
  obtain ⟨o, HO⟩ : ∃ o, Hid (t.mt (keyRow f r s) (72 + l) none = o) := ⟨_, rfl⟩
  rw [HO.out] at hm
  obtain ⟨a0, a1, a2, a3, _, _, _, _⟩ := pa2
  cases o with
  | none =>
    obtain rfl : v = _ := hm
    have HG : Hid (t.get (keyRow f r s) (72 + l) = none) := by show BT.get _ _ _ = _; unfold BT.get; rw [HO.out]
    go_wp2
    go_ret2
    refine ⟨by rw [HG.out]; rfl, hB2.alloc hB2.size _⟩
  | some e =>
    obtain ⟨f', r', s', l', hc', hr', he1, he2, rfl⟩ := hm
    have bd' := chk_bd hc'
    by_cases q : f' = f ∧ r' = r ∧ s' = s ∧ l' = l
    · obtain ⟨rfl, rfl, rfl, rfl⟩ := q
      have HG : Hid (t.get (keyRow f' r' s') (72 + l') = some e.val) := by show BT.get _ _ _ = _; unfold BT.get; rw [HO.out]; exact if_pos ⟨he1, he2⟩
      clear he1 he2 hc'
      go_wp2
      go_ret2
      refine ⟨by rw [HG.out]; rfl, hB2.alloc hB2.size _⟩
    · have HG : Hid (t.get (keyRow f r s) (72 + l) = none) := by
        show BT.get _ _ _ = _
        unfold BT.get
        rw [HO.out]
        refine if_neg (fun ⟨h1, h2⟩ => q ?_)
        obtain ⟨x1, x2, x3⟩ := keyRow_inj bd'.1 bd.1 hr' hr (he1.symm.trans h1)
        exact ⟨x1, x2, x3, by omega⟩
      clear he1 he2 hc'
      have HQ : Hid (¬ (f' = f ∧ r' = r ∧ s' = s ∧ l' = l)) := q
      clear q
      go_wp2
      all_goals first
        | (exfalso; apply HQ.out; refine ⟨by omega, by omega, ?_, by omega⟩; apply ByteArray.ext; apply Array.toList_inj.1; rw [← ByteArray.toList_eq, ← ByteArray.toList_eq]; assumption)
        | (go_ret2; exact ⟨by rw [HG.out]; rfl, hB2.alloc hB2.size _⟩)
end Go.Proofs.YtjjhimdjhfdmiaaDoor
