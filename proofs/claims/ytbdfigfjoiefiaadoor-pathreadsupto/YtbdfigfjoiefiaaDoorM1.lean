/-
  Clone, and appendSegs: segments put behind others, with ASs of their own.
-/
import Derived.Test.YtbdfigfjoiefiaaDoorC6
import Derived.Deep.RegionHeldLaw
import Derived.Deep.AppendLies
import Derived.Lib.SliceRun
namespace Go.Proofs.YtbdfigfjoiefiaaDoor
open Go.RowKit
theorem cellsU_at {w : World} {b off : Nat} {l : List Nat} (hr : RowU w b off l) : ∀ (j : Nat) (u : Value), (cellsU l)[j]? = some u → w.cell? (Addr.add ⟨b, off, none⟩ j) = some u := by
  intro j u h
  have hj : j < l.length := by
    have := (List.getElem?_eq_some_iff.mp h).1
    simpa [cellsU] using this
  have := (hr j hj).1
  rw [show Addr.add ⟨b, off, none⟩ j = ⟨b, off + j, none⟩ from by unfold Addr.add; by_cases e : j = 0 <;> simp [e], this]
  simp [cellsU, hj] at h
  rw [h]
theorem cellsU_one (l : List Nat) : ∀ u ∈ cellsU l, u.oneCell' = true := by
  intro u h
  obtain ⟨x, _, rfl⟩ := List.mem_map.mp h
  rfl
set_option maxRecDepth 100000 in
theorem clone_any (v : Value) (l : List Nat) (w : World) (h : ASAt w v l) :
    Calls Tryd.prog 69 #[v] w fun e w' => ∃ ad c, e = .returned (.slice ad l.length c) ∧ OwnU w' w.heap.size (.slice ad l.length c) l ∧ Below w.heap.size w w' := by
  obtain ⟨i0, hi, hz0, hz1, hz2⟩ := info_parts info23
  have q31 : ∀ (w : World) (a : Option Addr) (n c n' c' : Nat), (binOp .eql 31 (.slice a n c) (.slice none n' c')).run Tryd.prog w = .ok (.bool a.isNone) w := fun w a n c n' c' => Lib.run_eql_slice_nil w _ _ a n c n' c' Tryd.underlying31
  have HLT : Hid (∀ x ∈ l, x < 4294967296) := by
    obtain ⟨_, _, _, _, _, _, _, hr⟩ := h
    intro x hx
    obtain ⟨j, hj, e⟩ := List.getElem_of_mem hx
    rw [← e]; exact (hr j hj).2
  obtain ⟨ad, b, off, cap, rfl, had, ⟨hcap, hl⟩, hr⟩ := h
  have HR : Hid (RowU _ _ _ _) := hr
  clear hr
  cases ad with
  | none =>
    have h0 : l.length = 0 := by rcases had with h | h; exact absurd h (by simp); exact h
    have hl0 : l = [] := List.length_eq_zero_iff.mp h0
    subst hl0
    clear had h0
    go_enter Tryd.func69, Tryd.ntmps69
    go_wp2
    go_ret
    exact ⟨none, 0, rfl, ⟨World.ownsRow_nil _ _ _ _, by simp, by simp⟩, Below.refl _ _⟩
  | some a =>
    have hnews : ∀ (j : Nat) (u : Value), (cellsU l)[j]? = some u → (w.alloc (.cells #[] 23)).cell? (a.add j) = some u := by
      rcases had with h | h
      · injection h with h
        subst h
        exact cellsU_at (HR.out.below ((Below.refl _ _).alloc (Nat.le_refl _) _))
      · intro j u hj
        obtain rfl : l = [] := List.length_eq_zero_iff.mp h
        simp [cellsU] at hj
    have HN : Hid (_ : Prop) := hnews
    clear hnews had
    go_enter Tryd.func69, Tryd.ntmps69
    go_wp2_with (at_builtin; refine wpList_append_own _ rfl _ _ 31 rfl w.heap.size 23 i0 (.int .u32 0) 1 4 Tryd.underlying31 hi hz0 hz1 hz2 rfl (by decide) (.slice (some ⟨w.heap.size, 0, none⟩) 0 0) 0 [] rfl (World.ownsRow_made w #[] 0 (Nat.le_refl _) (Nat.zero_le _) rfl) a l.length cap (cellsU l) rfl (by simp [cellsU]) HN.out (cellsU_one l) (by unfold maxLen; omega) (by omega) (by simp) ?_; intro v3 w3 hown3 hgrow3 _)
    have hb3 : Below w.heap.size w w3 := ((Below.refl _ w).alloc (Nat.le_refl _) _).grown hgrow3 (by simp) (by intro k hk; simp [Value.ownBlock] at hk; omega)
    rw [Nat.zero_add, List.nil_append] at hown3
    obtain ⟨ad3, c3, rfl⟩ := slice_of_owns hown3
    go_wp2
    go_ret
    exact ⟨ad3, c3, rfl, ⟨hown3, HLT.out, hl⟩, hb3⟩
/-- What appendSegs puts behind R: the segments of L, each with a slice of its own. -/
theorem OwnS.snoc {w w' : World} {base : Nat} {v v' : Value} {R : List Sv} {k : Int} {u : Value} {l : List Nat} (h : OwnS w base v R) (hu : OwnU w base u l) (hR : R.length + 1 ≤ 4398046511104)
    (h' : w'.ownsRow base 48 2 v' (R.length + 1) (cellsS R ++ [.int .i64 k, u])) (hg : w.grownBy w' v.ownBlock) : OwnS w' base v' (R ++ [(k, u, l)]) := by
  refine ⟨by rw [cellsS_snoc, List.length_append]; exact h', fun r hr => ?_, by simpa using hR⟩
  rcases List.mem_append.mp hr with hr | hr
  · exact (h.2.1 r hr).grown h.1 hg
  · obtain rfl := List.mem_singleton.mp hr
    exact hu.grown h.1 hg
theorem OwnS.alloc {w : World} {base : Nat} {v : Value} {R : List Sv} (h : OwnS w base v R) (o : Obj) : OwnS (w.alloc o) base v R := h.below ((Below.refl _ _).alloc (Nat.le_refl _) o)
set_option maxRecDepth 100000 in
set_option maxHeartbeats 800000 in
theorem appendSegs_any (base : Nat) (vt v : Value) (R : List Sv) (L : List Sg) (w : World) (ho : OwnS w base vt R) (h : PathAt w v L) (hbw : base ≤ w.heap.size) (hB : R.length + L.length ≤ 1000)
    (hbel : ∃ w0, PathAt w0 v L ∧ Below base w0 w ∧ w0.heap.size = base) :
    Calls Tryd.prog 45 #[vt, v] w fun e w' => ∃ v' R', e = .returned v' ∧ sgs R' = sgs R ++ L ∧ OwnS w' base v' R' ∧ Below base w w' := by
  obtain ⟨i0, hi, hz0, hz1, hz2⟩ := info_parts info48
  obtain ⟨w0, hp0, hb0, hz⟩ := hbel
  obtain ⟨ad, b, off, cap, rfl, had, ⟨_, hl⟩, hr⟩ := hp0
  have HR : Hid (RowS w0 b off L) := hr
  have HO0 : Hid (OwnS _ _ _ _) := ho
  have HB0 : Hid (Below base w0 w) := hb0
  obtain ⟨adt, ct, rfl⟩ := slice_of_owns ho.1
  clear hr h ho hb0
  go_enter Tryd.func45, Tryd.ntmps45
  go_wp2
  go_loopw [0, 9] (fun t i wr => ∃ (n : Nat) (R' : List Sv), n ≤ L.length ∧ i = .int .i64 n ∧ R'.length = R.length + n ∧ sgs R' = sgs R ++ L.take n ∧ OwnS wr base t R' ∧ Below base w wr ∧ base ≤ wr.heap.size) (fun _ i _ => L.length - (intOf i).toNat)
  case atStart => exact ⟨0, R, Nat.zero_le _, rfl, rfl, by simp, HO0.out, Below.refl _ _, hbw⟩
  case round =>
    obtain ⟨n, R', hn, rfl, hRl, hR, hown, hb, hsz⟩ := hrel
    have HB : Hid (Below _ _ _) := hb
    have HO : Hid (OwnS _ _ _ _) := hown
    have HS : Hid (sgs R' = sgs R ++ L.take n) := hR
    obtain ⟨adq, cq, rfl⟩ := slice_of_owns hown.1
    have hb2 : Below w0.heap.size w0 wr := by rw [hz]; exact HB0.out.trans hb
    have HRl : Hid (R'.length = R.length + n) := hRl
    have hneq : ∀ g, (Value.slice adq R'.length cq).ownBlock = some g → g < wr.heap.size := fun g e => (hown.1.lt g e).2
    clear hown hR hRl
    by_cases hlt : n < L.length
    · obtain rfl : ad = some ⟨b, off, none⟩ := by rcases had with h | h; exact h; omega
      obtain ⟨c0, va, c1, hva⟩ := (HR.out.below hb2) n hlt
      have HX : Hid (L.take (n + 1) = L.take n ++ [L[n]]) := take_snoc L n hlt
      clear hb had hb2
      generalize L[n] = s at *
      obtain ⟨kd, av⟩ := s
      obtain ⟨ad2, b2, off2, cap2, rfl, h2⟩ := id hva
      have HV : Hid (ASAt _ _ _) := hva
      clear h2 hva
      simp only at c0
      go_wp2
      have hba : Below wr.heap.size wr (wr.alloc (.cells #[.int .i64 kd, .slice ad2 av.length cap2] 48)) := (Below.refl _ _).alloc (Nat.le_refl _) _
      have d0 : (wr.alloc (.cells #[.int .i64 kd, .slice ad2 av.length cap2] 48)).cell? ⟨wr.heap.size, 0, none⟩ = some (.int .i64 kd) := by simp
      have d1 : (wr.alloc (.cells #[.int .i64 kd, .slice ad2 av.length cap2] 48)).cell? ⟨wr.heap.size, 1, none⟩ = some (.slice ad2 av.length cap2) := by simp
      have hW : (wr.alloc (.cells #[.int .i64 kd, .slice ad2 av.length cap2] 48)).heap.size = wr.heap.size + 1 := by simp
      have HV2 : Hid (ASAt _ _ _) := HV.out.below hba
      have HO2 : Hid (OwnS _ _ _ _) := HO.out.below hba
      have HB2 : Hid (Below base w _) := HB.out.trans (hba.mono hsz)
      have hls : R'.length + 1 ≤ 1000 := by have := HRl.out; omega
      generalize wr.alloc (.cells #[.int .i64 kd, .slice ad2 av.length cap2] 48) = W at *
      generalize wr.heap.size = p at *
      clear hba HV c0 c1
      go_region_held_law (fun w' => w'.cell? ⟨p, 0, none⟩ = some (.int .i64 kd) ∧ w'.cell? ⟨p, 1, none⟩ = some (.slice ad2 av.length cap2))
        (first | go_keep | exact ⟨t0, t1⟩ | exact ⟨q0, q1⟩)
        ((first
          | (go_at_call 69; refine (clone_any _ av W.drew HV2.out).mono ?_; rintro e w2 ⟨ad3, c3, rfl, ho3, hb3⟩; have q0 := below_cell (w := W.drew) hb3 d0; have q1 := below_cell (w := W.drew) hb3 d1; have HO3 : Hid (OwnS _ _ _ _) := OwnS.below (w := W.drew) HO2.out hb3; have HU3 : Hid (OwnU _ _ _ _) := ho3; have HB3 : Hid (Below base w w2) := HB2.out.drew.trans (hb3.mono (by show base ≤ W.heap.size; omega)); have hbs3 : base ≤ w2.heap.size := Nat.le_trans (show base ≤ W.heap.size by omega) hb3.size; clear ho3 hb3)
          | (refine step_append_lies _ (by rfl) _ _ 22 (by rfl) base 48 i0 (.agg #[.int .i64 0, .slice none 0 0]) 2 32 Tryd.underlying22 hi hz0 hz1 hz2 rfl (by decide) _ _ _ (by rfl) (HO3.out.1.alloc _) ⟨w2.heap.size, 0, none⟩ 1 1 [.int .i64 kd, .slice ad3 av.length c3] (by rfl) rfl (news2 w2 _ _ 48) (two_seg _ _ _ _) (by decide) (by unfold maxLen; omega) (by omega) (Nat.le_trans hbs3 (by simp)) (w2.heap.size + 1) (by simp) ?_; intro g cap1 w3 hown3 hgrow3 hat hlt3; have t0 := hgrow3.cell (a := ⟨p, 0, none⟩) (below_cell ((Below.refl _ _).alloc (Nat.le_refl _) _) q0) (by intro h; have := hneq p h.symm; omega); have t1 := hgrow3.cell (a := ⟨p, 1, none⟩) (below_cell ((Below.refl _ _).alloc (Nat.le_refl _) _) q1) (by intro h; have := hneq p h.symm; omega))))
      have hos : OwnS w3 base (.slice (some ⟨g, 0, none⟩) (R'.length + 1) cap1) (R' ++ [(kd, .slice ad3 av.length c3, av)]) :=
        OwnS.snoc (HO3.out.alloc _) ((HU3.out.mono (show base ≤ W.heap.size by omega)).alloc _) (by omega) hown3 hgrow3
      have hb4 : Below base w w3 := (HB3.out.alloc hbs3 _).grown hgrow3 (Nat.le_trans hbs3 (by simp)) (fun j e => (HO3.out.1.lt j e).1)
      have hs4 : base ≤ w3.heap.size := Nat.le_trans hbs3 (Nat.le_trans (by simp) hgrow3.size)
      have HS4 : Hid (sgs (R' ++ [(kd, .slice ad3 av.length c3, av)]) = sgs R ++ L.take (n + 1)) := by unfold Hid; rw [sgs_snoc, HS.out, HX.out, List.append_assoc]
      clear hown3 hgrow3 hat hlt3 t0 t1 q0 q1 d0 d1
      go_wp2
      go_roundw
      case rel => exact ⟨n + 1, _, by omega, by go_num, by have := HRl.out; simp; omega, HS4.out, hos, hb4, hs4⟩
      case measure => simp [intOf]; omega
    · obtain rfl : n = L.length := by omega
      rw [List.take_length] at HS
      clear hb
      go_wp2
      go_ret
      exact ⟨_, R', rfl, HS.out, HO.out, HB.out⟩
end Go.Proofs.YtbdfigfjoiefiaaDoor
