/-
  right, the statements' own maker of paths: what it makes may be.
-/
import Derived.Test.YtbdfigfjoiefiaaDoorN1
namespace Go.Proofs.YtbdfigfjoiefiaaDoor
open Go.RowKit
/-- A segment that right makes. -/
def goodS (r : Sv) : Prop := 1 ≤ r.1 ∧ r.1 ≤ 4 ∧ 1 ≤ r.2.2.length ∧ r.2.2.length ≤ 3 ∧ 0 ∉ r.2.2
/-- What stands in memory while a segment is made in block q. -/
structure MkAt (wr wr2 : World) (q : Nat) (kd : Int) (ad : Option Addr) (c : Nat) (lst : List Nat) : Prop where
  c0 : wr2.cell? ⟨q, 0, none⟩ = some (.int .i64 kd)
  c1 : wr2.cell? ⟨q, 1, none⟩ = some (.slice ad lst.length c)
  f1 : wr2.frozen? ⟨q, 1, none⟩ = false
  own : OwnU wr2 (q + 1) (.slice ad lst.length c) lst
  nz : 0 ∉ lst
  bel : Below q wr wr2
  siz : q + 1 ≤ wr2.heap.size
theorem kind_bd (k : Int) : 1 ≤ wrap64 (1 + (wrap64 (k.tmod 4 + 4)).tmod 4) ∧ wrap64 (1 + (wrap64 (k.tmod 4 + 4)).tmod 4) ≤ 4 := by
  have h1 : (-k).tmod 4 < 4 := Int.tmod_lt_of_pos _ (by decide)
  rw [Int.neg_tmod] at h1
  have h2 : k.tmod 4 < 4 := Int.tmod_lt_of_pos k (by decide)
  have e : wrap64 (k.tmod 4 + 4) = k.tmod 4 + 4 := by unfold wrap64; omega
  rw [e, Int.tmod_eq_emod_of_nonneg (by omega)]
  have e2 : wrap64 (1 + (k.tmod 4 + 4) % 4) = 1 + (k.tmod 4 + 4) % 4 := by unfold wrap64; omega
  rw [e2]
  omega
theorem MkAt.start (wr : World) (kd : Int) : MkAt wr (wr.alloc (.cells #[.int .i64 kd, .slice none 0 0] 48)) wr.heap.size kd none 0 [] :=
  ⟨by simp, by simp, by simp, ⟨World.ownsRow_nil _ _ _ _, by simp, by simp⟩, by simp, (Below.refl _ _).alloc (Nat.le_refl _) _, by simp⟩
theorem max_nat (x : Nat) : (if (x : Int) < 1 then (1 : Int) else (x : Int)) = ((max x 1 : Nat) : Int) := by split <;> omega
theorem MkAt.next {U wr w3 : World} {q g cap1 c3 y n : Nat} {K : Int} {ad3 : Option Addr} {lst : List Nat} {o : Obj} (h : MkAt U wr q K ad3 c3 lst) (hn : lst.length = n)
    (hown3 : w3.ownsRow (q + 1) 23 1 (.slice (some ⟨g, 0, none⟩) (n + 1) cap1) (n + 1) (cellsU lst ++ [.int .u32 (y : Int)])) (hg : (wr.alloc o).drew.grownBy w3 (Value.slice ad3 n c3).ownBlock)
    (t0 : w3.cell? ⟨q, 0, none⟩ = some (.int .i64 K)) (t1 : w3.cell? ⟨q, 1, none⟩ = some (.slice ad3 n c3)) (tf : w3.frozen? ⟨q, 1, none⟩ = false) (hy : y < 4294967296) (hyz : y ≠ 0) (h3 : n < 3) :
    MkAt U (w3.setCell ⟨q, 1, none⟩ (.slice (some ⟨g, 0, none⟩) (n + 1) cap1)) q K (some ⟨g, 0, none⟩) cap1 (lst ++ [y]) := by
  subst hn
  have hl : (lst ++ [y]).length = lst.length + 1 := by simp
  have hgq : q + 1 ≤ g := (hown3.lt g rfl).1
  have hsz := h.siz
  refine ⟨?_, ?_, by rw [World.frozen?_setCell]; exact tf, ⟨?_, ?_, by simp; omega⟩, ?_, ?_, ?_⟩
  · rw [World.cell?_setCell_other _ _ _ _ (by simp)]; exact t0
  · rw [hl]; exact World.cell?_setCell_same _ _ _ t1
  · rw [hl, cellsU_snoc]
    exact owns_set hown3 (b := q) (fun g' e => by simp [Value.ownBlock] at e; omega) 1 _
  · intro x hx
    rcases List.mem_append.mp hx with hx | hx
    · exact h.own.2.1 x hx
    · rw [List.mem_singleton.mp hx]; exact hy
  · intro hx
    rcases List.mem_append.mp hx with hx | hx
    · exact h.nz hx
    · exact hyz (List.mem_singleton.mp hx).symm
  · refine Below.setCell (Below.grown (Below.drew (Below.alloc h.bel (by omega) o)) hg (by show q ≤ (wr.alloc o).heap.size; simp; omega) (fun k e => ?_)) (Nat.le_refl _) _
    have := (h.own.1.lt k e).1
    omega
  · have := hg.size
    have h2 : (wr.alloc o).drew.heap.size = wr.heap.size + 1 := by show (wr.alloc o).heap.size = _; simp
    have h3 : (w3.setCell ⟨q, 1, none⟩ (.slice (some ⟨g, 0, none⟩) (lst.length + 1) cap1)).heap.size = w3.heap.size := by simp
    omega
set_option maxRecDepth 100000 in
set_option maxHeartbeats 1600000 in
theorem right_any (v : Value) (L : List Sg) (w : World) (h : PathAt w v L) :
    Calls Tryd.prog 38 #[v] w fun e w' => ∃ v' R, e = .returned v' ∧ (R.length ≤ 6 ∧ ∀ r ∈ R, goodS r) ∧ OwnS w' w.heap.size v' R ∧ Below w.heap.size w w' := by
  obtain ⟨i0, hi, hz0, hz1, hz2⟩ := info_parts info48
  obtain ⟨j0, hj0, hy0, hy1, hy2⟩ := info_parts info23
  obtain ⟨ad, b, off, cap, rfl, had, ⟨hcap, hl⟩, hr⟩ := h
  have HR : Hid (RowS _ _ _ _) := hr
  clear hr
  go_enter Tryd.func38, Tryd.ntmps38
  go_wp2
  go_loopw [3, 4] (fun t i wr => ∃ (n : Nat) (R : List Sv), n ≤ L.length ∧ n ≤ 6 ∧ i = .int .i64 n ∧ (R.length ≤ n ∧ ∀ r ∈ R, goodS r) ∧ OwnS wr w.heap.size t R ∧ Below w.heap.size w wr) (fun _ i _ => 6 - (intOf i).toNat)
  case atStart => exact ⟨0, [], Nat.zero_le _, Nat.zero_le _, rfl, ⟨Nat.le_refl _, by simp⟩, ⟨World.ownsRow_nil _ _ _ _, fun r hr => by simp at hr, by simp⟩, Below.refl _ _⟩
  case round =>
    obtain ⟨n, R, hn, hn6, rfl, ⟨hRl, hRg⟩, hown, hb⟩ := hrel
    have HB : Hid (Below _ _ _) := hb
    have HO : Hid (OwnS _ _ _ _) := hown
    have HG : Hid (∀ r ∈ R, goodS r) := hRg
    clear hRg
    by_cases hlt : n < L.length
    · by_cases h6 : n < 6
      · obtain ⟨adq, cq, rfl⟩ := slice_of_owns hown.1
        obtain rfl : ad = some ⟨b, off, none⟩ := by rcases had with h | h; exact h; omega
        obtain ⟨c0, va, c1, hva⟩ := (HR.out.below hb) n hlt
        have hsz := hb.size
        clear hb had hown
        generalize L[n] = s at *
        obtain ⟨kd, av⟩ := s
        obtain ⟨ad2, b2, off2, cap2, rfl, had2, ⟨_, hl2⟩, hr2⟩ := id hva
        have HRU : Hid (RowU wr b2 off2 av) := hr2
        have HA2 : Hid (ad2 = some ⟨b2, off2, none⟩ ∨ av.length = 0) := had2
        clear hva hr2 had2
        simp only at c0 hl2
        have hkb := kind_bd kd
        have HM0 : Hid (MkAt _ _ _ _ _ _ _) := MkAt.start wr (wrap64 (1 + (wrap64 (kd.tmod 4 + 4)).tmod 4))
        go_wp2
        generalize wrap64 (1 + (wrap64 (kd.tmod 4 + 4)).tmod 4) = K at *
        generalize wr.alloc (.cells #[.int .i64 K, .slice none 0 0] 48) = W0 at *
        have C1 : Hid (wr.cell? ⟨b, off + n * 2 + 1, none⟩ = some (.slice ad2 av.length cap2)) := c1
        clear c0 c1
        generalize hq : wr.heap.size = q at *
        generalize wr = U at *
        go_loopw [6] (fun i wr2 => ∃ (j : Nat) (ad3 : Option Addr) (c3 : Nat) (lst : List Nat), j ≤ av.length ∧ j ≤ 3 ∧ i = .int .i64 j ∧ lst.length = j ∧ MkAt U wr2 q K ad3 c3 lst) (fun i _ => 3 - (intOf i).toNat)
        case atStart => exact ⟨0, none, 0, [], Nat.zero_le _, Nat.zero_le _, rfl, rfl, HM0.out⟩
        case round =>
          obtain ⟨j, ad3, c3, lst, hj, hj3, rfl, hlst, hm⟩ := hrel
          have HM : Hid (MkAt _ _ _ _ _ _ _) := hm
          have hbU : Below U.heap.size U wr := by rw [hq]; exact hm.bel
          have d1 := below_cell hbU C1.out
          have m1 := hm.c1
          rw [hlst] at m1
          by_cases hlt2 : j < av.length
          · by_cases hlt3 : j < 3
            · obtain rfl : ad2 = some ⟨b2, off2, none⟩ := by rcases HA2.out with h | h; exact h; omega
              have hc := ((HRU.out.below hbU) j hlt2).1
              have hx := (HRU.out j hlt2).2
              have hmf := hm.f1
              have hsz3 := hm.siz
              clear hbU
              generalize av[j] = x at *
              have hmx := max_nat x
              have hxm : max x 1 < 4294967296 := by omega
              have hxz : max x 1 ≠ 0 := by omega
              generalize max x 1 = y at *
              have hown : wr.ownsRow (q + 1) 23 1 (.slice ad3 j c3) j (cellsU lst) := by have := HM.out.own.1; rw [hlst] at this; exact this
              have HOA : Hid ((wr.alloc (.cells #[.int .u32 (y : Int)] 23)).drew.ownsRow (q + 1) 23 1 (.slice ad3 j c3) j (cellsU lst)) := hown.alloc _
              have HNW : Hid (∀ (k : Nat) (u : Value), [Value.int .u32 (y : Int)][k]? = some u → (wr.alloc (.cells #[.int .u32 (y : Int)] 23)).drew.cell? (Addr.add ⟨wr.heap.size, 0, none⟩ k) = some u) := news1 wr _ 23
              have hnb : ∀ g, (Value.slice ad3 j c3).ownBlock = some g → q + 1 ≤ g := fun g e => (hown.lt g e).1
              have m1' : ∀ o, (wr.alloc o).cell? ⟨q, 1, none⟩ = some (.slice ad3 j c3) := fun o => below_cell ((Below.refl _ _).alloc (Nat.le_refl _) o) m1
              have d1' : ∀ o, (wr.alloc o).cell? ⟨b, off + n * 2 + 1, none⟩ = some (.slice (some ⟨b2, off2, none⟩) av.length cap2) := fun o => below_cell ((Below.refl _ _).alloc (Nat.le_refl _) o) d1
              have hc' : ∀ o, (wr.alloc o).cell? ⟨b2, off2 + j, none⟩ = some (.int .u32 (x : Int)) := fun o => below_cell ((Below.refl _ _).alloc (Nat.le_refl _) o) hc
              have m0' : ∀ o, (wr.alloc o).cell? ⟨q, 0, none⟩ = some (.int .i64 K) := fun o => below_cell ((Below.refl _ _).alloc (Nat.le_refl _) o) HM.out.c0
              have mf' : ∀ o, (wr.alloc o).frozen? ⟨q, 1, none⟩ = false := fun o => by rw [((Below.refl wr.heap.size wr).alloc (Nat.le_refl _) o).frozen (p := ⟨q, 1, none⟩) (by show q < _; omega)]; exact hmf
              go_wp2
              go_region_law ((refine step_append_lies _ (by rfl) _ _ 31 (by rfl) (q + 1) 23 j0 (.int .u32 0) 1 4 Tryd.underlying31 hj0 hy0 hy1 hy2 rfl (by decide) (.slice ad3 j c3) j (cellsU lst) (by rfl) HOA.out ⟨wr.heap.size, 0, none⟩ 1 1 [.int .u32 (y : Int)] (by rfl) rfl HNW.out (one_u32 _) (by decide) (by unfold maxLen; omega) (by omega) (by show q + 1 ≤ (wr.alloc _).heap.size; simp; omega) (wr.heap.size + 1) (by show (wr.alloc _).heap.size = _; simp) ?_; intro g cap1 w3 hown3 hgrow3 hat hlt4; have t1 := hgrow3.cell (a := ⟨q, 1, none⟩) (w := (wr.alloc (.cells #[.int .u32 (y : Int)] 23)).drew) (m1' _) (by intro h; have := hnb q h.symm; omega); have t0 := hgrow3.cell (a := ⟨q, 0, none⟩) (w := (wr.alloc (.cells #[.int .u32 (y : Int)] 23)).drew) (m0' _) (by intro h; have := hnb q h.symm; omega); have tf : w3.frozen? ⟨q, 1, none⟩ = false := by rw [World.frozen?_of_block (w := (wr.alloc (.cells #[.int .u32 (y : Int)] 23)).drew) (hgrow3.block q (by show q < (wr.alloc _).heap.size; simp; omega) (by intro h; have := hnb q h.symm; omega))]; exact mf' _))
              all_goals have HMN : Hid (MkAt U _ q K _ _ (lst ++ [y])) := HM.out.next hlst hown3 hgrow3 t0 t1 tf hxm hxz hlt3
              all_goals clear hown3 hgrow3 hat t0 t1 tf m1' d1' hc' m0' mf'
              all_goals go_wp2
              all_goals go_roundw
              all_goals first
                | exact ⟨j + 1, _, _, _, by omega, by omega, by go_num, by simp [hlst], HMN.out⟩
                | (simp [intOf]; omega)
            · have hl3 : ¬ ((j : Int) < 3) := by omega
              have hl2' : (j : Int) < av.length := by omega
              have HOW : Hid (OwnS wr w.heap.size (.slice adq R.length cq) R) := HO.out.below hbU
              have HBW : Hid (Below w.heap.size w wr) := HB.out.trans (hbU.mono (by rw [hq]; exact hsz))
              have m0 := hm.c0
              have hU := hm.own
              have hnz := hm.nz
              have hsW := HBW.out.size
              clear hm hbU HM
              have hj0' : 0 < (j : Int) := by omega
              have HUW : Hid (OwnU wr w.heap.size (.slice ad3 j c3) lst) := by have := hU.mono (show w.heap.size ≤ q + 1 by omega); rw [hlst] at this; exact this
              have hgd : goodS (K, .slice ad3 j c3, lst) := ⟨hkb.1, hkb.2, by show 1 ≤ lst.length; omega, by show lst.length ≤ 3; omega, hnz⟩
              have HGD : Hid (goodS _) := hgd
              clear hgd hU hnz
              go_wp2_with (at_builtin; refine wpList_append_own _ rfl _ _ 22 rfl w.heap.size 48 i0 (.agg #[.int .i64 0, .slice none 0 0]) 2 32 Tryd.underlying22 hi hz0 hz1 hz2 rfl (by decide) _ _ _ rfl (HOW.out.1.alloc _) ⟨wr.heap.size, 0, none⟩ 1 1 [.int .i64 K, .slice ad3 j c3] rfl rfl (news2 wr _ _ 48) (two_seg _ _ _ _) (by unfold maxLen; omega) (by omega) (Nat.le_trans hsW (by simp)) ?_; intro v3 w3 hown3 hgrow3 _)
              have hos : OwnS w3 w.heap.size v3 (R ++ [(K, .slice ad3 j c3, lst)]) := OwnS.snoc (HOW.out.alloc _) (HUW.out.alloc _) (by omega) hown3 hgrow3
              have hb3 : Below w.heap.size w w3 := (HBW.out.alloc hsW _).grown hgrow3 (Nat.le_trans hsW (by simp)) (fun k e => (HOW.out.1.lt k e).1)
              have HGG : Hid (∀ r ∈ R ++ [(K, .slice ad3 j c3, lst)], goodS r) := fun r hr => by
                rcases List.mem_append.mp hr with h | h
                · exact HG.out r h
                · rw [List.mem_singleton.mp h]; exact HGD.out
              clear hown3 hgrow3
              go_roundw
              case rel => exact ⟨n + 1, _, by omega, by omega, by go_num, ⟨by simp; omega, HGG.out⟩, hos, hb3⟩
              case measure => simp [intOf]; omega
          · have hl2' : ¬ ((j : Int) < av.length) := by omega
            have HOW : Hid (OwnS wr w.heap.size (.slice adq R.length cq) R) := HO.out.below hbU
            have HBW : Hid (Below w.heap.size w wr) := HB.out.trans (hbU.mono (by rw [hq]; exact hsz))
            have m0 := hm.c0
            have hU := hm.own
            have hnz := hm.nz
            have hsW := HBW.out.size
            clear hm hbU HM
            by_cases hj0 : j = 0
            · have hj0' : ¬ (0 < (j : Int)) := by omega
              go_wp2
              go_roundw
              case rel => exact ⟨n + 1, R, by omega, by omega, by go_num, ⟨by omega, HG.out⟩, HOW.out, HBW.out⟩
              case measure => simp [intOf]; omega
            · have hj0' : 0 < (j : Int) := by omega
              have HUW : Hid (OwnU wr w.heap.size (.slice ad3 j c3) lst) := by have := hU.mono (show w.heap.size ≤ q + 1 by omega); rw [hlst] at this; exact this
              have hgd : goodS (K, .slice ad3 j c3, lst) := ⟨hkb.1, hkb.2, by show 1 ≤ lst.length; omega, by show lst.length ≤ 3; omega, hnz⟩
              have HGD : Hid (goodS _) := hgd
              clear hgd hU hnz
              go_wp2_with (at_builtin; refine wpList_append_own _ rfl _ _ 22 rfl w.heap.size 48 i0 (.agg #[.int .i64 0, .slice none 0 0]) 2 32 Tryd.underlying22 hi hz0 hz1 hz2 rfl (by decide) _ _ _ rfl (HOW.out.1.alloc _) ⟨wr.heap.size, 0, none⟩ 1 1 [.int .i64 K, .slice ad3 j c3] rfl rfl (news2 wr _ _ 48) (two_seg _ _ _ _) (by unfold maxLen; omega) (by omega) (Nat.le_trans hsW (by simp)) ?_; intro v3 w3 hown3 hgrow3 _)
              have hos : OwnS w3 w.heap.size v3 (R ++ [(K, .slice ad3 j c3, lst)]) := OwnS.snoc (HOW.out.alloc _) (HUW.out.alloc _) (by omega) hown3 hgrow3
              have hb3 : Below w.heap.size w w3 := (HBW.out.alloc hsW _).grown hgrow3 (Nat.le_trans hsW (by simp)) (fun k e => (HOW.out.1.lt k e).1)
              have HGG : Hid (∀ r ∈ R ++ [(K, .slice ad3 j c3, lst)], goodS r) := fun r hr => by
                rcases List.mem_append.mp hr with h | h
                · exact HG.out r h
                · rw [List.mem_singleton.mp h]; exact HGD.out
              clear hown3 hgrow3
              go_roundw
              case rel => exact ⟨n + 1, _, by omega, by omega, by go_num, ⟨by simp; omega, HGG.out⟩, hos, hb3⟩
              case measure => simp [intOf]; omega
      · obtain rfl : n = 6 := by omega
        clear hb hown
        go_wp2
        go_ret
        exact ⟨_, R, rfl, ⟨hRl, HG.out⟩, HO.out, HB.out⟩
    · obtain rfl : n = L.length := by omega
      clear hb hown
      go_wp2
      go_ret
      exact ⟨_, R, rfl, ⟨by omega, HG.out⟩, HO.out, HB.out⟩
end Go.Proofs.YtbdfigfjoiefiaaDoor
