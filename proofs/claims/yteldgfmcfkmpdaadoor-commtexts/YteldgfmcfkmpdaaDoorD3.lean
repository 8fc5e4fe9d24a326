/-
  Decode of bytes that hold 64 plain communities at most.
-/
import Derived.Test.YteldgfmcfkmpdaaDoorD2
import Derived.Laws.Closers25
namespace Go.Proofs.YteldgfmcfkmpdaaDoor
open Go.RowKit Go.Maps
theorem infoU : (Tryd.prog.info? 23).map (fun i => (i.zero, i.size, i.bytes)) = some (some (.int .u32 0), 1, 4) := by kernel_rfl
theorem news1 (w : World) (v : Value) (t : TypeId) : ∀ (j : Nat) (u : Value), [v][j]? = some u → (w.alloc (.cells #[v] t)).cell? (Addr.add ⟨w.heap.size, 0, none⟩ j) = some u := by
  intro j u h
  cases j with
  | zero => simp at h; subst h; simp [Addr.add]
  | succ j => simp at h
theorem one_u32 (n : Int) : ∀ u ∈ [Value.int .u32 n], u.oneCell' = true := by
  intro u h; simp at h; subst h; rfl
theorem slice_of_owns {w : World} {base : Nat} {e : TypeId} {size : Nat} {v : Value} {n : Nat} {xs : List Value} (h : w.ownsRow base e size v n xs) : ∃ ad c, v = .slice ad n c := by
  obtain ⟨_, h | ⟨g, cap, cur, h, _⟩⟩ := h
  · exact ⟨none, 0, by rw [h.1, h.2]⟩
  · exact ⟨_, _, h⟩
theorem onceTo_in (s : ByteArray) (k : Nat) (h : numAt s k ∈ onceTo s k) : onceTo s (k + 1) = onceTo s k := by simp [onceTo, once1, h]
theorem onceTo_new (s : ByteArray) (k : Nat) (h : numAt s k ∉ onceTo s k) : onceTo s (k + 1) = onceTo s k ++ [numAt s k] := by simp [onceTo, once1, h]
set_option maxRecDepth 100000 in
set_option maxHeartbeats 1600000 in
theorem decode_few (s : ByteArray) (m : Nat) (w : World) (hm : s.size = 4 * (m + 1)) (h64 : m < 64) :
    Calls Tryd.prog 65 #[.string s, .int .i64 4, .func (.func 40) #[] #[], .func (.func 66) #[] #[]] w fun e w' =>
      ∃ v, e = .returned (.tuple #[v, .int .i64 0]) ∧ PlainAt w' v (sortU (onceTo s (m + 1))) ∧ Below w.heap.size w w' := by
  obtain ⟨i0, hi, hz0, hz1, hz2⟩ := info_parts infoU
  have hemp : s.toList.isEmpty = false := by
    rw [← decide_eq_emptyBytes]
    simp only [decide_eq_false_iff_not]
    intro e; rw [e] at hm; have : ByteArray.empty.size = 0 := rfl; omega
  have hrem : ((s.size : Int)).tmod 4 = 0 := by
    rw [show (s.size : Int) = 4 * ((m : Int) + 1) by omega]; exact Int.mul_tmod_right _ _
  have HM : Hid (s.size = 4 * (m + 1)) := hm
  clear hm
  go_enter Tryd.func65, Tryd.ntmps65
  go_wp2_with fail
  refine (first_nil w).mono ?_
  rintro e w1 ⟨rfl, hmet, hb1, hs1⟩
  have HMet : Hid (MetAt _ _ _ _ _) := hmet
  have HB1 : Hid (Below _ _ _) := hb1
  have HS1 : Hid (_ = _) := hs1
  clear hmet hb1 hs1
  go_wp2_with fail
  refine (new_any s w1).mono ?_
  rintro e w2 ⟨rfl, hrd, hb2, hs2⟩
  have hD : DecAt w w2 (.slice none 0 0) s 0 := by
    refine ⟨?_, ⟨0, Nat.le_refl _, ?_⟩, World.ownsRow_nil _ _ _ _, HB1.out.trans (hb2.mono HB1.out.size), by have := HS1.out; omega⟩
    · rw [← HS1.out]; simpa using hrd
    · have hg : w1.grownBy w2 none := ⟨hb2.os, hb2.tape, hb2.output, hb2.size, fun k hk _ => hb2.block k hk⟩
      exact HMet.out.kept hg (by simp) (by simp)
  have HD : Hid (DecAt _ _ _ _ _) := hD
  rw [HS1.out]
  clear hrd hb2 hs2 hD hemp hrem HMet HB1 HS1
  go_wp2
  go_loopw [11] (fun t wr => ∃ k : Nat, k ≤ m + 1 ∧ DecAt w wr t s k) (fun _ wr => leftAt wr (w.heap.size + 2))
  case atStart => exact ⟨0, Nat.zero_le _, HD.out⟩
  case round =>
    obtain ⟨k, hk, hd⟩ := hrel
    clear HD
    obtain ⟨ad, c, rfl⟩ := slice_of_owns hd.own
    have hrd := hd.rdr
    obtain ⟨n, hn, hmet⟩ := hd.met
    have HO : Hid (_ : Prop) := hd.own
    have HB : Hid (Below _ _ _) := hd.bel
    have HSz : Hid (_ ≤ _) := hd.sz
    have HMt : Hid (MetAt _ _ _ _ _) := hmet
    have hle := onceTo_le s k
    have HL : Hid (leftAt wr (w.heap.size + 2) = (s.extract (4 * k) s.size).size) := hrd.left
    have hrs : (s.extract (4 * k) s.size).size = s.size - 4 * k := by simp
    have hms := HM.out
    clear hd hmet
    by_cases hlt : k < m + 1
    · have HX : Hid (worth ((s.extract (4 * k) s.size).data.toList.take 4) = numAt s k) := rfl
      have HN : Hid (_ = _) := extract_next s k
      generalize s.extract (4 * k) s.size = r at *
      have hpos : 0 < (r.size : Int) := by omega
      have h4 : 4 ≤ r.size := by omega
      have HR4 : Hid (r.size = 4 * (m + 1) - 4 * k) := by unfold Hid; omega
      clear hrs hms
      go_wp2_with fail
      refine (left_any _ r wr hrd).mono ?_
      rintro e w' ⟨rfl, rfl⟩
      go_wp2_with fail
      refine (read4 _ r _ hrd h4).mono ?_
      rintro e w3 ⟨rfl, hrd3, hbs⟩
      have hg3 := hbs.grown
      have HMt3 : Hid (MetAt w3 _ _ n _) := HMt.out.kept hg3 (by simp) (by simp)
      have HO3 : Hid (World.ownsRow w3 _ _ _ _ _ _) := own_far HO.out hg3 (by omega)
      have HB3 : Hid (Below w.heap.size w w3) := HB.out.grown hg3 (by have := HSz.out; omega) (fun j hj => by injection hj with hj; omega)
      have HS3 : Hid (w.heap.size + 3 ≤ w3.heap.size) := Nat.le_trans HSz.out hg3.size
      rw [HN.out] at hrd3
      have HR3 : Hid (RdrAt _ _ _) := hrd3
      rw [HX.out]
      have hx32 := numAt_lt s k
      have HLT : Hid (∀ w9, RdrAt w9 (w.heap.size + 2) (s.extract (4 * (k + 1)) s.size) → leftAt w9 (w.heap.size + 2) < leftAt w' (w.heap.size + 2)) := fun w9 h => by
        rw [h.left, HL.out, ByteArray.size_extract]
        have := HR4.out
        have := HM.out
        omega
      clear hbs hg3 hrd3 hrd HMt HO HB HSz HX HN HL
      by_cases hin : numAt s k ∈ onceTo s k
      · have HE : Hid (_ = _) := onceTo_in s k hin
        have hmy := met_yes (numAt s k) _ _ n _ w3 HMt3.out hx32 hin
        have HMY : Hid (Calls _ _ _ _ _) := hmy
        clear hin hmy
        generalize numAt s k = x at *
        go_wp2_with fail
        refine HMY.out.mono ?_
        rintro e w4 ⟨rfl, hm4, hg4⟩
        have HD4 : Hid (DecAt w w4 (.slice ad (onceTo s k).length c) s (k + 1)) := by
          unfold Hid
          refine ⟨HR3.out.far hg4 (by simp), ⟨n, by omega, by rw [HE.out]; exact hm4⟩, by rw [HE.out]; exact HO3.out.kept hg4 (by cases h : Value.ownBlock (.slice ad (onceTo s k).length c) <;> simp), HB3.out.grown hg4 (by have := HS3.out; omega) (fun j hj => by simp at hj), Nat.le_trans HS3.out hg4.size⟩
        clear hm4 hg4
        go_wp2
        go_roundw
        case rel => exact ⟨k + 1, by omega, HD4.out⟩
        case measure => exact HLT.out _ HD4.out.rdr
      · have HE : Hid (_ = _) := onceTo_new s k hin
        have hmy := met_no (numAt s k) _ _ n _ w3 HMt3.out hx32 hin (by omega)
        have HMY : Hid (Calls _ _ _ _ _) := hmy
        clear hin hmy
        generalize hxx : numAt s k = x at *
        have HXX : Hid (numAt s k = x) := hxx
        clear hxx
        go_wp2_with fail
        refine HMY.out.mono ?_
        rintro e w4 ⟨rfl, hm4, hg4⟩
        have HM4 : Hid (MetAt w4 _ _ _ _) := hm4
        have HO4 : Hid (World.ownsRow w4 _ _ _ _ _ _) := own_far HO3.out hg4 (by omega)
        have HR4' : Hid (RdrAt w4 _ _) := HR3.out.far hg4 (by simp)
        have HB4 : Hid (Below w.heap.size w w4) := HB3.out.grown hg4 (by have := HS3.out; omega) (fun j hj => by injection hj with hj; omega)
        have hs4 : w.heap.size + 3 ≤ w4.heap.size := Nat.le_trans HS3.out hg4.size
        have hne64 : ¬ (((onceTo s k).length : Int) = 64) := by omega
        clear hm4 hg4 HMt3 HO3 HR3 HB3 HS3 HMY
        go_wp2_with (at_builtin; refine wpList_append_own _ rfl _ _ 22 rfl (w.heap.size + 3) 23 i0 (.int .u32 0) 1 4 Tryd.underlying22 hi hz0 hz1 hz2 rfl (by decide) _ _ _ rfl (HO4.out.alloc _) ⟨w4.heap.size, 0, none⟩ 1 1 [.int .u32 (x : Int)] rfl rfl (news1 w4 _ 23) (one_u32 _) (by unfold maxLen; omega) (by omega) (Nat.le_trans hs4 (by simp)) ?_; intro v5 w5 hown5 hgrow5 _)
        have hg5 := (World.grownBy_alloc w4 _ _).trans hgrow5
        have hfar : ∀ p, p < w.heap.size + 3 → some p ≠ Value.ownBlock (.slice ad (onceTo s k).length c) := fun p hp e => by have := (HO4.out.lt p e.symm).1; omega
        have HD5 : Hid (DecAt w w5 v5 s (k + 1)) := by
          unfold Hid
          refine ⟨HR4'.out.far hg5 (hfar _ (by omega)), ⟨n + 1, by omega, by rw [HE.out]; exact HM4.out.kept hg5 (hfar _ (by omega)) (hfar _ (by omega))⟩, ?_, HB4.out.grown hg5 (by omega) (fun j hj => Nat.le_trans (by omega) (HO4.out.lt j hj).1), Nat.le_trans hs4 hg5.size⟩
          rw [HE.out, List.length_append, List.length_singleton, show cellsU (onceTo s k ++ [x]) = cellsU (onceTo s k) ++ [.int .u32 (x : Int)] by simp [cellsU]]
          exact hown5
        clear hown5 hgrow5 hg5 hfar
        try go_wp2
        go_roundw
        case rel => exact ⟨k + 1, by omega, HD5.out⟩
        case measure => exact HLT.out _ HD5.out.rdr
    · obtain rfl : k = m + 1 := by omega
      have h0 : (s.extract (4 * (m + 1)) s.size).size = 0 := by omega
      generalize s.extract (4 * (m + 1)) s.size = r at *
      have hnp : ¬ (0 < (r.size : Int)) := by omega
      clear hrs hms hlt
      go_wp2_with fail
      refine (left_any _ r wr hrd).mono ?_
      rintro e w' ⟨rfl, rfl⟩
      have HP := onceTo_pos s m
      have H32 := onceTo_lt s (m + 1)
      have HSrt : Hid (Calls _ _ _ _ _) := sort_own _ _ _ _ HP H32 (by omega) HSz.out HO.out
      clear HP H32 hrd HMt HO HL
      generalize hql : onceTo s (m + 1) = l at *
      have HQL : Hid (onceTo s (m + 1) = l) := hql
      clear hql
      go_wp2_with fail
      refine Calls.mono HSrt.out ?_
      rintro e w3 ⟨rfl, hp, hb3⟩
      have HPl : Hid (PlainAt _ _ _) := hp
      have HBf : Hid (Below w.heap.size w w3) := HB.out.trans (hb3.mono (by omega))
      clear hp hb3
      go_wp2
      go_ret2
      exact ⟨_, rfl, by rw [HQL.out]; exact HPl.out, HBf.out⟩
end Go.Proofs.YteldgfmcfkmpdaaDoor
