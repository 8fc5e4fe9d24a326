/-
  gather over the segments of bytes.
-/
import Derived.Test.YtbdfigfjoiefiaaDoorT2
import Derived.Test.YtbdfigfjoiefiaaDoorC2
namespace Go.Proofs.YtbdfigfjoiefiaaDoor
open Go.RowKit
/-- A path of bytes, of m segments at most. -/
def decI (sz : Nat) : Nat → List UInt8 → Option (List Sg)
  | 0, l => if l = [] then some [] else none
  | m + 1, l => if l = [] then some [] else
    match segI sz l with
    | none => none
    | some (s, r) => if okSeg s = true then (decI sz m r).map (s :: ·) else none
/-- What gather answers. -/
def GatherOk (p : Nat) (x : Option (List Sg)) (w : World) (e : Ending) (w' : World) : Prop :=
  Beside p w w' ∧ match x with
    | some L => ∃ v R, e = .returned (.tuple #[v, .int .i64 0]) ∧ sgs R = L ∧ OwnS w' w.heap.size v R
    | none => e = .returned (.tuple #[.slice none 0 0, .int .i64 4])
/-- How long a slice is. -/
def slen : Value → Nat
  | .slice _ n _ => n
  | _ => 0
theorem OwnS.beside {w w' : World} {base p : Nat} {v : Value} {R : List Sv} (h : OwnS w base v R) (hb : Beside p w w') (hp : p < base) : OwnS w' base v R :=
  ⟨owns_heap' h.1 fun g e => hb.block g (h.1.lt g e).2 (by have := (h.1.lt g e).1; omega), fun r hr => (h.2.1 r hr).beside hb hp, h.2.2⟩
theorem decI_nil (sz m : Nat) : decI sz m [] = some [] := by cases m <;> simp [decI]
theorem decI_bad (sz m : Nat) (l : List UInt8) (hl : l ≠ []) (h : segI sz l = none) : decI sz m l = none := by cases m <;> simp [decI, hl, h]
theorem decI_full (sz : Nat) (l : List UInt8) (hl : l ≠ []) : decI sz 0 l = none := by simp [decI, hl]
theorem segI_ne {sz : Nat} {l : List UInt8} {x : Sg × List UInt8} (h : segI sz l = some x) : l ≠ [] := by
  rintro rfl
  simp [segI] at h
theorem decI_not (sz m : Nat) (l r : List UInt8) (s : Sg) (h : segI sz l = some (s, r)) (hk : okSeg s = false) : decI sz m l = none := by
  have := segI_ne h
  cases m <;> simp [decI, this, h, hk]
theorem decI_step (sz m : Nat) (l r : List UInt8) (s : Sg) (h : segI sz l = some (s, r)) (hk : okSeg s = true) : decI sz (m + 1) l = (decI sz m r).map (s :: ·) := by
  have := segI_ne h
  simp [decI, this, h, hk]
set_option maxRecDepth 100000 in
set_option maxHeartbeats 1600000 in
theorem gather_any (p pr ps sz : Nat) (l : List UInt8) (w : World) (hcl : ClAt w p pr ps sz) (hr : RdrAt w p ⟨l.toArray⟩) (hz1 : 1 ≤ sz) (hz4 : sz ≤ 4) :
    Calls Tryd.prog 58 #[.func (.func 75) #[] #[.pointer (some ⟨pr, 0, none⟩), .pointer (some ⟨ps, 0, none⟩)]] w fun e w' => GatherOk p (decI sz 16 l) w e w' := by
  obtain ⟨i0, hi, hq0, hq1, hq2⟩ := info_parts info48
  have hp := hr.lt
  have HC : Hid (ClAt w p pr ps sz) := hcl
  have HR : Hid (RdrAt w p ⟨l.toArray⟩) := hr
  clear hcl hr
  go_enter Tryd.func58, Tryd.ntmps58
  go_wp2
  go_loopw [4] (fun t wr => ∃ (R : List Sv) (r : List UInt8), R.length ≤ 16 ∧ OwnS wr w.heap.size t R ∧ RdrAt wr p ⟨r.toArray⟩ ∧ Beside p w wr ∧ decI sz 16 l = (decI sz (16 - R.length) r).map (sgs R ++ ·)) (fun t _ => 17 - slen t)
  case atStart => exact ⟨[], l, by simp, ⟨World.ownsRow_nil _ _ _ _, fun r hr => by simp at hr, by simp⟩, HR.out, Beside.of_below (Below.refl w.heap.size w) (Nat.le_refl _), by cases h : decI sz 16 l <;> simp [sgs]⟩
  case round =>
    obtain ⟨R, r, hR, ho, hrd, hb, hde⟩ := hrel
    obtain ⟨adq, cq, rfl⟩ := slice_of_owns ho.1
    have HO : Hid (OwnS _ _ _ _) := ho
    have HB : Hid (Beside _ _ _) := hb
    have HD : Hid (_ = _) := hde
    have HRD : Hid (RdrAt _ _ _) := hrd
    have HCR : Hid (ClAt _ _ _ _ _) := HC.out.beside hb
    clear ho hb hde hrd
    go_wp2_with fail
    refine (next_any p pr ps sz r wr HCR.out HRD.out hz1 hz4).mono ?_
    rintro e w4 ⟨hb4, ⟨rfl, rfl⟩ | ⟨hne, hno, rfl⟩ | ⟨ad, c, s, r', hse, rfl, hou, hrd4⟩⟩
    · have HO4 : Hid (OwnS _ _ _ _) := HO.out.beside hb4 hp
      have HB4 : Hid (Beside p w w4) := HB.out.trans hb4
      clear hb4
      go_wp2
      go_ret2
      refine ⟨HB4.out.then ((Below.refl _ _).alloc HB4.out.size _), ?_⟩
      rw [HD.out, decI_nil]
      exact ⟨_, R, rfl, by simp, HO4.out.alloc _⟩
    · have HB4 : Hid (Beside p w w4) := HB.out.trans hb4
      have HN : Hid (decI sz 16 l = none) := by unfold Hid; rw [HD.out, decI_bad _ _ _ hne hno]; rfl
      clear hb4 hne hno
      go_wp2
      go_ret2
      refine ⟨HB4.out.then ((Below.refl _ _).alloc HB4.out.size _), ?_⟩
      rw [HN.out]
      exact rfl
    · have HO4 : Hid (OwnS _ _ _ _) := HO.out.beside hb4 hp
      have HB4 : Hid (Beside p w w4) := HB.out.trans hb4
      have HR4 : Hid (RdrAt _ _ _) := hrd4
      have HU4 : Hid (OwnU _ _ _ _) := hou
      have HSE : Hid (_ = _) := hse
      have h4 := hb4.size
      clear hb4 hse hou hrd4
      obtain ⟨kd, av⟩ := s
      simp only
      simp only at HU4
      by_cases h16 : R.length = 16
      · have h16' : (R.length : Int) = 16 := by omega
        have HN : Hid (decI sz 16 l = none) := by unfold Hid; rw [HD.out, h16, decI_full _ _ (segI_ne HSE.out)]; rfl
        clear h16
        go_wp2
        go_ret2
        refine ⟨HB4.out.then ((Below.refl _ _).alloc HB4.out.size _), ?_⟩
        rw [HN.out]
        exact rfl
      · have h16' : ¬ ((R.length : Int) = 16) := by omega
        have h16'' : ((R.length : Int) == 16) = false := by simpa using h16'
        go_wp2_with fail
        refine (maySeg_any kd _ av _ (HU4.out.alloc _).at).mono ?_
        rintro e w5 ⟨rfl, hb5⟩
        have c0 : w5.cell? ⟨w4.heap.size, 0, none⟩ = some (.int .i64 kd) := below_cell hb5 (by simp)
        have c1 : w5.cell? ⟨w4.heap.size, 1, none⟩ = some (.slice ad av.length c) := below_cell hb5 (by simp)
        have HO5 : Hid (OwnS _ _ _ _) := (HO4.out.alloc _).below hb5
        have HU5 : Hid (OwnU _ _ _ _) := (HU4.out.alloc _).below hb5
        have HB5 : Hid (Beside p w w5) := (HB4.out.then ((Below.refl _ _).alloc HB4.out.size _)).then (hb5.mono (Nat.le_trans HB4.out.size (by simp)))
        have HR5 : Hid (RdrAt w5 p ⟨r'.toArray⟩) := (HR4.out.kept ((Below.refl _ _).alloc (Nat.le_refl _) _) HR4.out.lt).kept hb5 (Nat.lt_of_lt_of_le HR4.out.lt (by simp))
        have h5 := HB5.out.size
        have hwr := HB.out.size
        clear hb5 HO4 HU4 HB4 HR4 h16
        by_cases hok : okSeg (kd, av) = true
        · rw [hok]
          have HDN : Hid (decI sz 16 l = (decI sz (16 - (R.length + 1)) r').map (sgs (R ++ [(kd, .slice ad av.length c, av)]) ++ ·)) := by
            unfold Hid
            rw [HD.out, show 16 - R.length = (16 - (R.length + 1)) + 1 by omega, decI_step _ _ _ _ _ HSE.out hok]
            cases decI sz (16 - (R.length + 1)) r' <;> simp [sgs_snoc]
          have HUW : Hid (OwnU w5 w.heap.size _ _) := HU5.out.mono hwr
          clear hok
          go_wp2_with (at_builtin; refine wpList_append_own _ rfl _ _ 22 rfl w.heap.size 48 i0 (.agg #[.int .i64 0, .slice none 0 0]) 2 32 Tryd.underlying22 hi hq0 hq1 hq2 rfl (by decide) _ _ _ rfl (HO5.out.1.alloc _) ⟨w5.heap.size, 0, none⟩ 1 1 [.int .i64 kd, .slice ad av.length c] rfl rfl (news2 w5 _ _ 48) (two_seg _ _ _ _) (by unfold maxLen; omega) (by omega) (Nat.le_trans h5 (by simp)) ?_; intro v6 w6 hown6 hgrow6 _)
          have hos : OwnS w6 w.heap.size v6 (R ++ [(kd, .slice ad av.length c, av)]) := OwnS.snoc (HO5.out.alloc _) (HUW.out.alloc _) (by omega) hown6 hgrow6
          obtain ⟨ad6, c6, rfl⟩ := slice_of_owns hown6
          have hbw : Below w.heap.size w5 w6 := ((Below.refl _ _).alloc h5 _).grown hgrow6 (Nat.le_trans h5 (by simp)) (fun k e => (HO5.out.1.lt k e).1)
          have HB6 : Hid (Beside p w w6) := HB5.out.then hbw
          have HR6 : Hid (RdrAt w6 p ⟨r'.toArray⟩) := HR5.out.kept hbw hp
          clear hown6 hgrow6 hbw
          go_roundw
          case rel => exact ⟨_, r', by simp; omega, hos, HR6.out, HB6.out, by rw [List.length_append]; exact HDN.out⟩
          case measure => simp [slen]; omega
        · have hok' : okSeg (kd, av) = false := by simpa using hok
          rw [hok']
          have HN : Hid (decI sz 16 l = none) := by unfold Hid; rw [HD.out, decI_not _ _ _ _ _ HSE.out hok']; rfl
          clear hok hok'
          go_wp2
          go_ret2
          refine ⟨HB5.out, ?_⟩
          rw [HN.out]
          exact rfl
end Go.Proofs.YtbdfigfjoiefiaaDoor
