/-
  Write: attributes that may be, as raw ones: the walk.
-/
import Derived.Test.YtpahnebhcfpplabGreatDoorF2
namespace Go.Proofs.YtpahnebhcfpplabGreatDoor
open Go.RowKit
def slenR : Value → Nat
  | .slice _ n _ => n
  | _ => 0
/-- What Write leaves. -/
def WriteOk (four : Bool) (m : Am) (w : World) (e : Ending) (w' : World) : Prop := ∃ v, e = .returned (.tuple #[v, .int .i64 0]) ∧ OwnR w' w.heap.size v (writeTo four m 12) ∧ Below w.heap.size w w'
set_option maxRecDepth 100000 in
set_option maxHeartbeats 16000000 in
theorem write_any (m : Am) (four : Bool) (w : World) (hck : ∀ W, Below w.heap.size w W → Calls Tryz.prog 12 #[.agg (cellsM m)] W fun e w' => e = .returned (.int .i64 0) ∧ Below W.heap.size W w') (ht : Tabs w) (ha : AOk w m) (hmay : AMay m) :
    Calls Tryz.prog 14 #[.agg (cellsM m), .bool four] w fun e w' => WriteOk four m w e w' := by
  obtain ⟨i0, hi, hz0, hz1, hz2⟩ := info_parts info46
  obtain ⟨adp, np, cp, hvp⟩ := ha.path.sl
  obtain ⟨adc, nc, cc, hvc⟩ := ha.comm.sl
  obtain ⟨adx, nx', cx, hvx⟩ := ha.exts.sl
  obtain ⟨adl, nl, cl, hvl⟩ := ha.larg.sl
  obtain ⟨adk, nk, ck, hvk⟩ := ha.clus.sl
  have hcs : cellsM m = #[.int .i64 m.o, .slice adp np cp, .string m.nx, .bool m.hm, .int .u32 (m.md : Int), .bool m.hp, .int .u32 (m.pf : Int), .bool m.at_, .int .u32 (m.ga : Int), .int .u32 (m.ai : Int), .slice adc nc cc, .slice adx nx' cx, .slice adl nl cl, .bool m.ho, .int .u32 (m.og : Int), .slice adk nk ck] := by
    unfold cellsM; rw [hvp, hvc, hvx, hvl, hvk]
  have HSP : Hid (∃ ad n c, m.vp = .slice ad n c) := ⟨_, _, _, hvp⟩
  have HSC : Hid (∃ ad n c, m.vc = .slice ad n c) := ⟨_, _, _, hvc⟩
  have HSX : Hid (∃ ad n c, m.vx = .slice ad n c) := ⟨_, _, _, hvx⟩
  have HSL : Hid (∃ ad n c, m.vl = .slice ad n c) := ⟨_, _, _, hvl⟩
  have HSK : Hid (∃ ad n c, m.vk = .slice ad n c) := ⟨_, _, _, hvk⟩
  have HCS : Hid (_ = _) := hcs
  have HCK : Hid (∀ W, Below w.heap.size w W → _) := hck
  have HA : Hid (AOk _ _) := ha
  have HMAY : Hid (AMay _) := hmay
  have HT : Hid (Tabs _) := ht
  clear hck ha hmay ht hvp hvc hvx hvl hvk hcs
  have hba : Below w.heap.size w (w.alloc (.cells (cellsM m) 39)) := (Below.refl _ _).alloc (Nat.le_refl _) _
  have hin : AIn (w.alloc (.cells (cellsM m) 39)) w.heap.size m := ⟨39, (0, 0), heap_new _ _⟩
  have HCK0 : Hid (Calls _ _ _ _ _) := HCK.out _ hba
  rw [HCS.out] at hba hin HCK0 ⊢
  go_enter Tryz.func14, Tryz.ntmps14
  go_wp2_with fail
  generalize w.alloc _ = W0 at *
  refine HCK0.out.mono ?_
  rintro e W1 ⟨rfl, hb1⟩
  have HIN : Hid (AIn W1 w.heap.size m) := hin.below hb1
  have HBW : Hid (Below w.heap.size w W1) := hba.trans (hb1.mono hba.size)
  have HA1 : Hid (AOk W1 m) := HA.out.below HBW.out
  obtain ⟨tt, ff, htab⟩ := HT.out.below HBW.out
  have k0 : W1.cell? ⟨0, 0, none⟩ = some (.int .u8 1) := cell_row htab 0 _ rfl
  have k1 : W1.cell? ⟨0, 1, none⟩ = some (.int .u8 2) := cell_row htab 1 _ rfl
  have k2 : W1.cell? ⟨0, 2, none⟩ = some (.int .u8 3) := cell_row htab 2 _ rfl
  have k3 : W1.cell? ⟨0, 3, none⟩ = some (.int .u8 4) := cell_row htab 3 _ rfl
  have k4 : W1.cell? ⟨0, 4, none⟩ = some (.int .u8 5) := cell_row htab 4 _ rfl
  have k5 : W1.cell? ⟨0, 5, none⟩ = some (.int .u8 6) := cell_row htab 5 _ rfl
  have k6 : W1.cell? ⟨0, 6, none⟩ = some (.int .u8 7) := cell_row htab 6 _ rfl
  have k7 : W1.cell? ⟨0, 7, none⟩ = some (.int .u8 8) := cell_row htab 7 _ rfl
  have k8 : W1.cell? ⟨0, 8, none⟩ = some (.int .u8 9) := cell_row htab 8 _ rfl
  have k9 : W1.cell? ⟨0, 9, none⟩ = some (.int .u8 10) := cell_row htab 9 _ rfl
  have k10 : W1.cell? ⟨0, 10, none⟩ = some (.int .u8 16) := cell_row htab 10 _ rfl
  have k11 : W1.cell? ⟨0, 11, none⟩ = some (.int .u8 32) := cell_row htab 11 _ rfl
  clear hb1 hba hin HCK0 HCK htab HT HCS HA
  generalize hpp : w.heap.size = p at *
  have HPP : Hid (_ = _) := hpp
  clear hpp
  go_wp2
  clear k0 k1 k2 k3 k4 k5 k6 k7 k8 k9 k10 k11
  go_loopw [6, 17] (fun t i wr => ∃ k : Nat, k ≤ 12 ∧ i = .int .i64 k ∧ OwnR wr W1.heap.size t (writeTo four m k) ∧ Below W1.heap.size W1 wr) (fun _ i _ => 12 - (intOf i).toNat)
  case atStart => exact ⟨0, Nat.zero_le _, rfl, World.ownsRow_nil _ _ _ _, Below.refl _ _⟩
  case round =>
    obtain ⟨k, hk, rfl, ho, hb⟩ := hrel
    obtain ⟨ad, c, rfl⟩ := slice_of_owns ho
    have HO : Hid (OwnR wr W1.heap.size _ (writeTo four m k)) := ho
    have HB : Hid (Below W1.heap.size W1 wr) := hb
    have hlen := writeTo_le four m k
    clear ho hb
    by_cases hlt : k < 12
    · have HSUC : Hid (writeTo four m (k + 1) = writeTo four m k ++ (rowsOf four m)[k]'hlt) := writeTo_succ four m k hlt
      rcases (show k = 0 ∨ k = 1 ∨ k = 2 ∨ k = 3 ∨ k = 4 ∨ k = 5 ∨ k = 6 ∨ k = 7 ∨ k = 8 ∨ k = 9 ∨ k = 10 ∨ k = 11 by omega) with rfl | rfl | rfl | rfl | rfl | rfl | rfl | rfl | rfl | rfl | rfl | rfl
      · have hix : ∀ W, (Instr.index 80 (.agg #[.int .u8 1, .int .u8 2, .int .u8 3, .int .u8 4, .int .u8 5, .int .u8 6, .int .u8 7, .int .u8 8, .int .u8 9, .int .u8 10, .int .u8 16, .int .u8 32]) (.int .i64 0)).run Tryz.prog W = .ok (.int .u8 1) W := fun W => by kernel_rfl
        go_wp2_with fail
        clear hix
        refine (row1 four wr).mono ?_
        rintro e w2 ⟨rfl, hb2⟩
        have HO2 : Hid (OwnR w2 W1.heap.size _ _) := HO.out.below hb2
        have HB2 : Hid (Below W1.heap.size W1 w2) := HB.out.trans (hb2.mono HB.out.size)
        have hb3 : Below w2.heap.size w2 (w2.alloc (.cells #[.int .u8 64, .int .i64 2, .func (.func 49) #[] #[], .func (.func 50) #[] #[]] 84)) := (Below.refl _ _).alloc (Nat.le_refl _) _
        have f0 : (w2.alloc (.cells #[.int .u8 64, .int .i64 2, .func (.func 49) #[] #[], .func (.func 50) #[] #[]] 84)).cell? ⟨w2.heap.size, 0, none⟩ = some (.int .u8 64) := cell_row (heap_new _ _) 0 _ rfl
        have HO3 : Hid (OwnR (w2.alloc (.cells #[.int .u8 64, .int .i64 2, .func (.func 49) #[] #[], .func (.func 50) #[] #[]] 84)) W1.heap.size _ _) := HO2.out.below hb3
        have HB3 : Hid (Below W1.heap.size W1 (w2.alloc (.cells #[.int .u8 64, .int .i64 2, .func (.func 49) #[] #[], .func (.func 50) #[] #[]] 84))) := HB2.out.trans (hb3.mono HB2.out.size)
        clear hb2 hb3  HO2 HB2 HO HB
        go_wp2_with fail
        generalize w2.alloc (.cells #[.int .u8 64, .int .i64 2, .func (.func 49) #[] #[], .func (.func 50) #[] #[]] 84) = w3 at *
        generalize w2.heap.size = g at *
        have hin := HIN.out.below HB3.out
        have hao := HA1.out.below HB3.out
        obtain ⟨on, hon⟩ : ∃ n : Nat, m.o = n := ⟨m.o.toNat, (Int.toNat_of_nonneg HMAY.out.o0).symm⟩
        have HOT : Hid (m.o.toNat = on) := by unfold Hid; omega
        refine (layOrigin p on _ (hin.cell 0 _ (by rw [← hon]; rfl)) (by have := HMAY.out.o2; omega)).mono ?_
        clear hon
        rintro e w4 ⟨rfl, hb4⟩
        have f4 := below_cell hb4 f0
        have HO4 : Hid (OwnR w4 W1.heap.size _ _) := HO3.out.below hb4
        have HB4 : Hid (Below W1.heap.size W1 w4) := HB3.out.trans (hb4.mono HB3.out.size)
        clear hb4 f0 hin hao HO3 HB3 
        have HE : Hid (writeTo four m (0 + 1) = writeTo four m 0 ++ [(64, 1, (⟨(laid on 1).toArray⟩ : ByteArray))]) := by unfold Hid; rw [HSUC.out]; exact congrArg (writeTo four m 0 ++ ·) (by rw [← HOT.out]; rfl)
        generalize writeTo four m 0 = RO at *
        generalize (⟨(laid on 1).toArray⟩ : ByteArray) = bz at *
        clear HSUC
        go_wp2_with (at_builtin; refine wpList_append_own _ rfl _ _ 22 rfl W1.heap.size 30 i0 (.agg #[.int .u8 0, .int .u8 0, .string ⟨#[]⟩]) 3 24 Tryz.underlying22 hi hz0 hz1 hz2 rfl (by decide) _ _ _ rfl (HO4.out.alloc _) ⟨w4.heap.size, 0, none⟩ 1 1 [.int .u8 64, .int .u8 1, .string bz] rfl rfl (news3 w4 _ _ _ 30) (three_raw _ _ _) (by unfold maxLen; omega) (by omega) (Nat.le_trans HB4.out.size (by simp)) ?_; intro v6 w6 hown6 hgrow6 _)
        have hos : OwnR w6 W1.heap.size v6 (RO ++ [(64, 1, bz)]) := by
          unfold OwnR; rw [cellsR_snoc, List.length_append]; exact hown6
        obtain ⟨ad6, c6, rfl⟩ := slice_of_owns hown6
        have hbw : Below W1.heap.size w4 w6 := ((Below.refl _ _).alloc HB4.out.size _).grown hgrow6 (Nat.le_trans HB4.out.size (by simp)) (fun k e => (HO4.out.lt k e).1)
        have HB6 : Hid (Below W1.heap.size W1 w6) := HB4.out.trans hbw
        clear hown6 hgrow6 hbw
        go_roundw
        case rel => exact ⟨0 + 1, by omega, rfl, by rw [HE.out]; exact hos, HB6.out⟩
        case measure => simp [intOf]
      · have hix : ∀ W, (Instr.index 80 (.agg #[.int .u8 1, .int .u8 2, .int .u8 3, .int .u8 4, .int .u8 5, .int .u8 6, .int .u8 7, .int .u8 8, .int .u8 9, .int .u8 10, .int .u8 16, .int .u8 32]) (.int .i64 1)).run Tryz.prog W = .ok (.int .u8 2) W := fun W => by kernel_rfl
        go_wp2_with fail
        clear hix
        refine (row2 four wr).mono ?_
        rintro e w2 ⟨q, rfl, hc0, hb2⟩
        have HO2 : Hid (OwnR w2 W1.heap.size _ _) := HO.out.below hb2
        have HB2 : Hid (Below W1.heap.size W1 w2) := HB.out.trans (hb2.mono HB.out.size)
        have uhc0 : (w2.alloc (.cells #[.int .u8 64, .int .i64 2, .func (.func 86) #[] #[.pointer (some ⟨q, 0, none⟩)], .func (.func 88) #[] #[.pointer (some ⟨q, 0, none⟩)]] 84)).cell? _ = some _ := c_up hc0
        have hb3 : Below w2.heap.size w2 (w2.alloc (.cells #[.int .u8 64, .int .i64 2, .func (.func 86) #[] #[.pointer (some ⟨q, 0, none⟩)], .func (.func 88) #[] #[.pointer (some ⟨q, 0, none⟩)]] 84)) := (Below.refl _ _).alloc (Nat.le_refl _) _
        have f0 : (w2.alloc (.cells #[.int .u8 64, .int .i64 2, .func (.func 86) #[] #[.pointer (some ⟨q, 0, none⟩)], .func (.func 88) #[] #[.pointer (some ⟨q, 0, none⟩)]] 84)).cell? ⟨w2.heap.size, 0, none⟩ = some (.int .u8 64) := cell_row (heap_new _ _) 0 _ rfl
        have HO3 : Hid (OwnR (w2.alloc (.cells #[.int .u8 64, .int .i64 2, .func (.func 86) #[] #[.pointer (some ⟨q, 0, none⟩)], .func (.func 88) #[] #[.pointer (some ⟨q, 0, none⟩)]] 84)) W1.heap.size _ _) := HO2.out.below hb3
        have HB3 : Hid (Below W1.heap.size W1 (w2.alloc (.cells #[.int .u8 64, .int .i64 2, .func (.func 86) #[] #[.pointer (some ⟨q, 0, none⟩)], .func (.func 88) #[] #[.pointer (some ⟨q, 0, none⟩)]] 84))) := HB2.out.trans (hb3.mono HB2.out.size)
        clear hb2 hb3 hc0 HO2 HB2 HO HB
        go_wp2_with fail
        generalize w2.alloc (.cells #[.int .u8 64, .int .i64 2, .func (.func 86) #[] #[.pointer (some ⟨q, 0, none⟩)], .func (.func 88) #[] #[.pointer (some ⟨q, 0, none⟩)]] 84) = w3 at *
        generalize w2.heap.size = g at *
        have hin := HIN.out.below HB3.out
        have hao := HA1.out.below HB3.out
        refine (layPath p q m.vp m.L four _ uhc0 (hin.cell 1 _ rfl) hao.path HMAY.out.path).mono ?_
        rintro e w4 ⟨rfl, hb4⟩
        have f4 := below_cell hb4 f0
        have HO4 : Hid (OwnR w4 W1.heap.size _ _) := HO3.out.below hb4
        have HB4 : Hid (Below W1.heap.size W1 w4) := HB3.out.trans (hb4.mono HB3.out.size)
        clear hb4 f0 hin hao HO3 HB3 uhc0
        have HE : Hid (writeTo four m (1 + 1) = writeTo four m 1 ++ [(64, 2, (⟨(encOf four m.L).toArray⟩ : ByteArray))]) := by unfold Hid; rw [HSUC.out]; exact congrArg (writeTo four m 1 ++ ·) (rfl)
        generalize writeTo four m 1 = RO at *
        generalize (⟨(encOf four m.L).toArray⟩ : ByteArray) = bz at *
        clear HSUC
        go_wp2_with (at_builtin; refine wpList_append_own _ rfl _ _ 22 rfl W1.heap.size 30 i0 (.agg #[.int .u8 0, .int .u8 0, .string ⟨#[]⟩]) 3 24 Tryz.underlying22 hi hz0 hz1 hz2 rfl (by decide) _ _ _ rfl (HO4.out.alloc _) ⟨w4.heap.size, 0, none⟩ 1 1 [.int .u8 64, .int .u8 2, .string bz] rfl rfl (news3 w4 _ _ _ 30) (three_raw _ _ _) (by unfold maxLen; omega) (by omega) (Nat.le_trans HB4.out.size (by simp)) ?_; intro v6 w6 hown6 hgrow6 _)
        have hos : OwnR w6 W1.heap.size v6 (RO ++ [(64, 2, bz)]) := by
          unfold OwnR; rw [cellsR_snoc, List.length_append]; exact hown6
        obtain ⟨ad6, c6, rfl⟩ := slice_of_owns hown6
        have hbw : Below W1.heap.size w4 w6 := ((Below.refl _ _).alloc HB4.out.size _).grown hgrow6 (Nat.le_trans HB4.out.size (by simp)) (fun k e => (HO4.out.lt k e).1)
        have HB6 : Hid (Below W1.heap.size W1 w6) := HB4.out.trans hbw
        clear hown6 hgrow6 hbw
        go_roundw
        case rel => exact ⟨1 + 1, by omega, rfl, by rw [HE.out]; exact hos, HB6.out⟩
        case measure => simp [intOf]
      · have hix : ∀ W, (Instr.index 80 (.agg #[.int .u8 1, .int .u8 2, .int .u8 3, .int .u8 4, .int .u8 5, .int .u8 6, .int .u8 7, .int .u8 8, .int .u8 9, .int .u8 10, .int .u8 16, .int .u8 32]) (.int .i64 2)).run Tryz.prog W = .ok (.int .u8 3) W := fun W => by kernel_rfl
        go_wp2_with fail
        clear hix
        refine (row3 four wr).mono ?_
        rintro e w2 ⟨rfl, hb2⟩
        have HO2 : Hid (OwnR w2 W1.heap.size _ _) := HO.out.below hb2
        have HB2 : Hid (Below W1.heap.size W1 w2) := HB.out.trans (hb2.mono HB.out.size)
        have hb3 : Below w2.heap.size w2 (w2.alloc (.cells #[.int .u8 64, .int .i64 2, .func (.func 52) #[] #[], .func (.func 53) #[] #[]] 84)) := (Below.refl _ _).alloc (Nat.le_refl _) _
        have f0 : (w2.alloc (.cells #[.int .u8 64, .int .i64 2, .func (.func 52) #[] #[], .func (.func 53) #[] #[]] 84)).cell? ⟨w2.heap.size, 0, none⟩ = some (.int .u8 64) := cell_row (heap_new _ _) 0 _ rfl
        have HO3 : Hid (OwnR (w2.alloc (.cells #[.int .u8 64, .int .i64 2, .func (.func 52) #[] #[], .func (.func 53) #[] #[]] 84)) W1.heap.size _ _) := HO2.out.below hb3
        have HB3 : Hid (Below W1.heap.size W1 (w2.alloc (.cells #[.int .u8 64, .int .i64 2, .func (.func 52) #[] #[], .func (.func 53) #[] #[]] 84))) := HB2.out.trans (hb3.mono HB2.out.size)
        clear hb2 hb3  HO2 HB2 HO HB
        go_wp2_with fail
        generalize w2.alloc (.cells #[.int .u8 64, .int .i64 2, .func (.func 52) #[] #[], .func (.func 53) #[] #[]] 84) = w3 at *
        generalize w2.heap.size = g at *
        have hin := HIN.out.below HB3.out
        have hao := HA1.out.below HB3.out
        by_cases hz : m.nx.size = 4
        · refine (layNext_yes p m.nx _ (hin.cell 2 _ rfl) hz).mono ?_
          rintro e w4 ⟨rfl, hb4⟩
          have f4 := below_cell hb4 f0
          have HO4 : Hid (OwnR w4 W1.heap.size _ _) := HO3.out.below hb4
          have HB4 : Hid (Below W1.heap.size W1 w4) := HB3.out.trans (hb4.mono HB3.out.size)
          clear hb4 f0 hin hao HO3 HB3 
          have HE : Hid (writeTo four m (2 + 1) = writeTo four m 2 ++ [(64, 3, m.nx)]) := by unfold Hid; rw [HSUC.out]; exact congrArg (writeTo four m 2 ++ ·) (by show (if m.nx.size = 4 then _ else _) = _; rw [if_pos hz])
          generalize writeTo four m 2 = RO at *
          skip
          clear HSUC
          go_wp2_with (at_builtin; refine wpList_append_own _ rfl _ _ 22 rfl W1.heap.size 30 i0 (.agg #[.int .u8 0, .int .u8 0, .string ⟨#[]⟩]) 3 24 Tryz.underlying22 hi hz0 hz1 hz2 rfl (by decide) _ _ _ rfl (HO4.out.alloc _) ⟨w4.heap.size, 0, none⟩ 1 1 [.int .u8 64, .int .u8 3, .string m.nx] rfl rfl (news3 w4 _ _ _ 30) (three_raw _ _ _) (by unfold maxLen; omega) (by omega) (Nat.le_trans HB4.out.size (by simp)) ?_; intro v6 w6 hown6 hgrow6 _)
          have hos : OwnR w6 W1.heap.size v6 (RO ++ [(64, 3, m.nx)]) := by
            unfold OwnR; rw [cellsR_snoc, List.length_append]; exact hown6
          obtain ⟨ad6, c6, rfl⟩ := slice_of_owns hown6
          have hbw : Below W1.heap.size w4 w6 := ((Below.refl _ _).alloc HB4.out.size _).grown hgrow6 (Nat.le_trans HB4.out.size (by simp)) (fun k e => (HO4.out.lt k e).1)
          have HB6 : Hid (Below W1.heap.size W1 w6) := HB4.out.trans hbw
          clear hown6 hgrow6 hbw
          go_roundw
          case rel => exact ⟨2 + 1, by omega, rfl, by rw [HE.out]; exact hos, HB6.out⟩
          case measure => simp [intOf]
        · refine (layNext_no p m.nx _ (hin.cell 2 _ rfl) hz).mono ?_
          rintro e w4 ⟨rfl, hb4⟩
          have f4 := below_cell hb4 f0
          have HO4 : Hid (OwnR w4 W1.heap.size _ _) := HO3.out.below hb4
          have HB4 : Hid (Below W1.heap.size W1 w4) := HB3.out.trans (hb4.mono HB3.out.size)
          clear hb4 f0 hin hao HO3 HB3 
          have HE : Hid (writeTo four m (2 + 1) = writeTo four m 2) := by unfold Hid; rw [HSUC.out, show (rowsOf four m)[2]'hlt = [] from by show (if m.nx.size = 4 then _ else _) = _; rw [if_neg hz], List.append_nil]
          generalize writeTo four m 2 = RO at *
          clear HSUC
          go_wp2
          go_roundw
          case rel => exact ⟨2 + 1, by omega, rfl, by rw [HE.out]; exact HO4.out, HB4.out⟩
          case measure => simp [intOf]
      · have hix : ∀ W, (Instr.index 80 (.agg #[.int .u8 1, .int .u8 2, .int .u8 3, .int .u8 4, .int .u8 5, .int .u8 6, .int .u8 7, .int .u8 8, .int .u8 9, .int .u8 10, .int .u8 16, .int .u8 32]) (.int .i64 3)).run Tryz.prog W = .ok (.int .u8 4) W := fun W => by kernel_rfl
        go_wp2_with fail
        clear hix
        refine (row4 four wr).mono ?_
        rintro e w2 ⟨q, rfl, hc0, hb2⟩
        have HO2 : Hid (OwnR w2 W1.heap.size _ _) := HO.out.below hb2
        have HB2 : Hid (Below W1.heap.size W1 w2) := HB.out.trans (hb2.mono HB.out.size)
        have uhc0 : (w2.alloc (.cells #[.int .u8 128, .int .i64 2, .func (.func 90) #[] #[.pointer (some ⟨q, 0, none⟩)], .func (.func 91) #[] #[.pointer (some ⟨q, 0, none⟩)]] 84)).cell? _ = some _ := c_up hc0
        have hb3 : Below w2.heap.size w2 (w2.alloc (.cells #[.int .u8 128, .int .i64 2, .func (.func 90) #[] #[.pointer (some ⟨q, 0, none⟩)], .func (.func 91) #[] #[.pointer (some ⟨q, 0, none⟩)]] 84)) := (Below.refl _ _).alloc (Nat.le_refl _) _
        have f0 : (w2.alloc (.cells #[.int .u8 128, .int .i64 2, .func (.func 90) #[] #[.pointer (some ⟨q, 0, none⟩)], .func (.func 91) #[] #[.pointer (some ⟨q, 0, none⟩)]] 84)).cell? ⟨w2.heap.size, 0, none⟩ = some (.int .u8 128) := cell_row (heap_new _ _) 0 _ rfl
        have HO3 : Hid (OwnR (w2.alloc (.cells #[.int .u8 128, .int .i64 2, .func (.func 90) #[] #[.pointer (some ⟨q, 0, none⟩)], .func (.func 91) #[] #[.pointer (some ⟨q, 0, none⟩)]] 84)) W1.heap.size _ _) := HO2.out.below hb3
        have HB3 : Hid (Below W1.heap.size W1 (w2.alloc (.cells #[.int .u8 128, .int .i64 2, .func (.func 90) #[] #[.pointer (some ⟨q, 0, none⟩)], .func (.func 91) #[] #[.pointer (some ⟨q, 0, none⟩)]] 84))) := HB2.out.trans (hb3.mono HB2.out.size)
        clear hb2 hb3 hc0 HO2 HB2 HO HB
        go_wp2_with fail
        generalize w2.alloc (.cells #[.int .u8 128, .int .i64 2, .func (.func 90) #[] #[.pointer (some ⟨q, 0, none⟩)], .func (.func 91) #[] #[.pointer (some ⟨q, 0, none⟩)]] 84) = w3 at *
        generalize w2.heap.size = g at *
        have hin := HIN.out.below HB3.out
        have hao := HA1.out.below HB3.out
        obtain ⟨bb, hbb⟩ : ∃ b, b = m.hm := ⟨_, rfl⟩
        have HH : Hid (bb = m.hm) := hbb
        clear hbb
        refine (layMed p q m.md bb _ uhc0 (hin.cell 3 _ (by rw [HH.out]; rfl)) (hin.cell 4 _ rfl) hao.md).mono ?_
        rintro e w4 ⟨rfl, hb4⟩
        have f4 := below_cell hb4 f0
        have HO4 : Hid (OwnR w4 W1.heap.size _ _) := HO3.out.below hb4
        have HB4 : Hid (Below W1.heap.size W1 w4) := HB3.out.trans (hb4.mono HB3.out.size)
        clear hb4 f0 hin hao HO3 HB3 uhc0
        cases bb with
        | true =>
          have HE : Hid (writeTo four m (3 + 1) = writeTo four m 3 ++ [(128, 4, (⟨(laid m.md 4).toArray⟩ : ByteArray))]) := by unfold Hid; rw [HSUC.out]; exact congrArg (writeTo four m 3 ++ ·) (by show (if m.hm = true then _ else _) = _; rw [if_pos HH.out.symm]; rfl)
          generalize writeTo four m 3 = RO at *
          generalize (⟨(laid m.md 4).toArray⟩ : ByteArray) = bz at *
          clear HSUC
          go_wp2_with (at_builtin; refine wpList_append_own _ rfl _ _ 22 rfl W1.heap.size 30 i0 (.agg #[.int .u8 0, .int .u8 0, .string ⟨#[]⟩]) 3 24 Tryz.underlying22 hi hz0 hz1 hz2 rfl (by decide) _ _ _ rfl (HO4.out.alloc _) ⟨w4.heap.size, 0, none⟩ 1 1 [.int .u8 128, .int .u8 4, .string bz] rfl rfl (news3 w4 _ _ _ 30) (three_raw _ _ _) (by unfold maxLen; omega) (by omega) (Nat.le_trans HB4.out.size (by simp)) ?_; intro v6 w6 hown6 hgrow6 _)
          have hos : OwnR w6 W1.heap.size v6 (RO ++ [(128, 4, bz)]) := by
            unfold OwnR; rw [cellsR_snoc, List.length_append]; exact hown6
          obtain ⟨ad6, c6, rfl⟩ := slice_of_owns hown6
          have hbw : Below W1.heap.size w4 w6 := ((Below.refl _ _).alloc HB4.out.size _).grown hgrow6 (Nat.le_trans HB4.out.size (by simp)) (fun k e => (HO4.out.lt k e).1)
          have HB6 : Hid (Below W1.heap.size W1 w6) := HB4.out.trans hbw
          clear hown6 hgrow6 hbw
          go_roundw
          case rel => exact ⟨3 + 1, by omega, rfl, by rw [HE.out]; exact hos, HB6.out⟩
          case measure => simp [intOf]
        | false =>
          have HE : Hid (writeTo four m (3 + 1) = writeTo four m 3) := by unfold Hid; rw [HSUC.out, show (rowsOf four m)[3]'hlt = [] from by show (if m.hm = true then _ else _) = _; rw [← HH.out]; rfl, List.append_nil]
          generalize writeTo four m 3 = RO at *
          clear HSUC
          go_wp2
          go_roundw
          case rel => exact ⟨3 + 1, by omega, rfl, by rw [HE.out]; exact HO4.out, HB4.out⟩
          case measure => simp [intOf]
      · have hix : ∀ W, (Instr.index 80 (.agg #[.int .u8 1, .int .u8 2, .int .u8 3, .int .u8 4, .int .u8 5, .int .u8 6, .int .u8 7, .int .u8 8, .int .u8 9, .int .u8 10, .int .u8 16, .int .u8 32]) (.int .i64 4)).run Tryz.prog W = .ok (.int .u8 5) W := fun W => by kernel_rfl
        go_wp2_with fail
        clear hix
        refine (row5 four wr).mono ?_
        rintro e w2 ⟨q, rfl, hc0, hb2⟩
        have HO2 : Hid (OwnR w2 W1.heap.size _ _) := HO.out.below hb2
        have HB2 : Hid (Below W1.heap.size W1 w2) := HB.out.trans (hb2.mono HB.out.size)
        have uhc0 : (w2.alloc (.cells #[.int .u8 64, .int .i64 2, .func (.func 90) #[] #[.pointer (some ⟨q, 0, none⟩)], .func (.func 91) #[] #[.pointer (some ⟨q, 0, none⟩)]] 84)).cell? _ = some _ := c_up hc0
        have hb3 : Below w2.heap.size w2 (w2.alloc (.cells #[.int .u8 64, .int .i64 2, .func (.func 90) #[] #[.pointer (some ⟨q, 0, none⟩)], .func (.func 91) #[] #[.pointer (some ⟨q, 0, none⟩)]] 84)) := (Below.refl _ _).alloc (Nat.le_refl _) _
        have f0 : (w2.alloc (.cells #[.int .u8 64, .int .i64 2, .func (.func 90) #[] #[.pointer (some ⟨q, 0, none⟩)], .func (.func 91) #[] #[.pointer (some ⟨q, 0, none⟩)]] 84)).cell? ⟨w2.heap.size, 0, none⟩ = some (.int .u8 64) := cell_row (heap_new _ _) 0 _ rfl
        have HO3 : Hid (OwnR (w2.alloc (.cells #[.int .u8 64, .int .i64 2, .func (.func 90) #[] #[.pointer (some ⟨q, 0, none⟩)], .func (.func 91) #[] #[.pointer (some ⟨q, 0, none⟩)]] 84)) W1.heap.size _ _) := HO2.out.below hb3
        have HB3 : Hid (Below W1.heap.size W1 (w2.alloc (.cells #[.int .u8 64, .int .i64 2, .func (.func 90) #[] #[.pointer (some ⟨q, 0, none⟩)], .func (.func 91) #[] #[.pointer (some ⟨q, 0, none⟩)]] 84))) := HB2.out.trans (hb3.mono HB2.out.size)
        clear hb2 hb3 hc0 HO2 HB2 HO HB
        go_wp2_with fail
        generalize w2.alloc (.cells #[.int .u8 64, .int .i64 2, .func (.func 90) #[] #[.pointer (some ⟨q, 0, none⟩)], .func (.func 91) #[] #[.pointer (some ⟨q, 0, none⟩)]] 84) = w3 at *
        generalize w2.heap.size = g at *
        have hin := HIN.out.below HB3.out
        have hao := HA1.out.below HB3.out
        obtain ⟨bb, hbb⟩ : ∃ b, b = m.hp := ⟨_, rfl⟩
        have HH : Hid (bb = m.hp) := hbb
        clear hbb
        refine (layPref p q m.pf bb _ uhc0 (hin.cell 5 _ (by rw [HH.out]; rfl)) (hin.cell 6 _ rfl) hao.pf).mono ?_
        rintro e w4 ⟨rfl, hb4⟩
        have f4 := below_cell hb4 f0
        have HO4 : Hid (OwnR w4 W1.heap.size _ _) := HO3.out.below hb4
        have HB4 : Hid (Below W1.heap.size W1 w4) := HB3.out.trans (hb4.mono HB3.out.size)
        clear hb4 f0 hin hao HO3 HB3 uhc0
        cases bb with
        | true =>
          have HE : Hid (writeTo four m (4 + 1) = writeTo four m 4 ++ [(64, 5, (⟨(laid m.pf 4).toArray⟩ : ByteArray))]) := by unfold Hid; rw [HSUC.out]; exact congrArg (writeTo four m 4 ++ ·) (by show (if m.hp = true then _ else _) = _; rw [if_pos HH.out.symm]; rfl)
          generalize writeTo four m 4 = RO at *
          generalize (⟨(laid m.pf 4).toArray⟩ : ByteArray) = bz at *
          clear HSUC
          go_wp2_with (at_builtin; refine wpList_append_own _ rfl _ _ 22 rfl W1.heap.size 30 i0 (.agg #[.int .u8 0, .int .u8 0, .string ⟨#[]⟩]) 3 24 Tryz.underlying22 hi hz0 hz1 hz2 rfl (by decide) _ _ _ rfl (HO4.out.alloc _) ⟨w4.heap.size, 0, none⟩ 1 1 [.int .u8 64, .int .u8 5, .string bz] rfl rfl (news3 w4 _ _ _ 30) (three_raw _ _ _) (by unfold maxLen; omega) (by omega) (Nat.le_trans HB4.out.size (by simp)) ?_; intro v6 w6 hown6 hgrow6 _)
          have hos : OwnR w6 W1.heap.size v6 (RO ++ [(64, 5, bz)]) := by
            unfold OwnR; rw [cellsR_snoc, List.length_append]; exact hown6
          obtain ⟨ad6, c6, rfl⟩ := slice_of_owns hown6
          have hbw : Below W1.heap.size w4 w6 := ((Below.refl _ _).alloc HB4.out.size _).grown hgrow6 (Nat.le_trans HB4.out.size (by simp)) (fun k e => (HO4.out.lt k e).1)
          have HB6 : Hid (Below W1.heap.size W1 w6) := HB4.out.trans hbw
          clear hown6 hgrow6 hbw
          go_roundw
          case rel => exact ⟨4 + 1, by omega, rfl, by rw [HE.out]; exact hos, HB6.out⟩
          case measure => simp [intOf]
        | false =>
          have HE : Hid (writeTo four m (4 + 1) = writeTo four m 4) := by unfold Hid; rw [HSUC.out, show (rowsOf four m)[4]'hlt = [] from by show (if m.hp = true then _ else _) = _; rw [← HH.out]; rfl, List.append_nil]
          generalize writeTo four m 4 = RO at *
          clear HSUC
          go_wp2
          go_roundw
          case rel => exact ⟨4 + 1, by omega, rfl, by rw [HE.out]; exact HO4.out, HB4.out⟩
          case measure => simp [intOf]
      · have hix : ∀ W, (Instr.index 80 (.agg #[.int .u8 1, .int .u8 2, .int .u8 3, .int .u8 4, .int .u8 5, .int .u8 6, .int .u8 7, .int .u8 8, .int .u8 9, .int .u8 10, .int .u8 16, .int .u8 32]) (.int .i64 5)).run Tryz.prog W = .ok (.int .u8 6) W := fun W => by kernel_rfl
        go_wp2_with fail
        clear hix
        refine (row6 four wr).mono ?_
        rintro e w2 ⟨rfl, hb2⟩
        have HO2 : Hid (OwnR w2 W1.heap.size _ _) := HO.out.below hb2
        have HB2 : Hid (Below W1.heap.size W1 w2) := HB.out.trans (hb2.mono HB.out.size)
        have hb3 : Below w2.heap.size w2 (w2.alloc (.cells #[.int .u8 64, .int .i64 1, .func (.func 57) #[] #[], .func (.func 58) #[] #[]] 84)) := (Below.refl _ _).alloc (Nat.le_refl _) _
        have f0 : (w2.alloc (.cells #[.int .u8 64, .int .i64 1, .func (.func 57) #[] #[], .func (.func 58) #[] #[]] 84)).cell? ⟨w2.heap.size, 0, none⟩ = some (.int .u8 64) := cell_row (heap_new _ _) 0 _ rfl
        have HO3 : Hid (OwnR (w2.alloc (.cells #[.int .u8 64, .int .i64 1, .func (.func 57) #[] #[], .func (.func 58) #[] #[]] 84)) W1.heap.size _ _) := HO2.out.below hb3
        have HB3 : Hid (Below W1.heap.size W1 (w2.alloc (.cells #[.int .u8 64, .int .i64 1, .func (.func 57) #[] #[], .func (.func 58) #[] #[]] 84))) := HB2.out.trans (hb3.mono HB2.out.size)
        clear hb2 hb3  HO2 HB2 HO HB
        go_wp2_with fail
        generalize w2.alloc (.cells #[.int .u8 64, .int .i64 1, .func (.func 57) #[] #[], .func (.func 58) #[] #[]] 84) = w3 at *
        generalize w2.heap.size = g at *
        have hin := HIN.out.below HB3.out
        have hao := HA1.out.below HB3.out
        obtain ⟨bb, hbb⟩ : ∃ b, b = m.at_ := ⟨_, rfl⟩
        have HH : Hid (bb = m.at_) := hbb
        clear hbb
        refine (layAtomic p bb _ (hin.cell 7 _ (by rw [HH.out]; rfl))).mono ?_
        rintro e w4 ⟨rfl, hb4⟩
        have f4 := below_cell hb4 f0
        have HO4 : Hid (OwnR w4 W1.heap.size _ _) := HO3.out.below hb4
        have HB4 : Hid (Below W1.heap.size W1 w4) := HB3.out.trans (hb4.mono HB3.out.size)
        clear hb4 f0 hin hao HO3 HB3 
        cases bb with
        | true =>
          have HE : Hid (writeTo four m (5 + 1) = writeTo four m 5 ++ [(64, 6, (⟨#[]⟩ : ByteArray))]) := by unfold Hid; rw [HSUC.out]; exact congrArg (writeTo four m 5 ++ ·) (by show (if m.at_ = true then _ else _) = _; rw [if_pos HH.out.symm])
          generalize writeTo four m 5 = RO at *
          skip
          clear HSUC
          go_wp2_with (at_builtin; refine wpList_append_own _ rfl _ _ 22 rfl W1.heap.size 30 i0 (.agg #[.int .u8 0, .int .u8 0, .string ⟨#[]⟩]) 3 24 Tryz.underlying22 hi hz0 hz1 hz2 rfl (by decide) _ _ _ rfl (HO4.out.alloc _) ⟨w4.heap.size, 0, none⟩ 1 1 [.int .u8 64, .int .u8 6, .string ⟨#[]⟩] rfl rfl (news3 w4 _ _ _ 30) (three_raw _ _ _) (by unfold maxLen; omega) (by omega) (Nat.le_trans HB4.out.size (by simp)) ?_; intro v6 w6 hown6 hgrow6 _)
          have hos : OwnR w6 W1.heap.size v6 (RO ++ [(64, 6, ⟨#[]⟩)]) := by
            unfold OwnR; rw [cellsR_snoc, List.length_append]; exact hown6
          obtain ⟨ad6, c6, rfl⟩ := slice_of_owns hown6
          have hbw : Below W1.heap.size w4 w6 := ((Below.refl _ _).alloc HB4.out.size _).grown hgrow6 (Nat.le_trans HB4.out.size (by simp)) (fun k e => (HO4.out.lt k e).1)
          have HB6 : Hid (Below W1.heap.size W1 w6) := HB4.out.trans hbw
          clear hown6 hgrow6 hbw
          go_roundw
          case rel => exact ⟨5 + 1, by omega, rfl, by rw [HE.out]; exact hos, HB6.out⟩
          case measure => simp [intOf]
        | false =>
          have HE : Hid (writeTo four m (5 + 1) = writeTo four m 5) := by unfold Hid; rw [HSUC.out, show (rowsOf four m)[5]'hlt = [] from by show (if m.at_ = true then _ else _) = _; rw [← HH.out]; rfl, List.append_nil]
          generalize writeTo four m 5 = RO at *
          clear HSUC
          go_wp2
          go_roundw
          case rel => exact ⟨5 + 1, by omega, rfl, by rw [HE.out]; exact HO4.out, HB4.out⟩
          case measure => simp [intOf]
      · cases four with
        | true =>
          have hix : ∀ W, (Instr.index 80 (.agg #[.int .u8 1, .int .u8 2, .int .u8 3, .int .u8 4, .int .u8 5, .int .u8 6, .int .u8 7, .int .u8 8, .int .u8 9, .int .u8 10, .int .u8 16, .int .u8 32]) (.int .i64 6)).run Tryz.prog W = .ok (.int .u8 7) W := fun W => by kernel_rfl
          go_wp2_with fail
          clear hix
          refine (row7_true wr).mono ?_
          rintro e w2 ⟨q, rfl, ⟨hc0, hc1⟩, hb2⟩
          have HO2 : Hid (OwnR w2 W1.heap.size _ _) := HO.out.below hb2
          have HB2 : Hid (Below W1.heap.size W1 w2) := HB.out.trans (hb2.mono HB.out.size)
          have uhc0 : (w2.alloc (.cells #[.int .u8 192, .int .i64 1, .func (.func 92) #[] #[.pointer (some ⟨q, 0, none⟩), .pointer (some ⟨q + 1 + 1, 0, none⟩)], .func (.func 93) #[] #[.pointer (some ⟨q + 1 + 1, 0, none⟩)]] 84)).cell? _ = some _ := c_up hc0
          have uhc1 : (w2.alloc (.cells #[.int .u8 192, .int .i64 1, .func (.func 92) #[] #[.pointer (some ⟨q, 0, none⟩), .pointer (some ⟨q + 1 + 1, 0, none⟩)], .func (.func 93) #[] #[.pointer (some ⟨q + 1 + 1, 0, none⟩)]] 84)).cell? _ = some _ := c_up hc1
          have hb3 : Below w2.heap.size w2 (w2.alloc (.cells #[.int .u8 192, .int .i64 1, .func (.func 92) #[] #[.pointer (some ⟨q, 0, none⟩), .pointer (some ⟨q + 1 + 1, 0, none⟩)], .func (.func 93) #[] #[.pointer (some ⟨q + 1 + 1, 0, none⟩)]] 84)) := (Below.refl _ _).alloc (Nat.le_refl _) _
          have f0 : (w2.alloc (.cells #[.int .u8 192, .int .i64 1, .func (.func 92) #[] #[.pointer (some ⟨q, 0, none⟩), .pointer (some ⟨q + 1 + 1, 0, none⟩)], .func (.func 93) #[] #[.pointer (some ⟨q + 1 + 1, 0, none⟩)]] 84)).cell? ⟨w2.heap.size, 0, none⟩ = some (.int .u8 192) := cell_row (heap_new _ _) 0 _ rfl
          have HO3 : Hid (OwnR (w2.alloc (.cells #[.int .u8 192, .int .i64 1, .func (.func 92) #[] #[.pointer (some ⟨q, 0, none⟩), .pointer (some ⟨q + 1 + 1, 0, none⟩)], .func (.func 93) #[] #[.pointer (some ⟨q + 1 + 1, 0, none⟩)]] 84)) W1.heap.size _ _) := HO2.out.below hb3
          have HB3 : Hid (Below W1.heap.size W1 (w2.alloc (.cells #[.int .u8 192, .int .i64 1, .func (.func 92) #[] #[.pointer (some ⟨q, 0, none⟩), .pointer (some ⟨q + 1 + 1, 0, none⟩)], .func (.func 93) #[] #[.pointer (some ⟨q + 1 + 1, 0, none⟩)]] 84))) := HB2.out.trans (hb3.mono HB2.out.size)
          clear hb2 hb3 hc0 hc1 HO2 HB2 HO HB
          go_wp2_with fail
          generalize w2.alloc (.cells #[.int .u8 192, .int .i64 1, .func (.func 92) #[] #[.pointer (some ⟨q, 0, none⟩), .pointer (some ⟨q + 1 + 1, 0, none⟩)], .func (.func 93) #[] #[.pointer (some ⟨q + 1 + 1, 0, none⟩)]] 84) = w3 at *
          generalize w2.heap.size = g at *
          have hin := HIN.out.below HB3.out
          have hao := HA1.out.below HB3.out
          refine (layAgg_four p q (q + 1 + 1) m.ga m.ai _ uhc0 uhc1 (hin.cell 8 _ rfl) (hin.cell 9 _ rfl) hao.ga hao.ai).mono ?_
          rintro e w4 ⟨rfl, hb4⟩
          have f4 := below_cell hb4 f0
          have HO4 : Hid (OwnR w4 W1.heap.size _ _) := HO3.out.below hb4
          have HB4 : Hid (Below W1.heap.size W1 w4) := HB3.out.trans (hb4.mono HB3.out.size)
          clear hb4 f0 hin hao HO3 HB3 uhc0 uhc1
          have HF : Hid (fitN true m.ga = m.ga) := by unfold Hid; simp [fitN]
          by_cases hz : 0 < m.ga
          · have HZ : Hid (0 < m.ga) := hz
            have hd : decide (0 < m.ga) = true := by simpa using hz
            rw [hd]
            clear hz hd
            have HE : Hid (writeTo true m (6 + 1) = writeTo true m 6 ++ [(192, 7, (⟨(laid m.ga 4 ++ laid m.ai 4).toArray⟩ : ByteArray))]) := by unfold Hid; rw [HSUC.out]; exact congrArg (writeTo true m 6 ++ ·) (by show (if 0 < m.ga then _ else _) = _; rw [if_pos HZ.out, HF.out]; rfl)
            generalize writeTo true m 6 = RO at *
            generalize (⟨(laid m.ga 4 ++ laid m.ai 4).toArray⟩ : ByteArray) = bz at *
            clear HSUC
            go_wp2_with (at_builtin; refine wpList_append_own _ rfl _ _ 22 rfl W1.heap.size 30 i0 (.agg #[.int .u8 0, .int .u8 0, .string ⟨#[]⟩]) 3 24 Tryz.underlying22 hi hz0 hz1 hz2 rfl (by decide) _ _ _ rfl (HO4.out.alloc _) ⟨w4.heap.size, 0, none⟩ 1 1 [.int .u8 192, .int .u8 7, .string bz] rfl rfl (news3 w4 _ _ _ 30) (three_raw _ _ _) (by unfold maxLen; omega) (by omega) (Nat.le_trans HB4.out.size (by simp)) ?_; intro v6 w6 hown6 hgrow6 _)
            have hos : OwnR w6 W1.heap.size v6 (RO ++ [(192, 7, bz)]) := by
              unfold OwnR; rw [cellsR_snoc, List.length_append]; exact hown6
            obtain ⟨ad6, c6, rfl⟩ := slice_of_owns hown6
            have hbw : Below W1.heap.size w4 w6 := ((Below.refl _ _).alloc HB4.out.size _).grown hgrow6 (Nat.le_trans HB4.out.size (by simp)) (fun k e => (HO4.out.lt k e).1)
            have HB6 : Hid (Below W1.heap.size W1 w6) := HB4.out.trans hbw
            clear hown6 hgrow6 hbw
            go_roundw
            case rel => exact ⟨6 + 1, by omega, rfl, by rw [HE.out]; exact hos, HB6.out⟩
            case measure => simp [intOf]
          · have HZ : Hid (¬ 0 < m.ga) := hz
            have hd : decide (0 < m.ga) = false := by simpa using hz
            rw [hd]
            clear hz hd
            have HE : Hid (writeTo true m (6 + 1) = writeTo true m 6) := by unfold Hid; rw [HSUC.out, show (rowsOf true m)[6]'hlt = [] from by show (if 0 < m.ga then _ else _) = _; rw [if_neg HZ.out], List.append_nil]
            generalize writeTo true m 6 = RO at *
            clear HSUC
            go_wp2
            go_roundw
            case rel => exact ⟨6 + 1, by omega, rfl, by rw [HE.out]; exact HO4.out, HB4.out⟩
            case measure => simp [intOf]
        | false =>
          have hix : ∀ W, (Instr.index 80 (.agg #[.int .u8 1, .int .u8 2, .int .u8 3, .int .u8 4, .int .u8 5, .int .u8 6, .int .u8 7, .int .u8 8, .int .u8 9, .int .u8 10, .int .u8 16, .int .u8 32]) (.int .i64 6)).run Tryz.prog W = .ok (.int .u8 7) W := fun W => by kernel_rfl
          go_wp2_with fail
          clear hix
          refine (row7_false wr).mono ?_
          rintro e w2 ⟨q, rfl, ⟨hc0, hc1⟩, hb2⟩
          have HO2 : Hid (OwnR w2 W1.heap.size _ _) := HO.out.below hb2
          have HB2 : Hid (Below W1.heap.size W1 w2) := HB.out.trans (hb2.mono HB.out.size)
          have uhc0 : (w2.alloc (.cells #[.int .u8 192, .int .i64 1, .func (.func 92) #[] #[.pointer (some ⟨q, 0, none⟩), .pointer (some ⟨q + 1 + 1, 0, none⟩)], .func (.func 93) #[] #[.pointer (some ⟨q + 1 + 1, 0, none⟩)]] 84)).cell? _ = some _ := c_up hc0
          have uhc1 : (w2.alloc (.cells #[.int .u8 192, .int .i64 1, .func (.func 92) #[] #[.pointer (some ⟨q, 0, none⟩), .pointer (some ⟨q + 1 + 1, 0, none⟩)], .func (.func 93) #[] #[.pointer (some ⟨q + 1 + 1, 0, none⟩)]] 84)).cell? _ = some _ := c_up hc1
          have hb3 : Below w2.heap.size w2 (w2.alloc (.cells #[.int .u8 192, .int .i64 1, .func (.func 92) #[] #[.pointer (some ⟨q, 0, none⟩), .pointer (some ⟨q + 1 + 1, 0, none⟩)], .func (.func 93) #[] #[.pointer (some ⟨q + 1 + 1, 0, none⟩)]] 84)) := (Below.refl _ _).alloc (Nat.le_refl _) _
          have f0 : (w2.alloc (.cells #[.int .u8 192, .int .i64 1, .func (.func 92) #[] #[.pointer (some ⟨q, 0, none⟩), .pointer (some ⟨q + 1 + 1, 0, none⟩)], .func (.func 93) #[] #[.pointer (some ⟨q + 1 + 1, 0, none⟩)]] 84)).cell? ⟨w2.heap.size, 0, none⟩ = some (.int .u8 192) := cell_row (heap_new _ _) 0 _ rfl
          have HO3 : Hid (OwnR (w2.alloc (.cells #[.int .u8 192, .int .i64 1, .func (.func 92) #[] #[.pointer (some ⟨q, 0, none⟩), .pointer (some ⟨q + 1 + 1, 0, none⟩)], .func (.func 93) #[] #[.pointer (some ⟨q + 1 + 1, 0, none⟩)]] 84)) W1.heap.size _ _) := HO2.out.below hb3
          have HB3 : Hid (Below W1.heap.size W1 (w2.alloc (.cells #[.int .u8 192, .int .i64 1, .func (.func 92) #[] #[.pointer (some ⟨q, 0, none⟩), .pointer (some ⟨q + 1 + 1, 0, none⟩)], .func (.func 93) #[] #[.pointer (some ⟨q + 1 + 1, 0, none⟩)]] 84))) := HB2.out.trans (hb3.mono HB2.out.size)
          clear hb2 hb3 hc0 hc1 HO2 HB2 HO HB
          go_wp2_with fail
          generalize w2.alloc (.cells #[.int .u8 192, .int .i64 1, .func (.func 92) #[] #[.pointer (some ⟨q, 0, none⟩), .pointer (some ⟨q + 1 + 1, 0, none⟩)], .func (.func 93) #[] #[.pointer (some ⟨q + 1 + 1, 0, none⟩)]] 84) = w3 at *
          generalize w2.heap.size = g at *
          have hin := HIN.out.below HB3.out
          have hao := HA1.out.below HB3.out
          by_cases hs : m.ga ≤ 65535
          · refine (layAgg_two p q (q + 1 + 1) m.ga m.ai _ uhc0 uhc1 (hin.cell 8 _ rfl) (hin.cell 9 _ rfl) hao.ga hao.ai hs).mono ?_
            rintro e w4 ⟨rfl, hb4⟩
            have f4 := below_cell hb4 f0
            have HO4 : Hid (OwnR w4 W1.heap.size _ _) := HO3.out.below hb4
            have HB4 : Hid (Below W1.heap.size W1 w4) := HB3.out.trans (hb4.mono HB3.out.size)
            clear hb4 f0 hin hao HO3 HB3 uhc0 uhc1
            have HF : Hid (fitN false m.ga = m.ga) := by unfold Hid; simp [fitN]; omega
            by_cases hz : 0 < m.ga
            · have HZ : Hid (0 < m.ga) := hz
              have hd : decide (0 < m.ga) = true := by simpa using hz
              rw [hd]
              clear hz hd
              have HE : Hid (writeTo false m (6 + 1) = writeTo false m 6 ++ [(192, 7, (⟨(laid m.ga 2 ++ laid m.ai 4).toArray⟩ : ByteArray))]) := by unfold Hid; rw [HSUC.out]; exact congrArg (writeTo false m 6 ++ ·) (by show (if 0 < m.ga then _ else _) = _; rw [if_pos HZ.out, HF.out]; rfl)
              generalize writeTo false m 6 = RO at *
              generalize (⟨(laid m.ga 2 ++ laid m.ai 4).toArray⟩ : ByteArray) = bz at *
              clear HSUC
              go_wp2_with (at_builtin; refine wpList_append_own _ rfl _ _ 22 rfl W1.heap.size 30 i0 (.agg #[.int .u8 0, .int .u8 0, .string ⟨#[]⟩]) 3 24 Tryz.underlying22 hi hz0 hz1 hz2 rfl (by decide) _ _ _ rfl (HO4.out.alloc _) ⟨w4.heap.size, 0, none⟩ 1 1 [.int .u8 192, .int .u8 7, .string bz] rfl rfl (news3 w4 _ _ _ 30) (three_raw _ _ _) (by unfold maxLen; omega) (by omega) (Nat.le_trans HB4.out.size (by simp)) ?_; intro v6 w6 hown6 hgrow6 _)
              have hos : OwnR w6 W1.heap.size v6 (RO ++ [(192, 7, bz)]) := by
                unfold OwnR; rw [cellsR_snoc, List.length_append]; exact hown6
              obtain ⟨ad6, c6, rfl⟩ := slice_of_owns hown6
              have hbw : Below W1.heap.size w4 w6 := ((Below.refl _ _).alloc HB4.out.size _).grown hgrow6 (Nat.le_trans HB4.out.size (by simp)) (fun k e => (HO4.out.lt k e).1)
              have HB6 : Hid (Below W1.heap.size W1 w6) := HB4.out.trans hbw
              clear hown6 hgrow6 hbw
              go_roundw
              case rel => exact ⟨6 + 1, by omega, rfl, by rw [HE.out]; exact hos, HB6.out⟩
              case measure => simp [intOf]
            · have HZ : Hid (¬ 0 < m.ga) := hz
              have hd : decide (0 < m.ga) = false := by simpa using hz
              rw [hd]
              clear hz hd
              have HE : Hid (writeTo false m (6 + 1) = writeTo false m 6) := by unfold Hid; rw [HSUC.out, show (rowsOf false m)[6]'hlt = [] from by show (if 0 < m.ga then _ else _) = _; rw [if_neg HZ.out], List.append_nil]
              generalize writeTo false m 6 = RO at *
              clear HSUC
              go_wp2
              go_roundw
              case rel => exact ⟨6 + 1, by omega, rfl, by rw [HE.out]; exact HO4.out, HB4.out⟩
              case measure => simp [intOf]
          · refine (layAgg_long p q (q + 1 + 1) m.ga m.ai _ uhc0 uhc1 (hin.cell 8 _ rfl) (hin.cell 9 _ rfl) hao.ga hao.ai (by omega)).mono ?_
            rintro e w4 ⟨rfl, hb4⟩
            have f4 := below_cell hb4 f0
            have HO4 : Hid (OwnR w4 W1.heap.size _ _) := HO3.out.below hb4
            have HB4 : Hid (Below W1.heap.size W1 w4) := HB3.out.trans (hb4.mono HB3.out.size)
            clear hb4 f0 hin hao HO3 HB3 uhc0 uhc1
            have HF : Hid (fitN false m.ga = 23456) := by unfold Hid; simp [fitN]; omega
            by_cases hz : 0 < m.ga
            · have HZ : Hid (0 < m.ga) := hz
              have hd : decide (0 < m.ga) = true := by simpa using hz
              rw [hd]
              clear hz hd
              have HE : Hid (writeTo false m (6 + 1) = writeTo false m 6 ++ [(192, 7, (⟨(laid 23456 2 ++ laid m.ai 4).toArray⟩ : ByteArray))]) := by unfold Hid; rw [HSUC.out]; exact congrArg (writeTo false m 6 ++ ·) (by show (if 0 < m.ga then _ else _) = _; rw [if_pos HZ.out, HF.out]; rfl)
              generalize writeTo false m 6 = RO at *
              generalize (⟨(laid 23456 2 ++ laid m.ai 4).toArray⟩ : ByteArray) = bz at *
              clear HSUC
              go_wp2_with (at_builtin; refine wpList_append_own _ rfl _ _ 22 rfl W1.heap.size 30 i0 (.agg #[.int .u8 0, .int .u8 0, .string ⟨#[]⟩]) 3 24 Tryz.underlying22 hi hz0 hz1 hz2 rfl (by decide) _ _ _ rfl (HO4.out.alloc _) ⟨w4.heap.size, 0, none⟩ 1 1 [.int .u8 192, .int .u8 7, .string bz] rfl rfl (news3 w4 _ _ _ 30) (three_raw _ _ _) (by unfold maxLen; omega) (by omega) (Nat.le_trans HB4.out.size (by simp)) ?_; intro v6 w6 hown6 hgrow6 _)
              have hos : OwnR w6 W1.heap.size v6 (RO ++ [(192, 7, bz)]) := by
                unfold OwnR; rw [cellsR_snoc, List.length_append]; exact hown6
              obtain ⟨ad6, c6, rfl⟩ := slice_of_owns hown6
              have hbw : Below W1.heap.size w4 w6 := ((Below.refl _ _).alloc HB4.out.size _).grown hgrow6 (Nat.le_trans HB4.out.size (by simp)) (fun k e => (HO4.out.lt k e).1)
              have HB6 : Hid (Below W1.heap.size W1 w6) := HB4.out.trans hbw
              clear hown6 hgrow6 hbw
              go_roundw
              case rel => exact ⟨6 + 1, by omega, rfl, by rw [HE.out]; exact hos, HB6.out⟩
              case measure => simp [intOf]
            · have HZ : Hid (¬ 0 < m.ga) := hz
              have hd : decide (0 < m.ga) = false := by simpa using hz
              rw [hd]
              clear hz hd
              have HE : Hid (writeTo false m (6 + 1) = writeTo false m 6) := by unfold Hid; rw [HSUC.out, show (rowsOf false m)[6]'hlt = [] from by show (if 0 < m.ga then _ else _) = _; rw [if_neg HZ.out], List.append_nil]
              generalize writeTo false m 6 = RO at *
              clear HSUC
              go_wp2
              go_roundw
              case rel => exact ⟨6 + 1, by omega, rfl, by rw [HE.out]; exact HO4.out, HB4.out⟩
              case measure => simp [intOf]
      · have hix : ∀ W, (Instr.index 80 (.agg #[.int .u8 1, .int .u8 2, .int .u8 3, .int .u8 4, .int .u8 5, .int .u8 6, .int .u8 7, .int .u8 8, .int .u8 9, .int .u8 10, .int .u8 16, .int .u8 32]) (.int .i64 7)).run Tryz.prog W = .ok (.int .u8 8) W := fun W => by kernel_rfl
        go_wp2_with fail
        clear hix
        refine (row8 four wr).mono ?_
        rintro e w2 ⟨q, rfl, ⟨hc0, hc1, hc2⟩, hb2⟩
        have HO2 : Hid (OwnR w2 W1.heap.size _ _) := HO.out.below hb2
        have HB2 : Hid (Below W1.heap.size W1 w2) := HB.out.trans (hb2.mono HB.out.size)
        have uhc0 : (w2.alloc (.cells #[.int .u8 192, .int .i64 2, .func (.func 94) #[] #[.pointer (some ⟨q + 1, 0, none⟩), .pointer (some ⟨q, 0, none⟩)], .func (.func 95) #[] #[.pointer (some ⟨q + 1 + 1, 0, none⟩), .pointer (some ⟨q, 0, none⟩)]] 84)).cell? _ = some _ := c_up hc0
        have uhc1 : (w2.alloc (.cells #[.int .u8 192, .int .i64 2, .func (.func 94) #[] #[.pointer (some ⟨q + 1, 0, none⟩), .pointer (some ⟨q, 0, none⟩)], .func (.func 95) #[] #[.pointer (some ⟨q + 1 + 1, 0, none⟩), .pointer (some ⟨q, 0, none⟩)]] 84)).cell? _ = some _ := c_up hc1
        have uhc2 : (w2.alloc (.cells #[.int .u8 192, .int .i64 2, .func (.func 94) #[] #[.pointer (some ⟨q + 1, 0, none⟩), .pointer (some ⟨q, 0, none⟩)], .func (.func 95) #[] #[.pointer (some ⟨q + 1 + 1, 0, none⟩), .pointer (some ⟨q, 0, none⟩)]] 84)).cell? _ = some _ := c_up hc2
        have hb3 : Below w2.heap.size w2 (w2.alloc (.cells #[.int .u8 192, .int .i64 2, .func (.func 94) #[] #[.pointer (some ⟨q + 1, 0, none⟩), .pointer (some ⟨q, 0, none⟩)], .func (.func 95) #[] #[.pointer (some ⟨q + 1 + 1, 0, none⟩), .pointer (some ⟨q, 0, none⟩)]] 84)) := (Below.refl _ _).alloc (Nat.le_refl _) _
        have f0 : (w2.alloc (.cells #[.int .u8 192, .int .i64 2, .func (.func 94) #[] #[.pointer (some ⟨q + 1, 0, none⟩), .pointer (some ⟨q, 0, none⟩)], .func (.func 95) #[] #[.pointer (some ⟨q + 1 + 1, 0, none⟩), .pointer (some ⟨q, 0, none⟩)]] 84)).cell? ⟨w2.heap.size, 0, none⟩ = some (.int .u8 192) := cell_row (heap_new _ _) 0 _ rfl
        have HO3 : Hid (OwnR (w2.alloc (.cells #[.int .u8 192, .int .i64 2, .func (.func 94) #[] #[.pointer (some ⟨q + 1, 0, none⟩), .pointer (some ⟨q, 0, none⟩)], .func (.func 95) #[] #[.pointer (some ⟨q + 1 + 1, 0, none⟩), .pointer (some ⟨q, 0, none⟩)]] 84)) W1.heap.size _ _) := HO2.out.below hb3
        have HB3 : Hid (Below W1.heap.size W1 (w2.alloc (.cells #[.int .u8 192, .int .i64 2, .func (.func 94) #[] #[.pointer (some ⟨q + 1, 0, none⟩), .pointer (some ⟨q, 0, none⟩)], .func (.func 95) #[] #[.pointer (some ⟨q + 1 + 1, 0, none⟩), .pointer (some ⟨q, 0, none⟩)]] 84))) := HB2.out.trans (hb3.mono HB2.out.size)
        clear hb2 hb3 hc0 hc1 hc2 HO2 HB2 HO HB
        go_wp2_with fail
        generalize w2.alloc (.cells #[.int .u8 192, .int .i64 2, .func (.func 94) #[] #[.pointer (some ⟨q + 1, 0, none⟩), .pointer (some ⟨q, 0, none⟩)], .func (.func 95) #[] #[.pointer (some ⟨q + 1 + 1, 0, none⟩), .pointer (some ⟨q, 0, none⟩)]] 84) = w3 at *
        generalize w2.heap.size = g at *
        have hin := HIN.out.below HB3.out
        have hao := HA1.out.below HB3.out
        by_cases hz : m.C = []
        · refine (layComms p (q + 1) q m.vc (bytesN 4 m.C) false w3 uhc1 uhc0 (hin.cell 10 _ rfl) HSC.out (by have h := EncU m.vc m.C w3.drew hao.comm; rw [HMAY.out.comm] at h; exact h) (bytes_empty _ _ hz)).mono ?_
          rintro e w4 ⟨rfl, hb4⟩
          have f4 := below_cell hb4 f0
          have HO4 : Hid (OwnR w4 W1.heap.size _ _) := HO3.out.below hb4
          have HB4 : Hid (Below W1.heap.size W1 w4) := HB3.out.trans (hb4.mono HB3.out.size)
          clear hb4 f0 hin hao HO3 HB3 uhc0 uhc1 uhc2
          have HZ : Hid (m.C = []) := hz
          clear hz
          have HE : Hid (writeTo four m (7 + 1) = writeTo four m 7) := by unfold Hid; rw [HSUC.out, show (rowsOf four m)[7]'hlt = [] from by show (if m.C = [] then _ else _) = _; rw [if_pos HZ.out], List.append_nil]
          generalize writeTo four m 7 = RO at *
          clear HSUC
          go_wp2
          go_roundw
          case rel => exact ⟨7 + 1, by omega, rfl, by rw [HE.out]; exact HO4.out, HB4.out⟩
          case measure => simp [intOf]
        · refine (layComms p (q + 1) q m.vc (bytesN 4 m.C) true w3 uhc1 uhc0 (hin.cell 10 _ rfl) HSC.out (by have h := EncU m.vc m.C w3.drew hao.comm; rw [HMAY.out.comm] at h; exact h) (by cases hG : m.C with | nil => exact absurd hG hz | cons x T => exact (laid_ne x 4 (by omega) _).elim fun a h => h.elim fun t h => empty_of _ a t (by simp only [List.flatMap_cons]; exact h))).mono ?_
          rintro e w4 ⟨rfl, hb4⟩
          have f4 := below_cell hb4 f0
          have HO4 : Hid (OwnR w4 W1.heap.size _ _) := HO3.out.below hb4
          have HB4 : Hid (Below W1.heap.size W1 w4) := HB3.out.trans (hb4.mono HB3.out.size)
          clear hb4 f0 hin hao HO3 HB3 uhc0 uhc1 uhc2
          have HZ : Hid (¬ m.C = []) := hz
          clear hz
          have HE : Hid (writeTo four m (7 + 1) = writeTo four m 7 ++ [(192, 8, (bytesN 4 m.C))]) := by unfold Hid; rw [HSUC.out]; exact congrArg (writeTo four m 7 ++ ·) (by show (if m.C = [] then _ else _) = _; rw [if_neg HZ.out])
          generalize writeTo four m 7 = RO at *
          generalize (bytesN 4 m.C) = bz at *
          clear HSUC
          go_wp2_with (at_builtin; refine wpList_append_own _ rfl _ _ 22 rfl W1.heap.size 30 i0 (.agg #[.int .u8 0, .int .u8 0, .string ⟨#[]⟩]) 3 24 Tryz.underlying22 hi hz0 hz1 hz2 rfl (by decide) _ _ _ rfl (HO4.out.alloc _) ⟨w4.heap.size, 0, none⟩ 1 1 [.int .u8 192, .int .u8 8, .string bz] rfl rfl (news3 w4 _ _ _ 30) (three_raw _ _ _) (by unfold maxLen; omega) (by omega) (Nat.le_trans HB4.out.size (by simp)) ?_; intro v6 w6 hown6 hgrow6 _)
          have hos : OwnR w6 W1.heap.size v6 (RO ++ [(192, 8, bz)]) := by
            unfold OwnR; rw [cellsR_snoc, List.length_append]; exact hown6
          obtain ⟨ad6, c6, rfl⟩ := slice_of_owns hown6
          have hbw : Below W1.heap.size w4 w6 := ((Below.refl _ _).alloc HB4.out.size _).grown hgrow6 (Nat.le_trans HB4.out.size (by simp)) (fun k e => (HO4.out.lt k e).1)
          have HB6 : Hid (Below W1.heap.size W1 w6) := HB4.out.trans hbw
          clear hown6 hgrow6 hbw
          go_roundw
          case rel => exact ⟨7 + 1, by omega, rfl, by rw [HE.out]; exact hos, HB6.out⟩
          case measure => simp [intOf]
      · have hix : ∀ W, (Instr.index 80 (.agg #[.int .u8 1, .int .u8 2, .int .u8 3, .int .u8 4, .int .u8 5, .int .u8 6, .int .u8 7, .int .u8 8, .int .u8 9, .int .u8 10, .int .u8 16, .int .u8 32]) (.int .i64 8)).run Tryz.prog W = .ok (.int .u8 9) W := fun W => by kernel_rfl
        go_wp2_with fail
        clear hix
        refine (row9 four wr).mono ?_
        rintro e w2 ⟨q, rfl, hc0, hb2⟩
        have HO2 : Hid (OwnR w2 W1.heap.size _ _) := HO.out.below hb2
        have HB2 : Hid (Below W1.heap.size W1 w2) := HB.out.trans (hb2.mono HB.out.size)
        have uhc0 : (w2.alloc (.cells #[.int .u8 128, .int .i64 2, .func (.func 90) #[] #[.pointer (some ⟨q, 0, none⟩)], .func (.func 91) #[] #[.pointer (some ⟨q, 0, none⟩)]] 84)).cell? _ = some _ := c_up hc0
        have hb3 : Below w2.heap.size w2 (w2.alloc (.cells #[.int .u8 128, .int .i64 2, .func (.func 90) #[] #[.pointer (some ⟨q, 0, none⟩)], .func (.func 91) #[] #[.pointer (some ⟨q, 0, none⟩)]] 84)) := (Below.refl _ _).alloc (Nat.le_refl _) _
        have f0 : (w2.alloc (.cells #[.int .u8 128, .int .i64 2, .func (.func 90) #[] #[.pointer (some ⟨q, 0, none⟩)], .func (.func 91) #[] #[.pointer (some ⟨q, 0, none⟩)]] 84)).cell? ⟨w2.heap.size, 0, none⟩ = some (.int .u8 128) := cell_row (heap_new _ _) 0 _ rfl
        have HO3 : Hid (OwnR (w2.alloc (.cells #[.int .u8 128, .int .i64 2, .func (.func 90) #[] #[.pointer (some ⟨q, 0, none⟩)], .func (.func 91) #[] #[.pointer (some ⟨q, 0, none⟩)]] 84)) W1.heap.size _ _) := HO2.out.below hb3
        have HB3 : Hid (Below W1.heap.size W1 (w2.alloc (.cells #[.int .u8 128, .int .i64 2, .func (.func 90) #[] #[.pointer (some ⟨q, 0, none⟩)], .func (.func 91) #[] #[.pointer (some ⟨q, 0, none⟩)]] 84))) := HB2.out.trans (hb3.mono HB2.out.size)
        clear hb2 hb3 hc0 HO2 HB2 HO HB
        go_wp2_with fail
        generalize w2.alloc (.cells #[.int .u8 128, .int .i64 2, .func (.func 90) #[] #[.pointer (some ⟨q, 0, none⟩)], .func (.func 91) #[] #[.pointer (some ⟨q, 0, none⟩)]] 84) = w3 at *
        generalize w2.heap.size = g at *
        have hin := HIN.out.below HB3.out
        have hao := HA1.out.below HB3.out
        obtain ⟨bb, hbb⟩ : ∃ b, b = m.ho := ⟨_, rfl⟩
        have HH : Hid (bb = m.ho) := hbb
        clear hbb
        refine (layOrig p q m.og bb _ uhc0 (hin.cell 13 _ (by rw [HH.out]; rfl)) (hin.cell 14 _ rfl) hao.og).mono ?_
        rintro e w4 ⟨rfl, hb4⟩
        have f4 := below_cell hb4 f0
        have HO4 : Hid (OwnR w4 W1.heap.size _ _) := HO3.out.below hb4
        have HB4 : Hid (Below W1.heap.size W1 w4) := HB3.out.trans (hb4.mono HB3.out.size)
        clear hb4 f0 hin hao HO3 HB3 uhc0
        cases bb with
        | true =>
          have HE : Hid (writeTo four m (8 + 1) = writeTo four m 8 ++ [(128, 9, (⟨(laid m.og 4).toArray⟩ : ByteArray))]) := by unfold Hid; rw [HSUC.out]; exact congrArg (writeTo four m 8 ++ ·) (by show (if m.ho = true then _ else _) = _; rw [if_pos HH.out.symm]; rfl)
          generalize writeTo four m 8 = RO at *
          generalize (⟨(laid m.og 4).toArray⟩ : ByteArray) = bz at *
          clear HSUC
          go_wp2_with (at_builtin; refine wpList_append_own _ rfl _ _ 22 rfl W1.heap.size 30 i0 (.agg #[.int .u8 0, .int .u8 0, .string ⟨#[]⟩]) 3 24 Tryz.underlying22 hi hz0 hz1 hz2 rfl (by decide) _ _ _ rfl (HO4.out.alloc _) ⟨w4.heap.size, 0, none⟩ 1 1 [.int .u8 128, .int .u8 9, .string bz] rfl rfl (news3 w4 _ _ _ 30) (three_raw _ _ _) (by unfold maxLen; omega) (by omega) (Nat.le_trans HB4.out.size (by simp)) ?_; intro v6 w6 hown6 hgrow6 _)
          have hos : OwnR w6 W1.heap.size v6 (RO ++ [(128, 9, bz)]) := by
            unfold OwnR; rw [cellsR_snoc, List.length_append]; exact hown6
          obtain ⟨ad6, c6, rfl⟩ := slice_of_owns hown6
          have hbw : Below W1.heap.size w4 w6 := ((Below.refl _ _).alloc HB4.out.size _).grown hgrow6 (Nat.le_trans HB4.out.size (by simp)) (fun k e => (HO4.out.lt k e).1)
          have HB6 : Hid (Below W1.heap.size W1 w6) := HB4.out.trans hbw
          clear hown6 hgrow6 hbw
          go_roundw
          case rel => exact ⟨8 + 1, by omega, rfl, by rw [HE.out]; exact hos, HB6.out⟩
          case measure => simp [intOf]
        | false =>
          have HE : Hid (writeTo four m (8 + 1) = writeTo four m 8) := by unfold Hid; rw [HSUC.out, show (rowsOf four m)[8]'hlt = [] from by show (if m.ho = true then _ else _) = _; rw [← HH.out]; rfl, List.append_nil]
          generalize writeTo four m 8 = RO at *
          clear HSUC
          go_wp2
          go_roundw
          case rel => exact ⟨8 + 1, by omega, rfl, by rw [HE.out]; exact HO4.out, HB4.out⟩
          case measure => simp [intOf]
      · have hix : ∀ W, (Instr.index 80 (.agg #[.int .u8 1, .int .u8 2, .int .u8 3, .int .u8 4, .int .u8 5, .int .u8 6, .int .u8 7, .int .u8 8, .int .u8 9, .int .u8 10, .int .u8 16, .int .u8 32]) (.int .i64 9)).run Tryz.prog W = .ok (.int .u8 10) W := fun W => by kernel_rfl
        go_wp2_with fail
        clear hix
        refine (row10 four wr).mono ?_
        rintro e w2 ⟨q, rfl, ⟨hc0, hc1, hc2⟩, hb2⟩
        have HO2 : Hid (OwnR w2 W1.heap.size _ _) := HO.out.below hb2
        have HB2 : Hid (Below W1.heap.size W1 w2) := HB.out.trans (hb2.mono HB.out.size)
        have uhc0 : (w2.alloc (.cells #[.int .u8 128, .int .i64 2, .func (.func 94) #[] #[.pointer (some ⟨q + 1, 0, none⟩), .pointer (some ⟨q, 0, none⟩)], .func (.func 95) #[] #[.pointer (some ⟨q + 1 + 1, 0, none⟩), .pointer (some ⟨q, 0, none⟩)]] 84)).cell? _ = some _ := c_up hc0
        have uhc1 : (w2.alloc (.cells #[.int .u8 128, .int .i64 2, .func (.func 94) #[] #[.pointer (some ⟨q + 1, 0, none⟩), .pointer (some ⟨q, 0, none⟩)], .func (.func 95) #[] #[.pointer (some ⟨q + 1 + 1, 0, none⟩), .pointer (some ⟨q, 0, none⟩)]] 84)).cell? _ = some _ := c_up hc1
        have uhc2 : (w2.alloc (.cells #[.int .u8 128, .int .i64 2, .func (.func 94) #[] #[.pointer (some ⟨q + 1, 0, none⟩), .pointer (some ⟨q, 0, none⟩)], .func (.func 95) #[] #[.pointer (some ⟨q + 1 + 1, 0, none⟩), .pointer (some ⟨q, 0, none⟩)]] 84)).cell? _ = some _ := c_up hc2
        have hb3 : Below w2.heap.size w2 (w2.alloc (.cells #[.int .u8 128, .int .i64 2, .func (.func 94) #[] #[.pointer (some ⟨q + 1, 0, none⟩), .pointer (some ⟨q, 0, none⟩)], .func (.func 95) #[] #[.pointer (some ⟨q + 1 + 1, 0, none⟩), .pointer (some ⟨q, 0, none⟩)]] 84)) := (Below.refl _ _).alloc (Nat.le_refl _) _
        have f0 : (w2.alloc (.cells #[.int .u8 128, .int .i64 2, .func (.func 94) #[] #[.pointer (some ⟨q + 1, 0, none⟩), .pointer (some ⟨q, 0, none⟩)], .func (.func 95) #[] #[.pointer (some ⟨q + 1 + 1, 0, none⟩), .pointer (some ⟨q, 0, none⟩)]] 84)).cell? ⟨w2.heap.size, 0, none⟩ = some (.int .u8 128) := cell_row (heap_new _ _) 0 _ rfl
        have HO3 : Hid (OwnR (w2.alloc (.cells #[.int .u8 128, .int .i64 2, .func (.func 94) #[] #[.pointer (some ⟨q + 1, 0, none⟩), .pointer (some ⟨q, 0, none⟩)], .func (.func 95) #[] #[.pointer (some ⟨q + 1 + 1, 0, none⟩), .pointer (some ⟨q, 0, none⟩)]] 84)) W1.heap.size _ _) := HO2.out.below hb3
        have HB3 : Hid (Below W1.heap.size W1 (w2.alloc (.cells #[.int .u8 128, .int .i64 2, .func (.func 94) #[] #[.pointer (some ⟨q + 1, 0, none⟩), .pointer (some ⟨q, 0, none⟩)], .func (.func 95) #[] #[.pointer (some ⟨q + 1 + 1, 0, none⟩), .pointer (some ⟨q, 0, none⟩)]] 84))) := HB2.out.trans (hb3.mono HB2.out.size)
        clear hb2 hb3 hc0 hc1 hc2 HO2 HB2 HO HB
        go_wp2_with fail
        generalize w2.alloc (.cells #[.int .u8 128, .int .i64 2, .func (.func 94) #[] #[.pointer (some ⟨q + 1, 0, none⟩), .pointer (some ⟨q, 0, none⟩)], .func (.func 95) #[] #[.pointer (some ⟨q + 1 + 1, 0, none⟩), .pointer (some ⟨q, 0, none⟩)]] 84) = w3 at *
        generalize w2.heap.size = g at *
        have hin := HIN.out.below HB3.out
        have hao := HA1.out.below HB3.out
        by_cases hz : m.K = []
        · refine (layClus p (q + 1) q m.vk (bytesN 4 m.K) false w3 uhc1 uhc0 (hin.cell 15 _ rfl) HSK.out (encC m.vk m.K _ hao.clus HMAY.out.clus) (bytes_empty _ _ hz)).mono ?_
          rintro e w4 ⟨rfl, hb4⟩
          have f4 := below_cell hb4 f0
          have HO4 : Hid (OwnR w4 W1.heap.size _ _) := HO3.out.below hb4
          have HB4 : Hid (Below W1.heap.size W1 w4) := HB3.out.trans (hb4.mono HB3.out.size)
          clear hb4 f0 hin hao HO3 HB3 uhc0 uhc1 uhc2
          have HZ : Hid (m.K = []) := hz
          clear hz
          have HE : Hid (writeTo four m (9 + 1) = writeTo four m 9) := by unfold Hid; rw [HSUC.out, show (rowsOf four m)[9]'hlt = [] from by show (if m.K = [] then _ else _) = _; rw [if_pos HZ.out], List.append_nil]
          generalize writeTo four m 9 = RO at *
          clear HSUC
          go_wp2
          go_roundw
          case rel => exact ⟨9 + 1, by omega, rfl, by rw [HE.out]; exact HO4.out, HB4.out⟩
          case measure => simp [intOf]
        · refine (layClus p (q + 1) q m.vk (bytesN 4 m.K) true w3 uhc1 uhc0 (hin.cell 15 _ rfl) HSK.out (encC m.vk m.K _ hao.clus HMAY.out.clus) (by cases hG : m.K with | nil => exact absurd hG hz | cons x T => exact (laid_ne x 4 (by omega) _).elim fun a h => h.elim fun t h => empty_of _ a t (by simp only [List.flatMap_cons]; exact h))).mono ?_
          rintro e w4 ⟨rfl, hb4⟩
          have f4 := below_cell hb4 f0
          have HO4 : Hid (OwnR w4 W1.heap.size _ _) := HO3.out.below hb4
          have HB4 : Hid (Below W1.heap.size W1 w4) := HB3.out.trans (hb4.mono HB3.out.size)
          clear hb4 f0 hin hao HO3 HB3 uhc0 uhc1 uhc2
          have HZ : Hid (¬ m.K = []) := hz
          clear hz
          have HE : Hid (writeTo four m (9 + 1) = writeTo four m 9 ++ [(128, 10, (bytesN 4 m.K))]) := by unfold Hid; rw [HSUC.out]; exact congrArg (writeTo four m 9 ++ ·) (by show (if m.K = [] then _ else _) = _; rw [if_neg HZ.out])
          generalize writeTo four m 9 = RO at *
          generalize (bytesN 4 m.K) = bz at *
          clear HSUC
          go_wp2_with (at_builtin; refine wpList_append_own _ rfl _ _ 22 rfl W1.heap.size 30 i0 (.agg #[.int .u8 0, .int .u8 0, .string ⟨#[]⟩]) 3 24 Tryz.underlying22 hi hz0 hz1 hz2 rfl (by decide) _ _ _ rfl (HO4.out.alloc _) ⟨w4.heap.size, 0, none⟩ 1 1 [.int .u8 128, .int .u8 10, .string bz] rfl rfl (news3 w4 _ _ _ 30) (three_raw _ _ _) (by unfold maxLen; omega) (by omega) (Nat.le_trans HB4.out.size (by simp)) ?_; intro v6 w6 hown6 hgrow6 _)
          have hos : OwnR w6 W1.heap.size v6 (RO ++ [(128, 10, bz)]) := by
            unfold OwnR; rw [cellsR_snoc, List.length_append]; exact hown6
          obtain ⟨ad6, c6, rfl⟩ := slice_of_owns hown6
          have hbw : Below W1.heap.size w4 w6 := ((Below.refl _ _).alloc HB4.out.size _).grown hgrow6 (Nat.le_trans HB4.out.size (by simp)) (fun k e => (HO4.out.lt k e).1)
          have HB6 : Hid (Below W1.heap.size W1 w6) := HB4.out.trans hbw
          clear hown6 hgrow6 hbw
          go_roundw
          case rel => exact ⟨9 + 1, by omega, rfl, by rw [HE.out]; exact hos, HB6.out⟩
          case measure => simp [intOf]
      · have hix : ∀ W, (Instr.index 80 (.agg #[.int .u8 1, .int .u8 2, .int .u8 3, .int .u8 4, .int .u8 5, .int .u8 6, .int .u8 7, .int .u8 8, .int .u8 9, .int .u8 10, .int .u8 16, .int .u8 32]) (.int .i64 10)).run Tryz.prog W = .ok (.int .u8 16) W := fun W => by kernel_rfl
        go_wp2_with fail
        clear hix
        refine (row16 four wr).mono ?_
        rintro e w2 ⟨q, rfl, ⟨hc0, hc1, hc2⟩, hb2⟩
        have HO2 : Hid (OwnR w2 W1.heap.size _ _) := HO.out.below hb2
        have HB2 : Hid (Below W1.heap.size W1 w2) := HB.out.trans (hb2.mono HB.out.size)
        have uhc0 : (w2.alloc (.cells #[.int .u8 192, .int .i64 2, .func (.func 102) #[] #[.pointer (some ⟨q + 1, 0, none⟩), .pointer (some ⟨q, 0, none⟩)], .func (.func 103) #[] #[.pointer (some ⟨q + 1 + 1, 0, none⟩), .pointer (some ⟨q, 0, none⟩)]] 84)).cell? _ = some _ := c_up hc0
        have uhc1 : (w2.alloc (.cells #[.int .u8 192, .int .i64 2, .func (.func 102) #[] #[.pointer (some ⟨q + 1, 0, none⟩), .pointer (some ⟨q, 0, none⟩)], .func (.func 103) #[] #[.pointer (some ⟨q + 1 + 1, 0, none⟩), .pointer (some ⟨q, 0, none⟩)]] 84)).cell? _ = some _ := c_up hc1
        have uhc2 : (w2.alloc (.cells #[.int .u8 192, .int .i64 2, .func (.func 102) #[] #[.pointer (some ⟨q + 1, 0, none⟩), .pointer (some ⟨q, 0, none⟩)], .func (.func 103) #[] #[.pointer (some ⟨q + 1 + 1, 0, none⟩), .pointer (some ⟨q, 0, none⟩)]] 84)).cell? _ = some _ := c_up hc2
        have hb3 : Below w2.heap.size w2 (w2.alloc (.cells #[.int .u8 192, .int .i64 2, .func (.func 102) #[] #[.pointer (some ⟨q + 1, 0, none⟩), .pointer (some ⟨q, 0, none⟩)], .func (.func 103) #[] #[.pointer (some ⟨q + 1 + 1, 0, none⟩), .pointer (some ⟨q, 0, none⟩)]] 84)) := (Below.refl _ _).alloc (Nat.le_refl _) _
        have f0 : (w2.alloc (.cells #[.int .u8 192, .int .i64 2, .func (.func 102) #[] #[.pointer (some ⟨q + 1, 0, none⟩), .pointer (some ⟨q, 0, none⟩)], .func (.func 103) #[] #[.pointer (some ⟨q + 1 + 1, 0, none⟩), .pointer (some ⟨q, 0, none⟩)]] 84)).cell? ⟨w2.heap.size, 0, none⟩ = some (.int .u8 192) := cell_row (heap_new _ _) 0 _ rfl
        have HO3 : Hid (OwnR (w2.alloc (.cells #[.int .u8 192, .int .i64 2, .func (.func 102) #[] #[.pointer (some ⟨q + 1, 0, none⟩), .pointer (some ⟨q, 0, none⟩)], .func (.func 103) #[] #[.pointer (some ⟨q + 1 + 1, 0, none⟩), .pointer (some ⟨q, 0, none⟩)]] 84)) W1.heap.size _ _) := HO2.out.below hb3
        have HB3 : Hid (Below W1.heap.size W1 (w2.alloc (.cells #[.int .u8 192, .int .i64 2, .func (.func 102) #[] #[.pointer (some ⟨q + 1, 0, none⟩), .pointer (some ⟨q, 0, none⟩)], .func (.func 103) #[] #[.pointer (some ⟨q + 1 + 1, 0, none⟩), .pointer (some ⟨q, 0, none⟩)]] 84))) := HB2.out.trans (hb3.mono HB2.out.size)
        clear hb2 hb3 hc0 hc1 hc2 HO2 HB2 HO HB
        go_wp2_with fail
        generalize w2.alloc (.cells #[.int .u8 192, .int .i64 2, .func (.func 102) #[] #[.pointer (some ⟨q + 1, 0, none⟩), .pointer (some ⟨q, 0, none⟩)], .func (.func 103) #[] #[.pointer (some ⟨q + 1 + 1, 0, none⟩), .pointer (some ⟨q, 0, none⟩)]] 84) = w3 at *
        generalize w2.heap.size = g at *
        have hin := HIN.out.below HB3.out
        have hao := HA1.out.below HB3.out
        by_cases hz : m.X = []
        · refine (layExts p (q + 1) q m.vx (bytesN 8 m.X) false w3 uhc1 uhc0 (hin.cell 11 _ rfl) HSX.out (by have h := EncX m.vx m.X w3.drew hao.exts; rw [HMAY.out.exts] at h; exact h) (bytes_empty _ _ hz)).mono ?_
          rintro e w4 ⟨rfl, hb4⟩
          have f4 := below_cell hb4 f0
          have HO4 : Hid (OwnR w4 W1.heap.size _ _) := HO3.out.below hb4
          have HB4 : Hid (Below W1.heap.size W1 w4) := HB3.out.trans (hb4.mono HB3.out.size)
          clear hb4 f0 hin hao HO3 HB3 uhc0 uhc1 uhc2
          have HZ : Hid (m.X = []) := hz
          clear hz
          have HE : Hid (writeTo four m (10 + 1) = writeTo four m 10) := by unfold Hid; rw [HSUC.out, show (rowsOf four m)[10]'hlt = [] from by show (if m.X = [] then _ else _) = _; rw [if_pos HZ.out], List.append_nil]
          generalize writeTo four m 10 = RO at *
          clear HSUC
          go_wp2
          go_roundw
          case rel => exact ⟨10 + 1, by omega, rfl, by rw [HE.out]; exact HO4.out, HB4.out⟩
          case measure => simp [intOf]
        · refine (layExts p (q + 1) q m.vx (bytesN 8 m.X) true w3 uhc1 uhc0 (hin.cell 11 _ rfl) HSX.out (by have h := EncX m.vx m.X w3.drew hao.exts; rw [HMAY.out.exts] at h; exact h) (by cases hG : m.X with | nil => exact absurd hG hz | cons x T => exact (laid_ne x 8 (by omega) _).elim fun a h => h.elim fun t h => empty_of _ a t (by simp only [List.flatMap_cons]; exact h))).mono ?_
          rintro e w4 ⟨rfl, hb4⟩
          have f4 := below_cell hb4 f0
          have HO4 : Hid (OwnR w4 W1.heap.size _ _) := HO3.out.below hb4
          have HB4 : Hid (Below W1.heap.size W1 w4) := HB3.out.trans (hb4.mono HB3.out.size)
          clear hb4 f0 hin hao HO3 HB3 uhc0 uhc1 uhc2
          have HZ : Hid (¬ m.X = []) := hz
          clear hz
          have HE : Hid (writeTo four m (10 + 1) = writeTo four m 10 ++ [(192, 16, (bytesN 8 m.X))]) := by unfold Hid; rw [HSUC.out]; exact congrArg (writeTo four m 10 ++ ·) (by show (if m.X = [] then _ else _) = _; rw [if_neg HZ.out])
          generalize writeTo four m 10 = RO at *
          generalize (bytesN 8 m.X) = bz at *
          clear HSUC
          go_wp2_with (at_builtin; refine wpList_append_own _ rfl _ _ 22 rfl W1.heap.size 30 i0 (.agg #[.int .u8 0, .int .u8 0, .string ⟨#[]⟩]) 3 24 Tryz.underlying22 hi hz0 hz1 hz2 rfl (by decide) _ _ _ rfl (HO4.out.alloc _) ⟨w4.heap.size, 0, none⟩ 1 1 [.int .u8 192, .int .u8 16, .string bz] rfl rfl (news3 w4 _ _ _ 30) (three_raw _ _ _) (by unfold maxLen; omega) (by omega) (Nat.le_trans HB4.out.size (by simp)) ?_; intro v6 w6 hown6 hgrow6 _)
          have hos : OwnR w6 W1.heap.size v6 (RO ++ [(192, 16, bz)]) := by
            unfold OwnR; rw [cellsR_snoc, List.length_append]; exact hown6
          obtain ⟨ad6, c6, rfl⟩ := slice_of_owns hown6
          have hbw : Below W1.heap.size w4 w6 := ((Below.refl _ _).alloc HB4.out.size _).grown hgrow6 (Nat.le_trans HB4.out.size (by simp)) (fun k e => (HO4.out.lt k e).1)
          have HB6 : Hid (Below W1.heap.size W1 w6) := HB4.out.trans hbw
          clear hown6 hgrow6 hbw
          go_roundw
          case rel => exact ⟨10 + 1, by omega, rfl, by rw [HE.out]; exact hos, HB6.out⟩
          case measure => simp [intOf]
      · have hix : ∀ W, (Instr.index 80 (.agg #[.int .u8 1, .int .u8 2, .int .u8 3, .int .u8 4, .int .u8 5, .int .u8 6, .int .u8 7, .int .u8 8, .int .u8 9, .int .u8 10, .int .u8 16, .int .u8 32]) (.int .i64 11)).run Tryz.prog W = .ok (.int .u8 32) W := fun W => by kernel_rfl
        go_wp2_with fail
        clear hix
        refine (row32 four wr).mono ?_
        rintro e w2 ⟨q, rfl, ⟨hc0, hc1, hc2⟩, hb2⟩
        have HO2 : Hid (OwnR w2 W1.heap.size _ _) := HO.out.below hb2
        have HB2 : Hid (Below W1.heap.size W1 w2) := HB.out.trans (hb2.mono HB.out.size)
        have uhc0 : (w2.alloc (.cells #[.int .u8 192, .int .i64 2, .func (.func 108) #[] #[.pointer (some ⟨q + 1, 0, none⟩), .pointer (some ⟨q, 0, none⟩)], .func (.func 109) #[] #[.pointer (some ⟨q + 1 + 1, 0, none⟩), .pointer (some ⟨q, 0, none⟩)]] 84)).cell? _ = some _ := c_up hc0
        have uhc1 : (w2.alloc (.cells #[.int .u8 192, .int .i64 2, .func (.func 108) #[] #[.pointer (some ⟨q + 1, 0, none⟩), .pointer (some ⟨q, 0, none⟩)], .func (.func 109) #[] #[.pointer (some ⟨q + 1 + 1, 0, none⟩), .pointer (some ⟨q, 0, none⟩)]] 84)).cell? _ = some _ := c_up hc1
        have uhc2 : (w2.alloc (.cells #[.int .u8 192, .int .i64 2, .func (.func 108) #[] #[.pointer (some ⟨q + 1, 0, none⟩), .pointer (some ⟨q, 0, none⟩)], .func (.func 109) #[] #[.pointer (some ⟨q + 1 + 1, 0, none⟩), .pointer (some ⟨q, 0, none⟩)]] 84)).cell? _ = some _ := c_up hc2
        have hb3 : Below w2.heap.size w2 (w2.alloc (.cells #[.int .u8 192, .int .i64 2, .func (.func 108) #[] #[.pointer (some ⟨q + 1, 0, none⟩), .pointer (some ⟨q, 0, none⟩)], .func (.func 109) #[] #[.pointer (some ⟨q + 1 + 1, 0, none⟩), .pointer (some ⟨q, 0, none⟩)]] 84)) := (Below.refl _ _).alloc (Nat.le_refl _) _
        have f0 : (w2.alloc (.cells #[.int .u8 192, .int .i64 2, .func (.func 108) #[] #[.pointer (some ⟨q + 1, 0, none⟩), .pointer (some ⟨q, 0, none⟩)], .func (.func 109) #[] #[.pointer (some ⟨q + 1 + 1, 0, none⟩), .pointer (some ⟨q, 0, none⟩)]] 84)).cell? ⟨w2.heap.size, 0, none⟩ = some (.int .u8 192) := cell_row (heap_new _ _) 0 _ rfl
        have HO3 : Hid (OwnR (w2.alloc (.cells #[.int .u8 192, .int .i64 2, .func (.func 108) #[] #[.pointer (some ⟨q + 1, 0, none⟩), .pointer (some ⟨q, 0, none⟩)], .func (.func 109) #[] #[.pointer (some ⟨q + 1 + 1, 0, none⟩), .pointer (some ⟨q, 0, none⟩)]] 84)) W1.heap.size _ _) := HO2.out.below hb3
        have HB3 : Hid (Below W1.heap.size W1 (w2.alloc (.cells #[.int .u8 192, .int .i64 2, .func (.func 108) #[] #[.pointer (some ⟨q + 1, 0, none⟩), .pointer (some ⟨q, 0, none⟩)], .func (.func 109) #[] #[.pointer (some ⟨q + 1 + 1, 0, none⟩), .pointer (some ⟨q, 0, none⟩)]] 84))) := HB2.out.trans (hb3.mono HB2.out.size)
        clear hb2 hb3 hc0 hc1 hc2 HO2 HB2 HO HB
        go_wp2_with fail
        generalize w2.alloc (.cells #[.int .u8 192, .int .i64 2, .func (.func 108) #[] #[.pointer (some ⟨q + 1, 0, none⟩), .pointer (some ⟨q, 0, none⟩)], .func (.func 109) #[] #[.pointer (some ⟨q + 1 + 1, 0, none⟩), .pointer (some ⟨q, 0, none⟩)]] 84) = w3 at *
        generalize w2.heap.size = g at *
        have hin := HIN.out.below HB3.out
        have hao := HA1.out.below HB3.out
        by_cases hz : m.G = []
        · refine (layLarg p (q + 1) q m.vl (bytesL m.G) false w3 uhc1 uhc0 (hin.cell 12 _ rfl) HSL.out (by have h := EncL m.vl m.G w3.drew hao.larg; rw [HMAY.out.larg] at h; exact h) (bytesL_empty _ hz)).mono ?_
          rintro e w4 ⟨rfl, hb4⟩
          have f4 := below_cell hb4 f0
          have HO4 : Hid (OwnR w4 W1.heap.size _ _) := HO3.out.below hb4
          have HB4 : Hid (Below W1.heap.size W1 w4) := HB3.out.trans (hb4.mono HB3.out.size)
          clear hb4 f0 hin hao HO3 HB3 uhc0 uhc1 uhc2
          have HZ : Hid (m.G = []) := hz
          clear hz
          have HE : Hid (writeTo four m (11 + 1) = writeTo four m 11) := by unfold Hid; rw [HSUC.out, show (rowsOf four m)[11]'hlt = [] from by show (if m.G = [] then _ else _) = _; rw [if_pos HZ.out], List.append_nil]
          generalize writeTo four m 11 = RO at *
          clear HSUC
          go_wp2
          go_roundw
          case rel => exact ⟨11 + 1, by omega, rfl, by rw [HE.out]; exact HO4.out, HB4.out⟩
          case measure => simp [intOf]
        · refine (layLarg p (q + 1) q m.vl (bytesL m.G) true w3 uhc1 uhc0 (hin.cell 12 _ rfl) HSL.out (by have h := EncL m.vl m.G w3.drew hao.larg; rw [HMAY.out.larg] at h; exact h) (by cases hG : m.G with | nil => exact absurd hG hz | cons x T => exact (laid_ne x.1 4 (by omega) _).elim fun a h => h.elim fun t h => empty_of _ a t (by simp only [List.flatMap_cons, byteL, List.append_assoc]; exact h))).mono ?_
          rintro e w4 ⟨rfl, hb4⟩
          have f4 := below_cell hb4 f0
          have HO4 : Hid (OwnR w4 W1.heap.size _ _) := HO3.out.below hb4
          have HB4 : Hid (Below W1.heap.size W1 w4) := HB3.out.trans (hb4.mono HB3.out.size)
          clear hb4 f0 hin hao HO3 HB3 uhc0 uhc1 uhc2
          have HZ : Hid (¬ m.G = []) := hz
          clear hz
          have HE : Hid (writeTo four m (11 + 1) = writeTo four m 11 ++ [(192, 32, (bytesL m.G))]) := by unfold Hid; rw [HSUC.out]; exact congrArg (writeTo four m 11 ++ ·) (by show (if m.G = [] then _ else _) = _; rw [if_neg HZ.out])
          generalize writeTo four m 11 = RO at *
          generalize (bytesL m.G) = bz at *
          clear HSUC
          go_wp2_with (at_builtin; refine wpList_append_own _ rfl _ _ 22 rfl W1.heap.size 30 i0 (.agg #[.int .u8 0, .int .u8 0, .string ⟨#[]⟩]) 3 24 Tryz.underlying22 hi hz0 hz1 hz2 rfl (by decide) _ _ _ rfl (HO4.out.alloc _) ⟨w4.heap.size, 0, none⟩ 1 1 [.int .u8 192, .int .u8 32, .string bz] rfl rfl (news3 w4 _ _ _ 30) (three_raw _ _ _) (by unfold maxLen; omega) (by omega) (Nat.le_trans HB4.out.size (by simp)) ?_; intro v6 w6 hown6 hgrow6 _)
          have hos : OwnR w6 W1.heap.size v6 (RO ++ [(192, 32, bz)]) := by
            unfold OwnR; rw [cellsR_snoc, List.length_append]; exact hown6
          obtain ⟨ad6, c6, rfl⟩ := slice_of_owns hown6
          have hbw : Below W1.heap.size w4 w6 := ((Below.refl _ _).alloc HB4.out.size _).grown hgrow6 (Nat.le_trans HB4.out.size (by simp)) (fun k e => (HO4.out.lt k e).1)
          have HB6 : Hid (Below W1.heap.size W1 w6) := HB4.out.trans hbw
          clear hown6 hgrow6 hbw
          go_roundw
          case rel => exact ⟨11 + 1, by omega, rfl, by rw [HE.out]; exact hos, HB6.out⟩
          case measure => simp [intOf]
    · obtain rfl : k = 12 := by omega
      go_wp2
      go_ret2
      have hle : w.heap.size ≤ W1.heap.size := by rw [HPP.out]; rw [← HPP.out] at HBW; rw [← HPP.out]; exact HBW.out.size
      exact ⟨.slice ad (writeTo four m 12).length c, rfl, owns_mono HO.out hle, by rw [HPP.out]; exact HBW.out.trans (HB.out.mono (HPP.out ▸ hle))⟩
end Go.Proofs.YtpahnebhcfpplabGreatDoor
