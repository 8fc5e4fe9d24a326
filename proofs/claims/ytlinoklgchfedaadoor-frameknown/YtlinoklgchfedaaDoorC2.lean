/-
  The reference's All.
-/
import Derived.Test.YtlinoklgchfedaaDoorC1
import Derived.Test.YtlinoklgchfedaaDoorB6
import Derived.Deep.RegionLaw
namespace Go.Proofs.YtlinoklgchfedaaDoor
open Go.RowKit
def AllOk (r : St × List Fm) (w : World) (e : Ending) (w' : World) : Prop :=
  ∃ v, e = .returned (.tuple #[v, verV r.1.sub, .int .i64 (r.1.wait.length : Int)]) ∧ OwnF w' w.heap.size v r.2 ∧ Below w.heap.size w w'
theorem all_end {s' : St} {R : List Fm} {w W wr w' : World} {v : Value} (ho : OwnF wr W.heap.size v R) (hbs : Below W.heap.size W wr) (hb : Below w.heap.size w W) (hs : W.heap.size = w.heap.size + 1) (hk : Beside w.heap.size w.heap.size wr w') :
    AllOk (s', R) w (.returned (.tuple #[v, .agg #[.int .i64 (vaI s'.sub), .int .u8 (vcI s'.sub), .int .u8 (s'.sub : Int)], .int .i64 (s'.wait.length : Int)])) w' := by
  have h1 := hbs.size
  refine ⟨v, rfl, ?_, ?_⟩
  · exact owns_mono (owns_heap' ho fun g hg => hk.block g (owns_lt ho g hg).2 (by have := (owns_lt ho g hg).1; omega) (by have := (owns_lt ho g hg).1; omega)) (by omega)
  · have k1 : Below w.heap.size w wr := hb.trans (hbs.mono (by omega))
    exact ⟨hk.os.trans k1.os, hk.tape.trans k1.tape, hk.output.trans k1.output, Nat.le_trans k1.size hk.size, fun j hj => (hk.block j (by omega) (by omega) (by omega)).trans (k1.block j hj)⟩
theorem ext_take (c : List UInt8) (n : Nat) : (⟨c.toArray⟩ : ByteArray).extract 0 n = ⟨(c.take n).toArray⟩ := by
  apply ByteArray.ext
  rw [ByteArray.data_extract]
  apply Array.toList_inj.1
  simp
theorem ext_mid (c : List UInt8) (m n : Nat) : (⟨c.toArray⟩ : ByteArray).extract m n = ⟨((c.take n).drop m).toArray⟩ := by
  apply ByteArray.ext
  rw [ByteArray.data_extract]
  apply Array.toList_inj.1
  simp [List.drop_take]
theorem ext_drop (c : List UInt8) (n : Nat) : (⟨c.toArray⟩ : ByteArray).extract n c.length = ⟨(c.drop n).toArray⟩ := by
  apply ByteArray.ext
  rw [ByteArray.data_extract]
  apply Array.toList_inj.1
  simp
  rw [List.take_of_length_le (by simp)]
/-- The walk's numbers of what is left of a stream. -/
structure Rd (s' : List UInt8) (t t19 : ByteArray) (h : 19 ≤ t.size) (x y z N : Nat) (m : Int) (bd rest : List UInt8) : Prop where
  hx : t[16].toNat = x
  hy : t[17].toNat = y
  hz : t[18].toNat = z
  hm : (x : Int) * 256 = m
  hn : m + (y : Int) = (N : Int)
  e1 : wrap64 (x : Int) = (x : Int)
  e2 : wrap64 (y : Int) = (y : Int)
  e3 : wrap64 (z : Int) = (z : Int)
  e4 : wrap64 m = m
  e5 : wrap64 (N : Int) = (N : Int)
  f1 : IntKind.i64.wrap (x : Int) = (x : Int)
  f2 : IntKind.i64.wrap (y : Int) = (y : Int)
  f3 : IntKind.i64.wrap (z : Int) = (z : Int)
  f4 : IntKind.i64.wrap m = m
  f5 : IntKind.i64.wrap (N : Int) = (N : Int)
  b6 : (z : Int) < 256
  sz : t.size = s'.length
  h19t : (19 : Int) ≤ t.size
  i16 : (16 : Int) < t.size
  i17 : (17 : Int) < t.size
  i18 : (18 : Int) < t.size
  j16 : 16 < t.size
  j17 : 17 < t.size
  j18 : 18 < t.size
  te : t.extract 0 19 = t19
  mid : t.extract 19 N = ⟨bd.toArray⟩
  rst : t.extract N s'.length = ⟨rest.toArray⟩
theorem rd_of (s' : List UInt8) (h : 19 ≤ s'.length) : ∃ (t19 : ByteArray) (hs : 19 ≤ (⟨s'.toArray⟩ : ByteArray).size) (x y z : Nat) (m : Int), Rd s' ⟨s'.toArray⟩ t19 hs x y z (lenI s') m ((s'.take (lenI s')).drop 19) (s'.drop (lenI s')) ∧ kindI s' = z ∧ t19 = ⟨(s'.take 19).toArray⟩ := by
  have hsz : (⟨s'.toArray⟩ : ByteArray).size = s'.length := list_size s'
  have h9 : 19 ≤ (⟨s'.toArray⟩ : ByteArray).size := by omega
  obtain ⟨x, y, z, m, n, hx, hy, hz, hm2, hn, e1, e2, e3, e4, e5, f1, f2, f3, f4, f5, b6, hln, hkd⟩ := parts ⟨s'.toArray⟩ h9
  have hln' : (lenI s' : Int) = n := hln
  subst hln'
  have hdrop := ext_drop s' (lenI s')
  have g : (19 : Int) ≤ (⟨s'.toArray⟩ : ByteArray).size := by rw [hsz]; exact Int.ofNat_le.2 h
  exact ⟨⟨(s'.take 19).toArray⟩, h9, x, y, z, m, ⟨hx, hy, hz, hm2, hn, e1, e2, e3, e4, e5, f1, f2, f3, f4, f5, b6, hsz, g, Int.lt_of_lt_of_le (by decide) g, Int.lt_of_lt_of_le (by decide) g, Int.lt_of_lt_of_le (by decide) g, Nat.lt_of_lt_of_le (by decide) h9, Nat.lt_of_lt_of_le (by decide) h9, Nat.lt_of_lt_of_le (by decide) h9, ext_take s' 19, ext_mid s' 19 _, hdrop⟩, hkd, rfl⟩
theorem fine_of {s' : List UInt8} {z : Nat} (h : 19 ≤ s'.length) (hw : wrongI s' = 0) (hk : kindI s' = z) : (19 : Int) ≤ lenI s' ∧ (lenI s' : Int) ≤ 4096 ∧ (lenI s' ≤ s'.length → runI st0 s' = ((runI st0 (s'.drop (lenI s'))).1, ⟨z, (s'.take (lenI s')).drop 19⟩ :: (runI st0 (s'.drop (lenI s'))).2)) ∧ (s'.length < lenI s' → runI st0 s' = (⟨s', 0⟩, [])) ∧ (s'.drop (lenI s')).length = s'.length - lenI s' := by
  have hfn := wrong_fine hw
  refine ⟨by omega, by omega, fun k => by rw [← hk]; exact run_frame s' hw k, fun k => run_wait s' h hw k, by rw [List.length_drop]⟩
set_option maxRecDepth 100000 in
set_option maxHeartbeats 3200000 in
theorem all_any (l : List UInt8) (w : World) (hl : l.length ≤ 1000000) :
    Calls Tryd.prog 10 #[.string ⟨l.toArray⟩] w fun e w' => AllOk (runI st0 l) w e w' := by
  obtain ⟨i0, hi, hz0, hz1, hz2⟩ := info_parts info37
  obtain ⟨X, hX⟩ : ∃ X, X = runI st0 l := ⟨_, rfl⟩
  have HX : Hid (_ = _) := hX
  rw [← hX]
  clear hX
  have hb1 : Below w.heap.size w (w.alloc (.cells #[.int .i64 0, .int .u8 0, .int .u8 0] 27)) := (Below.refl _ _).alloc (Nat.le_refl _) _
  have hr : (w.alloc (.cells #[.int .i64 0, .int .u8 0, .int .u8 0] 27)).heap[w.heap.size]? = some (.cells #[.int .i64 0, .int .u8 0, .int .u8 0] 27 (0, 0)) := hp_new rfl
  have HB1 : Hid (Below w.heap.size w (w.alloc (.cells #[.int .i64 0, .int .u8 0, .int .u8 0] 27))) := hb1
  have HR : Hid ((w.alloc (.cells #[.int .i64 0, .int .u8 0, .int .u8 0] 27)).heap[w.heap.size]? = some (.cells #[.int .i64 0, .int .u8 0, .int .u8 0] 27 (0, 0))) := hr
  have HS : Hid ((w.alloc (.cells #[.int .i64 0, .int .u8 0, .int .u8 0] 27)).heap.size = w.heap.size + 1) := by unfold Hid; simp
  clear hb1 hr
  go_enter Tryd.func10, Tryd.ntmps10
  go_wp2
  generalize w.alloc (.cells #[.int .i64 0, .int .u8 0, .int .u8 0] 27) = W at *
  go_loopw [0, 5] (fun t u wr => ∃ (s' : List UInt8) (R : List Fm), t = .string ⟨s'.toArray⟩ ∧ OwnF wr W.heap.size u R ∧ Below W.heap.size W wr ∧ R.length + s'.length ≤ l.length ∧ X = ((runI st0 s').1, R ++ (runI st0 s').2)) (fun t _ _ => strLen t)
  case atStart => exact ⟨l, [], rfl, World.ownsRow_nil _ _ _ _, Below.refl _ _, by simp, by rw [HX.out]; simp⟩
  case round =>
    obtain ⟨s', R, rfl, ho, hbs, hlen, hx⟩ := hrel
    obtain ⟨ad, cp, rfl⟩ := slice_of_owns ho
    have HOV : Hid (OwnF wr W.heap.size _ R) := ho
    have HBV : Hid (Below W.heap.size W wr) := hbs
    have HXX : Hid (X = _) := hx
    have HLEN : Hid (_ ≤ _) := hlen
    have hlen2 : R.length ≤ 1000000 := by omega
    have hlen3 : s'.length ≤ 1000000 := by omega
    have hsz : (⟨s'.toArray⟩ : ByteArray).size = s'.length := list_size s'
    have HRV : Hid (wr.heap[w.heap.size]? = some (.cells #[.int .i64 0, .int .u8 0, .int .u8 0] 27 (0, 0))) := (hbs.block _ (by have := HS.out; omega)).trans HR.out
    clear ho hbs hx hlen
    by_cases h19 : s'.length < 19
    · have HXN : Hid (X = (⟨s', 0⟩, R)) := by unfold Hid; rw [HXX.out, run_short s' h19]; simp
      have h19' : (s'.length : Int) < 19 := by omega
      clear HXX
      have HKE : Hid (∀ w', Beside w.heap.size w.heap.size wr w' → AllOk X w (.returned (.tuple #[.slice ad R.length cp, .agg #[.int .i64 0, .int .u8 0, .int .u8 0], .int .i64 (s'.length : Int)])) w') := fun w' hw => by
        rw [HXN.out]
        exact all_end (s' := ⟨s', 0⟩) HOV.out HBV.out HB1.out HS.out hw
      have r0 : wr.cell? ⟨w.heap.size, 0, none⟩ = some (.int .i64 0) := cl_row HRV.out rfl
      have r1 : wr.cell? ⟨w.heap.size, 1, none⟩ = some (.int .u8 0) := cl_row HRV.out rfl
      have r2 : wr.cell? ⟨w.heap.size, 2, none⟩ = some (.int .u8 0) := cl_row HRV.out rfl
      have z0 : wr.frozen? ⟨w.heap.size, 0, none⟩ = false := fz_row HRV.out
      have z1 : wr.frozen? ⟨w.heap.size, 1, none⟩ = false := fz_row HRV.out
      have z2 : wr.frozen? ⟨w.heap.size, 2, none⟩ = false := fz_row HRV.out
      go_wp2
      refine bodyPost_ret (v := .tuple #[.slice ad R.length cp, .agg #[.int .i64 0, .int .u8 0, .int .u8 0], .int .i64 (s'.length : Int)]) (by simp [results, Tryd.results10, go_sem, r0, r1, r2]) rfl ?_
      exact HKE.out _ (((Beside.setp wr 0 _).trans (Beside.setp _ 1 _)).trans (Beside.setp _ 2 _))
    · have h19n : 19 ≤ s'.length := by omega
      have h18s : (18 : Int) < s'.length := by omega
      have htf := take_facts s' 19 (Nat.le_refl _) h19n
      have KW : Hid (_ : Prop) := rwrong_any ⟨(s'.take 19).toArray⟩ wr (by rw [list_size, List.length_take]; omega)
      have hwe : wrongI (⟨(s'.take 19).toArray⟩ : ByteArray).data.toList = wrongI s' := htf.2.2
      rw [hwe] at KW
      clear hwe htf hsz
      obtain ⟨t19, hs9, x, y, z, m, hRd, hkz, ht19⟩ := rd_of s' h19n
      rw [← ht19] at KW
      clear ht19
      by_cases hw : wrongI s' = 0
      · rw [hw] at KW
        have KW2 : Hid (Calls Tryd.prog 24 #[.string t19] wr fun e w' => e = .returned (.agg #[.int .i64 0, .int .u8 0, .int .u8 0]) ∧ Below wr.heap.size wr w') := KW
        obtain ⟨hN1, hN2, hrf, hrw, hrd⟩ := fine_of h19n hw hkz
        have HRF : Hid (_ → _) := hrf
        have HRW : Hid (_ → _) := hrw
        have HRD : Hid (_ = _) := hrd
        clear KW hw hkz hrf hrw hrd h19
        generalize (s'.take (lenI s')).drop 19 = bd at *
        generalize s'.drop (lenI s') = rest at *
        generalize lenI s' = N at *
        generalize (⟨s'.toArray⟩ : ByteArray) = t at *
        obtain ⟨hx, hy, hz, hm2, hn, e1, e2, e3, e4, e5, f1, f2, f3, f4, f5, b6, hsz, h19t, i16, i17, i18, j16, j17, j18, hte, hmid, hdrop⟩ := hRd
        have HST : Hid (t.size = s'.length) := hsz
        go_wp2_with fail
        refine Calls.mono KW2.out ?_
        rintro e w2 ⟨rfl, hb2⟩
        have hba : Below w2.heap.size w2 (w2.alloc (.cells #[.int .i64 0, .int .u8 0, .int .u8 0] 27)) := (Below.refl _ _).alloc (Nat.le_refl _) _
        have HB2 : Hid (Below W.heap.size W (w2.alloc (.cells #[.int .i64 0, .int .u8 0, .int .u8 0] 27))) := (HBV.out.trans (hb2.mono HBV.out.size)).trans (hba.mono (Nat.le_trans HBV.out.size hb2.size))
        have HO2 : Hid (OwnF (w2.alloc (.cells #[.int .i64 0, .int .u8 0, .int .u8 0] 27)) W.heap.size (.slice ad R.length cp) R) := owns_below (owns_below HOV.out hb2) hba
        have HR2 : Hid ((w2.alloc (.cells #[.int .i64 0, .int .u8 0, .int .u8 0] 27)).heap[w.heap.size]? = some (.cells #[.int .i64 0, .int .u8 0, .int .u8 0] 27 (0, 0))) := hp_up ((hb2.block _ (Array.getElem?_eq_some_iff.mp HRV.out).1).trans HRV.out)
        clear hb2 hba KW2 HOV HBV HRV hte
        go_wp2
        generalize w2.alloc (.cells #[.int .i64 0, .int .u8 0, .int .u8 0] 27) = V at *
        go_quiet (fail)
        have HBV : Hid (Below W.heap.size W (V.drewN nq)) := below_drewN HB2.out nq
        have HOV : Hid (OwnF (V.drewN nq) W.heap.size (.slice ad R.length cp) R) := HO2.out
        have HRV : Hid ((V.drewN nq).heap[w.heap.size]? = some (.cells #[.int .i64 0, .int .u8 0, .int .u8 0] 27 (0, 0))) := HR2.out
        generalize V.drewN nq = U at *
        clear HB2 HO2 HR2 e1 e2 e4 e5 f1 f2 f4 f5 hm2 hn hx hy
        by_cases hN : N ≤ s'.length
        · have hN' : (N : Int) ≤ s'.length := by omega
          have HN : Hid (X = ((runI st0 rest).1, (R ++ [⟨z, bd⟩]) ++ (runI st0 rest).2)) := by
            unfold Hid
            rw [HXX.out, HRF.out hN]
            simp
          have h6 := HBV.out.size
          have hbU : Below W.heap.size W (U.alloc (.cells #[.int .i64 (z : Int), .string ⟨bd.toArray⟩] 37)) := HBV.out.alloc h6 _
          have HOA : Hid ((U.alloc (.cells #[.int .i64 (z : Int), .string ⟨bd.toArray⟩] 37)).drew.ownsRow W.heap.size 37 2 (.slice ad R.length cp) R.length (cellsF R)) := World.ownsRow.alloc HOV.out _
          have HNW : Hid (∀ (j : Nat) (u : Value), ([.int .i64 (z : Int), .string ⟨bd.toArray⟩] : List Value)[j]? = some u → (U.alloc (.cells #[.int .i64 (z : Int), .string ⟨bd.toArray⟩] 37)).drew.cell? (Addr.add ⟨U.heap.size, 0, none⟩ j) = some u) := news2 U _ _ 37
          have HUB : Hid (Below W.heap.size W (U.alloc (.cells #[.int .i64 (z : Int), .string ⟨bd.toArray⟩] 37)).drew) := below_drewN hbU 1
          clear hbU HXX HRF HRW
          go_wp2
          go_region_law ((refine step_append_lies _ (by rfl) _ _ 25 (by rfl) W.heap.size 37 i0 (.agg #[.int .i64 0, .string ⟨#[]⟩]) 2 24 Tryd.underlying25 hi hz0 hz1 hz2 rfl (by decide) (.slice ad R.length cp) R.length (cellsF R) (by rfl) HOA.out ⟨U.heap.size, 0, none⟩ 1 1 [.int .i64 (z : Int), .string ⟨bd.toArray⟩] (by rfl) rfl HNW.out (two_f _ _) (by decide) (by unfold maxLen; omega) (by omega) (by show W.heap.size ≤ (U.alloc _).heap.size; simp; omega) (U.heap.size + 1) (by show (U.alloc _).heap.size = _; simp) ?_; intro g cap1 w3 hown3 hgrow3 hat hlt4))
          all_goals
            have HOS : Hid (OwnF w3 W.heap.size (.slice (some ⟨g, 0, none⟩) (R.length + 1) cap1) (R ++ [⟨z, bd⟩])) := by
              unfold Hid OwnF; rw [cellsF_snoc, List.length_append]; exact hown3
            have HB3 : Hid (Below W.heap.size W w3) := HUB.out.grown hgrow3 (by show W.heap.size ≤ (U.alloc _).heap.size; simp; omega) (fun k e => (owns_lt HOA.out k e).1)
            clear hown3 hgrow3 hat hlt4 HOA HNW HUB HOV HBV HRV
            go_wp2
            go_roundw
            case rel => exact ⟨rest, _, rfl, HOS.out, HB3.out, by have := HLEN.out; have := HRD.out; rw [List.length_append]; simp only [List.length_cons, List.length_nil]; omega, HN.out⟩
            case measure => have := HRD.out; have := HST.out; simp only [strLen, list_size]; omega
        · have hN' : (s'.length : Int) < N := by omega
          have HXN : Hid (X = (⟨s', 0⟩, R)) := by unfold Hid; rw [HXX.out, HRW.out (by omega)]; simp
          clear HXX HRF HRW
          have HKE : Hid (∀ w', Beside w.heap.size w.heap.size U w' → AllOk X w (.returned (.tuple #[.slice ad R.length cp, .agg #[.int .i64 0, .int .u8 0, .int .u8 0], .int .i64 (s'.length : Int)])) w') := fun w' hw => by
            rw [HXN.out]
            exact all_end (s' := ⟨s', 0⟩) HOV.out HBV.out HB1.out HS.out hw
          have r0 : U.cell? ⟨w.heap.size, 0, none⟩ = some (.int .i64 0) := cl_row HRV.out rfl
          have r1 : U.cell? ⟨w.heap.size, 1, none⟩ = some (.int .u8 0) := cl_row HRV.out rfl
          have r2 : U.cell? ⟨w.heap.size, 2, none⟩ = some (.int .u8 0) := cl_row HRV.out rfl
          have z0 : U.frozen? ⟨w.heap.size, 0, none⟩ = false := fz_row HRV.out
          have z1 : U.frozen? ⟨w.heap.size, 1, none⟩ = false := fz_row HRV.out
          have z2 : U.frozen? ⟨w.heap.size, 2, none⟩ = false := fz_row HRV.out
          go_wp2
          refine bodyPost_ret (v := .tuple #[.slice ad R.length cp, .agg #[.int .i64 0, .int .u8 0, .int .u8 0], .int .i64 (s'.length : Int)]) (by simp [results, Tryd.results10, go_sem, r0, r1, r2]) rfl ?_
          exact HKE.out _ (((Beside.setp U 0 _).trans (Beside.setp _ 1 _)).trans (Beside.setp _ 2 _))
      · have KW2 : Hid (Calls Tryd.prog 24 #[.string t19] wr fun e w' => e = .returned (.agg #[.int .i64 3, .int .u8 1, .int .u8 (wrongI s' : Int)]) ∧ Below wr.heap.size wr w') := by
          have k := KW.out
          simp only [verV, vaI, vcI, if_neg hw] at k
          exact k
        have HXN : Hid (X = (⟨[], wrongI s'⟩, R)) := by unfold Hid; rw [HXX.out, run_wrong s' h19n hw]; simp
        have HW0 : Hid (wrongI s' ≠ 0) := hw
        clear KW hw hkz h19 HXX
        generalize wrongI s' = sb at *
        generalize (⟨s'.toArray⟩ : ByteArray) = t at *
        obtain ⟨hx, hy, hz, hm2, hn, e1, e2, e3, e4, e5, f1, f2, f3, f4, f5, b6, hsz, h19t, i16, i17, i18, j16, j17, j18, hte, hmid, hdrop⟩ := hRd
        clear hx hy hz hm2 hn e1 e2 e3 e4 e5 f1 f2 f3 f4 f5 b6 i16 i17 i18 j16 j17 j18 hmid hdrop
        go_wp2_with fail
        refine Calls.mono KW2.out ?_
        rintro e w2 ⟨rfl, hb2⟩
        have hba : Below w2.heap.size w2 (w2.alloc (.cells #[.int .i64 3, .int .u8 1, .int .u8 (sb : Int)] 27)) := (Below.refl _ _).alloc (Nat.le_refl _) _
        have HB2 : Hid (Below W.heap.size W (w2.alloc (.cells #[.int .i64 3, .int .u8 1, .int .u8 (sb : Int)] 27))) := (HBV.out.trans (hb2.mono HBV.out.size)).trans (hba.mono (Nat.le_trans HBV.out.size hb2.size))
        have HO2 : Hid (OwnF (w2.alloc (.cells #[.int .i64 3, .int .u8 1, .int .u8 (sb : Int)] 27)) W.heap.size (.slice ad R.length cp) R) := owns_below (owns_below HOV.out hb2) hba
        have HR2 : Hid ((w2.alloc (.cells #[.int .i64 3, .int .u8 1, .int .u8 (sb : Int)] 27)).heap[w.heap.size]? = some (.cells #[.int .i64 0, .int .u8 0, .int .u8 0] 27 (0, 0))) := hp_up ((hb2.block _ (Array.getElem?_eq_some_iff.mp HRV.out).1).trans HRV.out)
        have HV2 : Hid ((w2.alloc (.cells #[.int .i64 3, .int .u8 1, .int .u8 (sb : Int)] 27)).heap[w2.heap.size]? = some (.cells #[.int .i64 3, .int .u8 1, .int .u8 (sb : Int)] 27 (0, 0))) := hp_new rfl
        clear hb2 hba KW2 HOV HBV HRV hte
        go_wp2
        generalize w2.alloc (.cells #[.int .i64 3, .int .u8 1, .int .u8 (sb : Int)] 27) = V at *
        have HRV : Hid (V.heap[w.heap.size]? = some (.cells #[.int .i64 0, .int .u8 0, .int .u8 0] 27 (0, 0))) := HR2.out
        have d0 : V.cell? ⟨w2.heap.size, 0, none⟩ = some (.int .i64 3) := cl_row HV2.out rfl
        have d1 : V.cell? ⟨w2.heap.size, 1, none⟩ = some (.int .u8 1) := cl_row HV2.out rfl
        have d2 : V.cell? ⟨w2.heap.size, 2, none⟩ = some (.int .u8 (sb : Int)) := cl_row HV2.out rfl
        have HKE : Hid (∀ w', Beside w.heap.size w.heap.size V w' → AllOk X w (.returned (.tuple #[.slice ad R.length cp, .agg #[.int .i64 3, .int .u8 1, .int .u8 (sb : Int)], .int .i64 0])) w') := fun w' hw => by
          have k := all_end (s' := ⟨[], sb⟩) HO2.out HB2.out HB1.out HS.out hw
          simp only [vaI, vcI, if_neg HW0.out] at k
          rw [HXN.out]
          exact k
        have r0 : V.cell? ⟨w.heap.size, 0, none⟩ = some (.int .i64 0) := cl_row HRV.out rfl
        have r1 : V.cell? ⟨w.heap.size, 1, none⟩ = some (.int .u8 0) := cl_row HRV.out rfl
        have r2 : V.cell? ⟨w.heap.size, 2, none⟩ = some (.int .u8 0) := cl_row HRV.out rfl
        have z0 : V.frozen? ⟨w.heap.size, 0, none⟩ = false := fz_row HRV.out
        have z1 : V.frozen? ⟨w.heap.size, 1, none⟩ = false := fz_row HRV.out
        have z2 : V.frozen? ⟨w.heap.size, 2, none⟩ = false := fz_row HRV.out
        go_region
        all_goals go_wp2
        all_goals refine bodyPost_ret (v := .tuple #[.slice ad R.length cp, .agg #[.int .i64 3, .int .u8 1, .int .u8 (sb : Int)], .int .i64 0]) (by simp [results, Tryd.results10, go_sem, r0, r1, r2]) rfl ?_
        all_goals exact HKE.out _ (beside_res w.heap.size V 1 _ _ _)
end Go.Proofs.YtlinoklgchfedaaDoor
