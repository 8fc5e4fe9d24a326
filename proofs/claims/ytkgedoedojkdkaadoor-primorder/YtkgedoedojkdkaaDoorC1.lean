/-
  PrimCovers: the first statement, in whatever order; then the rest.
-/
import Derived.Test.YtkgedoedojkdkaaDoorO5
import Derived.Test.YtkgedoedojkdkaaDoorM2
import Derived.Test.YtkgedoedojkdkaaDoorB25
import Derived.Deep.QuietTactic
import Derived.BigQuiet
namespace Go.Proofs.YtkgedoedojkdkaaDoor
open Go.RowKit
/-- The two raw arguments lie in their boxes, the tables where they are, and nothing that was there is changed. -/
structure Bx2 (w0 : World) (X Y : Array Value) (w : World) : Prop where
  x : w.heap[w0.heap.size]? = some (.cells X 43 (0, 0))
  y : w.heap[w0.heap.size + 1]? = some (.cells Y 43 (0, 0))
  tabs : Tabs w
  bel : Below w0.heap.size w0 w
theorem Bx2.belowS {w0 : World} {X Y : Array Value} {w w' : World} (h : Held (Bx2 w0 X Y) w) (hb : Below w.heap.size w w') : Held (Bx2 w0 X Y) w' :=
  ⟨(hb.block _ (lt_of_heap (Bx2.x h))).trans (Bx2.x h), (hb.block _ (lt_of_heap (Bx2.y h))).trans (Bx2.y h), (Bx2.tabs h).below hb, (Bx2.bel h).trans (hb.mono (Bx2.bel h).size)⟩
theorem Bx2.set {w0 : World} {X Y : Array Value} {w : World} (h : Held (Bx2 w0 X Y) w) {a : Addr} (ha : w0.heap.size + 1 + 1 ≤ a.block) (ht : 3 < w0.heap.size) (v : Value) : Held (Bx2 w0 X Y) (w.setCell a v) := by
  obtain ⟨⟨t, fr, h0⟩, ⟨t1, fr1, h1⟩, ⟨m, h3⟩⟩ := Bx2.tabs h
  refine ⟨by rw [Below.heap_setCell _ _ _ _ (by omega)]; exact Bx2.x h, by rw [Below.heap_setCell _ _ _ _ (by omega)]; exact Bx2.y h, ⟨⟨t, fr, by rw [Below.heap_setCell _ _ _ _ (by omega)]; exact h0⟩, ⟨t1, fr1, by rw [Below.heap_setCell _ _ _ _ (by omega)]; exact h1⟩, ⟨m, ?_⟩⟩, (Bx2.bel h).setCell (by omega) v⟩
  rw [World.cell?_setCell_other _ _ _ _ (by intro e; rw [e] at ha; simp at ha; omega)]; exact h3
theorem heap_at1 (w : World) (a b : Obj) : ((w.alloc a).alloc b).heap[w.heap.size]? = some a := heap_alloc2_old w a b
theorem heap_at2 (w : World) (a b : Obj) : ((w.alloc a).alloc b).heap[w.heap.size + 1]? = some b := heap_alloc2_new w a b
theorem info43 : (Tryd.prog.info? 43).map (·.size) = some 19 := by kernel_rfl
theorem mixed : Tryd.prog.follows .mixedOrders = true := by kernel_rfl
/-- What holds of memory behind the first cut. -/
structure CovAt (w : World) (b7 b8 b9 : Nat) (fa ra : Int) (sa : ByteArray) (la fb rb : Int) (sb : ByteArray) (lb fc rc : Int) (sc : ByteArray) (lc : Int) (w' : World) : Prop where
  a : PfxAt w' b7 fa ra sa la
  b : PfxAt w' b8 fb rb sb lb
  c : PfxAt w' b9 fc rc sc lc
  t : Tabs w'
  z : Below w.heap.size w w'
theorem CovAt.below {w w' w2 : World} {b7 b8 b9 : Nat} {fa ra : Int} {sa : ByteArray} {la fb rb : Int} {sb : ByteArray} {lb fc rc : Int} {sc : ByteArray} {lc : Int} (h : Held (CovAt w b7 b8 b9 fa ra sa la fb rb sb lb fc rc sc lc) w') (hb : Below w'.heap.size w' w2) : Held (CovAt w b7 b8 b9 fa ra sa la fb rb sb lb fc rc sc lc) w2 :=
  ⟨(CovAt.a h).kept hb (lt_of_cell (CovAt.a h).c0), (CovAt.b h).kept hb (lt_of_cell (CovAt.b h).c0), (CovAt.c h).kept hb (lt_of_cell (CovAt.c h).c0), (CovAt.t h).below hb, (CovAt.z h).trans (hb.mono (CovAt.z h).size)⟩
theorem below_of_eq {w w2 : World} (h : w2 = w) : Below w.heap.size w w2 := by subst h; exact Below.refl _ _
theorem below_drewN {B : Nat} {a w : World} (h : Below B a w) (n : Nat) : Below B a (w.drewN n) := ⟨h.os, h.tape, h.output, h.size, h.block⟩
set_option maxRecDepth 100000 in
set_option maxHeartbeats 16000000 in
theorem covers_core (X Y : Array Value) (n : Int) (w : World) (h : Tabs w) (zx : X.size = 19) (zy : Y.size = 19) (n0 : 0 ≤ n) (n1 : n ≤ 255)
    (kx : ∀ w', Tabs w' → Calls Tryd.prog 30 #[.agg X] w' fun e w2 => ∃ v, e = .returned v ∧ Good v ∧ Below w'.heap.size w' w2)
    (ky : ∀ w', Tabs w' → Calls Tryd.prog 30 #[.agg Y] w' fun e w2 => ∃ v, e = .returned v ∧ Good v ∧ Below w'.heap.size w' w2) :
    Calls Tryd.prog 7 #[.agg X, .agg Y, .int .u8 n] w fun e w' => e = .returned (.bool true) ∧ Below w.heap.size w w' := by
  have ht : 3 < w.heap.size := by obtain ⟨_, _, ⟨m, h3⟩⟩ := h; exact lt_of_cell h3
  have KX : Hid (_ : Prop) := kx
  have KY : Hid (_ : Prop) := ky
  clear kx ky
  have hb : Below w.heap.size w ((w.alloc (.cells X 43)).alloc (.cells Y 43)) := ((Below.refl _ _).alloc (Nat.le_refl _) _).alloc (by simp) _
  have hS : Held (Bx2 w X Y) ((w.alloc (.cells X 43)).alloc (.cells Y 43)) := ⟨heap_at1 _ _ _, heap_at2 _ _ _, h.below hb, hb⟩
  have HS : Hid (Held _ _) := hS
  clear hS hb h
  go_enter Tryd.func7, Tryd.ntmps7
  go_wp2_with fail
  refine two_region (S := Bx2 w X Y) (base := w.heap.size + 1 + 1) (bx := w.heap.size) (by' := w.heap.size + 1) (X := X) (Y := Y) mixed rfl rfl rfl rfl rfl rfl rfl rfl rfl rfl rfl rfl rfl rfl rfl rfl rfl rfl rfl rfl rfl rfl rfl rfl rfl rfl rfl rfl rfl rfl rfl rfl rfl (by decide +kernel) (by decide +kernel) rfl rfl (by simp) (by rw [zx]; exact info43) (by rw [zy]; exact info43)
    (fun w' h => Bx2.x h) (fun w' h => Bx2.y h) (fun w' w2 h hb => Bx2.belowS h hb) (fun w' p v h hp => Bx2.set h hp ht v) (fun w' h => lt_of_heap (Bx2.y h)) (fun w' h => KX.out w' (Bx2.tabs h)) (fun w' h => KY.out w' (Bx2.tabs h)) (Bx2.belowS HS.out (Below.refl _ _).drew) ?_
  intro v15 v17 b7 b8 fa ra sa la fb rb sb lb wc pa0 pb0 ca cb hS0
  have ht0 := Bx2.tabs hS0
  have hB0 := Bx2.bel hS0
  clear hS0 HS KX KY
  have vb := chk_zero cb
  have va := chk_zero ca
  have zb := szOf_bd fb
  have za := szOf_bd fa
  have lb00 : 0 ≤ lb := vb.2.2.1
  have lb01 : lb ≤ 128 := by omega
  have la00 : 0 ≤ la := va.2.2.1
  have la01 : la ≤ 128 := by omega
  have sb16 : sb.size ≤ maxLen := by unfold maxLen; omega
  clear vb va zb za
  have hk0 : 0 ≤ (n % (lb + 1)) := Int.emod_nonneg _ (by omega)
  have hk1 : (n % (lb + 1)) ≤ lb := by have := Int.emod_lt_of_pos n (show 0 < lb + 1 by omega); omega
  have ne1 : ((lb + 1) == 0) = false := beq_eq_false_iff_ne.2 (by omega)
  have CA : Hid (chk fa ra sa la = 0) := ca
  have CB : Hid (chk fb rb sb lb = 0) := cb
  clear ca cb
  have cs16 : (⟨(msk sb.data.toList (n % (lb + 1))).toArray⟩ : ByteArray).size ≤ maxLen := by
    have e : (⟨(msk sb.data.toList (n % (lb + 1))).toArray⟩ : ByteArray).size = sb.size := by
      show (msk sb.data.toList (n % (lb + 1))).toArray.size = sb.size
      rw [List.size_toArray, msk_length]; simp
    rw [e]; exact sb16
  have x0 := pb0.c0
  have x1 := pb0.c1
  have x2 := pb0.c2
  have x3 := pb0.c3
  go_wp2_with fail
  refine (cut_yes fb rb sb lb (n % (lb + 1)) wc ht0.sizes ht0.rds CB.out hk0 hk1).mono ?_
  rintro e w1 ⟨rfl, hb1⟩
  have hal : Below w1.heap.size w1 (w1.alloc (.cells #[.int .i64 fb, .int .u64 rb, .string ⟨(msk sb.data.toList (n % (lb + 1))).toArray⟩, .int .i64 (n % (lb + 1))] 24)) := (Below.refl _ _).alloc (Nat.le_refl _) _
  have hb2 := hb1.trans (hal.mono hb1.size)
  have hS2 : Held (CovAt w b7 b8 w1.heap.size fa ra sa la fb rb sb lb fb rb ⟨(msk sb.data.toList (n % (lb + 1))).toArray⟩ (n % (lb + 1))) (w1.alloc (.cells #[.int .i64 fb, .int .u64 rb, .string ⟨(msk sb.data.toList (n % (lb + 1))).toArray⟩, .int .i64 (n % (lb + 1))] 24)) := ⟨pa0.kept hb2 (lt_of_cell pa0.c0), pb0.kept hb2 (lt_of_cell pb0.c0), PfxAt.of_alloc w1 _ fb rb ⟨(msk sb.data.toList (n % (lb + 1))).toArray⟩ (n % (lb + 1)) rfl, ht0.below hb2, hB0.trans (hb2.mono hB0.size)⟩
  clear x0 x1 x2 x3 pa0 pb0 ht0 hB0 hb1 hal hb2
  have PL : Hid (pcmp fb rb ⟨(msk sb.data.toList (n % (lb + 1))).toArray⟩ (n % (lb + 1)) fb rb sb lb ≤ 0) := pcmp_cut hk1
  have BT : Hid (∀ i : Nat, (i : Int) < (n % (lb + 1)) → bitI ⟨(msk sb.data.toList (n % (lb + 1))).toArray⟩ i = bitI sb i) := fun i h => bit_cut i h
  have CC : Hid (covB fb rb ⟨(msk sb.data.toList (n % (lb + 1))).toArray⟩ (n % (lb + 1)) fb rb sb lb = true) := cov_cut CB.out hk0 hk1
  have BB : Hid (covB fb rb sb lb fb rb sb lb = true) := cov_self CB.out
  have F1 : covB fa ra sa la fb rb sb lb = false → covB fa ra sa la fb rb ⟨(msk sb.data.toList (n % (lb + 1))).toArray⟩ (n % (lb + 1)) = false := by
    intro hC
    cases hE : covB fa ra sa la fb rb ⟨(msk sb.data.toList (n % (lb + 1))).toArray⟩ (n % (lb + 1)) with
    | false => rfl
    | true => rw [cov_through hE CB.out hk1] at hC; cases hC
  have F2 : covB fa ra sa la fb rb sb lb = true → covB fa ra sa la fb rb ⟨(msk sb.data.toList (n % (lb + 1))).toArray⟩ (n % (lb + 1)) = true ∨ covB fb rb ⟨(msk sb.data.toList (n % (lb + 1))).toArray⟩ (n % (lb + 1)) fa ra sa la = true := fun hC => cov_either hC CA.out hk0 hk1
  have hP := PL.out
  have hT := BT.out
  have hCC := CC.out
  clear PL BT CC
  generalize (⟨(msk sb.data.toList (n % (lb + 1))).toArray⟩ : ByteArray) = sc at *
  generalize (n % (lb + 1)) = kk at *
  have PL : Hid (pcmp fb rb sc kk fb rb sb lb ≤ 0) := hP
  have BT : Hid (∀ i : Nat, (i : Int) < kk → bitI sc i = bitI sb i) := hT
  have CC : Hid (covB fb rb sc kk fb rb sb lb = true) := hCC
  clear hP hT hCC ne1
  have F1' : Hid (_ → _) := F1
  have F2' : Hid (_ → _) := F2
  clear F1 F2
  cases hC : covB fa ra sa la fb rb sb lb with
  | false =>
    have HC : Hid (_ = _) := hC
    have HE : Hid (_ = _) := F1'.out hC
    clear hC F1' F2'
    have ra0 : ∀ w', Held (CovAt w b7 b8 w1.heap.size fa ra sa la fb rb sb lb fb rb sc kk) w' → w'.cell? ⟨b7, 0, none⟩ = some (.int .i64 fa) := fun w' h => (CovAt.a h).c0
    have ra1 : ∀ w', Held (CovAt w b7 b8 w1.heap.size fa ra sa la fb rb sb lb fb rb sc kk) w' → w'.cell? ⟨b7, 1, none⟩ = some (.int .u64 ra) := fun w' h => (CovAt.a h).c1
    have ra2 : ∀ w', Held (CovAt w b7 b8 w1.heap.size fa ra sa la fb rb sb lb fb rb sc kk) w' → w'.cell? ⟨b7, 2, none⟩ = some (.string sa) := fun w' h => (CovAt.a h).c2
    have ra3 : ∀ w', Held (CovAt w b7 b8 w1.heap.size fa ra sa la fb rb sb lb fb rb sc kk) w' → w'.cell? ⟨b7, 3, none⟩ = some (.int .i64 la) := fun w' h => (CovAt.a h).c3
    have rb0 : ∀ w', Held (CovAt w b7 b8 w1.heap.size fa ra sa la fb rb sb lb fb rb sc kk) w' → w'.cell? ⟨b8, 0, none⟩ = some (.int .i64 fb) := fun w' h => (CovAt.b h).c0
    have rb1 : ∀ w', Held (CovAt w b7 b8 w1.heap.size fa ra sa la fb rb sb lb fb rb sc kk) w' → w'.cell? ⟨b8, 1, none⟩ = some (.int .u64 rb) := fun w' h => (CovAt.b h).c1
    have rb2 : ∀ w', Held (CovAt w b7 b8 w1.heap.size fa ra sa la fb rb sb lb fb rb sc kk) w' → w'.cell? ⟨b8, 2, none⟩ = some (.string sb) := fun w' h => (CovAt.b h).c2
    have rb3 : ∀ w', Held (CovAt w b7 b8 w1.heap.size fa ra sa la fb rb sb lb fb rb sc kk) w' → w'.cell? ⟨b8, 3, none⟩ = some (.int .i64 lb) := fun w' h => (CovAt.b h).c3
    have rc0 : ∀ w', Held (CovAt w b7 b8 w1.heap.size fa ra sa la fb rb sb lb fb rb sc kk) w' → w'.cell? ⟨w1.heap.size, 0, none⟩ = some (.int .i64 fb) := fun w' h => (CovAt.c h).c0
    have rc1 : ∀ w', Held (CovAt w b7 b8 w1.heap.size fa ra sa la fb rb sb lb fb rb sc kk) w' → w'.cell? ⟨w1.heap.size, 1, none⟩ = some (.int .u64 rb) := fun w' h => (CovAt.c h).c1
    have rc2 : ∀ w', Held (CovAt w b7 b8 w1.heap.size fa ra sa la fb rb sb lb fb rb sc kk) w' → w'.cell? ⟨w1.heap.size, 2, none⟩ = some (.string sc) := fun w' h => (CovAt.c h).c2
    have rc3 : ∀ w', Held (CovAt w b7 b8 w1.heap.size fa ra sa la fb rb sb lb fb rb sc kk) w' → w'.cell? ⟨w1.heap.size, 3, none⟩ = some (.int .i64 kk) := fun w' h => (CovAt.c h).c3
    have KCB : Hid (∀ w', Held (CovAt w b7 b8 w1.heap.size fa ra sa la fb rb sb lb fb rb sc kk) w' → Calls Tryd.prog 13 #[.agg #[.int .i64 fb, .int .u64 rb, .string sc, .int .i64 kk], .agg #[.int .i64 fb, .int .u64 rb, .string sb, .int .i64 lb]] w' fun e w2 => e = .returned (.bool true) ∧ Held (CovAt w b7 b8 w1.heap.size fa ra sa la fb rb sb lb fb rb sc kk) w2) := fun w' h => by
      have := covers_any fb rb sc kk fb rb sb lb w' (CovAt.t h).sizes (CovAt.t h).rds
      rw [CC.out] at this
      exact this.mono fun _ _ ⟨h1, h2⟩ => ⟨h1, CovAt.below h h2⟩
    have KBB : Hid (∀ w', Held (CovAt w b7 b8 w1.heap.size fa ra sa la fb rb sb lb fb rb sc kk) w' → Calls Tryd.prog 13 #[.agg #[.int .i64 fb, .int .u64 rb, .string sb, .int .i64 lb], .agg #[.int .i64 fb, .int .u64 rb, .string sb, .int .i64 lb]] w' fun e w2 => e = .returned (.bool true) ∧ Held (CovAt w b7 b8 w1.heap.size fa ra sa la fb rb sb lb fb rb sc kk) w2) := fun w' h => by
      have := covers_any fb rb sb lb fb rb sb lb w' (CovAt.t h).sizes (CovAt.t h).rds
      rw [BB.out] at this
      exact this.mono fun _ _ ⟨h1, h2⟩ => ⟨h1, CovAt.below h h2⟩
    obtain ⟨m, hm, K11⟩ : ∃ m : Int, m ≤ 0 ∧ Hid (∀ w', Held (CovAt w b7 b8 w1.heap.size fa ra sa la fb rb sb lb fb rb sc kk) w' → Calls Tryd.prog 11 #[.agg #[.int .i64 fb, .int .u64 rb, .string sc, .int .i64 kk], .agg #[.int .i64 fb, .int .u64 rb, .string sb, .int .i64 lb]] w' fun e w2 => e = .returned (.int .i64 m) ∧ Held (CovAt w b7 b8 w1.heap.size fa ra sa la fb rb sb lb fb rb sc kk) w2) := ⟨_, PL.out, fun w' h => (cmp_any fb rb sc kk fb rb sb lb w').mono fun _ _ ⟨h1, h2⟩ => ⟨h1, CovAt.below h h2⟩⟩
    have KAB : Hid (∀ w', Held (CovAt w b7 b8 w1.heap.size fa ra sa la fb rb sb lb fb rb sc kk) w' → Calls Tryd.prog 13 #[.agg #[.int .i64 fa, .int .u64 ra, .string sa, .int .i64 la], .agg #[.int .i64 fb, .int .u64 rb, .string sb, .int .i64 lb]] w' fun e w2 => e = .returned (.bool false) ∧ Held (CovAt w b7 b8 w1.heap.size fa ra sa la fb rb sb lb fb rb sc kk) w2) := fun w' h => by
      have := covers_any fa ra sa la fb rb sb lb w' (CovAt.t h).sizes (CovAt.t h).rds
      rw [HC.out] at this
      exact this.mono fun _ _ ⟨h1, h2⟩ => ⟨h1, CovAt.below h h2⟩
    have KAC : Hid (∀ w', Held (CovAt w b7 b8 w1.heap.size fa ra sa la fb rb sb lb fb rb sc kk) w' → Calls Tryd.prog 13 #[.agg #[.int .i64 fa, .int .u64 ra, .string sa, .int .i64 la], .agg #[.int .i64 fb, .int .u64 rb, .string sc, .int .i64 kk]] w' fun e w2 => e = .returned (.bool false) ∧ Held (CovAt w b7 b8 w1.heap.size fa ra sa la fb rb sb lb fb rb sc kk) w2) := fun w' h => by
      have := covers_any fa ra sa la fb rb sc kk w' (CovAt.t h).sizes (CovAt.t h).rds
      rw [HE.out] at this
      exact this.mono fun _ _ ⟨h1, h2⟩ => ⟨h1, CovAt.below h h2⟩
    go_wp2_with (first | (go_at_call_of 13 ([Value.agg #[Value.int .i64 fb, Value.int .u64 rb, Value.string sc, Value.int .i64 kk], Value.agg #[Value.int .i64 fb, Value.int .u64 rb, Value.string sb, Value.int .i64 lb]]); refine (KCB.out _ (by with_reducible assumption)).mono ?_; rintro e u ⟨rfl, su⟩) | (go_at_call_of 13 ([Value.agg #[Value.int .i64 fb, Value.int .u64 rb, Value.string sb, Value.int .i64 lb], Value.agg #[Value.int .i64 fb, Value.int .u64 rb, Value.string sb, Value.int .i64 lb]]); refine (KBB.out _ (by with_reducible assumption)).mono ?_; rintro e u ⟨rfl, su⟩) | (go_at_call_of 11 ([Value.agg #[Value.int .i64 fb, Value.int .u64 rb, Value.string sc, Value.int .i64 kk], Value.agg #[Value.int .i64 fb, Value.int .u64 rb, Value.string sb, Value.int .i64 lb]]); refine (K11.out _ (by with_reducible assumption)).mono ?_; rintro e u ⟨rfl, su⟩) | (go_at_call_of 13 ([Value.agg #[Value.int .i64 fa, Value.int .u64 ra, Value.string sa, Value.int .i64 la], Value.agg #[Value.int .i64 fb, Value.int .u64 rb, Value.string sb, Value.int .i64 lb]]); refine (KAB.out _ (by with_reducible assumption)).mono ?_; rintro e u ⟨rfl, su⟩) | (go_at_call_of 13 ([Value.agg #[Value.int .i64 fa, Value.int .u64 ra, Value.string sa, Value.int .i64 la], Value.agg #[Value.int .i64 fb, Value.int .u64 rb, Value.string sc, Value.int .i64 kk]]); refine (KAC.out _ (by with_reducible assumption)).mono ?_; rintro e u ⟨rfl, su⟩))
    clear ra0 ra1 ra2 ra3
    go_loopw [14] (fun i wr => ∃ j : Nat, (j : Int) ≤ kk ∧ i = .int .i64 j ∧ Held (CovAt w b7 b8 w1.heap.size fa ra sa la fb rb sb lb fb rb sc kk) wr) (fun i _ => kk.toNat - (intOf i).toNat)
    case atStart => exact ⟨0, hk0, rfl, by with_reducible assumption⟩
    case round =>
      obtain ⟨j, hj, rfl, hq⟩ := hrel
      by_cases hlt : (j : Int) < kk
      · have bt := BT.out j hlt
        have C1 := fun w => bit_any sc j w cs16 (by omega) (by omega)
        have C2 := fun w => bit_any sb j w sb16 (by omega) (by omega)
        rw [bt] at C1
        generalize bitI sb j = q at C1 C2
        have K1 : Hid (_ : Prop) := C1
        have K2 : Hid (_ : Prop) := C2
        clear C1 C2 bt
        go_wp2_with fail
        go_quiet ((first | (go_at_call_of 17 (sc); refine Calls.quiet_of_same (K1.out _)) | (go_at_call_of 17 (sb); refine Calls.quiet_of_same (K2.out _))))
        go_wp2
        go_roundw
        case rel => exact ⟨j + 1, by omega, by go_num, CovAt.below hq (below_drewN (Below.refl _ _) nq)⟩
        case measure => simp [intOf]; omega
      · go_wp2_with fail
        refine (works_any _ (CovAt.t hq)).mono ?_
        rintro e w9 ⟨rfl, hb9⟩
        go_wp2
        go_ret
        exact ⟨rfl, (CovAt.z hq).trans (hb9.mono (CovAt.z hq).size)⟩
  | true =>
    obtain ⟨_, _, hle, rfl, rfl, hms⟩ := cov_parts hC
    have hEI := F2'.out hC
    clear F1' F2'
    cases hD : covB fb rb sb lb fb rb sa la with
    | true =>
      obtain ⟨_, _, q1, q2⟩ := cov_both hC hD
      have q1 : sb = sa := q1.symm
      have q2 : lb = la := q2.symm
      subst q1
      subst q2
      have HM : Hid ((⟨(msk sb.data.toList lb).toArray⟩ : ByteArray) = sb) := by
        unfold Hid
        apply ByteArray.ext
        simp [hms]
      clear hC hD hms hEI
      cases hE : covB fb rb sb lb fb rb sc kk with
      | true =>
        have HE : Hid (_ = _) := hE
        clear hE
        have ra0 : ∀ w', Held (CovAt w b7 b8 w1.heap.size fb rb sb lb fb rb sb lb fb rb sc kk) w' → w'.cell? ⟨b7, 0, none⟩ = some (.int .i64 fb) := fun w' h => (CovAt.a h).c0
        have ra1 : ∀ w', Held (CovAt w b7 b8 w1.heap.size fb rb sb lb fb rb sb lb fb rb sc kk) w' → w'.cell? ⟨b7, 1, none⟩ = some (.int .u64 rb) := fun w' h => (CovAt.a h).c1
        have ra2 : ∀ w', Held (CovAt w b7 b8 w1.heap.size fb rb sb lb fb rb sb lb fb rb sc kk) w' → w'.cell? ⟨b7, 2, none⟩ = some (.string sb) := fun w' h => (CovAt.a h).c2
        have ra3 : ∀ w', Held (CovAt w b7 b8 w1.heap.size fb rb sb lb fb rb sb lb fb rb sc kk) w' → w'.cell? ⟨b7, 3, none⟩ = some (.int .i64 lb) := fun w' h => (CovAt.a h).c3
        have rb0 : ∀ w', Held (CovAt w b7 b8 w1.heap.size fb rb sb lb fb rb sb lb fb rb sc kk) w' → w'.cell? ⟨b8, 0, none⟩ = some (.int .i64 fb) := fun w' h => (CovAt.b h).c0
        have rb1 : ∀ w', Held (CovAt w b7 b8 w1.heap.size fb rb sb lb fb rb sb lb fb rb sc kk) w' → w'.cell? ⟨b8, 1, none⟩ = some (.int .u64 rb) := fun w' h => (CovAt.b h).c1
        have rb2 : ∀ w', Held (CovAt w b7 b8 w1.heap.size fb rb sb lb fb rb sb lb fb rb sc kk) w' → w'.cell? ⟨b8, 2, none⟩ = some (.string sb) := fun w' h => (CovAt.b h).c2
        have rb3 : ∀ w', Held (CovAt w b7 b8 w1.heap.size fb rb sb lb fb rb sb lb fb rb sc kk) w' → w'.cell? ⟨b8, 3, none⟩ = some (.int .i64 lb) := fun w' h => (CovAt.b h).c3
        have rc0 : ∀ w', Held (CovAt w b7 b8 w1.heap.size fb rb sb lb fb rb sb lb fb rb sc kk) w' → w'.cell? ⟨w1.heap.size, 0, none⟩ = some (.int .i64 fb) := fun w' h => (CovAt.c h).c0
        have rc1 : ∀ w', Held (CovAt w b7 b8 w1.heap.size fb rb sb lb fb rb sb lb fb rb sc kk) w' → w'.cell? ⟨w1.heap.size, 1, none⟩ = some (.int .u64 rb) := fun w' h => (CovAt.c h).c1
        have rc2 : ∀ w', Held (CovAt w b7 b8 w1.heap.size fb rb sb lb fb rb sb lb fb rb sc kk) w' → w'.cell? ⟨w1.heap.size, 2, none⟩ = some (.string sc) := fun w' h => (CovAt.c h).c2
        have rc3 : ∀ w', Held (CovAt w b7 b8 w1.heap.size fb rb sb lb fb rb sb lb fb rb sc kk) w' → w'.cell? ⟨w1.heap.size, 3, none⟩ = some (.int .i64 kk) := fun w' h => (CovAt.c h).c3
        have KCB : Hid (∀ w', Held (CovAt w b7 b8 w1.heap.size fb rb sb lb fb rb sb lb fb rb sc kk) w' → Calls Tryd.prog 13 #[.agg #[.int .i64 fb, .int .u64 rb, .string sc, .int .i64 kk], .agg #[.int .i64 fb, .int .u64 rb, .string sb, .int .i64 lb]] w' fun e w2 => e = .returned (.bool true) ∧ Held (CovAt w b7 b8 w1.heap.size fb rb sb lb fb rb sb lb fb rb sc kk) w2) := fun w' h => by
          have := covers_any fb rb sc kk fb rb sb lb w' (CovAt.t h).sizes (CovAt.t h).rds
          rw [CC.out] at this
          exact this.mono fun _ _ ⟨h1, h2⟩ => ⟨h1, CovAt.below h h2⟩
        have KBB : Hid (∀ w', Held (CovAt w b7 b8 w1.heap.size fb rb sb lb fb rb sb lb fb rb sc kk) w' → Calls Tryd.prog 13 #[.agg #[.int .i64 fb, .int .u64 rb, .string sb, .int .i64 lb], .agg #[.int .i64 fb, .int .u64 rb, .string sb, .int .i64 lb]] w' fun e w2 => e = .returned (.bool true) ∧ Held (CovAt w b7 b8 w1.heap.size fb rb sb lb fb rb sb lb fb rb sc kk) w2) := fun w' h => by
          have := covers_any fb rb sb lb fb rb sb lb w' (CovAt.t h).sizes (CovAt.t h).rds
          rw [BB.out] at this
          exact this.mono fun _ _ ⟨h1, h2⟩ => ⟨h1, CovAt.below h h2⟩
        obtain ⟨m, hm, K11⟩ : ∃ m : Int, m ≤ 0 ∧ Hid (∀ w', Held (CovAt w b7 b8 w1.heap.size fb rb sb lb fb rb sb lb fb rb sc kk) w' → Calls Tryd.prog 11 #[.agg #[.int .i64 fb, .int .u64 rb, .string sc, .int .i64 kk], .agg #[.int .i64 fb, .int .u64 rb, .string sb, .int .i64 lb]] w' fun e w2 => e = .returned (.int .i64 m) ∧ Held (CovAt w b7 b8 w1.heap.size fb rb sb lb fb rb sb lb fb rb sc kk) w2) := ⟨_, PL.out, fun w' h => (cmp_any fb rb sc kk fb rb sb lb w').mono fun _ _ ⟨h1, h2⟩ => ⟨h1, CovAt.below h h2⟩⟩
        have K20 : Hid (∀ w', Held (CovAt w b7 b8 w1.heap.size fb rb sb lb fb rb sb lb fb rb sc kk) w' → Calls Tryd.prog 20 #[.agg #[.int .i64 fb, .int .u64 rb, .string sb, .int .i64 lb], .int .i64 lb] w' fun e w2 => e = .returned (.tuple #[.agg #[.int .i64 fb, .int .u64 rb, .string sb, .int .i64 lb], .int .i64 0]) ∧ Held (CovAt w b7 b8 w1.heap.size fb rb sb lb fb rb sb lb fb rb sc kk) w2) := fun w' h => by
          have := cut_yes fb rb sb lb lb w' (CovAt.t h).sizes (CovAt.t h).rds CB.out (by omega) (by omega)
          rw [HM.out] at this
          exact this.mono fun _ _ ⟨h1, h2⟩ => ⟨h1, CovAt.below h h2⟩
        have KAC : Hid (∀ w', Held (CovAt w b7 b8 w1.heap.size fb rb sb lb fb rb sb lb fb rb sc kk) w' → Calls Tryd.prog 13 #[.agg #[.int .i64 fb, .int .u64 rb, .string sb, .int .i64 lb], .agg #[.int .i64 fb, .int .u64 rb, .string sc, .int .i64 kk]] w' fun e w2 => e = .returned (.bool true) ∧ Held (CovAt w b7 b8 w1.heap.size fb rb sb lb fb rb sb lb fb rb sc kk) w2) := fun w' h => by
          have := covers_any fb rb sb lb fb rb sc kk w' (CovAt.t h).sizes (CovAt.t h).rds
          rw [HE.out] at this
          exact this.mono fun _ _ ⟨h1, h2⟩ => ⟨h1, CovAt.below h h2⟩
        go_wp2_with (first | (go_at_call_of 13 ([Value.agg #[Value.int .i64 fb, Value.int .u64 rb, Value.string sc, Value.int .i64 kk], Value.agg #[Value.int .i64 fb, Value.int .u64 rb, Value.string sb, Value.int .i64 lb]]); refine (KCB.out _ (by with_reducible assumption)).mono ?_; rintro e u ⟨rfl, su⟩) | (go_at_call_of 13 ([Value.agg #[Value.int .i64 fb, Value.int .u64 rb, Value.string sb, Value.int .i64 lb], Value.agg #[Value.int .i64 fb, Value.int .u64 rb, Value.string sb, Value.int .i64 lb]]); refine (KBB.out _ (by with_reducible assumption)).mono ?_; rintro e u ⟨rfl, su⟩) | (go_at_call_of 11 ([Value.agg #[Value.int .i64 fb, Value.int .u64 rb, Value.string sc, Value.int .i64 kk], Value.agg #[Value.int .i64 fb, Value.int .u64 rb, Value.string sb, Value.int .i64 lb]]); refine (K11.out _ (by with_reducible assumption)).mono ?_; rintro e u ⟨rfl, su⟩) | (go_at_call 20; refine (K20.out _ (by with_reducible assumption)).mono ?_; rintro e u ⟨rfl, su⟩; have sv := CovAt.below su ((Below.refl _ _).alloc (Nat.le_refl _) (.cells #[.int .i64 fb, .int .u64 rb, .string sb, .int .i64 lb] 24))) | (go_at_call_of 13 ([Value.agg #[Value.int .i64 fb, Value.int .u64 rb, Value.string sb, Value.int .i64 lb], Value.agg #[Value.int .i64 fb, Value.int .u64 rb, Value.string sc, Value.int .i64 kk]]); refine (KAC.out _ (by with_reducible assumption)).mono ?_; rintro e u ⟨rfl, su⟩))
        clear ra0 ra1 ra2 ra3
        go_loopw [14] (fun i wr => ∃ j : Nat, (j : Int) ≤ kk ∧ i = .int .i64 j ∧ Held (CovAt w b7 b8 w1.heap.size fb rb sb lb fb rb sb lb fb rb sc kk) wr) (fun i _ => kk.toNat - (intOf i).toNat)
        case atStart => exact ⟨0, hk0, rfl, by with_reducible assumption⟩
        case round =>
          obtain ⟨j, hj, rfl, hq⟩ := hrel
          by_cases hlt : (j : Int) < kk
          · have bt := BT.out j hlt
            have C1 := fun w => bit_any sc j w cs16 (by omega) (by omega)
            have C2 := fun w => bit_any sb j w sb16 (by omega) (by omega)
            rw [bt] at C1
            generalize bitI sb j = q at C1 C2
            have K1 : Hid (_ : Prop) := C1
            have K2 : Hid (_ : Prop) := C2
            clear C1 C2 bt
            go_wp2_with fail
            go_quiet ((first | (go_at_call_of 17 (sc); refine Calls.quiet_of_same (K1.out _)) | (go_at_call_of 17 (sb); refine Calls.quiet_of_same (K2.out _))))
            go_wp2
            go_roundw
            case rel => exact ⟨j + 1, by omega, by go_num, CovAt.below hq (below_drewN (Below.refl _ _) nq)⟩
            case measure => simp [intOf]; omega
          · go_wp2_with fail
            refine (works_any _ (CovAt.t hq)).mono ?_
            rintro e w9 ⟨rfl, hb9⟩
            go_wp2
            go_ret
            exact ⟨rfl, (CovAt.z hq).trans (hb9.mono (CovAt.z hq).size)⟩
      | false =>
        have HE : Hid (_ = _) := hE
        clear hE
        have ra0 : ∀ w', Held (CovAt w b7 b8 w1.heap.size fb rb sb lb fb rb sb lb fb rb sc kk) w' → w'.cell? ⟨b7, 0, none⟩ = some (.int .i64 fb) := fun w' h => (CovAt.a h).c0
        have ra1 : ∀ w', Held (CovAt w b7 b8 w1.heap.size fb rb sb lb fb rb sb lb fb rb sc kk) w' → w'.cell? ⟨b7, 1, none⟩ = some (.int .u64 rb) := fun w' h => (CovAt.a h).c1
        have ra2 : ∀ w', Held (CovAt w b7 b8 w1.heap.size fb rb sb lb fb rb sb lb fb rb sc kk) w' → w'.cell? ⟨b7, 2, none⟩ = some (.string sb) := fun w' h => (CovAt.a h).c2
        have ra3 : ∀ w', Held (CovAt w b7 b8 w1.heap.size fb rb sb lb fb rb sb lb fb rb sc kk) w' → w'.cell? ⟨b7, 3, none⟩ = some (.int .i64 lb) := fun w' h => (CovAt.a h).c3
        have rb0 : ∀ w', Held (CovAt w b7 b8 w1.heap.size fb rb sb lb fb rb sb lb fb rb sc kk) w' → w'.cell? ⟨b8, 0, none⟩ = some (.int .i64 fb) := fun w' h => (CovAt.b h).c0
        have rb1 : ∀ w', Held (CovAt w b7 b8 w1.heap.size fb rb sb lb fb rb sb lb fb rb sc kk) w' → w'.cell? ⟨b8, 1, none⟩ = some (.int .u64 rb) := fun w' h => (CovAt.b h).c1
        have rb2 : ∀ w', Held (CovAt w b7 b8 w1.heap.size fb rb sb lb fb rb sb lb fb rb sc kk) w' → w'.cell? ⟨b8, 2, none⟩ = some (.string sb) := fun w' h => (CovAt.b h).c2
        have rb3 : ∀ w', Held (CovAt w b7 b8 w1.heap.size fb rb sb lb fb rb sb lb fb rb sc kk) w' → w'.cell? ⟨b8, 3, none⟩ = some (.int .i64 lb) := fun w' h => (CovAt.b h).c3
        have rc0 : ∀ w', Held (CovAt w b7 b8 w1.heap.size fb rb sb lb fb rb sb lb fb rb sc kk) w' → w'.cell? ⟨w1.heap.size, 0, none⟩ = some (.int .i64 fb) := fun w' h => (CovAt.c h).c0
        have rc1 : ∀ w', Held (CovAt w b7 b8 w1.heap.size fb rb sb lb fb rb sb lb fb rb sc kk) w' → w'.cell? ⟨w1.heap.size, 1, none⟩ = some (.int .u64 rb) := fun w' h => (CovAt.c h).c1
        have rc2 : ∀ w', Held (CovAt w b7 b8 w1.heap.size fb rb sb lb fb rb sb lb fb rb sc kk) w' → w'.cell? ⟨w1.heap.size, 2, none⟩ = some (.string sc) := fun w' h => (CovAt.c h).c2
        have rc3 : ∀ w', Held (CovAt w b7 b8 w1.heap.size fb rb sb lb fb rb sb lb fb rb sc kk) w' → w'.cell? ⟨w1.heap.size, 3, none⟩ = some (.int .i64 kk) := fun w' h => (CovAt.c h).c3
        have KCB : Hid (∀ w', Held (CovAt w b7 b8 w1.heap.size fb rb sb lb fb rb sb lb fb rb sc kk) w' → Calls Tryd.prog 13 #[.agg #[.int .i64 fb, .int .u64 rb, .string sc, .int .i64 kk], .agg #[.int .i64 fb, .int .u64 rb, .string sb, .int .i64 lb]] w' fun e w2 => e = .returned (.bool true) ∧ Held (CovAt w b7 b8 w1.heap.size fb rb sb lb fb rb sb lb fb rb sc kk) w2) := fun w' h => by
          have := covers_any fb rb sc kk fb rb sb lb w' (CovAt.t h).sizes (CovAt.t h).rds
          rw [CC.out] at this
          exact this.mono fun _ _ ⟨h1, h2⟩ => ⟨h1, CovAt.below h h2⟩
        have KBB : Hid (∀ w', Held (CovAt w b7 b8 w1.heap.size fb rb sb lb fb rb sb lb fb rb sc kk) w' → Calls Tryd.prog 13 #[.agg #[.int .i64 fb, .int .u64 rb, .string sb, .int .i64 lb], .agg #[.int .i64 fb, .int .u64 rb, .string sb, .int .i64 lb]] w' fun e w2 => e = .returned (.bool true) ∧ Held (CovAt w b7 b8 w1.heap.size fb rb sb lb fb rb sb lb fb rb sc kk) w2) := fun w' h => by
          have := covers_any fb rb sb lb fb rb sb lb w' (CovAt.t h).sizes (CovAt.t h).rds
          rw [BB.out] at this
          exact this.mono fun _ _ ⟨h1, h2⟩ => ⟨h1, CovAt.below h h2⟩
        obtain ⟨m, hm, K11⟩ : ∃ m : Int, m ≤ 0 ∧ Hid (∀ w', Held (CovAt w b7 b8 w1.heap.size fb rb sb lb fb rb sb lb fb rb sc kk) w' → Calls Tryd.prog 11 #[.agg #[.int .i64 fb, .int .u64 rb, .string sc, .int .i64 kk], .agg #[.int .i64 fb, .int .u64 rb, .string sb, .int .i64 lb]] w' fun e w2 => e = .returned (.int .i64 m) ∧ Held (CovAt w b7 b8 w1.heap.size fb rb sb lb fb rb sb lb fb rb sc kk) w2) := ⟨_, PL.out, fun w' h => (cmp_any fb rb sc kk fb rb sb lb w').mono fun _ _ ⟨h1, h2⟩ => ⟨h1, CovAt.below h h2⟩⟩
        have K20 : Hid (∀ w', Held (CovAt w b7 b8 w1.heap.size fb rb sb lb fb rb sb lb fb rb sc kk) w' → Calls Tryd.prog 20 #[.agg #[.int .i64 fb, .int .u64 rb, .string sb, .int .i64 lb], .int .i64 lb] w' fun e w2 => e = .returned (.tuple #[.agg #[.int .i64 fb, .int .u64 rb, .string sb, .int .i64 lb], .int .i64 0]) ∧ Held (CovAt w b7 b8 w1.heap.size fb rb sb lb fb rb sb lb fb rb sc kk) w2) := fun w' h => by
          have := cut_yes fb rb sb lb lb w' (CovAt.t h).sizes (CovAt.t h).rds CB.out (by omega) (by omega)
          rw [HM.out] at this
          exact this.mono fun _ _ ⟨h1, h2⟩ => ⟨h1, CovAt.below h h2⟩
        have KAC : Hid (∀ w', Held (CovAt w b7 b8 w1.heap.size fb rb sb lb fb rb sb lb fb rb sc kk) w' → Calls Tryd.prog 13 #[.agg #[.int .i64 fb, .int .u64 rb, .string sb, .int .i64 lb], .agg #[.int .i64 fb, .int .u64 rb, .string sc, .int .i64 kk]] w' fun e w2 => e = .returned (.bool false) ∧ Held (CovAt w b7 b8 w1.heap.size fb rb sb lb fb rb sb lb fb rb sc kk) w2) := fun w' h => by
          have := covers_any fb rb sb lb fb rb sc kk w' (CovAt.t h).sizes (CovAt.t h).rds
          rw [HE.out] at this
          exact this.mono fun _ _ ⟨h1, h2⟩ => ⟨h1, CovAt.below h h2⟩
        go_wp2_with (first | (go_at_call_of 13 ([Value.agg #[Value.int .i64 fb, Value.int .u64 rb, Value.string sc, Value.int .i64 kk], Value.agg #[Value.int .i64 fb, Value.int .u64 rb, Value.string sb, Value.int .i64 lb]]); refine (KCB.out _ (by with_reducible assumption)).mono ?_; rintro e u ⟨rfl, su⟩) | (go_at_call_of 13 ([Value.agg #[Value.int .i64 fb, Value.int .u64 rb, Value.string sb, Value.int .i64 lb], Value.agg #[Value.int .i64 fb, Value.int .u64 rb, Value.string sb, Value.int .i64 lb]]); refine (KBB.out _ (by with_reducible assumption)).mono ?_; rintro e u ⟨rfl, su⟩) | (go_at_call_of 11 ([Value.agg #[Value.int .i64 fb, Value.int .u64 rb, Value.string sc, Value.int .i64 kk], Value.agg #[Value.int .i64 fb, Value.int .u64 rb, Value.string sb, Value.int .i64 lb]]); refine (K11.out _ (by with_reducible assumption)).mono ?_; rintro e u ⟨rfl, su⟩) | (go_at_call 20; refine (K20.out _ (by with_reducible assumption)).mono ?_; rintro e u ⟨rfl, su⟩; have sv := CovAt.below su ((Below.refl _ _).alloc (Nat.le_refl _) (.cells #[.int .i64 fb, .int .u64 rb, .string sb, .int .i64 lb] 24))) | (go_at_call_of 13 ([Value.agg #[Value.int .i64 fb, Value.int .u64 rb, Value.string sb, Value.int .i64 lb], Value.agg #[Value.int .i64 fb, Value.int .u64 rb, Value.string sc, Value.int .i64 kk]]); refine (KAC.out _ (by with_reducible assumption)).mono ?_; rintro e u ⟨rfl, su⟩))
        clear ra0 ra1 ra2 ra3
        go_loopw [14] (fun i wr => ∃ j : Nat, (j : Int) ≤ kk ∧ i = .int .i64 j ∧ Held (CovAt w b7 b8 w1.heap.size fb rb sb lb fb rb sb lb fb rb sc kk) wr) (fun i _ => kk.toNat - (intOf i).toNat)
        case atStart => exact ⟨0, hk0, rfl, by with_reducible assumption⟩
        case round =>
          obtain ⟨j, hj, rfl, hq⟩ := hrel
          by_cases hlt : (j : Int) < kk
          · have bt := BT.out j hlt
            have C1 := fun w => bit_any sc j w cs16 (by omega) (by omega)
            have C2 := fun w => bit_any sb j w sb16 (by omega) (by omega)
            rw [bt] at C1
            generalize bitI sb j = q at C1 C2
            have K1 : Hid (_ : Prop) := C1
            have K2 : Hid (_ : Prop) := C2
            clear C1 C2 bt
            go_wp2_with fail
            go_quiet ((first | (go_at_call_of 17 (sc); refine Calls.quiet_of_same (K1.out _)) | (go_at_call_of 17 (sb); refine Calls.quiet_of_same (K2.out _))))
            go_wp2
            go_roundw
            case rel => exact ⟨j + 1, by omega, by go_num, CovAt.below hq (below_drewN (Below.refl _ _) nq)⟩
            case measure => simp [intOf]; omega
          · go_wp2_with fail
            refine (works_any _ (CovAt.t hq)).mono ?_
            rintro e w9 ⟨rfl, hb9⟩
            go_wp2
            go_ret
            exact ⟨rfl, (CovAt.z hq).trans (hb9.mono (CovAt.z hq).size)⟩
    | false =>
      have HC : Hid (_ = _) := hC
      have HD : Hid (_ = _) := hD
      have HM : Hid ((⟨(msk sb.data.toList la).toArray⟩ : ByteArray) = sa) := by
        unfold Hid
        apply ByteArray.ext
        simp [hms]
      clear hC hD hms
      cases hE : covB fb rb sa la fb rb sc kk with
      | true =>
        have HE : Hid (_ = _) := hE
        clear hE hEI
        have ra0 : ∀ w', Held (CovAt w b7 b8 w1.heap.size fb rb sa la fb rb sb lb fb rb sc kk) w' → w'.cell? ⟨b7, 0, none⟩ = some (.int .i64 fb) := fun w' h => (CovAt.a h).c0
        have ra1 : ∀ w', Held (CovAt w b7 b8 w1.heap.size fb rb sa la fb rb sb lb fb rb sc kk) w' → w'.cell? ⟨b7, 1, none⟩ = some (.int .u64 rb) := fun w' h => (CovAt.a h).c1
        have ra2 : ∀ w', Held (CovAt w b7 b8 w1.heap.size fb rb sa la fb rb sb lb fb rb sc kk) w' → w'.cell? ⟨b7, 2, none⟩ = some (.string sa) := fun w' h => (CovAt.a h).c2
        have ra3 : ∀ w', Held (CovAt w b7 b8 w1.heap.size fb rb sa la fb rb sb lb fb rb sc kk) w' → w'.cell? ⟨b7, 3, none⟩ = some (.int .i64 la) := fun w' h => (CovAt.a h).c3
        have rb0 : ∀ w', Held (CovAt w b7 b8 w1.heap.size fb rb sa la fb rb sb lb fb rb sc kk) w' → w'.cell? ⟨b8, 0, none⟩ = some (.int .i64 fb) := fun w' h => (CovAt.b h).c0
        have rb1 : ∀ w', Held (CovAt w b7 b8 w1.heap.size fb rb sa la fb rb sb lb fb rb sc kk) w' → w'.cell? ⟨b8, 1, none⟩ = some (.int .u64 rb) := fun w' h => (CovAt.b h).c1
        have rb2 : ∀ w', Held (CovAt w b7 b8 w1.heap.size fb rb sa la fb rb sb lb fb rb sc kk) w' → w'.cell? ⟨b8, 2, none⟩ = some (.string sb) := fun w' h => (CovAt.b h).c2
        have rb3 : ∀ w', Held (CovAt w b7 b8 w1.heap.size fb rb sa la fb rb sb lb fb rb sc kk) w' → w'.cell? ⟨b8, 3, none⟩ = some (.int .i64 lb) := fun w' h => (CovAt.b h).c3
        have rc0 : ∀ w', Held (CovAt w b7 b8 w1.heap.size fb rb sa la fb rb sb lb fb rb sc kk) w' → w'.cell? ⟨w1.heap.size, 0, none⟩ = some (.int .i64 fb) := fun w' h => (CovAt.c h).c0
        have rc1 : ∀ w', Held (CovAt w b7 b8 w1.heap.size fb rb sa la fb rb sb lb fb rb sc kk) w' → w'.cell? ⟨w1.heap.size, 1, none⟩ = some (.int .u64 rb) := fun w' h => (CovAt.c h).c1
        have rc2 : ∀ w', Held (CovAt w b7 b8 w1.heap.size fb rb sa la fb rb sb lb fb rb sc kk) w' → w'.cell? ⟨w1.heap.size, 2, none⟩ = some (.string sc) := fun w' h => (CovAt.c h).c2
        have rc3 : ∀ w', Held (CovAt w b7 b8 w1.heap.size fb rb sa la fb rb sb lb fb rb sc kk) w' → w'.cell? ⟨w1.heap.size, 3, none⟩ = some (.int .i64 kk) := fun w' h => (CovAt.c h).c3
        have KCB : Hid (∀ w', Held (CovAt w b7 b8 w1.heap.size fb rb sa la fb rb sb lb fb rb sc kk) w' → Calls Tryd.prog 13 #[.agg #[.int .i64 fb, .int .u64 rb, .string sc, .int .i64 kk], .agg #[.int .i64 fb, .int .u64 rb, .string sb, .int .i64 lb]] w' fun e w2 => e = .returned (.bool true) ∧ Held (CovAt w b7 b8 w1.heap.size fb rb sa la fb rb sb lb fb rb sc kk) w2) := fun w' h => by
          have := covers_any fb rb sc kk fb rb sb lb w' (CovAt.t h).sizes (CovAt.t h).rds
          rw [CC.out] at this
          exact this.mono fun _ _ ⟨h1, h2⟩ => ⟨h1, CovAt.below h h2⟩
        have KBB : Hid (∀ w', Held (CovAt w b7 b8 w1.heap.size fb rb sa la fb rb sb lb fb rb sc kk) w' → Calls Tryd.prog 13 #[.agg #[.int .i64 fb, .int .u64 rb, .string sb, .int .i64 lb], .agg #[.int .i64 fb, .int .u64 rb, .string sb, .int .i64 lb]] w' fun e w2 => e = .returned (.bool true) ∧ Held (CovAt w b7 b8 w1.heap.size fb rb sa la fb rb sb lb fb rb sc kk) w2) := fun w' h => by
          have := covers_any fb rb sb lb fb rb sb lb w' (CovAt.t h).sizes (CovAt.t h).rds
          rw [BB.out] at this
          exact this.mono fun _ _ ⟨h1, h2⟩ => ⟨h1, CovAt.below h h2⟩
        obtain ⟨m, hm, K11⟩ : ∃ m : Int, m ≤ 0 ∧ Hid (∀ w', Held (CovAt w b7 b8 w1.heap.size fb rb sa la fb rb sb lb fb rb sc kk) w' → Calls Tryd.prog 11 #[.agg #[.int .i64 fb, .int .u64 rb, .string sc, .int .i64 kk], .agg #[.int .i64 fb, .int .u64 rb, .string sb, .int .i64 lb]] w' fun e w2 => e = .returned (.int .i64 m) ∧ Held (CovAt w b7 b8 w1.heap.size fb rb sa la fb rb sb lb fb rb sc kk) w2) := ⟨_, PL.out, fun w' h => (cmp_any fb rb sc kk fb rb sb lb w').mono fun _ _ ⟨h1, h2⟩ => ⟨h1, CovAt.below h h2⟩⟩
        have K20 : Hid (∀ w', Held (CovAt w b7 b8 w1.heap.size fb rb sa la fb rb sb lb fb rb sc kk) w' → Calls Tryd.prog 20 #[.agg #[.int .i64 fb, .int .u64 rb, .string sb, .int .i64 lb], .int .i64 la] w' fun e w2 => e = .returned (.tuple #[.agg #[.int .i64 fb, .int .u64 rb, .string sa, .int .i64 la], .int .i64 0]) ∧ Held (CovAt w b7 b8 w1.heap.size fb rb sa la fb rb sb lb fb rb sc kk) w2) := fun w' h => by
          have := cut_yes fb rb sb lb la w' (CovAt.t h).sizes (CovAt.t h).rds CB.out (by omega) (by omega)
          rw [HM.out] at this
          exact this.mono fun _ _ ⟨h1, h2⟩ => ⟨h1, CovAt.below h h2⟩
        have KAB : Hid (∀ w', Held (CovAt w b7 b8 w1.heap.size fb rb sa la fb rb sb lb fb rb sc kk) w' → Calls Tryd.prog 13 #[.agg #[.int .i64 fb, .int .u64 rb, .string sa, .int .i64 la], .agg #[.int .i64 fb, .int .u64 rb, .string sb, .int .i64 lb]] w' fun e w2 => e = .returned (.bool true) ∧ Held (CovAt w b7 b8 w1.heap.size fb rb sa la fb rb sb lb fb rb sc kk) w2) := fun w' h => by
          have := covers_any fb rb sa la fb rb sb lb w' (CovAt.t h).sizes (CovAt.t h).rds
          rw [HC.out] at this
          exact this.mono fun _ _ ⟨h1, h2⟩ => ⟨h1, CovAt.below h h2⟩
        have KBA : Hid (∀ w', Held (CovAt w b7 b8 w1.heap.size fb rb sa la fb rb sb lb fb rb sc kk) w' → Calls Tryd.prog 13 #[.agg #[.int .i64 fb, .int .u64 rb, .string sb, .int .i64 lb], .agg #[.int .i64 fb, .int .u64 rb, .string sa, .int .i64 la]] w' fun e w2 => e = .returned (.bool false) ∧ Held (CovAt w b7 b8 w1.heap.size fb rb sa la fb rb sb lb fb rb sc kk) w2) := fun w' h => by
          have := covers_any fb rb sb lb fb rb sa la w' (CovAt.t h).sizes (CovAt.t h).rds
          rw [HD.out] at this
          exact this.mono fun _ _ ⟨h1, h2⟩ => ⟨h1, CovAt.below h h2⟩
        have KAC : Hid (∀ w', Held (CovAt w b7 b8 w1.heap.size fb rb sa la fb rb sb lb fb rb sc kk) w' → Calls Tryd.prog 13 #[.agg #[.int .i64 fb, .int .u64 rb, .string sa, .int .i64 la], .agg #[.int .i64 fb, .int .u64 rb, .string sc, .int .i64 kk]] w' fun e w2 => e = .returned (.bool true) ∧ Held (CovAt w b7 b8 w1.heap.size fb rb sa la fb rb sb lb fb rb sc kk) w2) := fun w' h => by
          have := covers_any fb rb sa la fb rb sc kk w' (CovAt.t h).sizes (CovAt.t h).rds
          rw [HE.out] at this
          exact this.mono fun _ _ ⟨h1, h2⟩ => ⟨h1, CovAt.below h h2⟩
        go_wp2_with (first | (go_at_call_of 13 ([Value.agg #[Value.int .i64 fb, Value.int .u64 rb, Value.string sc, Value.int .i64 kk], Value.agg #[Value.int .i64 fb, Value.int .u64 rb, Value.string sb, Value.int .i64 lb]]); refine (KCB.out _ (by with_reducible assumption)).mono ?_; rintro e u ⟨rfl, su⟩) | (go_at_call_of 13 ([Value.agg #[Value.int .i64 fb, Value.int .u64 rb, Value.string sb, Value.int .i64 lb], Value.agg #[Value.int .i64 fb, Value.int .u64 rb, Value.string sb, Value.int .i64 lb]]); refine (KBB.out _ (by with_reducible assumption)).mono ?_; rintro e u ⟨rfl, su⟩) | (go_at_call_of 11 ([Value.agg #[Value.int .i64 fb, Value.int .u64 rb, Value.string sc, Value.int .i64 kk], Value.agg #[Value.int .i64 fb, Value.int .u64 rb, Value.string sb, Value.int .i64 lb]]); refine (K11.out _ (by with_reducible assumption)).mono ?_; rintro e u ⟨rfl, su⟩) | (go_at_call 20; refine (K20.out _ (by with_reducible assumption)).mono ?_; rintro e u ⟨rfl, su⟩; have sv := CovAt.below su ((Below.refl _ _).alloc (Nat.le_refl _) (.cells #[.int .i64 fb, .int .u64 rb, .string sa, .int .i64 la] 24))) | (go_at_call_of 13 ([Value.agg #[Value.int .i64 fb, Value.int .u64 rb, Value.string sa, Value.int .i64 la], Value.agg #[Value.int .i64 fb, Value.int .u64 rb, Value.string sb, Value.int .i64 lb]]); refine (KAB.out _ (by with_reducible assumption)).mono ?_; rintro e u ⟨rfl, su⟩) | (go_at_call_of 13 ([Value.agg #[Value.int .i64 fb, Value.int .u64 rb, Value.string sb, Value.int .i64 lb], Value.agg #[Value.int .i64 fb, Value.int .u64 rb, Value.string sa, Value.int .i64 la]]); refine (KBA.out _ (by with_reducible assumption)).mono ?_; rintro e u ⟨rfl, su⟩) | (go_at_call_of 13 ([Value.agg #[Value.int .i64 fb, Value.int .u64 rb, Value.string sa, Value.int .i64 la], Value.agg #[Value.int .i64 fb, Value.int .u64 rb, Value.string sc, Value.int .i64 kk]]); refine (KAC.out _ (by with_reducible assumption)).mono ?_; rintro e u ⟨rfl, su⟩))
        clear ra0 ra1 ra2 ra3
        go_loopw [14] (fun i wr => ∃ j : Nat, (j : Int) ≤ kk ∧ i = .int .i64 j ∧ Held (CovAt w b7 b8 w1.heap.size fb rb sa la fb rb sb lb fb rb sc kk) wr) (fun i _ => kk.toNat - (intOf i).toNat)
        case atStart => exact ⟨0, hk0, rfl, by with_reducible assumption⟩
        case round =>
          obtain ⟨j, hj, rfl, hq⟩ := hrel
          by_cases hlt : (j : Int) < kk
          · have bt := BT.out j hlt
            have C1 := fun w => bit_any sc j w cs16 (by omega) (by omega)
            have C2 := fun w => bit_any sb j w sb16 (by omega) (by omega)
            rw [bt] at C1
            generalize bitI sb j = q at C1 C2
            have K1 : Hid (_ : Prop) := C1
            have K2 : Hid (_ : Prop) := C2
            clear C1 C2 bt
            go_wp2_with fail
            go_quiet ((first | (go_at_call_of 17 (sc); refine Calls.quiet_of_same (K1.out _)) | (go_at_call_of 17 (sb); refine Calls.quiet_of_same (K2.out _))))
            go_wp2
            go_roundw
            case rel => exact ⟨j + 1, by omega, by go_num, CovAt.below hq (below_drewN (Below.refl _ _) nq)⟩
            case measure => simp [intOf]; omega
          · go_wp2_with fail
            refine (works_any _ (CovAt.t hq)).mono ?_
            rintro e w9 ⟨rfl, hb9⟩
            go_wp2
            go_ret
            exact ⟨rfl, (CovAt.z hq).trans (hb9.mono (CovAt.z hq).size)⟩
      | false =>
        have HE : Hid (_ = _) := hE
        have HF : Hid (covB fb rb sc kk fb rb sa la = true) := by
          rcases hEI with x | x
          · rw [hE] at x; cases x
          · exact x
        clear hE hEI
        have ra0 : ∀ w', Held (CovAt w b7 b8 w1.heap.size fb rb sa la fb rb sb lb fb rb sc kk) w' → w'.cell? ⟨b7, 0, none⟩ = some (.int .i64 fb) := fun w' h => (CovAt.a h).c0
        have ra1 : ∀ w', Held (CovAt w b7 b8 w1.heap.size fb rb sa la fb rb sb lb fb rb sc kk) w' → w'.cell? ⟨b7, 1, none⟩ = some (.int .u64 rb) := fun w' h => (CovAt.a h).c1
        have ra2 : ∀ w', Held (CovAt w b7 b8 w1.heap.size fb rb sa la fb rb sb lb fb rb sc kk) w' → w'.cell? ⟨b7, 2, none⟩ = some (.string sa) := fun w' h => (CovAt.a h).c2
        have ra3 : ∀ w', Held (CovAt w b7 b8 w1.heap.size fb rb sa la fb rb sb lb fb rb sc kk) w' → w'.cell? ⟨b7, 3, none⟩ = some (.int .i64 la) := fun w' h => (CovAt.a h).c3
        have rb0 : ∀ w', Held (CovAt w b7 b8 w1.heap.size fb rb sa la fb rb sb lb fb rb sc kk) w' → w'.cell? ⟨b8, 0, none⟩ = some (.int .i64 fb) := fun w' h => (CovAt.b h).c0
        have rb1 : ∀ w', Held (CovAt w b7 b8 w1.heap.size fb rb sa la fb rb sb lb fb rb sc kk) w' → w'.cell? ⟨b8, 1, none⟩ = some (.int .u64 rb) := fun w' h => (CovAt.b h).c1
        have rb2 : ∀ w', Held (CovAt w b7 b8 w1.heap.size fb rb sa la fb rb sb lb fb rb sc kk) w' → w'.cell? ⟨b8, 2, none⟩ = some (.string sb) := fun w' h => (CovAt.b h).c2
        have rb3 : ∀ w', Held (CovAt w b7 b8 w1.heap.size fb rb sa la fb rb sb lb fb rb sc kk) w' → w'.cell? ⟨b8, 3, none⟩ = some (.int .i64 lb) := fun w' h => (CovAt.b h).c3
        have rc0 : ∀ w', Held (CovAt w b7 b8 w1.heap.size fb rb sa la fb rb sb lb fb rb sc kk) w' → w'.cell? ⟨w1.heap.size, 0, none⟩ = some (.int .i64 fb) := fun w' h => (CovAt.c h).c0
        have rc1 : ∀ w', Held (CovAt w b7 b8 w1.heap.size fb rb sa la fb rb sb lb fb rb sc kk) w' → w'.cell? ⟨w1.heap.size, 1, none⟩ = some (.int .u64 rb) := fun w' h => (CovAt.c h).c1
        have rc2 : ∀ w', Held (CovAt w b7 b8 w1.heap.size fb rb sa la fb rb sb lb fb rb sc kk) w' → w'.cell? ⟨w1.heap.size, 2, none⟩ = some (.string sc) := fun w' h => (CovAt.c h).c2
        have rc3 : ∀ w', Held (CovAt w b7 b8 w1.heap.size fb rb sa la fb rb sb lb fb rb sc kk) w' → w'.cell? ⟨w1.heap.size, 3, none⟩ = some (.int .i64 kk) := fun w' h => (CovAt.c h).c3
        have KCB : Hid (∀ w', Held (CovAt w b7 b8 w1.heap.size fb rb sa la fb rb sb lb fb rb sc kk) w' → Calls Tryd.prog 13 #[.agg #[.int .i64 fb, .int .u64 rb, .string sc, .int .i64 kk], .agg #[.int .i64 fb, .int .u64 rb, .string sb, .int .i64 lb]] w' fun e w2 => e = .returned (.bool true) ∧ Held (CovAt w b7 b8 w1.heap.size fb rb sa la fb rb sb lb fb rb sc kk) w2) := fun w' h => by
          have := covers_any fb rb sc kk fb rb sb lb w' (CovAt.t h).sizes (CovAt.t h).rds
          rw [CC.out] at this
          exact this.mono fun _ _ ⟨h1, h2⟩ => ⟨h1, CovAt.below h h2⟩
        have KBB : Hid (∀ w', Held (CovAt w b7 b8 w1.heap.size fb rb sa la fb rb sb lb fb rb sc kk) w' → Calls Tryd.prog 13 #[.agg #[.int .i64 fb, .int .u64 rb, .string sb, .int .i64 lb], .agg #[.int .i64 fb, .int .u64 rb, .string sb, .int .i64 lb]] w' fun e w2 => e = .returned (.bool true) ∧ Held (CovAt w b7 b8 w1.heap.size fb rb sa la fb rb sb lb fb rb sc kk) w2) := fun w' h => by
          have := covers_any fb rb sb lb fb rb sb lb w' (CovAt.t h).sizes (CovAt.t h).rds
          rw [BB.out] at this
          exact this.mono fun _ _ ⟨h1, h2⟩ => ⟨h1, CovAt.below h h2⟩
        obtain ⟨m, hm, K11⟩ : ∃ m : Int, m ≤ 0 ∧ Hid (∀ w', Held (CovAt w b7 b8 w1.heap.size fb rb sa la fb rb sb lb fb rb sc kk) w' → Calls Tryd.prog 11 #[.agg #[.int .i64 fb, .int .u64 rb, .string sc, .int .i64 kk], .agg #[.int .i64 fb, .int .u64 rb, .string sb, .int .i64 lb]] w' fun e w2 => e = .returned (.int .i64 m) ∧ Held (CovAt w b7 b8 w1.heap.size fb rb sa la fb rb sb lb fb rb sc kk) w2) := ⟨_, PL.out, fun w' h => (cmp_any fb rb sc kk fb rb sb lb w').mono fun _ _ ⟨h1, h2⟩ => ⟨h1, CovAt.below h h2⟩⟩
        have K20 : Hid (∀ w', Held (CovAt w b7 b8 w1.heap.size fb rb sa la fb rb sb lb fb rb sc kk) w' → Calls Tryd.prog 20 #[.agg #[.int .i64 fb, .int .u64 rb, .string sb, .int .i64 lb], .int .i64 la] w' fun e w2 => e = .returned (.tuple #[.agg #[.int .i64 fb, .int .u64 rb, .string sa, .int .i64 la], .int .i64 0]) ∧ Held (CovAt w b7 b8 w1.heap.size fb rb sa la fb rb sb lb fb rb sc kk) w2) := fun w' h => by
          have := cut_yes fb rb sb lb la w' (CovAt.t h).sizes (CovAt.t h).rds CB.out (by omega) (by omega)
          rw [HM.out] at this
          exact this.mono fun _ _ ⟨h1, h2⟩ => ⟨h1, CovAt.below h h2⟩
        have KAB : Hid (∀ w', Held (CovAt w b7 b8 w1.heap.size fb rb sa la fb rb sb lb fb rb sc kk) w' → Calls Tryd.prog 13 #[.agg #[.int .i64 fb, .int .u64 rb, .string sa, .int .i64 la], .agg #[.int .i64 fb, .int .u64 rb, .string sb, .int .i64 lb]] w' fun e w2 => e = .returned (.bool true) ∧ Held (CovAt w b7 b8 w1.heap.size fb rb sa la fb rb sb lb fb rb sc kk) w2) := fun w' h => by
          have := covers_any fb rb sa la fb rb sb lb w' (CovAt.t h).sizes (CovAt.t h).rds
          rw [HC.out] at this
          exact this.mono fun _ _ ⟨h1, h2⟩ => ⟨h1, CovAt.below h h2⟩
        have KBA : Hid (∀ w', Held (CovAt w b7 b8 w1.heap.size fb rb sa la fb rb sb lb fb rb sc kk) w' → Calls Tryd.prog 13 #[.agg #[.int .i64 fb, .int .u64 rb, .string sb, .int .i64 lb], .agg #[.int .i64 fb, .int .u64 rb, .string sa, .int .i64 la]] w' fun e w2 => e = .returned (.bool false) ∧ Held (CovAt w b7 b8 w1.heap.size fb rb sa la fb rb sb lb fb rb sc kk) w2) := fun w' h => by
          have := covers_any fb rb sb lb fb rb sa la w' (CovAt.t h).sizes (CovAt.t h).rds
          rw [HD.out] at this
          exact this.mono fun _ _ ⟨h1, h2⟩ => ⟨h1, CovAt.below h h2⟩
        have KAC : Hid (∀ w', Held (CovAt w b7 b8 w1.heap.size fb rb sa la fb rb sb lb fb rb sc kk) w' → Calls Tryd.prog 13 #[.agg #[.int .i64 fb, .int .u64 rb, .string sa, .int .i64 la], .agg #[.int .i64 fb, .int .u64 rb, .string sc, .int .i64 kk]] w' fun e w2 => e = .returned (.bool false) ∧ Held (CovAt w b7 b8 w1.heap.size fb rb sa la fb rb sb lb fb rb sc kk) w2) := fun w' h => by
          have := covers_any fb rb sa la fb rb sc kk w' (CovAt.t h).sizes (CovAt.t h).rds
          rw [HE.out] at this
          exact this.mono fun _ _ ⟨h1, h2⟩ => ⟨h1, CovAt.below h h2⟩
        have KCA : Hid (∀ w', Held (CovAt w b7 b8 w1.heap.size fb rb sa la fb rb sb lb fb rb sc kk) w' → Calls Tryd.prog 13 #[.agg #[.int .i64 fb, .int .u64 rb, .string sc, .int .i64 kk], .agg #[.int .i64 fb, .int .u64 rb, .string sa, .int .i64 la]] w' fun e w2 => e = .returned (.bool true) ∧ Held (CovAt w b7 b8 w1.heap.size fb rb sa la fb rb sb lb fb rb sc kk) w2) := fun w' h => by
          have := covers_any fb rb sc kk fb rb sa la w' (CovAt.t h).sizes (CovAt.t h).rds
          rw [HF.out] at this
          exact this.mono fun _ _ ⟨h1, h2⟩ => ⟨h1, CovAt.below h h2⟩
        go_wp2_with (first | (go_at_call_of 13 ([Value.agg #[Value.int .i64 fb, Value.int .u64 rb, Value.string sc, Value.int .i64 kk], Value.agg #[Value.int .i64 fb, Value.int .u64 rb, Value.string sb, Value.int .i64 lb]]); refine (KCB.out _ (by with_reducible assumption)).mono ?_; rintro e u ⟨rfl, su⟩) | (go_at_call_of 13 ([Value.agg #[Value.int .i64 fb, Value.int .u64 rb, Value.string sb, Value.int .i64 lb], Value.agg #[Value.int .i64 fb, Value.int .u64 rb, Value.string sb, Value.int .i64 lb]]); refine (KBB.out _ (by with_reducible assumption)).mono ?_; rintro e u ⟨rfl, su⟩) | (go_at_call_of 11 ([Value.agg #[Value.int .i64 fb, Value.int .u64 rb, Value.string sc, Value.int .i64 kk], Value.agg #[Value.int .i64 fb, Value.int .u64 rb, Value.string sb, Value.int .i64 lb]]); refine (K11.out _ (by with_reducible assumption)).mono ?_; rintro e u ⟨rfl, su⟩) | (go_at_call 20; refine (K20.out _ (by with_reducible assumption)).mono ?_; rintro e u ⟨rfl, su⟩; have sv := CovAt.below su ((Below.refl _ _).alloc (Nat.le_refl _) (.cells #[.int .i64 fb, .int .u64 rb, .string sa, .int .i64 la] 24))) | (go_at_call_of 13 ([Value.agg #[Value.int .i64 fb, Value.int .u64 rb, Value.string sa, Value.int .i64 la], Value.agg #[Value.int .i64 fb, Value.int .u64 rb, Value.string sb, Value.int .i64 lb]]); refine (KAB.out _ (by with_reducible assumption)).mono ?_; rintro e u ⟨rfl, su⟩) | (go_at_call_of 13 ([Value.agg #[Value.int .i64 fb, Value.int .u64 rb, Value.string sb, Value.int .i64 lb], Value.agg #[Value.int .i64 fb, Value.int .u64 rb, Value.string sa, Value.int .i64 la]]); refine (KBA.out _ (by with_reducible assumption)).mono ?_; rintro e u ⟨rfl, su⟩) | (go_at_call_of 13 ([Value.agg #[Value.int .i64 fb, Value.int .u64 rb, Value.string sa, Value.int .i64 la], Value.agg #[Value.int .i64 fb, Value.int .u64 rb, Value.string sc, Value.int .i64 kk]]); refine (KAC.out _ (by with_reducible assumption)).mono ?_; rintro e u ⟨rfl, su⟩) | (go_at_call_of 13 ([Value.agg #[Value.int .i64 fb, Value.int .u64 rb, Value.string sc, Value.int .i64 kk], Value.agg #[Value.int .i64 fb, Value.int .u64 rb, Value.string sa, Value.int .i64 la]]); refine (KCA.out _ (by with_reducible assumption)).mono ?_; rintro e u ⟨rfl, su⟩))
        clear ra0 ra1 ra2 ra3
        go_loopw [14] (fun i wr => ∃ j : Nat, (j : Int) ≤ kk ∧ i = .int .i64 j ∧ Held (CovAt w b7 b8 w1.heap.size fb rb sa la fb rb sb lb fb rb sc kk) wr) (fun i _ => kk.toNat - (intOf i).toNat)
        case atStart => exact ⟨0, hk0, rfl, by with_reducible assumption⟩
        case round =>
          obtain ⟨j, hj, rfl, hq⟩ := hrel
          by_cases hlt : (j : Int) < kk
          · have bt := BT.out j hlt
            have C1 := fun w => bit_any sc j w cs16 (by omega) (by omega)
            have C2 := fun w => bit_any sb j w sb16 (by omega) (by omega)
            rw [bt] at C1
            generalize bitI sb j = q at C1 C2
            have K1 : Hid (_ : Prop) := C1
            have K2 : Hid (_ : Prop) := C2
            clear C1 C2 bt
            go_wp2_with fail
            go_quiet ((first | (go_at_call_of 17 (sc); refine Calls.quiet_of_same (K1.out _)) | (go_at_call_of 17 (sb); refine Calls.quiet_of_same (K2.out _))))
            go_wp2
            go_roundw
            case rel => exact ⟨j + 1, by omega, by go_num, CovAt.below hq (below_drewN (Below.refl _ _) nq)⟩
            case measure => simp [intOf]; omega
          · go_wp2_with fail
            refine (works_any _ (CovAt.t hq)).mono ?_
            rintro e w9 ⟨rfl, hb9⟩
            go_wp2
            go_ret
            exact ⟨rfl, (CovAt.z hq).trans (hb9.mono (CovAt.z hq).size)⟩
end Go.Proofs.YtkgedoedojkdkaaDoor
