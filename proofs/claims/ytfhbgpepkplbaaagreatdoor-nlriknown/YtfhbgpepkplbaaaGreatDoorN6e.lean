/-
  A told prefix is taken: the count is too small, there is no label.
-/
import Derived.Test.YtfhbgpepkplbaaaGreatDoorN5
import Derived.Deep.RegionHeld3
namespace Go.Proofs.YtfhbgpepkplbaaaGreatDoor
open Go.RowKit
set_option maxRecDepth 100000 in
set_option maxHeartbeats 4000000 in
theorem take_e (p : Nat) (f : Int) (add : Bool) (l ma la mb l2 mc lc md ld me le : List UInt8) (ba bb bc bd be : Bool) (bits : Int) (w : World)
    (hr : RdrAt w p ⟨l.toArray⟩)
    (hA : tk (idN add) false l = (ma, ba, la)) (hB : tk 1 ba la = (mb, bb, l2)) (hbits : (worth mb : Int) - exN f = bits)
    (hC : tk (lbN f) (bb || !(decide (0 ≤ bits) && decide (bits ≤ 8 * szOf f))) l2 = (mc, bc, lc))
    (hD : tk (rdN f) (bc || !((labI (worth mc)).2 || decide (lbN f = 0))) lc = (md, bd, ld)) (hE : tk (byN bits) bd ld = (me, be, le))
    (hml : me.length ≤ 1000000) (g7 : bits < 0) (g9 : (labI (worth mc)).2 = false ∧ lbN f = 0) (hok : be = false → 0 ≤ bits ∧ bits ≤ 8 * szOf f) :
    Calls Tryz.prog 44 #[shp f add, .pointer (some ⟨p, 0, none⟩)] w fun e w' => TakeOk p ma mc md me le f be bits w e w' := by
  obtain ⟨hz1, hz2⟩ := szOf_bd f
  have hid : idN add ≤ 4 := by unfold idN; split <;> omega
  have hlb : lbN f ≤ 3 := by unfold lbN; split <;> omega
  have hrd : rdN f ≤ 8 := by unfold rdN; split <;> omega
  have hex : exN f ≤ 88 := by unfold exN; omega
  have hmb : worth mb < 256 := worth_le mb 1 (tk_len (n := 1) hB)
  have hma : worth ma < 4294967296 := Nat.lt_of_lt_of_le (worth_le ma 4 (Nat.le_trans (tk_len hA) hid)) (by decide)
  have hmc : worth mc < 16777216 := Nat.lt_of_lt_of_le (worth_le mc 3 (Nat.le_trans (tk_len hC) hlb)) (by decide)
  have NA : Hid (∀ wr, TkAt w wr w.heap.size p f add false l → Calls Tryz.prog 73 #[.int .i64 (idN add), .pointer (some ⟨w.heap.size + 5, 0, none⟩)] wr fun e w' => e = .returned (.int .u64 (worth ma : Nat)) ∧ TkAt w w' w.heap.size p f add ba la) := fun wr h => by
    have := numb_any (idN add) (by omega) h; rw [hA] at this; exact this
  have NB : Hid (∀ wr, TkAt w wr w.heap.size p f add ba la → Calls Tryz.prog 73 #[.int .i64 1, .pointer (some ⟨w.heap.size + 5, 0, none⟩)] wr fun e w' => e = .returned (.int .u64 (worth mb : Nat)) ∧ TkAt w w' w.heap.size p f add bb l2) := fun wr h => by
    have := numb_any 1 (by omega) h; rw [show ((1 : Nat) : Int) = 1 from rfl, hB] at this; exact this
  generalize hb2 : (bb || !(decide (0 ≤ bits) && decide (bits ≤ 8 * szOf f))) = b2 at *
  have NC : Hid (∀ wr, TkAt w wr w.heap.size p f add b2 l2 → Calls Tryz.prog 73 #[.int .i64 (lbN f), .pointer (some ⟨w.heap.size + 5, 0, none⟩)] wr fun e w' => e = .returned (.int .u64 (worth mc : Nat)) ∧ TkAt w w' w.heap.size p f add bc lc) := fun wr h => by
    have := numb_any (lbN f) (by omega) h; rw [hC] at this; exact this
  generalize hb3 : (bc || !((labI (worth mc)).2 || decide (lbN f = 0))) = b3 at *
  have ND : Hid (∀ wr, TkAt w wr w.heap.size p f add b3 lc → Calls Tryz.prog 73 #[.int .i64 (rdN f), .pointer (some ⟨w.heap.size + 5, 0, none⟩)] wr fun e w' => e = .returned (.int .u64 (worth md : Nat)) ∧ TkAt w w' w.heap.size p f add bd ld) := fun wr h => by
    have := numb_any (rdN f) (by omega) h; rw [hD] at this; exact this
  have NE : Hid (∀ wr, TkAt w wr w.heap.size p f add bd ld → Calls Tryz.prog 71 #[.int .i64 (byN bits), .pointer (some ⟨w.heap.size + 1, 0, none⟩), .pointer (some ⟨w.heap.size + 4, 0, none⟩)] wr fun e w' => e = .returned (.string ⟨me.toArray⟩) ∧ TkAt w w' w.heap.size p f add be le) := fun wr h => by
    have := piece_any (byN bits) h; rw [hE] at this; exact this
  have NL : Hid (∀ wr, Calls Tryz.prog 75 #[.int .u64 (worth mc : Nat)] wr fun e w' => e = .returned (.tuple #[.int .u32 ((labI (worth mc)).1 : Nat), .bool (labI (worth mc)).2]) ∧ w' = wr) := fun wr => labelOf_any _ wr hmc
  have NY : Hid (∀ wr, Calls Tryz.prog 24 #[.int .i64 bits] wr fun e w' => e = .returned (.int .i64 (byN bits)) ∧ w' = wr) := fun wr => bytesOf_any bits wr (by omega) (by omega)
  have NX : Hid (∀ wr, Calls Tryz.prog 67 #[.agg #[.int .i64 (idN add), .int .i64 (lbN f), .int .i64 (rdN f), .int .i64 (szOf f)]] wr fun e w' => e = .returned (.int .i64 (exN f)) ∧ Below wr.heap.size wr w') := fun wr => extra_any f add wr
  have e1 : IntKind.i64.wrap ((worth mb : Nat) : Int) = ((worth mb : Nat) : Int) := by rw [IntKind.wrap_i64]; omega
  have e2 : IntKind.i64.wrap (((worth mb : Nat) : Int) - (exN f : Nat)) = bits := by rw [hbits, IntKind.wrap_i64]; omega
  have e3 : IntKind.i64.wrap (8 * szOf f) = 8 * szOf f := by rw [IntKind.wrap_i64]; omega
  have e4 : IntKind.u32.wrap ((worth ma : Nat) : Int) = ((worth ma : Nat) : Int) := by rw [IntKind.wrap_u32]; omega
  have HZ : Hid (szOf f = ((szOf f).toNat : Int) ∧ (szOf f).toNat ≤ 16) := by unfold Hid; omega
  have HOK : Hid (be = false → 0 ≤ bits ∧ bits ≤ 8 * szOf f) := hok
  have HML : Hid (me.length ≤ 1000000) := hml
  generalize hv : labI (worth mc) = lv at *
  obtain ⟨lbl, okl⟩ := lv
  simp only at NL hb3 g9
  have G9 : Hid (_ : Prop) := g9
  clear g9
  have HV : Hid (labI (worth mc) = (lbl, okl)) := hv
  clear hv
  generalize worth mb = vb at *
  generalize hvc : worth mc = vc at *
  have HVC : Hid (worth mc = vc) := hvc
  clear hvc
  have S0 : Hid (∀ W, _ → TkAt w W w.heap.size p f add false l) := fun W hW => TkAt.start hr W hW
  have HLB : Hid (TakeOk = TakeOk) := rfl
  clear hA hB hC hD hE hbits hid hlb hrd hex hma hmc hmb hok hml hr
  unfold shp
  go_enter Tryz.func44, Tryz.ntmps44
  go_wp2_with fail
  refine Calls.mono (NA.out _ (S0.out _ rfl)) ?_
  rintro e w1 ⟨rfl, h1⟩
  have H1d : Hid (TkAt w w1.drew w.heap.size p f add ba la) := h1.drewN 1
  have s0 := h1.s0
  have s1 := h1.s1
  have s2 := h1.s2
  have s3 := h1.s3
  clear h1 NA S0
  go_wp2
  go_region_held (fun w' => w'.cell? ⟨w.heap.size, 0, none⟩ = some (.int .i64 (idN add)) ∧ w'.cell? ⟨w.heap.size, 1, none⟩ = some (.int .i64 (lbN f)) ∧ w'.cell? ⟨w.heap.size, 2, none⟩ = some (.int .i64 (rdN f)) ∧ w'.cell? ⟨w.heap.size, 3, none⟩ = some (.int .i64 (szOf f))) (go_keep)
    (first | (go_at_call 73; refine Calls.mono (NB.out _ ?_) ?_; (first | with_reducible exact H1d.out | with_reducible exact k6); rintro e w5 ⟨rfl, k5⟩; have a0 := k5.s0; have a1 := k5.s1; have a2 := k5.s2; have a3 := k5.s3) | (go_at_call 67; refine Calls.mono (NX.out _) ?_; rintro e w6 ⟨rfl, hb6⟩; (first | (have k6 := TkAt.below k5 hb6) | (have k6 := TkAt.below H1d.out hb6)); have a0 := k6.s0; have a1 := k6.s1; have a2 := k6.s2; have a3 := k6.s3))
  have H6 : Hid (TkAt w w6 w.heap.size p f add bb l2) := k6
  have m0 := k6.m0
  have s3' := k6.s3
  clear hb6 k5 k6 a0 a1 a2 a3 s0 s1 s2 s3 H1d NB NX e1 e2
  have M7 : Hid (∀ wr, TkAt w wr w.heap.size p f add bb l2 → Calls Tryz.prog 70 #[.bool false, .pointer (some ⟨w.heap.size + 3, 0, none⟩)] wr fun e w' => e = .returned (.tuple #[]) ∧ TkAt w w' w.heap.size p f add b2 l2) := fun wr h => by
    have := must_any false h
    rw [show (bb || !false) = b2 by rw [← hb2, show decide (0 ≤ bits) = false by simp; omega, Bool.false_and]] at this
    exact this
  clear hb2
  go_wp2_with fail
  refine Calls.mono (M7.out _ H6.out) ?_
  rintro e w7 ⟨rfl, k7⟩
  have H7 : Hid (TkAt w w7 w.heap.size p f add b2 l2) := k7
  have s1 := k7.s1
  clear k7 H6 M7 m0 s3'
  go_wp2_with fail
  refine Calls.mono (NC.out _ H7.out) ?_
  rintro e w8 ⟨rfl, k8⟩
  have H8 : Hid (TkAt w w8 w.heap.size p f add bc lc) := k8
  have m0 := k8.m0
  have s1' := k8.s1
  clear k8 H7 NC s1
  go_wp2_with fail
  refine Calls.mono (NL.out _) ?_
  rintro e w9 ⟨rfl, rfl⟩
  have M9 : Hid (∀ wr, TkAt w wr w.heap.size p f add bc lc → Calls Tryz.prog 70 #[.bool true, .pointer (some ⟨w.heap.size + 3, 0, none⟩)] wr fun e w' => e = .returned (.tuple #[]) ∧ TkAt w w' w.heap.size p f add b3 lc) := fun wr h => by
    have := must_any true h
    rw [show (bc || !true) = b3 by rw [← hb3]; rw [G9.out.1, G9.out.2]; simp] at this
    exact this
  clear hb3
  obtain ⟨g9a, g9b⟩ := G9.out
  clear G9
  subst g9a
  rw [g9b] at s1'
  have G9b : Hid (lbN f = 0) := g9b
  clear g9b
  go_wp2_with fail
  refine Calls.mono (M9.out _ H8.out) ?_
  rintro e w10 ⟨rfl, k10⟩
  have H10 : Hid (TkAt w w10 w.heap.size p f add b3 lc) := k10
  have s2 := k10.s2
  clear k10 H8 M9 m0 s1' NL
  go_wp2_with fail
  refine Calls.mono (ND.out _ H10.out) ?_
  rintro e w11 ⟨rfl, k11⟩
  have H11 : Hid (TkAt w w11.drew w.heap.size p f add bd ld) := k11.drewN 1
  have q0 := k11.q0
  clear k11 H10 ND s2
  go_wp2
  go_region_held (fun w' => w'.cell? ⟨w.heap.size + 5, 0, none⟩ = some (.func (.func 71) #[] #[.pointer (some ⟨w.heap.size + 1, 0, none⟩), .pointer (some ⟨w.heap.size + 4, 0, none⟩)])) (go_keep)
    (first | (go_at_call 24; refine Calls.mono (NY.out _) ?_; rintro e w12 ⟨rfl, rfl⟩) | (go_at_call 71; refine Calls.mono (NE.out _ H11.out) ?_; rintro e w13 ⟨rfl, k13⟩; have q0' := k13.q0))
  have H13 : Hid (TkAt w w13 w.heap.size p f add be le) := k13
  have b0 := k13.b0
  have z0 := k13.z0
  have z1 := k13.z1
  have z2 := k13.z2
  have z3 := k13.z3
  have z4 := k13.z4
  have z5 := k13.z5
  have y0 := k13.zf 0 (by omega)
  have y1 := k13.zf 1 (by omega)
  have y2 := k13.zf 2 (by omega)
  have y3 := k13.zf 3 (by omega)
  have y4 := k13.zf 4 (by omega)
  have y5 := k13.zf 5 (by omega)
  have s3 := k13.s3
  clear k13 q0 q0' H11 NE NY
  cases be with
  | true =>
    simp only [if_true] at b0
    go_wp2
    go_region
    go_wp2
    refine bodyPost_ret (v := .tuple #[.agg #[.int .i64 0, .int .u64 0, .string ⟨#[]⟩, .int .i64 0, .int .u32 0, .int .u32 0], .int .i64 4]) (by simp [results, Tryz.results44, go_sem, z0, z1, z2, z3, z4, z5]) rfl ?_
    exact ⟨(H13.out.put6 _ _ _ _ _ _).then (Below.refl _ _).drew, rfl⟩
  | false => exact absurd (HOK.out rfl).1 (by omega)
end Go.Proofs.YtfhbgpepkplbaaaGreatDoor
