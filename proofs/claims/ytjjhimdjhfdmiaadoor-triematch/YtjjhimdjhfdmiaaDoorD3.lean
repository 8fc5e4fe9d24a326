/-
  The contract of Set.
-/
import Derived.Test.YtjjhimdjhfdmiaaDoorD2
namespace Go.Proofs.YtjjhimdjhfdmiaaDoor
open Go.Deep (BT)
open Go.RowKit
/-- All but block p is as it was. -/
structure Beside (p : Nat) (w w' : World) : Prop where
  os : w'.os = w.os
  tape : w'.tape = w.tape
  output : w'.output = w.output
  size : w.heap.size ≤ w'.heap.size
  block : ∀ k, k < w.heap.size → k ≠ p → w'.heap[k]? = w.heap[k]?
theorem Beside.below {p B : Nat} {w0 w w' : World} (h : Beside p w w') (hb : Below B w0 w) (hp : B ≤ p) (hB : B ≤ w.heap.size) : Below B w0 w' :=
  ⟨h.os.trans hb.os, h.tape.trans hb.tape, h.output.trans hb.output, Nat.le_trans hb.size h.size, fun k hk => (h.block k (by omega) (by omega)).trans (hb.block k hk)⟩
theorem Beside.of_below {p : Nat} {w w' : World} (h : Below w.heap.size w w') : Beside p w w' :=
  ⟨h.os, h.tape, h.output, h.size, fun k hk _ => h.block k hk⟩
theorem Beside.set {p : Nat} {w w' : World} (g : Beside p w w') (i : Nat) (v : Value) : Beside p w (w'.setCell ⟨p, i, none⟩ v) := by
  have h := (Below.refl 0 w').setCell (p := ⟨p, i, none⟩) (by simp) v
  exact ⟨h.os.trans g.os, h.tape.trans g.tape, h.output.trans g.output, Nat.le_trans g.size h.size, fun k hk hp => (Below.heap_setCell w' ⟨p, i, none⟩ v k hp).trans (g.block k hk hp)⟩
theorem Beside.trans {p : Nat} {a b c : World} (h : Beside p a b) (k : Beside p b c) : Beside p a c :=
  ⟨k.os.trans h.os, k.tape.trans h.tape, k.output.trans h.output, Nat.le_trans h.size k.size, fun j hj hp => (k.block j (Nat.lt_of_lt_of_le hj h.size) hp).trans (h.block j hj hp)⟩
theorem Beside.drew {p : Nat} {a b : World} (h : Beside p a b) : Beside p a b.drew := ⟨h.os, h.tape, h.output, h.size, h.block⟩
theorem HeadAt.setC {w : World} {tb : Nat} {p : Option Addr} {c : Int} (h : HeadAt w tb p c) (d : Int) : HeadAt (w.setCell ⟨tb, 2, none⟩ (.int .i64 d)) tb p d :=
  ⟨by rw [World.cell?_setCell_other _ _ _ _ (by simp)]; exact h.c0, by rw [World.cell?_setCell_other _ _ _ _ (by simp)]; exact h.c1, by rw [World.cell?_setCell_same _ _ _ h.c2], (World.frozen?_setCell ..).trans h.f1, (World.frozen?_setCell ..).trans h.f2⟩
theorem HeadAt.setP {w : World} {tb : Nat} {p : Option Addr} {c : Int} (h : HeadAt w tb p c) (q : Option Addr) : HeadAt (w.setCell ⟨tb, 1, none⟩ (.pointer q)) tb q c :=
  ⟨by rw [World.cell?_setCell_other _ _ _ _ (by simp)]; exact h.c0, by rw [World.cell?_setCell_same _ _ _ h.c1], by rw [World.cell?_setCell_other _ _ _ _ (by simp)]; exact h.c2, (World.frozen?_setCell ..).trans h.f1, (World.frozen?_setCell ..).trans h.f2⟩
theorem can_key {f r : Nat} {s : ByteArray} {l : Nat} (hc : chk f r s l = 0) (hr : r < 18446744073709551616) : Can (keyRow f r s) (72 + l) := ⟨f, r, s, l, hc, hr, rfl, rfl⟩
theorem PfxAt.setB {w : World} {b tb : Nat} {f r : Int} {s : ByteArray} {l : Int} (h : PfxAt w b f r s l) (hb : tb ≠ b) (i : Nat) (v : Value) : PfxAt (w.setCell ⟨tb, i, none⟩ v) b f r s l := h.set_other _ _ hb
/-- What Set makes of a trie. -/
def cntOf (o : Option Int) (c : Int) : Int := if o.isSome then c else c + 1
set_option maxRecDepth 100000 in
set_option maxHeartbeats 800000 in
theorem setT_any (tb : Nat) (t : T) (c : Int) (f r : Nat) (s : ByteArray) (l : Nat) (v : Int) (w : World) (ht : TrAt w tb t c) (hT : Tabs w) (hc : chk f r s l = 0) (hr : r < 18446744073709551616) (c0 : 0 ≤ c) (c1 : c ≤ 1000000) :
    Calls Tryd.prog 8 #[.pointer (some ⟨tb, 0, none⟩), .agg #[.int .i64 f, .int .u64 r, .string s, .int .i64 l], .int .i64 v] w fun e w' =>
      e = .returned (.int .i64 0) ∧ TrAt w' tb (t.set (keyRow f r s) (72 + l) v) (cntOf (t.get (keyRow f r s) (72 + l)) c) ∧ Beside tb w w' := by
  have bd := chk_bd hc
  have kb := key_bd hc
  have HC : Hid (chk f r s l = 0) := hc
  clear hc
  have hB1 : Below w.heap.size w (w.alloc (.cells #[.int .i64 f, .int .u64 r, .string s, .int .i64 l] 29)) := (Below.refl _ _).alloc (Nat.le_refl _) _
  have pa := PfxAt.of_alloc w _ f r s l rfl
  have t1 := ht.below hB1
  have T1 := hT.below hB1
  have ltb := ht.lt
  obtain ⟨_, wf, p, hd, hrep⟩ := id t1
  have x0 := hd.c0
  go_enter Tryd.func8, Tryd.ntmps8
  go_wp2_with fail
  refine (check_any f r s l _ T1.sizes T1.rds).mono ?_
  rintro e w2 ⟨rfl, hb2⟩
  rw [HC.out]
  have pa2 := pa.kept hb2 (by simp)
  have hB2 := hB1.trans (hb2.mono (by simp))
  have t2 := t1.below hb2
  have T2 := T1.below hb2
  have hz2 : w.heap.size < w2.heap.size := by have := hb2.size; simp at this; omega
  clear x0 hd hrep hb2 T1 t1 pa hB1 p
  obtain ⟨a0, a1, a2, a3, _, _, _, _⟩ := id pa2
  go_wp2_with fail
  refine (get_any tb t c f r s l _ t2 T2 HC.out hr).mono ?_
  rintro e w3 ⟨rfl, hb3⟩
  have pa3 := pa2.kept hb3 hz2
  have hB3 := hB2.trans (hb3.mono hB2.size)
  have t3 := t2.below hb3
  have hz3 := Nat.lt_of_lt_of_le hz2 hb3.size
  clear a0 a1 a2 a3 t2 T2 pa2 hb3 hB2 hz2 ht hT
  have bes : Beside tb w w3 := Beside.of_below hB3
  obtain ⟨lt3, _, p, hd, hrep⟩ := t3
  have netb : tb ≠ w.heap.size := by omega
  obtain ⟨o, HG⟩ : ∃ o, Hid (t.get (keyRow f r s) (72 + l) = o) := ⟨_, rfl⟩
  rw [HG.out]
  obtain ⟨y0, y1, y2, y3, _, _, _, _⟩ := id pa3
  obtain ⟨h0, h1, h2, g1, g2⟩ := id hd
  cases o with
  | none =>
    rw [show (none : Option Int).isSome = false from rfl, show (none : Option Int).getD 0 = 0 from rfl]
    go_wp2_with fail
    refine with_world (fun wx => HeadAt wx tb p (c + 1) ∧ Rep (fun j => j ≠ tb) wx t p ∧ PfxAt wx w.heap.size f r s l ∧ Beside tb w wx ∧ tb < wx.heap.size ∧ w.heap.size < wx.heap.size) ⟨hd.setC _, (Rep.mono (fun j h => ⟨h, h⟩) _ _ hrep).set _ _, pa3.setB netb _ _, bes.set _ _, by simpa using lt3, by simpa using hz3⟩ ?_
    clear y0 y1 y2 y3 h0 h1 h2 g1 g2 hd hrep pa3 bes lt3 hz3 hB3
    rintro wx ⟨hd, hrep, pa3, bes, lt3, hz3⟩
    obtain ⟨y0, y1, y2, y3, _, _, _, _⟩ := id pa3
    obtain ⟨h0, h1, h2, g1, g2⟩ := id hd
    go_region_with (first
      | (go_at_call 24; refine (keyOf_any f r s l _ bd.2.2.1 bd.1 bd.2.2.2.1 hr).mono ?_; rintro e w4 ⟨rfl, hb4⟩; obtain ⟨m0, m1, m2, m3, m4⟩ := hd.drew.kept hb4 lt3)
      | (go_at_call 23; refine (set_any (C := Can) (keyRow f r s) (72 + l) v kb.1 kb.2 t wf (fun j => j ≠ tb) p _ (hrep.drew.below hb4) (fun j hj => by have := hb4.size; simp at this; omega)).mono ?_; rintro e w5 ⟨q, rfl, hq, hb5⟩; have hd5 := (hd.drew.kept hb4 lt3).kept hb5 (by have := hb4.size; simp at this; omega); obtain ⟨n0, n1, n2, n3, n4⟩ := id hd5))
    all_goals
      have hb6 : Below wx.heap.size wx w5 := (Below.refl _ _).drew.trans (hb4.trans (hb5.mono hb4.size))
      go_wp2
      go_ret
      exact ⟨rfl, ⟨by have := hb6.size; simp; omega, set_wf v (can_key HC.out hr) kb.1 kb.2 t wf, q, by rw [HG.out]; exact hd5.setP q, (Rep.mono (fun j h => ⟨h, h⟩) _ _ hq).set _ _⟩, (bes.trans (Beside.of_below hb6)).set _ _⟩
  | some x =>
    rw [show (some x : Option Int).isSome = true from rfl, show (some x : Option Int).getD 0 = x from rfl]
    go_wp2_with fail
    refine with_world (fun wx => HeadAt wx tb p (c) ∧ Rep (fun j => j ≠ tb) wx t p ∧ PfxAt wx w.heap.size f r s l ∧ Beside tb w wx ∧ tb < wx.heap.size ∧ w.heap.size < wx.heap.size) ⟨hd, hrep, pa3, bes, lt3, hz3⟩ ?_
    clear y0 y1 y2 y3 h0 h1 h2 g1 g2 hd hrep pa3 bes lt3 hz3 hB3
    rintro wx ⟨hd, hrep, pa3, bes, lt3, hz3⟩
    obtain ⟨y0, y1, y2, y3, _, _, _, _⟩ := id pa3
    obtain ⟨h0, h1, h2, g1, g2⟩ := id hd
    go_region_with (first
      | (go_at_call 24; refine (keyOf_any f r s l _ bd.2.2.1 bd.1 bd.2.2.2.1 hr).mono ?_; rintro e w4 ⟨rfl, hb4⟩; obtain ⟨m0, m1, m2, m3, m4⟩ := hd.drew.kept hb4 lt3)
      | (go_at_call 23; refine (set_any (C := Can) (keyRow f r s) (72 + l) v kb.1 kb.2 t wf (fun j => j ≠ tb) p _ (hrep.drew.below hb4) (fun j hj => by have := hb4.size; simp at this; omega)).mono ?_; rintro e w5 ⟨q, rfl, hq, hb5⟩; have hd5 := (hd.drew.kept hb4 lt3).kept hb5 (by have := hb4.size; simp at this; omega); obtain ⟨n0, n1, n2, n3, n4⟩ := id hd5))
    all_goals
      have hb6 : Below wx.heap.size wx w5 := (Below.refl _ _).drew.trans (hb4.trans (hb5.mono hb4.size))
      go_wp2
      go_ret
      exact ⟨rfl, ⟨by have := hb6.size; simp; omega, set_wf v (can_key HC.out hr) kb.1 kb.2 t wf, q, by rw [HG.out]; exact hd5.setP q, (Rep.mono (fun j h => ⟨h, h⟩) _ _ hq).set _ _⟩, (bes.trans (Beside.of_below hb6)).set _ _⟩
end Go.Proofs.YtjjhimdjhfdmiaaDoor
