/-
  Read of the example's raw attributes: the walk.
-/
import Derived.Test.YtpahnebhcfpplabGreatDoorB8b
import Derived.BigQuiet
import Derived.Deep.RegionHeld3
namespace Go.Proofs.YtpahnebhcfpplabGreatDoor
open Go.RowKit
def Judged (w w' : World) (n : Nat) (pv' : Value) : Prop :=
    AW w' (w.heap.size + 2) (csN pv' (n + 1)) ∧ w'.heap[w.heap.size + 3]? = some (.cells #[.int .i64 0, .int .u8 0, .int .u8 0] 41 (0, 0)) ∧ w'.heap[w.heap.size + 4]? = some (.cells (metN Tryz.zeroCells76 n) 76 (0, 0)) ∧ w'.heap[w.heap.size]? = some (.cells zA 39 (0, 0)) ∧ w'.heap[w.heap.size + 1]? = some (.cells #[.int .i64 0, .int .u8 0, .int .u8 0] 41 (0, 0)) ∧ Below w.heap.size w w' ∧ (2 ≤ n + 1 → ∃ R base, sgs R = [(2, [1])] ∧ OwnS w' base pv' R ∧ w.heap.size + 5 ≤ base)
theorem Judged.above {w w' W : World} {n : Nat} {pv : Value} (h : Judged w w' n pv) (hb : Below w'.heap.size w' W) : Judged w W n pv := by
  obtain ⟨h1, h2, h3, h4, h5, h6, h7⟩ := h
  have hl := (Array.getElem?_eq_some_iff.mp h3).1
  refine ⟨h1.below hb, (hb.block _ (by omega)).trans h2, (hb.block _ hl).trans h3, (hb.block _ (by omega)).trans h4, (hb.block _ (by omega)).trans h5, h6.trans (hb.mono (by omega)), fun h => ?_⟩
  obtain ⟨R, base, a, b, c⟩ := h7 h
  exact ⟨R, base, a, b.below hb, c⟩
/-- A verdict's cells in a new block. -/
theorem put3_at {W : World} {g k : Nat} {x : Obj} (h : W.heap[k]? = some x) (hne : k ≠ g) (a b c : Value) : (put3 W g a b c).heap[k]? = some x := by
  unfold put3
  rw [Below.heap_setCell _ _ _ _ hne, Below.heap_setCell _ _ _ _ hne, Below.heap_setCell _ _ _ _ hne]
  exact h
theorem Judged.put3 {w w' : World} {n g : Nat} {pv : Value} (h : Judged w w' n pv) (hg : w.heap.size + 4 < g) (hpa : 2 ≤ n + 1 → ∃ R base, sgs R = [(2, [1])] ∧ OwnS (put3 w' g (.int .i64 0) (.int .u8 0) (.int .u8 0)) base pv R ∧ w.heap.size + 5 ≤ base) : Judged w (put3 w' g (.int .i64 0) (.int .u8 0) (.int .u8 0)) n pv := by
  obtain ⟨h1, h2, h3, h4, h5, h6, h7⟩ := h
  exact ⟨put3_aw h1 (by omega) _ _ _, put3_at h2 (by omega) _ _ _, put3_at h3 (by omega) _ _ _, put3_at h4 (by omega) _ _ _, put3_at h5 (by omega) _ _ _, ((h6.setCell (by show _ ≤ g; omega) _).setCell (by show _ ≤ g; omega) _).setCell (by show _ ≤ g; omega) _, hpa⟩
/-- A path's rows are no verdict's block. -/
theorem ownS_put3 {W : World} {base g : Nat} {pv : Value} {R : List Sv} (h : OwnS W base pv R) (hg : W.heap[g]? = some (.cells #[.int .i64 0, .int .u8 0, .int .u8 0] 41 (0, 0))) : OwnS (put3 W g (.int .i64 0) (.int .u8 0) (.int .u8 0)) base pv R := by
  have key : (put3 W g (.int .i64 0) (.int .u8 0) (.int .u8 0)).heap[g]? = W.heap[g]? := (ver_got hg _ _ _).trans hg.symm
  have all : ∀ k, (put3 W g (.int .i64 0) (.int .u8 0) (.int .u8 0)).heap[k]? = W.heap[k]? := fun k => by
    by_cases e : k = g
    · rw [e]; exact key
    · unfold put3
      rw [Below.heap_setCell _ _ _ _ e, Below.heap_setCell _ _ _ _ e, Below.heap_setCell _ _ _ _ e]
  exact ⟨owns_heap' h.1 (fun g _ => all g), fun r hr => ⟨owns_heap' (h.2.1 r hr).1 (fun g _ => all g), (h.2.1 r hr).2⟩, h.2.2⟩
set_option maxRecDepth 100000 in
set_option maxHeartbeats 12800000 in
theorem read3 (v : Value) (w : World) (h : RawsAt w v R3) :
    Calls Tryz.prog 10 #[v, .bool true, .bool true] w fun e w' => ∃ pv, e = .returned (.tuple #[.agg (csN pv 3), verd0]) ∧ PathAt w' pv [(2, [1])] ∧ Below w.heap.size w w' := by
  obtain ⟨ad, b, off, cap, rfl, had, _, hr⟩ := h
  have hl3 : R3.length = 3 := rfl
  rw [hl3] at had ⊢
  obtain rfl : ad = some ⟨b, off, none⟩ := by rcases had with h | h; exact h; omega
  have HR : Hid (RowR _ _ _ _) := hr
  clear hr had hl3
  go_enter Tryz.func10, Tryz.ntmps10
  go_wp2
  have hb5 : ∀ o1 o2 o3 o4 o5 : Obj, Below w.heap.size w (((((w.alloc o1).alloc o2).alloc o3).alloc o4).alloc o5) := fun o1 o2 o3 o4 o5 => (((((Below.refl _ _).alloc (Nat.le_refl _) _).alloc (by simp) _).alloc (by simp; omega) _).alloc (by simp; omega) _).alloc (by simp; omega) _
  have H0 : Hid (RAt w (((((w.alloc (.cells zA 39)).alloc (.cells #[.int .i64 0, .int .u8 0, .int .u8 0] 41)).alloc (.cells zA 39)).alloc (.cells #[.int .i64 0, .int .u8 0, .int .u8 0] 41)).alloc (.cells Tryz.zeroCells76 76)) 0 (.slice none 0 0)) := by
    refine ⟨?_, ?_, ?_, ?_, ?_, hb5 _ _ _ _ _, fun h => by omega⟩
    · exact h_up (h_up (h_new (by simp)))
    · exact h_up (h_new (by simp))
    · exact h_new (by simp)
    · exact h_up (h_up (h_up (h_up (h_new rfl))))
    · exact h_up (h_up (h_up (h_new (by simp))))
  unfold zA at H0
  generalize (((((w.alloc _).alloc _).alloc _).alloc _).alloc _) = W0 at H0 ⊢
  go_loopw [16] (fun i wr => ∃ (n : Nat) (pv : Value), n ≤ 3 ∧ i = .int .i64 n ∧ RAt w wr n pv) (fun i _ => 3 - (intOf i).toNat)
  case atStart => exact ⟨0, _, by omega, rfl, H0.out⟩
  case round =>
    obtain ⟨n, pv, hn, rfl, hq⟩ := hrel
    have HQ : Hid (RAt w wr n pv) := hq
    clear hq H0
    rcases (show n = 0 ∨ n = 1 ∨ n = 2 ∨ n = 3 by omega) with rfl | rfl | rfl | rfl
    · have hc := (HR.out.below HQ.out.bel) 0 (by decide)
      have c0 : wr.cell? ⟨b, off, none⟩ = some (.int .u8 64) := hc.1.1
      have c1 : wr.cell? ⟨b, off + 1, none⟩ = some (.int .u8 1) := hc.1.2.1
      have c2 : wr.cell? ⟨b, off + 2, none⟩ = some (.string ⟨#[1]⟩) := hc.1.2.2
      clear hc
      have hba : Below wr.heap.size wr (wr.alloc (.cells #[.int .u8 64, .int .u8 1, .string ⟨#[1]⟩] 30)) := (Below.refl _ _).alloc (Nat.le_refl _) _
      have HQ1 : Hid (RAt w (wr.alloc (.cells #[.int .u8 64, .int .u8 1, .string ⟨#[1]⟩] 30)) 0 pv) := HQ.out.above hba
      have d0 : (wr.alloc (.cells #[.int .u8 64, .int .u8 1, .string ⟨#[1]⟩] 30)).heap[wr.heap.size]? = some (.cells #[.int .u8 64, .int .u8 1, .string ⟨#[1]⟩] 30 (0, 0)) := heap_new _ _
      have HLG : Hid (w.heap.size + 4 < wr.heap.size) := HQ.out.lt
      clear hba HQ
      go_wp2
      clear c0 c1 c2
      generalize wr.alloc (.cells #[.int .u8 64, .int .u8 1, .string ⟨#[1]⟩] 30) = W1 at *
      generalize wr.heap.size = g at *
      have e0 : W1.cell? ⟨g, 0, none⟩ = some (.int .u8 64) := cell_row d0 0 _ rfl
      have e1 : W1.cell? ⟨g, 1, none⟩ = some (.int .u8 1) := cell_row d0 1 _ rfl
      have e2 : W1.cell? ⟨g, 2, none⟩ = some (.string ⟨#[1]⟩) := cell_row d0 2 _ rfl
      have m0 : W1.cell? ⟨w.heap.size + 1 + 1 + 1 + 1, 1, none⟩ = some (.bool false) := cell_row HQ1.out.me 1 _ met0
      have hgl : g < W1.heap.size := (Array.getElem?_eq_some_iff.mp d0).1
      have n1 : ¬ (g = W1.heap.size) := by omega
      have n2 : ¬ (W1.heap.size = g) := by omega
      have n3 : ¬ (w.heap.size + 1 + 1 + 1 + 1 = W1.heap.size) := by have := HQ1.out.lt; omega
      have n4 : ¬ (W1.heap.size = w.heap.size + 1 + 1 + 1 + 1) := by omega
      have HD0 : Hid (_ = _) := d0
      have HW1 : Hid (w.heap.size + 4 < W1.heap.size) := HQ1.out.lt
      clear d0
      have HJ : Hid (∀ W, RAt w W 0 pv → W.heap[g]? = some (.cells #[.int .u8 64, .int .u8 1, .string ⟨#[1]⟩] 30 (0, 0)) → Calls Tryz.prog 24 #[.pointer (some ⟨w.heap.size + 1 + 1, 0, none⟩), .agg #[.int .u8 64, .int .u8 1, .string ⟨#[1]⟩], .bool false, .bool true, .bool true] W fun e w' => e = .returned verd0 ∧ (∃ pv', Judged w w' 0 pv') ∧ w'.heap[g]? = some (.cells #[.int .u8 64, .int .u8 1, .string ⟨#[1]⟩] 30 (0, 0)) ∧ Beside (w.heap.size + 1 + 1) W w') := fun W hW hg => by
        refine (judge1 (w.heap.size + 1 + 1) _ _ W hW.a (by rfl)).mono ?_
        rintro e w' ⟨rfl, ha5, hb5⟩
        have hlt := hW.lt
        refine ⟨rfl, ⟨pv, hW.judged hb5 ha5 (fun h => absurd h (by omega))⟩, (hb5.block g (Array.getElem?_eq_some_iff.mp hg).1 (by have := HLG.out; omega)).trans hg, hb5⟩
      go_region_held (fun w' => w'.cell? ⟨g, 0, none⟩ = some (.int .u8 64) ∧ w'.cell? ⟨g, 1, none⟩ = some (.int .u8 1) ∧ w'.cell? ⟨g, 2, none⟩ = some (.string ⟨#[1]⟩) ∧ w'.cell? ⟨w.heap.size + 1 + 1 + 1 + 1, 1, none⟩ = some (.bool false)) (go_keep)
        (first | (go_at_call 24; refine (HJ.out _ ?_ ?_).mono ?_; (first | exact HQ1.out.drew | exact HQ1.out.drew.above ((Below.refl _ _).alloc (Nat.le_refl _) _)); (first | exact HD0.out | exact h_up HD0.out); rintro e w5 ⟨rfl, ⟨pvx, hjd⟩, hg5, hbs5⟩; have q0 : w5.cell? ⟨g, 0, none⟩ = some (.int .u8 64) := cell_row hg5 0 _ rfl; have q1 : w5.cell? ⟨g, 1, none⟩ = some (.int .u8 1) := cell_row hg5 1 _ rfl; have q2 : w5.cell? ⟨g, 2, none⟩ = some (.string ⟨#[1]⟩) := cell_row hg5 2 _ rfl; have q3 : w5.cell? ⟨w.heap.size + 1 + 1 + 1 + 1, 1, none⟩ = some (.bool false) := cell_row hjd.2.2.1 1 _ met0; unfold verd0; (first | (have hz : w5.heap[W1.heap.size]? = some (.cells #[.int .i64 0, .int .u8 0, .int .u8 0] 41 (0, 0)) := (hbs5.block _ (by simp) (by have := HW1.out; omega)).trans (heap_new W1.drew _); have z0 := cell_row hz 0 _ rfl; have z1 := cell_row hz 1 _ rfl; have z2 := cell_row hz 2 _ rfl; have y0 : w5.frozen? ⟨W1.heap.size, 0, none⟩ = false := frozen_of hz; have y1 : w5.frozen? ⟨W1.heap.size, 1, none⟩ = false := frozen_of hz; have y2 : w5.frozen? ⟨W1.heap.size, 2, none⟩ = false := frozen_of hz) | skip)))
      · have hb6 : Below w5.heap.size w5 (w5.alloc (.cells #[.int .i64 0, .int .u8 0, .int .u8 0] 41)) := (Below.refl _ _).alloc (Nat.le_refl _) _
        have HJ6 : Hid (Judged w (w5.alloc (.cells #[.int .i64 0, .int .u8 0, .int .u8 0] 41)) 0 pvx) := hjd.above hb6
        have hv6 : (w5.alloc (.cells #[.int .i64 0, .int .u8 0, .int .u8 0] 41)).heap[w5.heap.size]? = some (.cells #[.int .i64 0, .int .u8 0, .int .u8 0] 41 (0, 0)) := heap_new _ _
        have hg6 := h_up (o := (.cells #[.int .i64 0, .int .u8 0, .int .u8 0] 41)) hg5
        have hl6 := (Array.getElem?_eq_some_iff.mp hjd.2.2.1).1
        have n5 : ¬ (w5.heap.size = w.heap.size + 1 + 1 + 1 + 1) := by omega
        have n6 : ¬ (w.heap.size + 1 + 1 + 1 + 1 = w5.heap.size) := by omega
        clear hb6 hjd hg5 hbs5 q0 q1 q2 q3 e0 e1 e2 m0 HJ HQ1 HD0 hl6
        generalize w5.alloc (.cells #[.int .i64 0, .int .u8 0, .int .u8 0] 41) = W6 at *
        generalize w5.heap.size = gv at *
        have r1 : W6.cell? ⟨g, 1, none⟩ = some (.int .u8 1) := cell_row hg6 1 _ rfl
        have x0 : W6.cell? ⟨gv, 0, none⟩ = some (.int .i64 0) := cell_row hv6 0 _ rfl
        have o0 : W6.cell? ⟨w.heap.size + 1 + 1 + 1, 0, none⟩ = some (.int .i64 0) := cell_row HJ6.out.2.1 0 _ rfl
        have mm : W6.cell? ⟨w.heap.size + 1 + 1 + 1 + 1, 1, none⟩ = some (.bool false) := cell_row HJ6.out.2.2.1 1 _ met0
        have fz : W6.frozen? ⟨w.heap.size + 1 + 1 + 1 + 1, 1, none⟩ = false := frozen_of HJ6.out.2.2.1
        clear hv6 hg6
        go_wp2
        go_roundw
        case rel => exact ⟨0 + 1, pvx, by omega, rfl, RAt.met HJ6.out.1 HJ6.out.2.1 HJ6.out.2.2.1 HJ6.out.2.2.2.1 HJ6.out.2.2.2.2.1 HJ6.out.2.2.2.2.2.1 HJ6.out.2.2.2.2.2.2⟩
        case measure => simp [intOf]
      · have HJ6 : Hid (Judged w (put3 w5 W1.heap.size (.int .i64 0) (.int .u8 0) (.int .u8 0)) 0 pvx) := hjd.put3 HW1.out (fun h => absurd h (by omega))
        have hv6 := ver_got hz (.int .i64 0) (.int .u8 0) (.int .u8 0)
        have hg6 := put3_at hg5 (g := W1.heap.size) n1 (.int .i64 0) (.int .u8 0) (.int .u8 0)
        unfold put3 at HJ6 hv6 hg6
        have n5 : ¬ (W1.heap.size = w.heap.size + 1 + 1 + 1 + 1) := n4
        clear hjd hg5 hbs5 q0 q1 q2 q3 e0 e1 e2 m0 HJ HQ1 HD0 z0 z1 z2 y0 y1 y2 hz
        generalize ((w5.setCell ⟨W1.heap.size, 0, none⟩ (.int .i64 0)).setCell ⟨W1.heap.size, 1, none⟩ (.int .u8 0)).setCell ⟨W1.heap.size, 2, none⟩ (.int .u8 0) = W6 at *
        generalize W1.heap.size = gv at *
        have r1 : W6.cell? ⟨g, 1, none⟩ = some (.int .u8 1) := cell_row hg6 1 _ rfl
        have x0 : W6.cell? ⟨gv, 0, none⟩ = some (.int .i64 0) := cell_row hv6 0 _ rfl
        have o0 : W6.cell? ⟨w.heap.size + 1 + 1 + 1, 0, none⟩ = some (.int .i64 0) := cell_row HJ6.out.2.1 0 _ rfl
        have mm : W6.cell? ⟨w.heap.size + 1 + 1 + 1 + 1, 1, none⟩ = some (.bool false) := cell_row HJ6.out.2.2.1 1 _ met0
        have fz : W6.frozen? ⟨w.heap.size + 1 + 1 + 1 + 1, 1, none⟩ = false := frozen_of HJ6.out.2.2.1
        clear hv6 hg6
        go_wp2
        go_roundw
        case rel => exact ⟨0 + 1, pvx, by omega, rfl, RAt.met HJ6.out.1 HJ6.out.2.1 HJ6.out.2.2.1 HJ6.out.2.2.2.1 HJ6.out.2.2.2.2.1 HJ6.out.2.2.2.2.2.1 HJ6.out.2.2.2.2.2.2⟩
        case measure => simp [intOf]
    · have hc := (HR.out.below HQ.out.bel) 1 (by decide)
      have c0 : wr.cell? ⟨b, off + 3, none⟩ = some (.int .u8 64) := hc.1.1
      have c1 : wr.cell? ⟨b, off + 3 + 1, none⟩ = some (.int .u8 2) := hc.1.2.1
      have c2 : wr.cell? ⟨b, off + 3 + 2, none⟩ = some (.string ⟨#[2, 1, 0, 0, 0, 1]⟩) := hc.1.2.2
      clear hc
      have hba : Below wr.heap.size wr (wr.alloc (.cells #[.int .u8 64, .int .u8 2, .string ⟨#[2, 1, 0, 0, 0, 1]⟩] 30)) := (Below.refl _ _).alloc (Nat.le_refl _) _
      have HQ1 : Hid (RAt w (wr.alloc (.cells #[.int .u8 64, .int .u8 2, .string ⟨#[2, 1, 0, 0, 0, 1]⟩] 30)) 1 pv) := HQ.out.above hba
      have d0 : (wr.alloc (.cells #[.int .u8 64, .int .u8 2, .string ⟨#[2, 1, 0, 0, 0, 1]⟩] 30)).heap[wr.heap.size]? = some (.cells #[.int .u8 64, .int .u8 2, .string ⟨#[2, 1, 0, 0, 0, 1]⟩] 30 (0, 0)) := heap_new _ _
      have HLG : Hid (w.heap.size + 4 < wr.heap.size) := HQ.out.lt
      clear hba HQ
      go_wp2
      clear c0 c1 c2
      generalize wr.alloc (.cells #[.int .u8 64, .int .u8 2, .string ⟨#[2, 1, 0, 0, 0, 1]⟩] 30) = W1 at *
      generalize wr.heap.size = g at *
      have e0 : W1.cell? ⟨g, 0, none⟩ = some (.int .u8 64) := cell_row d0 0 _ rfl
      have e1 : W1.cell? ⟨g, 1, none⟩ = some (.int .u8 2) := cell_row d0 1 _ rfl
      have e2 : W1.cell? ⟨g, 2, none⟩ = some (.string ⟨#[2, 1, 0, 0, 0, 1]⟩) := cell_row d0 2 _ rfl
      have m0 : W1.cell? ⟨w.heap.size + 1 + 1 + 1 + 1, 2, none⟩ = some (.bool false) := cell_row HQ1.out.me 2 _ met1
      have hgl : g < W1.heap.size := (Array.getElem?_eq_some_iff.mp d0).1
      have n1 : ¬ (g = W1.heap.size) := by omega
      have n2 : ¬ (W1.heap.size = g) := by omega
      have n3 : ¬ (w.heap.size + 1 + 1 + 1 + 1 = W1.heap.size) := by have := HQ1.out.lt; omega
      have n4 : ¬ (W1.heap.size = w.heap.size + 1 + 1 + 1 + 1) := by omega
      have HD0 : Hid (_ = _) := d0
      have HW1 : Hid (w.heap.size + 4 < W1.heap.size) := HQ1.out.lt
      clear d0
      have HJ : Hid (∀ W, RAt w W 1 pv → W.heap[g]? = some (.cells #[.int .u8 64, .int .u8 2, .string ⟨#[2, 1, 0, 0, 0, 1]⟩] 30 (0, 0)) → Calls Tryz.prog 24 #[.pointer (some ⟨w.heap.size + 1 + 1, 0, none⟩), .agg #[.int .u8 64, .int .u8 2, .string ⟨#[2, 1, 0, 0, 0, 1]⟩], .bool false, .bool true, .bool true] W fun e w' => e = .returned verd0 ∧ (∃ pv', Judged w w' 1 pv') ∧ w'.heap[g]? = some (.cells #[.int .u8 64, .int .u8 2, .string ⟨#[2, 1, 0, 0, 0, 1]⟩] 30 (0, 0)) ∧ Beside (w.heap.size + 1 + 1) W w') := fun W hW hg => by
        refine (judge2 (w.heap.size + 1 + 1) _ _ W hW.a (by rfl)).mono ?_
        rintro e w' ⟨rfl, pv5, hp5, ho5, ha5, hb5⟩
        have hlt := hW.lt
        refine ⟨rfl, ⟨pv5, hW.judged hb5 ha5 (fun _ => ho5.elim fun R h => ⟨R, _, h.1, h.2, by omega⟩)⟩, (hb5.block g (Array.getElem?_eq_some_iff.mp hg).1 (by have := HLG.out; omega)).trans hg, hb5⟩
      go_region_held (fun w' => w'.cell? ⟨g, 0, none⟩ = some (.int .u8 64) ∧ w'.cell? ⟨g, 1, none⟩ = some (.int .u8 2) ∧ w'.cell? ⟨g, 2, none⟩ = some (.string ⟨#[2, 1, 0, 0, 0, 1]⟩) ∧ w'.cell? ⟨w.heap.size + 1 + 1 + 1 + 1, 2, none⟩ = some (.bool false)) (go_keep)
        (first | (go_at_call 24; refine (HJ.out _ ?_ ?_).mono ?_; (first | exact HQ1.out.drew | exact HQ1.out.drew.above ((Below.refl _ _).alloc (Nat.le_refl _) _)); (first | exact HD0.out | exact h_up HD0.out); rintro e w5 ⟨rfl, ⟨pvx, hjd⟩, hg5, hbs5⟩; have q0 : w5.cell? ⟨g, 0, none⟩ = some (.int .u8 64) := cell_row hg5 0 _ rfl; have q1 : w5.cell? ⟨g, 1, none⟩ = some (.int .u8 2) := cell_row hg5 1 _ rfl; have q2 : w5.cell? ⟨g, 2, none⟩ = some (.string ⟨#[2, 1, 0, 0, 0, 1]⟩) := cell_row hg5 2 _ rfl; have q3 : w5.cell? ⟨w.heap.size + 1 + 1 + 1 + 1, 2, none⟩ = some (.bool false) := cell_row hjd.2.2.1 2 _ met1; unfold verd0; (first | (have hz : w5.heap[W1.heap.size]? = some (.cells #[.int .i64 0, .int .u8 0, .int .u8 0] 41 (0, 0)) := (hbs5.block _ (by simp) (by have := HW1.out; omega)).trans (heap_new W1.drew _); have z0 := cell_row hz 0 _ rfl; have z1 := cell_row hz 1 _ rfl; have z2 := cell_row hz 2 _ rfl; have y0 : w5.frozen? ⟨W1.heap.size, 0, none⟩ = false := frozen_of hz; have y1 : w5.frozen? ⟨W1.heap.size, 1, none⟩ = false := frozen_of hz; have y2 : w5.frozen? ⟨W1.heap.size, 2, none⟩ = false := frozen_of hz) | skip)))
      · have hb6 : Below w5.heap.size w5 (w5.alloc (.cells #[.int .i64 0, .int .u8 0, .int .u8 0] 41)) := (Below.refl _ _).alloc (Nat.le_refl _) _
        have HJ6 : Hid (Judged w (w5.alloc (.cells #[.int .i64 0, .int .u8 0, .int .u8 0] 41)) 1 pvx) := hjd.above hb6
        have hv6 : (w5.alloc (.cells #[.int .i64 0, .int .u8 0, .int .u8 0] 41)).heap[w5.heap.size]? = some (.cells #[.int .i64 0, .int .u8 0, .int .u8 0] 41 (0, 0)) := heap_new _ _
        have hg6 := h_up (o := (.cells #[.int .i64 0, .int .u8 0, .int .u8 0] 41)) hg5
        have hl6 := (Array.getElem?_eq_some_iff.mp hjd.2.2.1).1
        have n5 : ¬ (w5.heap.size = w.heap.size + 1 + 1 + 1 + 1) := by omega
        have n6 : ¬ (w.heap.size + 1 + 1 + 1 + 1 = w5.heap.size) := by omega
        clear hb6 hjd hg5 hbs5 q0 q1 q2 q3 e0 e1 e2 m0 HJ HQ1 HD0 hl6
        generalize w5.alloc (.cells #[.int .i64 0, .int .u8 0, .int .u8 0] 41) = W6 at *
        generalize w5.heap.size = gv at *
        have r1 : W6.cell? ⟨g, 1, none⟩ = some (.int .u8 2) := cell_row hg6 1 _ rfl
        have x0 : W6.cell? ⟨gv, 0, none⟩ = some (.int .i64 0) := cell_row hv6 0 _ rfl
        have o0 : W6.cell? ⟨w.heap.size + 1 + 1 + 1, 0, none⟩ = some (.int .i64 0) := cell_row HJ6.out.2.1 0 _ rfl
        have mm : W6.cell? ⟨w.heap.size + 1 + 1 + 1 + 1, 2, none⟩ = some (.bool false) := cell_row HJ6.out.2.2.1 2 _ met1
        have fz : W6.frozen? ⟨w.heap.size + 1 + 1 + 1 + 1, 2, none⟩ = false := frozen_of HJ6.out.2.2.1
        clear hv6 hg6
        go_wp2
        go_roundw
        case rel => exact ⟨1 + 1, pvx, by omega, rfl, RAt.met HJ6.out.1 HJ6.out.2.1 HJ6.out.2.2.1 HJ6.out.2.2.2.1 HJ6.out.2.2.2.2.1 HJ6.out.2.2.2.2.2.1 HJ6.out.2.2.2.2.2.2⟩
        case measure => simp [intOf]
      · have HJ6 : Hid (Judged w (put3 w5 W1.heap.size (.int .i64 0) (.int .u8 0) (.int .u8 0)) 1 pvx) := hjd.put3 HW1.out (fun h => (hjd.2.2.2.2.2.2 h).elim fun R h => h.elim fun base h => ⟨R, base, h.1, ownS_put3 h.2.1 hz, h.2.2⟩)
        have hv6 := ver_got hz (.int .i64 0) (.int .u8 0) (.int .u8 0)
        have hg6 := put3_at hg5 (g := W1.heap.size) n1 (.int .i64 0) (.int .u8 0) (.int .u8 0)
        unfold put3 at HJ6 hv6 hg6
        have n5 : ¬ (W1.heap.size = w.heap.size + 1 + 1 + 1 + 1) := n4
        clear hjd hg5 hbs5 q0 q1 q2 q3 e0 e1 e2 m0 HJ HQ1 HD0 z0 z1 z2 y0 y1 y2 hz
        generalize ((w5.setCell ⟨W1.heap.size, 0, none⟩ (.int .i64 0)).setCell ⟨W1.heap.size, 1, none⟩ (.int .u8 0)).setCell ⟨W1.heap.size, 2, none⟩ (.int .u8 0) = W6 at *
        generalize W1.heap.size = gv at *
        have r1 : W6.cell? ⟨g, 1, none⟩ = some (.int .u8 2) := cell_row hg6 1 _ rfl
        have x0 : W6.cell? ⟨gv, 0, none⟩ = some (.int .i64 0) := cell_row hv6 0 _ rfl
        have o0 : W6.cell? ⟨w.heap.size + 1 + 1 + 1, 0, none⟩ = some (.int .i64 0) := cell_row HJ6.out.2.1 0 _ rfl
        have mm : W6.cell? ⟨w.heap.size + 1 + 1 + 1 + 1, 2, none⟩ = some (.bool false) := cell_row HJ6.out.2.2.1 2 _ met1
        have fz : W6.frozen? ⟨w.heap.size + 1 + 1 + 1 + 1, 2, none⟩ = false := frozen_of HJ6.out.2.2.1
        clear hv6 hg6
        go_wp2
        go_roundw
        case rel => exact ⟨1 + 1, pvx, by omega, rfl, RAt.met HJ6.out.1 HJ6.out.2.1 HJ6.out.2.2.1 HJ6.out.2.2.2.1 HJ6.out.2.2.2.2.1 HJ6.out.2.2.2.2.2.1 HJ6.out.2.2.2.2.2.2⟩
        case measure => simp [intOf]
    · have hc := (HR.out.below HQ.out.bel) 2 (by decide)
      have c0 : wr.cell? ⟨b, off + 6, none⟩ = some (.int .u8 64) := hc.1.1
      have c1 : wr.cell? ⟨b, off + 6 + 1, none⟩ = some (.int .u8 3) := hc.1.2.1
      have c2 : wr.cell? ⟨b, off + 6 + 2, none⟩ = some (.string ⟨#[10, 0, 0, 1]⟩) := hc.1.2.2
      clear hc
      have hba : Below wr.heap.size wr (wr.alloc (.cells #[.int .u8 64, .int .u8 3, .string ⟨#[10, 0, 0, 1]⟩] 30)) := (Below.refl _ _).alloc (Nat.le_refl _) _
      have HQ1 : Hid (RAt w (wr.alloc (.cells #[.int .u8 64, .int .u8 3, .string ⟨#[10, 0, 0, 1]⟩] 30)) 2 pv) := HQ.out.above hba
      have d0 : (wr.alloc (.cells #[.int .u8 64, .int .u8 3, .string ⟨#[10, 0, 0, 1]⟩] 30)).heap[wr.heap.size]? = some (.cells #[.int .u8 64, .int .u8 3, .string ⟨#[10, 0, 0, 1]⟩] 30 (0, 0)) := heap_new _ _
      have HLG : Hid (w.heap.size + 4 < wr.heap.size) := HQ.out.lt
      clear hba HQ
      go_wp2
      clear c0 c1 c2
      generalize wr.alloc (.cells #[.int .u8 64, .int .u8 3, .string ⟨#[10, 0, 0, 1]⟩] 30) = W1 at *
      generalize wr.heap.size = g at *
      have e0 : W1.cell? ⟨g, 0, none⟩ = some (.int .u8 64) := cell_row d0 0 _ rfl
      have e1 : W1.cell? ⟨g, 1, none⟩ = some (.int .u8 3) := cell_row d0 1 _ rfl
      have e2 : W1.cell? ⟨g, 2, none⟩ = some (.string ⟨#[10, 0, 0, 1]⟩) := cell_row d0 2 _ rfl
      have m0 : W1.cell? ⟨w.heap.size + 1 + 1 + 1 + 1, 3, none⟩ = some (.bool false) := cell_row HQ1.out.me 3 _ met2
      have hgl : g < W1.heap.size := (Array.getElem?_eq_some_iff.mp d0).1
      have n1 : ¬ (g = W1.heap.size) := by omega
      have n2 : ¬ (W1.heap.size = g) := by omega
      have n3 : ¬ (w.heap.size + 1 + 1 + 1 + 1 = W1.heap.size) := by have := HQ1.out.lt; omega
      have n4 : ¬ (W1.heap.size = w.heap.size + 1 + 1 + 1 + 1) := by omega
      have HD0 : Hid (_ = _) := d0
      have HW1 : Hid (w.heap.size + 4 < W1.heap.size) := HQ1.out.lt
      clear d0
      have HJ : Hid (∀ W, RAt w W 2 pv → W.heap[g]? = some (.cells #[.int .u8 64, .int .u8 3, .string ⟨#[10, 0, 0, 1]⟩] 30 (0, 0)) → Calls Tryz.prog 24 #[.pointer (some ⟨w.heap.size + 1 + 1, 0, none⟩), .agg #[.int .u8 64, .int .u8 3, .string ⟨#[10, 0, 0, 1]⟩], .bool false, .bool true, .bool true] W fun e w' => e = .returned verd0 ∧ (∃ pv', Judged w w' 2 pv') ∧ w'.heap[g]? = some (.cells #[.int .u8 64, .int .u8 3, .string ⟨#[10, 0, 0, 1]⟩] 30 (0, 0)) ∧ Beside (w.heap.size + 1 + 1) W w') := fun W hW hg => by
        refine (judge3 (w.heap.size + 1 + 1) _ _ W hW.a (by rfl)).mono ?_
        rintro e w' ⟨rfl, ha5, hb5⟩
        have hlt := hW.lt
        refine ⟨rfl, ⟨pv, hW.judged hb5 ha5 (fun _ => (hW.pa (by omega)).elim fun R h => h.elim fun base h => ⟨R, base, h.1, h.2.1.beside hb5 (by have := h.2.2; omega), h.2.2⟩)⟩, (hb5.block g (Array.getElem?_eq_some_iff.mp hg).1 (by have := HLG.out; omega)).trans hg, hb5⟩
      go_region_held (fun w' => w'.cell? ⟨g, 0, none⟩ = some (.int .u8 64) ∧ w'.cell? ⟨g, 1, none⟩ = some (.int .u8 3) ∧ w'.cell? ⟨g, 2, none⟩ = some (.string ⟨#[10, 0, 0, 1]⟩) ∧ w'.cell? ⟨w.heap.size + 1 + 1 + 1 + 1, 3, none⟩ = some (.bool false)) (go_keep)
        (first | (go_at_call 24; refine (HJ.out _ ?_ ?_).mono ?_; (first | exact HQ1.out.drew | exact HQ1.out.drew.above ((Below.refl _ _).alloc (Nat.le_refl _) _)); (first | exact HD0.out | exact h_up HD0.out); rintro e w5 ⟨rfl, ⟨pvx, hjd⟩, hg5, hbs5⟩; have q0 : w5.cell? ⟨g, 0, none⟩ = some (.int .u8 64) := cell_row hg5 0 _ rfl; have q1 : w5.cell? ⟨g, 1, none⟩ = some (.int .u8 3) := cell_row hg5 1 _ rfl; have q2 : w5.cell? ⟨g, 2, none⟩ = some (.string ⟨#[10, 0, 0, 1]⟩) := cell_row hg5 2 _ rfl; have q3 : w5.cell? ⟨w.heap.size + 1 + 1 + 1 + 1, 3, none⟩ = some (.bool false) := cell_row hjd.2.2.1 3 _ met2; unfold verd0; (first | (have hz : w5.heap[W1.heap.size]? = some (.cells #[.int .i64 0, .int .u8 0, .int .u8 0] 41 (0, 0)) := (hbs5.block _ (by simp) (by have := HW1.out; omega)).trans (heap_new W1.drew _); have z0 := cell_row hz 0 _ rfl; have z1 := cell_row hz 1 _ rfl; have z2 := cell_row hz 2 _ rfl; have y0 : w5.frozen? ⟨W1.heap.size, 0, none⟩ = false := frozen_of hz; have y1 : w5.frozen? ⟨W1.heap.size, 1, none⟩ = false := frozen_of hz; have y2 : w5.frozen? ⟨W1.heap.size, 2, none⟩ = false := frozen_of hz) | skip)))
      · have hb6 : Below w5.heap.size w5 (w5.alloc (.cells #[.int .i64 0, .int .u8 0, .int .u8 0] 41)) := (Below.refl _ _).alloc (Nat.le_refl _) _
        have HJ6 : Hid (Judged w (w5.alloc (.cells #[.int .i64 0, .int .u8 0, .int .u8 0] 41)) 2 pvx) := hjd.above hb6
        have hv6 : (w5.alloc (.cells #[.int .i64 0, .int .u8 0, .int .u8 0] 41)).heap[w5.heap.size]? = some (.cells #[.int .i64 0, .int .u8 0, .int .u8 0] 41 (0, 0)) := heap_new _ _
        have hg6 := h_up (o := (.cells #[.int .i64 0, .int .u8 0, .int .u8 0] 41)) hg5
        have hl6 := (Array.getElem?_eq_some_iff.mp hjd.2.2.1).1
        have n5 : ¬ (w5.heap.size = w.heap.size + 1 + 1 + 1 + 1) := by omega
        have n6 : ¬ (w.heap.size + 1 + 1 + 1 + 1 = w5.heap.size) := by omega
        clear hb6 hjd hg5 hbs5 q0 q1 q2 q3 e0 e1 e2 m0 HJ HQ1 HD0 hl6
        generalize w5.alloc (.cells #[.int .i64 0, .int .u8 0, .int .u8 0] 41) = W6 at *
        generalize w5.heap.size = gv at *
        have r1 : W6.cell? ⟨g, 1, none⟩ = some (.int .u8 3) := cell_row hg6 1 _ rfl
        have x0 : W6.cell? ⟨gv, 0, none⟩ = some (.int .i64 0) := cell_row hv6 0 _ rfl
        have o0 : W6.cell? ⟨w.heap.size + 1 + 1 + 1, 0, none⟩ = some (.int .i64 0) := cell_row HJ6.out.2.1 0 _ rfl
        have mm : W6.cell? ⟨w.heap.size + 1 + 1 + 1 + 1, 3, none⟩ = some (.bool false) := cell_row HJ6.out.2.2.1 3 _ met2
        have fz : W6.frozen? ⟨w.heap.size + 1 + 1 + 1 + 1, 3, none⟩ = false := frozen_of HJ6.out.2.2.1
        clear hv6 hg6
        go_wp2
        go_roundw
        case rel => exact ⟨2 + 1, pvx, by omega, rfl, RAt.met HJ6.out.1 HJ6.out.2.1 HJ6.out.2.2.1 HJ6.out.2.2.2.1 HJ6.out.2.2.2.2.1 HJ6.out.2.2.2.2.2.1 HJ6.out.2.2.2.2.2.2⟩
        case measure => simp [intOf]
      · have HJ6 : Hid (Judged w (put3 w5 W1.heap.size (.int .i64 0) (.int .u8 0) (.int .u8 0)) 2 pvx) := hjd.put3 HW1.out (fun h => (hjd.2.2.2.2.2.2 h).elim fun R h => h.elim fun base h => ⟨R, base, h.1, ownS_put3 h.2.1 hz, h.2.2⟩)
        have hv6 := ver_got hz (.int .i64 0) (.int .u8 0) (.int .u8 0)
        have hg6 := put3_at hg5 (g := W1.heap.size) n1 (.int .i64 0) (.int .u8 0) (.int .u8 0)
        unfold put3 at HJ6 hv6 hg6
        have n5 : ¬ (W1.heap.size = w.heap.size + 1 + 1 + 1 + 1) := n4
        clear hjd hg5 hbs5 q0 q1 q2 q3 e0 e1 e2 m0 HJ HQ1 HD0 z0 z1 z2 y0 y1 y2 hz
        generalize ((w5.setCell ⟨W1.heap.size, 0, none⟩ (.int .i64 0)).setCell ⟨W1.heap.size, 1, none⟩ (.int .u8 0)).setCell ⟨W1.heap.size, 2, none⟩ (.int .u8 0) = W6 at *
        generalize W1.heap.size = gv at *
        have r1 : W6.cell? ⟨g, 1, none⟩ = some (.int .u8 3) := cell_row hg6 1 _ rfl
        have x0 : W6.cell? ⟨gv, 0, none⟩ = some (.int .i64 0) := cell_row hv6 0 _ rfl
        have o0 : W6.cell? ⟨w.heap.size + 1 + 1 + 1, 0, none⟩ = some (.int .i64 0) := cell_row HJ6.out.2.1 0 _ rfl
        have mm : W6.cell? ⟨w.heap.size + 1 + 1 + 1 + 1, 3, none⟩ = some (.bool false) := cell_row HJ6.out.2.2.1 3 _ met2
        have fz : W6.frozen? ⟨w.heap.size + 1 + 1 + 1 + 1, 3, none⟩ = false := frozen_of HJ6.out.2.2.1
        clear hv6 hg6
        go_wp2
        go_roundw
        case rel => exact ⟨2 + 1, pvx, by omega, rfl, RAt.met HJ6.out.1 HJ6.out.2.1 HJ6.out.2.2.1 HJ6.out.2.2.2.1 HJ6.out.2.2.2.2.1 HJ6.out.2.2.2.2.2.1 HJ6.out.2.2.2.2.2.2⟩
        case measure => simp [intOf]
    · obtain ⟨R, base, hR, hO, hbase⟩ := HQ.out.pa (by omega)
      have hpv := hO.at
      rw [hR] at hpv
      obtain ⟨ad2, n2, c2, rfl⟩ := hpv.sl
      have a0 : wr.cell? ⟨w.heap.size + 1 + 1, 0, none⟩ = some (.int .i64 1) := cell_row HQ.out.a 0 _ rfl
      have a1 : wr.cell? ⟨w.heap.size + 1 + 1, 1, none⟩ = some (.slice ad2 n2 c2) := cell_row HQ.out.a 1 _ rfl
      have a2 : wr.cell? ⟨w.heap.size + 1 + 1, 2, none⟩ = some (.string ⟨#[10, 0, 0, 1]⟩) := cell_row HQ.out.a 2 _ rfl
      have a3 : wr.cell? ⟨w.heap.size + 1 + 1, 3, none⟩ = some (.bool false) := cell_row HQ.out.a 3 _ rfl
      have a4 : wr.cell? ⟨w.heap.size + 1 + 1, 4, none⟩ = some (.int .u32 0) := cell_row HQ.out.a 4 _ rfl
      have a5 : wr.cell? ⟨w.heap.size + 1 + 1, 5, none⟩ = some (.bool false) := cell_row HQ.out.a 5 _ rfl
      have a6 : wr.cell? ⟨w.heap.size + 1 + 1, 6, none⟩ = some (.int .u32 0) := cell_row HQ.out.a 6 _ rfl
      have a7 : wr.cell? ⟨w.heap.size + 1 + 1, 7, none⟩ = some (.bool false) := cell_row HQ.out.a 7 _ rfl
      have a8 : wr.cell? ⟨w.heap.size + 1 + 1, 8, none⟩ = some (.int .u32 0) := cell_row HQ.out.a 8 _ rfl
      have a9 : wr.cell? ⟨w.heap.size + 1 + 1, 9, none⟩ = some (.int .u32 0) := cell_row HQ.out.a 9 _ rfl
      have a10 : wr.cell? ⟨w.heap.size + 1 + 1, 10, none⟩ = some (.slice none 0 0) := cell_row HQ.out.a 10 _ rfl
      have a11 : wr.cell? ⟨w.heap.size + 1 + 1, 11, none⟩ = some (.slice none 0 0) := cell_row HQ.out.a 11 _ rfl
      have a12 : wr.cell? ⟨w.heap.size + 1 + 1, 12, none⟩ = some (.slice none 0 0) := cell_row HQ.out.a 12 _ rfl
      have a13 : wr.cell? ⟨w.heap.size + 1 + 1, 13, none⟩ = some (.bool false) := cell_row HQ.out.a 13 _ rfl
      have a14 : wr.cell? ⟨w.heap.size + 1 + 1, 14, none⟩ = some (.int .u32 0) := cell_row HQ.out.a 14 _ rfl
      have a15 : wr.cell? ⟨w.heap.size + 1 + 1, 15, none⟩ = some (.slice none 0 0) := cell_row HQ.out.a 15 _ rfl
      have w0 : wr.cell? ⟨w.heap.size + 1 + 1 + 1, 0, none⟩ = some (.int .i64 0) := cell_row HQ.out.wo 0 _ rfl
      have w1 : wr.cell? ⟨w.heap.size + 1 + 1 + 1, 1, none⟩ = some (.int .u8 0) := cell_row HQ.out.wo 1 _ rfl
      have w2 : wr.cell? ⟨w.heap.size + 1 + 1 + 1, 2, none⟩ = some (.int .u8 0) := cell_row HQ.out.wo 2 _ rfl
      have r0 : wr.cell? ⟨w.heap.size, 0, none⟩ = some (.int .i64 0) := cell_row HQ.out.rs 0 _ rfl
      have f0 : wr.frozen? ⟨w.heap.size, 0, none⟩ = false := frozen_of HQ.out.rs
      have r1 : wr.cell? ⟨w.heap.size, 1, none⟩ = some (.slice none 0 0) := cell_row HQ.out.rs 1 _ rfl
      have f1 : wr.frozen? ⟨w.heap.size, 1, none⟩ = false := frozen_of HQ.out.rs
      have r2 : wr.cell? ⟨w.heap.size, 2, none⟩ = some (.string ⟨#[]⟩) := cell_row HQ.out.rs 2 _ rfl
      have f2 : wr.frozen? ⟨w.heap.size, 2, none⟩ = false := frozen_of HQ.out.rs
      have r3 : wr.cell? ⟨w.heap.size, 3, none⟩ = some (.bool false) := cell_row HQ.out.rs 3 _ rfl
      have f3 : wr.frozen? ⟨w.heap.size, 3, none⟩ = false := frozen_of HQ.out.rs
      have r4 : wr.cell? ⟨w.heap.size, 4, none⟩ = some (.int .u32 0) := cell_row HQ.out.rs 4 _ rfl
      have f4 : wr.frozen? ⟨w.heap.size, 4, none⟩ = false := frozen_of HQ.out.rs
      have r5 : wr.cell? ⟨w.heap.size, 5, none⟩ = some (.bool false) := cell_row HQ.out.rs 5 _ rfl
      have f5 : wr.frozen? ⟨w.heap.size, 5, none⟩ = false := frozen_of HQ.out.rs
      have r6 : wr.cell? ⟨w.heap.size, 6, none⟩ = some (.int .u32 0) := cell_row HQ.out.rs 6 _ rfl
      have f6 : wr.frozen? ⟨w.heap.size, 6, none⟩ = false := frozen_of HQ.out.rs
      have r7 : wr.cell? ⟨w.heap.size, 7, none⟩ = some (.bool false) := cell_row HQ.out.rs 7 _ rfl
      have f7 : wr.frozen? ⟨w.heap.size, 7, none⟩ = false := frozen_of HQ.out.rs
      have r8 : wr.cell? ⟨w.heap.size, 8, none⟩ = some (.int .u32 0) := cell_row HQ.out.rs 8 _ rfl
      have f8 : wr.frozen? ⟨w.heap.size, 8, none⟩ = false := frozen_of HQ.out.rs
      have r9 : wr.cell? ⟨w.heap.size, 9, none⟩ = some (.int .u32 0) := cell_row HQ.out.rs 9 _ rfl
      have f9 : wr.frozen? ⟨w.heap.size, 9, none⟩ = false := frozen_of HQ.out.rs
      have r10 : wr.cell? ⟨w.heap.size, 10, none⟩ = some (.slice none 0 0) := cell_row HQ.out.rs 10 _ rfl
      have f10 : wr.frozen? ⟨w.heap.size, 10, none⟩ = false := frozen_of HQ.out.rs
      have r11 : wr.cell? ⟨w.heap.size, 11, none⟩ = some (.slice none 0 0) := cell_row HQ.out.rs 11 _ rfl
      have f11 : wr.frozen? ⟨w.heap.size, 11, none⟩ = false := frozen_of HQ.out.rs
      have r12 : wr.cell? ⟨w.heap.size, 12, none⟩ = some (.slice none 0 0) := cell_row HQ.out.rs 12 _ rfl
      have f12 : wr.frozen? ⟨w.heap.size, 12, none⟩ = false := frozen_of HQ.out.rs
      have r13 : wr.cell? ⟨w.heap.size, 13, none⟩ = some (.bool false) := cell_row HQ.out.rs 13 _ rfl
      have f13 : wr.frozen? ⟨w.heap.size, 13, none⟩ = false := frozen_of HQ.out.rs
      have r14 : wr.cell? ⟨w.heap.size, 14, none⟩ = some (.int .u32 0) := cell_row HQ.out.rs 14 _ rfl
      have f14 : wr.frozen? ⟨w.heap.size, 14, none⟩ = false := frozen_of HQ.out.rs
      have r15 : wr.cell? ⟨w.heap.size, 15, none⟩ = some (.slice none 0 0) := cell_row HQ.out.rs 15 _ rfl
      have f15 : wr.frozen? ⟨w.heap.size, 15, none⟩ = false := frozen_of HQ.out.rs
      have v0 : wr.cell? ⟨w.heap.size + 1, 0, none⟩ = some (.int .i64 0) := cell_row HQ.out.rv 0 _ rfl
      have g0 : wr.frozen? ⟨w.heap.size + 1, 0, none⟩ = false := frozen_of HQ.out.rv
      have v1 : wr.cell? ⟨w.heap.size + 1, 1, none⟩ = some (.int .u8 0) := cell_row HQ.out.rv 1 _ rfl
      have g1 : wr.frozen? ⟨w.heap.size + 1, 1, none⟩ = false := frozen_of HQ.out.rv
      have v2 : wr.cell? ⟨w.heap.size + 1, 2, none⟩ = some (.int .u8 0) := cell_row HQ.out.rv 2 _ rfl
      have g2 : wr.frozen? ⟨w.heap.size + 1, 2, none⟩ = false := frozen_of HQ.out.rv
      have ne0 : ¬ (w.heap.size + 1 + 1 = w.heap.size) := by omega
      have en0 : ¬ (w.heap.size = w.heap.size + 1 + 1) := by omega
      have ne1 : ¬ (w.heap.size + 1 + 1 = w.heap.size + 1) := by omega
      have en1 : ¬ (w.heap.size + 1 = w.heap.size + 1 + 1) := by omega
      have ne2 : ¬ (w.heap.size + 1 + 1 + 1 = w.heap.size) := by omega
      have en2 : ¬ (w.heap.size = w.heap.size + 1 + 1 + 1) := by omega
      have ne3 : ¬ (w.heap.size + 1 + 1 + 1 = w.heap.size + 1) := by omega
      have en3 : ¬ (w.heap.size + 1 = w.heap.size + 1 + 1 + 1) := by omega
      go_wp2
      go_region_held (fun w' => w'.cell? ⟨w.heap.size + 1 + 1, 0, none⟩ = some (.int .i64 1) ∧ w'.cell? ⟨w.heap.size + 1 + 1, 1, none⟩ = some (.slice ad2 n2 c2) ∧ w'.cell? ⟨w.heap.size + 1 + 1, 2, none⟩ = some (.string ⟨#[10, 0, 0, 1]⟩) ∧ w'.cell? ⟨w.heap.size + 1 + 1, 3, none⟩ = some (.bool false) ∧ w'.cell? ⟨w.heap.size + 1 + 1, 4, none⟩ = some (.int .u32 0) ∧ w'.cell? ⟨w.heap.size + 1 + 1, 5, none⟩ = some (.bool false) ∧ w'.cell? ⟨w.heap.size + 1 + 1, 6, none⟩ = some (.int .u32 0) ∧ w'.cell? ⟨w.heap.size + 1 + 1, 7, none⟩ = some (.bool false) ∧ w'.cell? ⟨w.heap.size + 1 + 1, 8, none⟩ = some (.int .u32 0) ∧ w'.cell? ⟨w.heap.size + 1 + 1, 9, none⟩ = some (.int .u32 0) ∧ w'.cell? ⟨w.heap.size + 1 + 1, 10, none⟩ = some (.slice none 0 0) ∧ w'.cell? ⟨w.heap.size + 1 + 1, 11, none⟩ = some (.slice none 0 0) ∧ w'.cell? ⟨w.heap.size + 1 + 1, 12, none⟩ = some (.slice none 0 0) ∧ w'.cell? ⟨w.heap.size + 1 + 1, 13, none⟩ = some (.bool false) ∧ w'.cell? ⟨w.heap.size + 1 + 1, 14, none⟩ = some (.int .u32 0) ∧ w'.cell? ⟨w.heap.size + 1 + 1, 15, none⟩ = some (.slice none 0 0) ∧ w'.cell? ⟨w.heap.size + 1 + 1 + 1, 0, none⟩ = some (.int .i64 0) ∧ w'.cell? ⟨w.heap.size + 1 + 1 + 1, 1, none⟩ = some (.int .u8 0) ∧ w'.cell? ⟨w.heap.size + 1 + 1 + 1, 2, none⟩ = some (.int .u8 0)) (go_keep) (fail)
      have hS := set16_same HQ.out.rs (.int .i64 1) (.slice ad2 n2 c2) (.string ⟨#[10, 0, 0, 1]⟩) (.bool false) (.int .u32 0) (.bool false) (.int .u32 0) (.bool false) (.int .u32 0) (.int .u32 0) (.slice none 0 0) (.slice none 0 0) (.slice none 0 0) (.bool false) (.int .u32 0) (.slice none 0 0)
      have hV : (set16 wr w.heap.size (.int .i64 1) (.slice ad2 n2 c2) (.string ⟨#[10, 0, 0, 1]⟩) (.bool false) (.int .u32 0) (.bool false) (.int .u32 0) (.bool false) (.int .u32 0) (.int .u32 0) (.slice none 0 0) (.slice none 0 0) (.slice none 0 0) (.bool false) (.int .u32 0) (.slice none 0 0)).heap[w.heap.size + 1]? = some (.cells #[.int .i64 0, .int .u8 0, .int .u8 0] 41 (0, 0)) := (set16_other (by omega) (.int .i64 1) (.slice ad2 n2 c2) (.string ⟨#[10, 0, 0, 1]⟩) (.bool false) (.int .u32 0) (.bool false) (.int .u32 0) (.bool false) (.int .u32 0) (.int .u32 0) (.slice none 0 0) (.slice none 0 0) (.slice none 0 0) (.bool false) (.int .u32 0) (.slice none 0 0)).trans HQ.out.rv
      have hP := put3_at (g := w.heap.size + 1) hS (by omega) (.int .i64 0) (.int .u8 0) (.int .u8 0)
      have hG := ver_got hV (.int .i64 0) (.int .u8 0) (.int .u8 0)
      have hBL : Below w.heap.size w (put3 (set16 wr w.heap.size (.int .i64 1) (.slice ad2 n2 c2) (.string ⟨#[10, 0, 0, 1]⟩) (.bool false) (.int .u32 0) (.bool false) (.int .u32 0) (.bool false) (.int .u32 0) (.int .u32 0) (.slice none 0 0) (.slice none 0 0) (.slice none 0 0) (.bool false) (.int .u32 0) (.slice none 0 0)) (w.heap.size + 1) (.int .i64 0) (.int .u8 0) (.int .u8 0)) := (((set16_below HQ.out.bel (Nat.le_refl _) (.int .i64 1) (.slice ad2 n2 c2) (.string ⟨#[10, 0, 0, 1]⟩) (.bool false) (.int .u32 0) (.bool false) (.int .u32 0) (.bool false) (.int .u32 0) (.int .u32 0) (.slice none 0 0) (.slice none 0 0) (.slice none 0 0) (.bool false) (.int .u32 0) (.slice none 0 0)).setCell (by show _ ≤ w.heap.size + 1; omega) _).setCell (by show _ ≤ w.heap.size + 1; omega) _).setCell (by show _ ≤ w.heap.size + 1; omega) _
      have hoth : ∀ k, k ≠ w.heap.size → k ≠ w.heap.size + 1 → (put3 (set16 wr w.heap.size (.int .i64 1) (.slice ad2 n2 c2) (.string ⟨#[10, 0, 0, 1]⟩) (.bool false) (.int .u32 0) (.bool false) (.int .u32 0) (.bool false) (.int .u32 0) (.int .u32 0) (.slice none 0 0) (.slice none 0 0) (.slice none 0 0) (.bool false) (.int .u32 0) (.slice none 0 0)) (w.heap.size + 1) (.int .i64 0) (.int .u8 0) (.int .u8 0)).heap[k]? = wr.heap[k]? := fun k h1 h2 => by
        unfold put3
        rw [Below.heap_setCell _ _ _ _ h2, Below.heap_setCell _ _ _ _ h2, Below.heap_setCell _ _ _ _ h2]
        exact set16_other h1 (.int .i64 1) (.slice ad2 n2 c2) (.string ⟨#[10, 0, 0, 1]⟩) (.bool false) (.int .u32 0) (.bool false) (.int .u32 0) (.bool false) (.int .u32 0) (.int .u32 0) (.slice none 0 0) (.slice none 0 0) (.slice none 0 0) (.bool false) (.int .u32 0) (.slice none 0 0)
      have hown : OwnS (put3 (set16 wr w.heap.size (.int .i64 1) (.slice ad2 n2 c2) (.string ⟨#[10, 0, 0, 1]⟩) (.bool false) (.int .u32 0) (.bool false) (.int .u32 0) (.bool false) (.int .u32 0) (.int .u32 0) (.slice none 0 0) (.slice none 0 0) (.slice none 0 0) (.bool false) (.int .u32 0) (.slice none 0 0)) (w.heap.size + 1) (.int .i64 0) (.int .u8 0) (.int .u8 0)) base (.slice ad2 n2 c2) R :=
        ⟨owns_heap' hO.1 (fun g hg => hoth g (by have := (hO.1.lt g hg).1; omega) (by have := (hO.1.lt g hg).1; omega)), fun r hr => ⟨owns_heap' (hO.2.1 r hr).1 (fun g hg => hoth g (by have := ((hO.2.1 r hr).1.lt g hg).1; omega) (by have := ((hO.2.1 r hr).1.lt g hg).1; omega)), (hO.2.1 r hr).2⟩, hO.2.2⟩
      have hpath := hown.at
      rw [hR] at hpath
      have HPATH : Hid (PathAt _ _ _) := hpath
      have HBL : Hid (Below _ _ _) := hBL
      clear a0 a1 a2 a3 a4 a5 a6 a7 a8 a9 a10 a11 a12 a13 a14 a15 r0 f0 r1 f1 r2 f2 r3 f3 r4 f4 r5 f5 r6 f6 r7 f7 r8 f8 r9 f9 r10 f10 r11 f11 r12 f12 r13 f13 r14 f14 r15 f15 w0 w1 w2 v0 v1 v2 g0 g1 g2 ne0 en0 ne1 en1 ne2 en2 ne3 en3
      clear hV hS hoth hown hpath hBL
      have k0 := cell_row hP 0 _ rfl
      have k1 := cell_row hP 1 _ rfl
      have k2 := cell_row hP 2 _ rfl
      have k3 := cell_row hP 3 _ rfl
      have k4 := cell_row hP 4 _ rfl
      have k5 := cell_row hP 5 _ rfl
      have k6 := cell_row hP 6 _ rfl
      have k7 := cell_row hP 7 _ rfl
      have k8 := cell_row hP 8 _ rfl
      have k9 := cell_row hP 9 _ rfl
      have k10 := cell_row hP 10 _ rfl
      have k11 := cell_row hP 11 _ rfl
      have k12 := cell_row hP 12 _ rfl
      have k13 := cell_row hP 13 _ rfl
      have k14 := cell_row hP 14 _ rfl
      have k15 := cell_row hP 15 _ rfl
      have j0 := cell_row hG 0 _ rfl
      have j1 := cell_row hG 1 _ rfl
      have j2 := cell_row hG 2 _ rfl
      clear hP hG
      unfold put3 set16 at HPATH HBL k0 k1 k2 k3 k4 k5 k6 k7 k8 k9 k10 k11 k12 k13 k14 k15 j0 j1 j2
      generalize ((((((((((((((((((wr.setCell ⟨w.heap.size, 0, none⟩ (.int .i64 1)).setCell ⟨w.heap.size, 1, none⟩ (.slice ad2 n2 c2)).setCell ⟨w.heap.size, 2, none⟩ (.string ⟨#[10, 0, 0, 1]⟩)).setCell ⟨w.heap.size, 3, none⟩ (.bool false)).setCell ⟨w.heap.size, 4, none⟩ (.int .u32 0)).setCell ⟨w.heap.size, 5, none⟩ (.bool false)).setCell ⟨w.heap.size, 6, none⟩ (.int .u32 0)).setCell ⟨w.heap.size, 7, none⟩ (.bool false)).setCell ⟨w.heap.size, 8, none⟩ (.int .u32 0)).setCell ⟨w.heap.size, 9, none⟩ (.int .u32 0)).setCell ⟨w.heap.size, 10, none⟩ (.slice none 0 0)).setCell ⟨w.heap.size, 11, none⟩ (.slice none 0 0)).setCell ⟨w.heap.size, 12, none⟩ (.slice none 0 0)).setCell ⟨w.heap.size, 13, none⟩ (.bool false)).setCell ⟨w.heap.size, 14, none⟩ (.int .u32 0)).setCell ⟨w.heap.size, 15, none⟩ (.slice none 0 0)).setCell ⟨w.heap.size + 1, 0, none⟩ (.int .i64 0)).setCell ⟨w.heap.size + 1, 1, none⟩ (.int .u8 0)).setCell ⟨w.heap.size + 1, 2, none⟩ (.int .u8 0) = WF at *
      go_wp2
      refine bodyPost_ret (v := .tuple #[.agg (csN (.slice ad2 n2 c2) 3), verd0]) (by simp [results, Tryz.results10, go_sem, csN, zA, verd0, k0, k1, k2, k3, k4, k5, k6, k7, k8, k9, k10, k11, k12, k13, k14, k15, j0, j1, j2]) rfl ?_
      exact ⟨_, rfl, HPATH.out.drew, HBL.out.drew⟩
end Go.Proofs.YtpahnebhcfpplabGreatDoor
