/-
  The family of a pair: Fam.
-/
import Derived.Test.YtlhnfejgkhilkaaGreatDoorFB
namespace Go.Proofs.YtlhnfejgkhilkaaGreatDoor
open Go.RowKit
theorem mtc_any (a s h : Int) (b : ByteArray) (t : Bool) (x y : Int) (p q : Nat) (w : World) (hx : w.cell? ⟨p, 0, none⟩ = some (.int .u16 x)) (hy : w.cell? ⟨q, 0, none⟩ = some (.int .u8 y)) (hp : p < w.heap.size) (hq : q < w.heap.size) :
    Calls Tryz.prog 80 #[.agg #[.int .u16 a, .int .u8 s, .int .i64 h, .string b, .bool t], .pointer (some ⟨p, 0, none⟩), .pointer (some ⟨q, 0, none⟩)] w fun e w' => e = .returned (.bool (a == x && s == y)) ∧ Below w.heap.size w w' := by
  have hb : Below w.heap.size w (w.alloc (.cells #[.int .u16 a, .int .u8 s, .int .i64 h, .string b, .bool t] 93)) := (Below.refl _ _).alloc (Nat.le_refl _) _
  have hx' := (hb.cell (p := ⟨p, 0, none⟩) hp).trans hx
  have hy' := (hb.cell (p := ⟨q, 0, none⟩) hq).trans hy
  have HB : Hid (Below _ _ _) := hb
  clear hb hx hy
  by_cases h1 : a = x
  · subst h1
    go_enter Tryz.func80, Tryz.ntmps80
    go_wp2
    go_ret
    exact ⟨ret_bool (by simp), HB.out⟩
  · have h1' : (a == x) = false := by simpa using h1
    clear h1
    go_enter Tryz.func80, Tryz.ntmps80
    go_wp2
    go_ret
    exact ⟨ret_bool (by simp [h1']), HB.out⟩
def afs (k : Nat) : Int := match k with | 1 => 1 | 2 => 2 | 3 => 1 | 4 => 1 | 5 => 2 | _ => 0
def sfs (k : Nat) : Int := match k with | 1 => 1 | 2 => 1 | 3 => 4 | 4 => 128 | 5 => 128 | _ => 0
def mt (k : Nat) (x y : Int) : Bool := afs k == x && sfs k == y
/-- The place of a pair among the families' rows. -/
def ixN (x y : Int) : Int := if mt 0 x y then 0 else if mt 1 x y then 1 else if mt 2 x y then 2 else if mt 3 x y then 3 else if mt 4 x y then 4 else if mt 5 x y then 5 else -1
/-- The family of a pair. -/
def fmN (x y : Int) : Int := if mt 1 x y then 1 else if mt 2 x y then 2 else if mt 3 x y then 3 else if mt 4 x y then 4 else if mt 5 x y then 5 else 0
structure FxAt (w wr : World) (b p q : Nat) (x y : Int) : Prop where
  row : wr.heap[b]? = some (.cells famV 112 (0, 0))
  cx : wr.cell? ⟨p, 0, none⟩ = some (.int .u16 x)
  cy : wr.cell? ⟨q, 0, none⟩ = some (.int .u8 y)
  hp : p < w.heap.size
  hq : q < w.heap.size
  bel : Below w.heap.size w wr
theorem FxAt.next {w wr w' : World} {b p q : Nat} {x y : Int} (h : FxAt w wr b p q x y) (hb : Below wr.heap.size wr w') : FxAt w w' b p q x y :=
  ⟨(hb.block b (Array.getElem?_eq_some_iff.mp h.row).1).trans h.row, (hb.cell (p := ⟨p, 0, none⟩) (Nat.lt_of_lt_of_le h.hp h.bel.size)).trans h.cx, (hb.cell (p := ⟨q, 0, none⟩) (Nat.lt_of_lt_of_le h.hq h.bel.size)).trans h.cy, h.hp, h.hq, h.bel.trans (hb.mono h.bel.size)⟩
set_option maxRecDepth 100000 in
set_option maxHeartbeats 3200000 in
theorem index_any (b p q : Nat) (x y : Int) (w : World) (h : FxAt w w b p q x y) :
    Calls Tryz.prog 79 #[.slice (some ⟨b, 0, none⟩) 6 6, .func (.func 80) #[] #[.pointer (some ⟨p, 0, none⟩), .pointer (some ⟨q, 0, none⟩)]] w fun e w' => e = .returned (.int .i64 (ixN x y)) ∧ Below w.heap.size w w' := by
  have HF : Hid (FxAt w w b p q x y) := h
  clear h
  go_enter Tryz.func79, Tryz.ntmps79
  go_wp2
  go_loopw [8] (fun i wr => ∃ k : Nat, k ≤ 6 ∧ i = .int .i64 k ∧ FxAt w wr b p q x y ∧ ∀ j, j < k → mt j x y = false) (fun i _ => 6 - (intOf i).toNat)
  case atStart => exact ⟨0, by omega, rfl, HF.out, fun j hj => absurd hj (by omega)⟩
  case round =>
    obtain ⟨k, hk, rfl, hF, hno⟩ := hrel
    have HN : Hid (∀ j, j < k → mt j x y = false) := hno
    have HFX : Hid (FxAt w wr b p q x y) := hF
    clear hno HF
    by_cases hlt : k < 6
    · have hc : k = 0 ∨ k = 1 ∨ k = 2 ∨ k = 3 ∨ k = 4 ∨ k = 5 := by omega
      rcases hc with rfl | rfl | rfl | rfl | rfl | rfl
      · have HK : Hid (Calls Tryz.prog 80 #[.agg #[.int .u16 0, .int .u8 0, .int .i64 0, .string ⟨#[]⟩, .bool false], .pointer (some ⟨p, 0, none⟩), .pointer (some ⟨q, 0, none⟩)] wr fun e w' => e = .returned (.bool (mt 0 x y)) ∧ Below wr.heap.size wr w') := mtc_any 0 0 0 ⟨#[]⟩ false x y p q wr hF.cx hF.cy (Nat.lt_of_lt_of_le hF.hp hF.bel.size) (Nat.lt_of_lt_of_le hF.hq hF.bel.size)
        have c0 : wr.cell? ⟨b, 0, none⟩ = some (.int .u16 0) := cl_row (i := 0) hF.row rfl
        have c1 : wr.cell? ⟨b, 1, none⟩ = some (.int .u8 0) := cl_row (i := 1) hF.row rfl
        have c2 : wr.cell? ⟨b, 2, none⟩ = some (.int .i64 0) := cl_row (i := 2) hF.row rfl
        have c3 : wr.cell? ⟨b, 3, none⟩ = some (.string ⟨#[]⟩) := cl_row (i := 3) hF.row rfl
        have c4 : wr.cell? ⟨b, 4, none⟩ = some (.bool false) := cl_row (i := 4) hF.row rfl
        clear hF
        cases hm : mt 0 x y with
        | true =>
          rw [hm] at HK
          have HI : Hid (ixN x y = 0) := by unfold Hid ixN; simp [hm]
          clear hm
          go_wp2_with fail
          refine Calls.mono HK.out ?_
          rintro e w1 ⟨rfl, hb1⟩
          go_wp2
          go_ret
          exact ⟨ret_int HI.out.symm, HFX.out.bel.trans (hb1.mono HFX.out.bel.size)⟩
        | false =>
          rw [hm] at HK
          have HM : Hid (mt 0 x y = false) := hm
          clear hm
          go_wp2_with fail
          refine Calls.mono HK.out ?_
          rintro e w1 ⟨rfl, hb1⟩
          have HF1 : Hid (FxAt w w1 b p q x y) := HFX.out.next hb1
          clear hb1
          go_wp2
          go_roundw
          case rel => exact ⟨1, by omega, rfl, HF1.out, fun j hj => by
            by_cases e : j = 0
            · subst e; exact HM.out
            · exact HN.out j (by omega)⟩
          case measure => simp [intOf]
      · have HK : Hid (Calls Tryz.prog 80 #[.agg #[.int .u16 1, .int .u8 1, .int .i64 4, .string ⟨#[]⟩, .bool false], .pointer (some ⟨p, 0, none⟩), .pointer (some ⟨q, 0, none⟩)] wr fun e w' => e = .returned (.bool (mt 1 x y)) ∧ Below wr.heap.size wr w') := mtc_any 1 1 4 ⟨#[]⟩ false x y p q wr hF.cx hF.cy (Nat.lt_of_lt_of_le hF.hp hF.bel.size) (Nat.lt_of_lt_of_le hF.hq hF.bel.size)
        have c0 : wr.cell? ⟨b, 5, none⟩ = some (.int .u16 1) := cl_row (i := 5) hF.row rfl
        have c1 : wr.cell? ⟨b, 6, none⟩ = some (.int .u8 1) := cl_row (i := 6) hF.row rfl
        have c2 : wr.cell? ⟨b, 7, none⟩ = some (.int .i64 4) := cl_row (i := 7) hF.row rfl
        have c3 : wr.cell? ⟨b, 8, none⟩ = some (.string ⟨#[]⟩) := cl_row (i := 8) hF.row rfl
        have c4 : wr.cell? ⟨b, 9, none⟩ = some (.bool false) := cl_row (i := 9) hF.row rfl
        clear hF
        cases hm : mt 1 x y with
        | true =>
          rw [hm] at HK
          have HI : Hid (ixN x y = 1) := by unfold Hid ixN; have n0 := HN.out 0 (by omega); simp [hm, n0]
          clear hm
          go_wp2_with fail
          refine Calls.mono HK.out ?_
          rintro e w1 ⟨rfl, hb1⟩
          go_wp2
          go_ret
          exact ⟨ret_int HI.out.symm, HFX.out.bel.trans (hb1.mono HFX.out.bel.size)⟩
        | false =>
          rw [hm] at HK
          have HM : Hid (mt 1 x y = false) := hm
          clear hm
          go_wp2_with fail
          refine Calls.mono HK.out ?_
          rintro e w1 ⟨rfl, hb1⟩
          have HF1 : Hid (FxAt w w1 b p q x y) := HFX.out.next hb1
          clear hb1
          go_wp2
          go_roundw
          case rel => exact ⟨2, by omega, rfl, HF1.out, fun j hj => by
            by_cases e : j = 1
            · subst e; exact HM.out
            · exact HN.out j (by omega)⟩
          case measure => simp [intOf]
      · have HK : Hid (Calls Tryz.prog 80 #[.agg #[.int .u16 2, .int .u8 1, .int .i64 16, .string ⟨#[]⟩, .bool true], .pointer (some ⟨p, 0, none⟩), .pointer (some ⟨q, 0, none⟩)] wr fun e w' => e = .returned (.bool (mt 2 x y)) ∧ Below wr.heap.size wr w') := mtc_any 2 1 16 ⟨#[]⟩ true x y p q wr hF.cx hF.cy (Nat.lt_of_lt_of_le hF.hp hF.bel.size) (Nat.lt_of_lt_of_le hF.hq hF.bel.size)
        have c0 : wr.cell? ⟨b, 10, none⟩ = some (.int .u16 2) := cl_row (i := 10) hF.row rfl
        have c1 : wr.cell? ⟨b, 11, none⟩ = some (.int .u8 1) := cl_row (i := 11) hF.row rfl
        have c2 : wr.cell? ⟨b, 12, none⟩ = some (.int .i64 16) := cl_row (i := 12) hF.row rfl
        have c3 : wr.cell? ⟨b, 13, none⟩ = some (.string ⟨#[]⟩) := cl_row (i := 13) hF.row rfl
        have c4 : wr.cell? ⟨b, 14, none⟩ = some (.bool true) := cl_row (i := 14) hF.row rfl
        clear hF
        cases hm : mt 2 x y with
        | true =>
          rw [hm] at HK
          have HI : Hid (ixN x y = 2) := by unfold Hid ixN; have n0 := HN.out 0 (by omega); have n1 := HN.out 1 (by omega); simp [hm, n0, n1]
          clear hm
          go_wp2_with fail
          refine Calls.mono HK.out ?_
          rintro e w1 ⟨rfl, hb1⟩
          go_wp2
          go_ret
          exact ⟨ret_int HI.out.symm, HFX.out.bel.trans (hb1.mono HFX.out.bel.size)⟩
        | false =>
          rw [hm] at HK
          have HM : Hid (mt 2 x y = false) := hm
          clear hm
          go_wp2_with fail
          refine Calls.mono HK.out ?_
          rintro e w1 ⟨rfl, hb1⟩
          have HF1 : Hid (FxAt w w1 b p q x y) := HFX.out.next hb1
          clear hb1
          go_wp2
          go_roundw
          case rel => exact ⟨3, by omega, rfl, HF1.out, fun j hj => by
            by_cases e : j = 2
            · subst e; exact HM.out
            · exact HN.out j (by omega)⟩
          case measure => simp [intOf]
      · have HK : Hid (Calls Tryz.prog 80 #[.agg #[.int .u16 1, .int .u8 4, .int .i64 4, .string ⟨#[]⟩, .bool false], .pointer (some ⟨p, 0, none⟩), .pointer (some ⟨q, 0, none⟩)] wr fun e w' => e = .returned (.bool (mt 3 x y)) ∧ Below wr.heap.size wr w') := mtc_any 1 4 4 ⟨#[]⟩ false x y p q wr hF.cx hF.cy (Nat.lt_of_lt_of_le hF.hp hF.bel.size) (Nat.lt_of_lt_of_le hF.hq hF.bel.size)
        have c0 : wr.cell? ⟨b, 15, none⟩ = some (.int .u16 1) := cl_row (i := 15) hF.row rfl
        have c1 : wr.cell? ⟨b, 16, none⟩ = some (.int .u8 4) := cl_row (i := 16) hF.row rfl
        have c2 : wr.cell? ⟨b, 17, none⟩ = some (.int .i64 4) := cl_row (i := 17) hF.row rfl
        have c3 : wr.cell? ⟨b, 18, none⟩ = some (.string ⟨#[]⟩) := cl_row (i := 18) hF.row rfl
        have c4 : wr.cell? ⟨b, 19, none⟩ = some (.bool false) := cl_row (i := 19) hF.row rfl
        clear hF
        cases hm : mt 3 x y with
        | true =>
          rw [hm] at HK
          have HI : Hid (ixN x y = 3) := by unfold Hid ixN; have n0 := HN.out 0 (by omega); have n1 := HN.out 1 (by omega); have n2 := HN.out 2 (by omega); simp [hm, n0, n1, n2]
          clear hm
          go_wp2_with fail
          refine Calls.mono HK.out ?_
          rintro e w1 ⟨rfl, hb1⟩
          go_wp2
          go_ret
          exact ⟨ret_int HI.out.symm, HFX.out.bel.trans (hb1.mono HFX.out.bel.size)⟩
        | false =>
          rw [hm] at HK
          have HM : Hid (mt 3 x y = false) := hm
          clear hm
          go_wp2_with fail
          refine Calls.mono HK.out ?_
          rintro e w1 ⟨rfl, hb1⟩
          have HF1 : Hid (FxAt w w1 b p q x y) := HFX.out.next hb1
          clear hb1
          go_wp2
          go_roundw
          case rel => exact ⟨4, by omega, rfl, HF1.out, fun j hj => by
            by_cases e : j = 3
            · subst e; exact HM.out
            · exact HN.out j (by omega)⟩
          case measure => simp [intOf]
      · have HK : Hid (Calls Tryz.prog 80 #[.agg #[.int .u16 1, .int .u8 128, .int .i64 4, .string ⟨#[0, 0, 0, 0, 0, 0, 0, 0]⟩, .bool false], .pointer (some ⟨p, 0, none⟩), .pointer (some ⟨q, 0, none⟩)] wr fun e w' => e = .returned (.bool (mt 4 x y)) ∧ Below wr.heap.size wr w') := mtc_any 1 128 4 ⟨#[0, 0, 0, 0, 0, 0, 0, 0]⟩ false x y p q wr hF.cx hF.cy (Nat.lt_of_lt_of_le hF.hp hF.bel.size) (Nat.lt_of_lt_of_le hF.hq hF.bel.size)
        have c0 : wr.cell? ⟨b, 20, none⟩ = some (.int .u16 1) := cl_row (i := 20) hF.row rfl
        have c1 : wr.cell? ⟨b, 21, none⟩ = some (.int .u8 128) := cl_row (i := 21) hF.row rfl
        have c2 : wr.cell? ⟨b, 22, none⟩ = some (.int .i64 4) := cl_row (i := 22) hF.row rfl
        have c3 : wr.cell? ⟨b, 23, none⟩ = some (.string ⟨#[0, 0, 0, 0, 0, 0, 0, 0]⟩) := cl_row (i := 23) hF.row rfl
        have c4 : wr.cell? ⟨b, 24, none⟩ = some (.bool false) := cl_row (i := 24) hF.row rfl
        clear hF
        cases hm : mt 4 x y with
        | true =>
          rw [hm] at HK
          have HI : Hid (ixN x y = 4) := by unfold Hid ixN; have n0 := HN.out 0 (by omega); have n1 := HN.out 1 (by omega); have n2 := HN.out 2 (by omega); have n3 := HN.out 3 (by omega); simp [hm, n0, n1, n2, n3]
          clear hm
          go_wp2_with fail
          refine Calls.mono HK.out ?_
          rintro e w1 ⟨rfl, hb1⟩
          go_wp2
          go_ret
          exact ⟨ret_int HI.out.symm, HFX.out.bel.trans (hb1.mono HFX.out.bel.size)⟩
        | false =>
          rw [hm] at HK
          have HM : Hid (mt 4 x y = false) := hm
          clear hm
          go_wp2_with fail
          refine Calls.mono HK.out ?_
          rintro e w1 ⟨rfl, hb1⟩
          have HF1 : Hid (FxAt w w1 b p q x y) := HFX.out.next hb1
          clear hb1
          go_wp2
          go_roundw
          case rel => exact ⟨5, by omega, rfl, HF1.out, fun j hj => by
            by_cases e : j = 4
            · subst e; exact HM.out
            · exact HN.out j (by omega)⟩
          case measure => simp [intOf]
      · have HK : Hid (Calls Tryz.prog 80 #[.agg #[.int .u16 2, .int .u8 128, .int .i64 16, .string ⟨#[0, 0, 0, 0, 0, 0, 0, 0]⟩, .bool false], .pointer (some ⟨p, 0, none⟩), .pointer (some ⟨q, 0, none⟩)] wr fun e w' => e = .returned (.bool (mt 5 x y)) ∧ Below wr.heap.size wr w') := mtc_any 2 128 16 ⟨#[0, 0, 0, 0, 0, 0, 0, 0]⟩ false x y p q wr hF.cx hF.cy (Nat.lt_of_lt_of_le hF.hp hF.bel.size) (Nat.lt_of_lt_of_le hF.hq hF.bel.size)
        have c0 : wr.cell? ⟨b, 25, none⟩ = some (.int .u16 2) := cl_row (i := 25) hF.row rfl
        have c1 : wr.cell? ⟨b, 26, none⟩ = some (.int .u8 128) := cl_row (i := 26) hF.row rfl
        have c2 : wr.cell? ⟨b, 27, none⟩ = some (.int .i64 16) := cl_row (i := 27) hF.row rfl
        have c3 : wr.cell? ⟨b, 28, none⟩ = some (.string ⟨#[0, 0, 0, 0, 0, 0, 0, 0]⟩) := cl_row (i := 28) hF.row rfl
        have c4 : wr.cell? ⟨b, 29, none⟩ = some (.bool false) := cl_row (i := 29) hF.row rfl
        clear hF
        cases hm : mt 5 x y with
        | true =>
          rw [hm] at HK
          have HI : Hid (ixN x y = 5) := by unfold Hid ixN; have n0 := HN.out 0 (by omega); have n1 := HN.out 1 (by omega); have n2 := HN.out 2 (by omega); have n3 := HN.out 3 (by omega); have n4 := HN.out 4 (by omega); simp [hm, n0, n1, n2, n3, n4]
          clear hm
          go_wp2_with fail
          refine Calls.mono HK.out ?_
          rintro e w1 ⟨rfl, hb1⟩
          go_wp2
          go_ret
          exact ⟨ret_int HI.out.symm, HFX.out.bel.trans (hb1.mono HFX.out.bel.size)⟩
        | false =>
          rw [hm] at HK
          have HM : Hid (mt 5 x y = false) := hm
          clear hm
          go_wp2_with fail
          refine Calls.mono HK.out ?_
          rintro e w1 ⟨rfl, hb1⟩
          have HF1 : Hid (FxAt w w1 b p q x y) := HFX.out.next hb1
          clear hb1
          go_wp2
          go_roundw
          case rel => exact ⟨6, by omega, rfl, HF1.out, fun j hj => by
            by_cases e : j = 5
            · subst e; exact HM.out
            · exact HN.out j (by omega)⟩
          case measure => simp [intOf]
    · obtain rfl : k = 6 := by omega
      have HI : Hid (ixN x y = -1) := by
        unfold Hid ixN
        have n0 := HN.out 0 (by omega)
        have n1 := HN.out 1 (by omega)
        have n2 := HN.out 2 (by omega)
        have n3 := HN.out 3 (by omega)
        have n4 := HN.out 4 (by omega)
        have n5 := HN.out 5 (by omega)
        simp [n0, n1, n2, n3, n4, n5]
      go_wp2
      go_ret
      exact ⟨ret_int HI.out.symm, HFX.out.bel⟩
theorem max_ix (x y : Int) : max (ixN x y) 0 = fmN x y := by
  unfold ixN fmN
  cases h0 : mt 0 x y with
  | true =>
    have : x = 0 ∧ y = 0 := by
      unfold mt afs sfs at h0
      simp at h0
      omega
    obtain ⟨rfl, rfl⟩ := this
    rfl
  | false =>
    simp only [Bool.false_eq_true, if_false]
    repeat' split
    all_goals rfl
set_option maxRecDepth 100000 in
set_option maxHeartbeats 3200000 in
theorem fam_any (x y : Int) (w : World) (hg : FamSizes w) : Calls Tryz.prog 70 #[.int .u16 x, .int .u8 y] w fun e w' => e = .returned (.int .i64 (fmN x y)) ∧ Below w.heap.size w w' := by
  have hb : Below w.heap.size w ((w.alloc (.cells #[.int .u16 x] 77)).alloc (.cells #[.int .u8 y] 5)) := ((Below.refl _ _).alloc (Nat.le_refl _) _).alloc (by simp) _
  have HK : Hid (_ : Prop) := families_any _ (hg.below hb)
  have hx : ((w.alloc (.cells #[.int .u16 x] 77)).alloc (.cells #[.int .u8 y] 5)).cell? ⟨w.heap.size, 0, none⟩ = some (.int .u16 x) := by simp
  have hy : ((w.alloc (.cells #[.int .u16 x] 77)).alloc (.cells #[.int .u8 y] 5)).cell? ⟨w.heap.size + 1, 0, none⟩ = some (.int .u8 y) := by simp
  have HX : Hid (_ ∧ _) := ⟨hx, hy⟩
  have HB : Hid (Below _ _ _) := hb
  have HM : Hid (max (ixN x y) 0 = fmN x y) := max_ix x y
  clear hb hx hy hg
  go_enter Tryz.func70, Tryz.ntmps70
  go_wp2_with fail
  refine Calls.mono HK.out ?_
  rintro e w1 ⟨rfl, hb1⟩
  have hs1 : w.heap.size + 1 < w1.heap.size := by have := hb1.size; simp at this; omega
  have k1 := (hb1.cell (p := ⟨w.heap.size, 0, none⟩) (by simp; omega)).trans HX.out.1
  have k2 := (hb1.cell (p := ⟨w.heap.size + 1, 0, none⟩) (by simp)).trans HX.out.2
  have HB1 : Hid (Below w.heap.size w w1) := HB.out.trans (hb1.mono HB.out.size)
  have HK1 : Hid (_ ∧ _ ∧ _) := ⟨hs1, k1, k2⟩
  clear hb1 hs1 k1 k2 HK HX HB
  go_wp2_with (refine wpList_store_row rfl 112 _ _ rfl w1.heap.size famV rfl rfl 112 _ (hp_new rfl) size58 rfl (one58 _ _ _ _ _ _) ?_)
  have hbx : Below w1.heap.size w1 ((w1.alloc (.cells famN 112)).setRow w1.heap.size famV) := below_setRow ((Below.refl _ _).alloc (Nat.le_refl _) _) (Nat.le_refl _) _
  have hix := index_any w1.heap.size w.heap.size (w.heap.size + 1) x y ((w1.alloc (.cells famN 112)).setRow w1.heap.size famV) ⟨row_same _ _ _ _ (hp_new rfl), (hbx.cell (p := ⟨w.heap.size, 0, none⟩) (by have := HK1.out.1; simp; omega)).trans HK1.out.2.1, (hbx.cell (p := ⟨w.heap.size + 1, 0, none⟩) HK1.out.1).trans HK1.out.2.2, by have := HK1.out.1; have := hbx.size; omega, by have := HK1.out.1; have := hbx.size; omega, Below.refl _ _⟩
  have HBX : Hid (Below w.heap.size w _) := HB1.out.trans (hbx.mono HB1.out.size)
  refine Calls.mono hix ?_
  rintro e w2 ⟨rfl, hb2⟩
  have HB2 : Hid (Below w.heap.size w w2) := HBX.out.trans (hb2.mono HBX.out.size)
  clear hb2 hix hbx HBX
  go_wp2
  all_goals
    go_ret
    exact ⟨ret_int (by have := HM.out; omega), HB2.out⟩
end Go.Proofs.YtlhnfejgkhilkaaGreatDoor
