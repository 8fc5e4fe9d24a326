/-
  The reference's Match.
-/
import Derived.Test.YtjchobcmbkiilaaGreatDoorQ1
set_option linter.unusedVariables false
set_option linter.unusedSimpArgs false
set_option maxRecDepth 100000
namespace Go.Proofs.YtjchobcmbkiilaaGreatDoor
open Go.RowKit
/-- The first i atoms match the first k ASs. -/
def rc (p : List Atm) (l : List Nat) (i k : Nat) : Bool := mt (p.take i) (l.take k)
/-- What the first k places make of the next atom. -/
def nx (p : List Atm) (l : List Nat) (i : Nat) (a : Atm) (k m : Nat) : Bool := (List.range k).any fun j => rc p l i j && (decide (j ≤ m) && mt [a] (pc l j m))
theorem nx_zero (p : List Atm) (l : List Nat) (i : Nat) (a : Atm) (m : Nat) : nx p l i a 0 m = false := rfl
theorem nx_succ (p : List Atm) (l : List Nat) (i : Nat) (a : Atm) (k m : Nat) : nx p l i a (k + 1) m = (nx p l i a k m || (rc p l i k && (decide (k ≤ m) && mt [a] (pc l k m)))) := by
  unfold nx
  rw [List.range_succ, List.any_append]
  simp
theorem rc_zero (p : List Atm) (l : List Nat) (k : Nat) (hk : k ≤ l.length) : rc p l 0 k = decide (k = 0) := by
  unfold rc
  rw [List.take_zero, mt_nil, Bool.eq_iff_iff, List.isEmpty_iff, List.take_eq_nil_iff, decide_eq_true_eq]
  constructor
  · rintro (h | h)
    · exact h
    · subst h; simpa using hk
  · intro h; exact Or.inl h
theorem rc_all (p : List Atm) (l : List Nat) : rc p l p.length l.length = mt p l := by unfold rc; rw [List.take_length, List.take_length]
theorem nx_all (p : List Atm) (l : List Nat) (i : Nat) (hi : i < p.length) (m : Nat) (hm : m ≤ l.length) : nx p l i p[i] (l.length + 1) m = rc p l (i + 1) m := by
  rw [Bool.eq_iff_iff]
  unfold nx rc
  rw [List.take_succ_eq_append_getElem hi, mt_app, List.any_eq_true]
  constructor
  · rintro ⟨j, _, h⟩
    rw [Bool.and_eq_true, Bool.and_eq_true, decide_eq_true_eq] at h
    refine ⟨j, by rw [List.length_take]; omega, ?_, h.2.2⟩
    rw [List.take_take, show min j m = j by omega]
    exact h.1
  · rintro ⟨j, hj, h1, h2⟩
    rw [List.length_take] at hj
    refine ⟨j, List.mem_range.2 (by omega), ?_⟩
    rw [Bool.and_eq_true, Bool.and_eq_true, decide_eq_true_eq]
    rw [List.take_take, show min j m = j by omega] at h1
    exact ⟨h1, by omega, h2⟩
theorem mt_piece_many {a : Atm} (h : a.1 = 3) (x : List Nat) : mt [a] x = true := (mt_many h _ _).2 ⟨x.length, Nat.le_refl _, by rw [List.drop_length]; rfl⟩
theorem mt_piece_one {a : Atm} (h : ¬ a.1 = 3) (l : List Nat) (k m : Nat) (hk : k ≤ m) (hm : m ≤ l.length) : mt [a] (pc l k m) = true ↔ ∃ h : k < l.length, m = k + 1 ∧ oneA a l[k] = true := by
  have hl := pc_len l k m hm
  by_cases e : m = k + 1
  · subst e
    have e2 : pc l k (k + 1) = [l[k]'(by omega)] := by
      apply List.ext_getElem
      · rw [hl]; simp
      · intro j h1 h2
        simp at h2
        subst h2
        simp [pc]
    rw [e2, mt_one h, mt_nil]
    simp
    constructor
    · intro h; exact ⟨by omega, h⟩
    · rintro ⟨_, h⟩; exact h
  · constructor
    · intro hh
      exfalso
      generalize pc l k m = x at *
      cases x with
      | nil => rw [mt_one_nil h] at hh; cases hh
      | cons y x =>
        rw [mt_one h, mt_nil, Bool.and_eq_true, List.isEmpty_iff] at hh
        rw [hh.2] at hl
        simp at hl
        omega
    · rintro ⟨_, h1, _⟩; exact absurd h1 e
/-- A row of bools that may be written. -/
def BRow (w : World) (b n : Nat) (f : Nat → Bool) : Prop := ∀ k, k ≤ n → w.cell? ⟨b, k, none⟩ = some (.bool (f k)) ∧ w.frozen? ⟨b, k, none⟩ = false
theorem BRow.below {w w' : World} {b n : Nat} {f : Nat → Bool} (h : BRow w b n f) (hb : Below w.heap.size w w') : BRow w' b n f := fun k hk => ⟨below_cell hb (h k hk).1, (hb.frozen (p := ⟨b, k, none⟩) (lt_of_cell (h k hk).1)).trans (h k hk).2⟩
theorem BRow.set {w : World} {b n : Nat} {f g : Nat → Bool} (h : BRow w b n f) (j : Nat) (hj : j ≤ n) (hg : ∀ k, k ≤ n → g k = (f k || decide (k = j))) : BRow (w.setCell ⟨b, j, none⟩ (.bool true)) b n g := by
  intro k hk
  obtain ⟨h1, h2⟩ := h k hk
  refine ⟨?_, by rw [World.frozen?_setCell]; exact h2⟩
  rw [hg k hk]
  by_cases e : j = k
  · subst e
    rw [World.cell?_setCell_same _ _ _ h1]; simp
  · rw [World.cell?_setCell_other _ _ _ _ (by intro h; injection h; omega), h1, decide_eq_false (fun h => e h.symm), Bool.or_false]
theorem BRow.set_other {w : World} {b b2 n : Nat} {f : Nat → Bool} (h : BRow w b n f) (j : Nat) (v : Value) (hne : b2 ≠ b) : BRow (w.setCell ⟨b2, j, none⟩ v) b n f := fun k hk =>
  ⟨by rw [World.cell?_setCell_other _ _ _ _ (by intro h; injection h; contradiction)]; exact (h k hk).1, by rw [World.frozen?_setCell]; exact (h k hk).2⟩
theorem BRow.congr {w : World} {b n : Nat} {f g : Nat → Bool} (h : BRow w b n f) (hg : ∀ k, k ≤ n → f k = g k) : BRow w b n g := fun k hk => by rw [← hg k hk]; exact h k hk
theorem info4 : (Tryz.prog.info? 4).map (fun i => (i.zero, i.size, i.bytes)) = some (some (.bool false), 1, 1) := by kernel_rfl
theorem made_bools (n : Nat) (h : n ≤ 100000) (w : World) : (Instr.makeSlice 86 (.int .i64 (n : Int)) (.int .i64 (n : Int))).run Tryz.prog w = .ok (.slice (some ⟨w.heap.size, 0, none⟩) n n) (w.alloc (.cells (madeCells #[.bool false] n) 4)) := by
  obtain ⟨i0, hi, hz0, hz1, hz2⟩ := info_parts info4
  have h := run_make w 86 4 i0 (.bool false) Tryz.underlying86 hi hz0 .i64 .i64 n n (by omega) (by omega) (by rw [hz2]; omega) (by omega)
  rw [hz1, Int.toNat_natCast, Nat.mul_one] at h
  exact h
theorem BRow.made (w : World) (n : Nat) : BRow (w.alloc (.cells (madeCells #[.bool false] (n + 1)) 4)) w.heap.size n (fun _ => false) := by
  intro k hk
  refine ⟨?_, by simp⟩
  rw [World.cell?_alloc_at _ _ _ _ rfl]
  simp [madeCells, show k < n + 1 by omega, Nat.mod_one]
/-- What stands in memory between two atoms: the row of what is reached. -/
structure MtAt (w wr : World) (p : List Atm) (l : List Nat) (i b : Nat) : Prop where
  row : BRow wr b l.length (rc p l i)
  bel : Below w.heap.size w wr
  lo : w.heap.size ≤ b
  hi : b < wr.heap.size
/-- .. and while an atom is gone through: the next row. -/
structure NxAt (w wr : World) (p : List Atm) (l : List Nat) (i b c : Nat) (f : Nat → Bool) : Prop where
  m : MtAt w wr p l i b
  row : BRow wr c l.length f
  ne : b ≠ c
  lo : w.heap.size ≤ c
  hi : c < wr.heap.size
theorem NxAt.set {w wr : World} {p : List Atm} {l : List Nat} {i b c : Nat} {f g : Nat → Bool} (h : NxAt w wr p l i b c f) (j : Nat) (hj : j ≤ l.length) (hg : ∀ k, k ≤ l.length → g k = (f k || decide (k = j))) : NxAt w (wr.setCell ⟨c, j, none⟩ (.bool true)) p l i b c g :=
  ⟨⟨h.m.row.set_other j _ (Ne.symm h.ne), h.m.bel.setCell h.lo _, h.m.lo, by simpa using h.m.hi⟩, h.row.set j hj hg, h.ne, h.lo, by simpa using h.hi⟩
theorem NxAt.congr {w wr : World} {p : List Atm} {l : List Nat} {i b c : Nat} {f g : Nat → Bool} (h : NxAt w wr p l i b c f) (hg : ∀ k, k ≤ l.length → f k = g k) : NxAt w wr p l i b c g := ⟨h.m, h.row.congr hg, h.ne, h.lo, h.hi⟩
theorem NxAt.drewN {w wr : World} {p : List Atm} {l : List Nat} {i b c : Nat} {f : Nat → Bool} (h : NxAt w wr p l i b c f) (n : Nat) : NxAt w (wr.drewN n) p l i b c f := by
  have hb : Below wr.heap.size wr (wr.drewN n) := below_drewN (Below.refl _ _) n
  exact ⟨⟨h.m.row.below hb, h.m.bel.trans (hb.mono h.m.bel.size), h.m.lo, h.m.hi⟩, h.row.below hb, h.ne, h.lo, h.hi⟩
set_option maxHeartbeats 8000000 in
theorem rmatch_any (v vl : Value) (p : List Atm) (l : List Nat) (w : World) (hv : AtAt w v p) (hl : ASAt w vl l) (hpl : p.length ≤ 1000) (hL : l.length ≤ 1000) :
    Calls Tryz.prog 25 #[v, vl] w fun e w' => e = .returned (.bool (okP p && mt p l)) ∧ Below w.heap.size w w' := by
  have HK : Hid (_ : Prop) := rmay_any v p w hv (by omega)
  obtain ⟨ad, bb, off, cap, rfl, had, hcap, hrow⟩ := hv
  obtain ⟨ad2, bb2, off2, cap2, rfl, had2, hcap2, hrow2⟩ := hl
  have HR : Hid (_ : Prop) := hrow
  have HR2 : Hid (_ : Prop) := hrow2
  clear hrow hrow2
  cases hz : okP p with
  | false =>
    rw [hz] at HK
    go_enter Tryz.func25, Tryz.ntmps25
    go_wp2_with (go_at_call 56; refine Calls.mono HK.out ?_; rintro e w2 ⟨rfl, hb2⟩)
    go_ret
    exact ⟨rfl, hb2⟩
  | true =>
    rw [hz] at HK
    have HOK : Hid (∀ i (h : i < p.length), p[i].1 = 1 ∨ p[i].1 = 2 ∨ p[i].1 = 3) := by
      intro i h
      unfold okP at hz
      rw [Bool.and_eq_true] at hz
      have := List.all_eq_true.1 hz.2 _ (List.getElem_mem h)
      unfold okA at this
      split at this
      · exact Or.inl (by assumption)
      · split at this
        · rename_i h2; exact Or.inr h2
        · cases this
    clear hz
    have hms : ∀ W, (Instr.makeSlice 86 (.int .i64 ((l.length : Int) + 1)) (.int .i64 ((l.length : Int) + 1))).run Tryz.prog W = .ok (.slice (some ⟨W.heap.size, 0, none⟩) (l.length + 1) (l.length + 1)) (W.alloc (.cells (madeCells #[.bool false] (l.length + 1)) 4)) := fun W => by
      have h := made_bools (l.length + 1) (by omega) W
      rw [show ((l.length + 1 : Nat) : Int) = (l.length : Int) + 1 by omega] at h
      exact h
    have hwl : IntKind.i64.wrap ((l.length : Int) + 1) = ((l.length + 1 : Nat) : Int) := by rw [IntKind.wrap_i64]; omega
    go_enter Tryz.func25, Tryz.ntmps25
    go_wp2_with fail
    refine Calls.mono HK.out ?_
    rintro e w1 ⟨rfl, hb1⟩
    have HB1 : Hid (Below w.heap.size w w1) := hb1
    clear hb1 HK
    have HM : Hid (BRow (w1.alloc (.cells (madeCells #[.bool false] (l.length + 1)) 4)) w1.heap.size l.length (fun _ => false)) := BRow.made w1 l.length
    obtain ⟨c0, f0⟩ := HM.out 0 (Nat.zero_le _)
    have HS : Hid (MtAt w ((w1.alloc (.cells (madeCells #[.bool false] (l.length + 1)) 4)).setCell ⟨w1.heap.size, 0, none⟩ (.bool true)) p l 0 w1.heap.size) := by
      have hbx := below_box w1 (.cells (madeCells #[.bool false] (l.length + 1)) 4)
      refine ⟨HM.out.set 0 (Nat.zero_le _) (fun k hk => by rw [rc_zero p l k hk]; rfl), (HB1.out.trans (hbx.mono HB1.out.size)).setCell HB1.out.size _, HB1.out.size, by simp⟩
    go_wp2
    go_loopw [5, 6] (fun x5 x6 wr => ∃ (i b : Nat), x6 = .int .i64 i ∧ i ≤ p.length ∧ x5 = .slice (some ⟨b, 0, none⟩) (l.length + 1) (l.length + 1) ∧ MtAt w wr p l i b) (fun _ x6 _ => p.length - (intOf x6).toNat)
    case atStart =>
      have h := HS.out
      rw [World.setCell_alloc_at _ _ _ _ _ rfl] at h
      exact ⟨0, _, rfl, Nat.zero_le _, rfl, h⟩
    case round =>
      obtain ⟨i, b, rfl, hi, rfl, hm⟩ := hrel
      have HM0 : Hid (MtAt w wr p l i b) := hm
      clear hm HS HM c0 f0
      by_cases hlt : i < p.length
      · obtain rfl : ad = some ⟨bb, off, none⟩ := by
          rcases had with h | h
          · exact h
          · omega
        have HCA : Hid (∀ W, Below w.heap.size w W → W.cell? ⟨bb, off + i * 2, none⟩ = some (.int .i64 p[i].1) ∧ W.cell? ⟨bb, off + i * 2 + 1, none⟩ = some (.int .u32 (p[i].2 : Int))) := fun W hW => ⟨below_cell hW (HR.out i hlt).1, below_cell hW (HR.out i hlt).2⟩
        have HKD := HOK.out i hlt
        have HNA : Hid (∀ m, m ≤ l.length → nx p l i p[i] (l.length + 1) m = rc p l (i + 1) m) := nx_all p l i hlt
        obtain ⟨a, haa⟩ : ∃ a, a = p[i] := ⟨_, rfl⟩
        rw [← haa] at HCA HKD HNA
        clear haa
        have HN0 : Hid (NxAt w (wr.alloc (.cells (madeCells #[.bool false] (l.length + 1)) 4)) p l i b wr.heap.size (nx p l i a 0)) := by
          have hbx := below_box wr (.cells (madeCells #[.bool false] (l.length + 1)) 4)
          exact ⟨⟨HM0.out.row.below hbx, HM0.out.bel.trans (hbx.mono HM0.out.bel.size), HM0.out.lo, by have := HM0.out.hi; simp; omega⟩, (BRow.made wr l.length).congr (fun k _ => (nx_zero p l i a k).symm), by have := HM0.out.hi; omega, HM0.out.bel.size, by simp⟩
        clear HM0
        obtain ⟨ak, an⟩ := a
        dsimp only at HKD HCA
        go_wp2
        generalize wr = wo at *
        go_loopw [8] (fun x8 wr => ∃ k : Nat, x8 = .int .i64 k ∧ k ≤ l.length + 1 ∧ NxAt w wr p l i b wo.heap.size (nx p l i (ak, an) k)) (fun x8 _ => l.length + 1 - (intOf x8).toNat)
        case atStart => exact ⟨0, rfl, by omega, HN0.out⟩
        case round =>
          obtain ⟨k, rfl, hk, hn⟩ := hrel
          have HN : Hid (NxAt w wr p l i b wo.heap.size (nx p l i (ak, an) k)) := hn
          clear hn
          by_cases hkl : k ≤ l.length
          · have HX : Hid (∀ m, nx p l i (ak, an) (k + 1) m = (nx p l i (ak, an) k m || (rc p l i k && (decide (k ≤ m) && mt [(ak, an)] (pc l k m))))) := nx_succ p l i (ak, an) k
            have cA := (HN.out.m.row k hkl).1
            cases hrc : rc p l i k with
            | false =>
              rw [hrc] at cA HX
              have HNN : Hid (NxAt w wr p l i b wo.heap.size (nx p l i (ak, an) (k + 1))) := HN.out.congr (fun m _ => by rw [HX.out]; simp)
              clear HX HN
              go_wp2
              go_roundw
              case rel => exact ⟨k + 1, by go_num, by omega, HNN.out⟩
              case measure => simp [intOf]; omega
            | true =>
              rw [hrc] at cA HX
              obtain ⟨cK, cN⟩ := HCA.out wr HN.out.m.bel
              rcases HKD with rfl | rfl | rfl
              · -- one AS
                have HO : Hid (∀ m, m ≤ l.length → nx p l i (1, an) (k + 1) m = (nx p l i (1, an) k m || (decide (k ≤ m) && mt [(1, an)] (pc l k m)))) := fun m _ => by rw [HX.out, Bool.true_and]
                clear HX
                by_cases hkn : k < l.length
                · obtain rfl : ad2 = some ⟨bb2, off2, none⟩ := by
                    rcases had2 with h | h
                    · exact h
                    · omega
                  have cL := below_cell HN.out.m.bel (HR2.out k hkn)
                  have hkn' : (k : Int) < (l.length : Int) := by omega
                  have HP : Hid (∀ m, k ≤ m → m ≤ l.length → (mt [((1 : Int), an)] (pc l k m) = true ↔ m = k + 1 ∧ oneA (1, an) l[k] = true)) := fun m h1 h2 => by
                    rw [mt_piece_one (by simp) l k m h1 h2]
                    constructor
                    · rintro ⟨_, h3, h4⟩; exact ⟨h3, h4⟩
                    · rintro ⟨h3, h4⟩; exact ⟨hkn, h3, h4⟩
                  have HOA : Hid (oneA (1, an) l[k] = (an == l[k])) := by unfold Hid oneA; simp
                  generalize l[k] = lk at *
                  by_cases he : (lk : Int) = (an : Int)
                  · have hnl : an = lk := by omega
                    have HNN : Hid (∀ W, NxAt w W p l i b wo.heap.size (nx p l i (1, an) k) → NxAt w (W.setCell ⟨wo.heap.size, k + 1, none⟩ (.bool true)) p l i b wo.heap.size (nx p l i (1, an) (k + 1))) := fun W hW => hW.set (k + 1) (by omega) (fun m hm => by
                      rw [HO.out m hm]
                      congr 1
                      rw [Bool.eq_iff_iff, Bool.and_eq_true, decide_eq_true_eq, decide_eq_true_eq]
                      constructor
                      · rintro ⟨h1, h2⟩; exact ((HP.out m h1 hm).1 h2).1
                      · intro h1; exact ⟨by omega, (HP.out m (by omega) hm).2 ⟨h1, by rw [HOA.out, hnl]; simp⟩⟩)
                    have hek : ((lk : Int) == (an : Int)) = true := by rw [beq_iff_eq]; exact he
                    obtain ⟨cB, fB⟩ := HN.out.row (k + 1) (by omega)
                    have HCB : Hid (∀ n, (wr.drewN n).cell? ⟨wo.heap.size, k + 1, none⟩ = some (.bool (nx p l i (1, an) k (k + 1))) ∧ (wr.drewN n).frozen? ⟨wo.heap.size, k + 1, none⟩ = false) := fun n => (HN.out.drewN n).row (k + 1) (by omega)
                    have HDN : Hid (∀ n, NxAt w (wr.drewN n) p l i b wo.heap.size (nx p l i (1, an) k)) := fun n => HN.out.drewN n
                    clear HO HP HOA hnl HN cB fB
                    go_wp2
                    go_quiet (fail)
                    obtain ⟨cB, fB⟩ := HCB.out nq
                    have HD5 : Hid (NxAt w (wr.drewN nq) p l i b wo.heap.size (nx p l i (1, an) k)) := HDN.out nq
                    clear HCB HDN cA cK cN cL
                    generalize wr.drewN nq = w5 at *
                    go_wp2
                    go_roundw
                    case rel => exact ⟨k + 1, by go_num, by omega, HNN.out _ HD5.out⟩
                    case measure => simp [intOf]; omega
                  · have hnl : ¬ an = lk := by omega
                    have HNN : Hid (NxAt w wr p l i b wo.heap.size (nx p l i (1, an) (k + 1))) := HN.out.congr (fun m hm => by
                      rw [HO.out m hm]
                      have : (decide (k ≤ m) && mt [((1 : Int), an)] (pc l k m)) = false := by
                        rw [Bool.eq_false_iff, ne_eq, Bool.and_eq_true, decide_eq_true_eq]
                        rintro ⟨h1, h2⟩
                        have h3 := ((HP.out m h1 hm).1 h2).2
                        rw [HOA.out, beq_iff_eq] at h3
                        exact hnl h3
                      rw [this, Bool.or_false])
                    have hek : ((lk : Int) == (an : Int)) = false := by rw [beq_eq_false_iff_ne]; exact he
                    clear HO HP HOA hnl HN he
                    go_wp2
                    go_quiet (fail)
                    go_wp2
                    go_roundw
                    case rel => exact ⟨k + 1, by go_num, by omega, HNN.out.drewN _⟩
                    case measure => simp [intOf]; omega
                · have HNN : Hid (NxAt w wr p l i b wo.heap.size (nx p l i (1, an) (k + 1))) := HN.out.congr (fun m hm => by
                    rw [HO.out m hm]
                    have : (decide (k ≤ m) && mt [((1 : Int), an)] (pc l k m)) = false := by
                      rw [Bool.eq_false_iff, ne_eq, Bool.and_eq_true, decide_eq_true_eq]
                      rintro ⟨h1, h2⟩
                      obtain ⟨h3, _⟩ := (mt_piece_one (by simp) l k m h1 hm).1 h2
                      exact hkn h3
                    rw [this, Bool.or_false])
                  have hkn' : ¬ (k : Int) < (l.length : Int) := by omega
                  clear HO HN
                  go_wp2
                  go_quiet (fail)
                  go_wp2
                  go_roundw
                  case rel => exact ⟨k + 1, by go_num, by omega, HNN.out.drewN _⟩
                  case measure => simp [intOf]; omega
              · -- any one
                by_cases hkn : k < l.length
                · have HNN : Hid (NxAt w (wr.setCell ⟨wo.heap.size, k + 1, none⟩ (.bool true)) p l i b wo.heap.size (nx p l i (2, an) (k + 1))) := HN.out.set (k + 1) (by omega) (fun m hm => by
                    rw [HX.out, Bool.true_and]
                    congr 1
                    rw [Bool.eq_iff_iff, Bool.and_eq_true, decide_eq_true_eq, decide_eq_true_eq]
                    constructor
                    · rintro ⟨h1, h2⟩; obtain ⟨_, h3, _⟩ := (mt_piece_one (by simp) l k m h1 hm).1 h2; exact h3
                    · intro h1; exact ⟨by omega, (mt_piece_one (by simp) l k m (by omega) hm).2 ⟨hkn, h1, by simp [oneA]⟩⟩)
                  obtain ⟨cB, fB⟩ := HN.out.row (k + 1) (by omega)
                  have hkn' : (k : Int) < (l.length : Int) := by omega
                  clear HX HN
                  go_wp2
                  go_roundw
                  case rel => exact ⟨k + 1, by go_num, by omega, HNN.out⟩
                  case measure => simp [intOf]; omega
                · have HNN : Hid (NxAt w wr p l i b wo.heap.size (nx p l i (2, an) (k + 1))) := HN.out.congr (fun m hm => by
                    rw [HX.out, Bool.true_and]
                    have : (decide (k ≤ m) && mt [((2 : Int), an)] (pc l k m)) = false := by
                      rw [Bool.eq_false_iff, ne_eq, Bool.and_eq_true, decide_eq_true_eq]
                      rintro ⟨h1, h2⟩
                      obtain ⟨h3, _⟩ := (mt_piece_one (by simp) l k m h1 hm).1 h2
                      exact hkn h3
                    rw [this, Bool.or_false])
                  have hkn' : ¬ (k : Int) < (l.length : Int) := by omega
                  clear HX HN
                  go_wp2
                  go_roundw
                  case rel => exact ⟨k + 1, by go_num, by omega, HNN.out⟩
                  case measure => simp [intOf]; omega
              · -- any number
                have HXM : Hid (∀ m, nx p l i (3, an) (k + 1) m = (nx p l i (3, an) k m || decide (k ≤ m))) := fun m => by rw [HX.out, mt_piece_many rfl]; simp
                clear HX
                go_wp2
                generalize wr = wk at *
                go_loopw [9] (fun x9 wr => ∃ m : Nat, x9 = .int .i64 m ∧ k ≤ m ∧ m ≤ l.length + 1 ∧ NxAt w wr p l i b wo.heap.size (fun j => nx p l i (3, an) k j || (decide (k ≤ j) && decide (j < m)))) (fun x9 _ => l.length + 1 - (intOf x9).toNat)
                case atStart => exact ⟨k, rfl, Nat.le_refl _, by omega, HN.out.congr (fun j _ => by
                  have : (decide (k ≤ j) && decide (j < k)) = false := by rw [Bool.eq_false_iff, ne_eq, Bool.and_eq_true, decide_eq_true_eq, decide_eq_true_eq]; omega
                  rw [this, Bool.or_false])⟩
                case round =>
                  obtain ⟨m, rfl, hkm, hm, hn⟩ := hrel
                  have HNm : Hid (NxAt w wr p l i b wo.heap.size _) := hn
                  clear hn
                  by_cases hml : m ≤ l.length
                  · have HNN : Hid (NxAt w (wr.setCell ⟨wo.heap.size, m, none⟩ (.bool true)) p l i b wo.heap.size (fun j => nx p l i (3, an) k j || (decide (k ≤ j) && decide (j < m + 1)))) := HNm.out.set m hml (fun j _ => by
                      rw [Bool.or_assoc]
                      congr 1
                      rw [Bool.eq_iff_iff]
                      simp
                      omega)
                    obtain ⟨cB, fB⟩ := HNm.out.row m hml
                    clear HNm
                    go_wp2
                    go_roundw
                    case rel => exact ⟨m + 1, by go_num, by omega, by omega, HNN.out⟩
                    case measure => simp [intOf]; omega
                  · obtain rfl : m = l.length + 1 := by omega
                    have hnl : ¬ (((l.length + 1 : Nat) : Int) ≤ (l.length : Int)) := by omega
                    have HNN : Hid (NxAt w wr p l i b wo.heap.size (nx p l i (3, an) (k + 1))) := HNm.out.congr (fun j hj => by
                      rw [HXM.out]
                      congr 1
                      rw [Bool.eq_iff_iff]
                      simp
                      omega)
                    clear HNm
                    go_wp2
                    exact ⟨⟨k + 1, by go_num, by omega, HNN.out⟩, by simp [intOf]; omega⟩
          · obtain rfl : k = l.length + 1 := by omega
            have hnl : ¬ (((l.length + 1 : Nat) : Int) ≤ (l.length : Int)) := by omega
            have HNE : Hid (MtAt w wr p l (i + 1) wo.heap.size) := ⟨HN.out.row.congr HNA.out, HN.out.m.bel, HN.out.lo, HN.out.hi⟩
            clear HN HNA
            go_wp2
            exact ⟨⟨i + 1, _, by go_num, by omega, rfl, HNE.out⟩, by simp [intOf]; omega⟩
      · obtain rfl : i = p.length := by omega
        obtain ⟨cE, _⟩ := HM0.out.row l.length (Nat.le_refl _)
        rw [rc_all] at cE
        go_wp2
        go_ret
        exact ⟨rfl, HM0.out.bel⟩
end Go.Proofs.YtjchobcmbkiilaaGreatDoor
