/-
  The reference's Make.
-/
import Derived.Test.YtlinoklgchfedaaDoorB6
import Derived.Test.YtlinoklgchfedaaDoorB8
namespace Go.Proofs.YtlinoklgchfedaaDoor
open Go.RowKit
def mkC (k : Nat) : Array Value := (List.replicate k (Value.int .u8 255) ++ List.replicate (16 - k) (Value.int .u8 0)).toArray
theorem mkC_next (k : Nat) (hk : k < 16) : (mkC k).setIfInBounds k (.int .u8 255) = mkC (k + 1) := by
  have h : k = 0 ∨ k = 1 ∨ k = 2 ∨ k = 3 ∨ k = 4 ∨ k = 5 ∨ k = 6 ∨ k = 7 ∨ k = 8 ∨ k = 9 ∨ k = 10 ∨ k = 11 ∨ k = 12 ∨ k = 13 ∨ k = 14 ∨ k = 15 := by omega
  rcases h with rfl | rfl | rfl | rfl | rfl | rfl | rfl | rfl | rfl | rfl | rfl | rfl | rfl | rfl | rfl | rfl <;> rfl
theorem mkC_at (k : Nat) (hk : k < 16) : ∃ v, (mkC k)[k]? = some v := ⟨_, Array.getElem?_eq_getElem (by simp [mkC]; omega)⟩
theorem mk16 (w : World) : (Instr.makeSlice 43 (.int .i64 16) (.int .i64 16)).run Tryd.prog w = .ok (.slice (some ⟨w.heap.size, 0, none⟩) 16 16) (w.alloc (.cells (mkC 0) 5)) := by
  obtain ⟨i0, hi, hz0, hz1, hz2⟩ := info_parts info5
  have h := run_make w 43 5 i0 (.int .u8 0) Tryd.underlying43 hi hz0 .i64 .i64 16 16 (by decide) (by decide) (by rw [hz2]; decide) (by decide)
  rw [hz1, show madeCells (Value.int .u8 0).cells (Int.toNat 16 * 1) = mkC 0 by kernel_rfl] at h
  exact h
theorem head_cells (kn n : Nat) (hk : kn ≤ 5) (hn : n ≤ 4096) (X Y Z : Int) (hx : X = (n : Int) / 256) (hy : Y = (n : Int) % 256) (hz : Z = (kn : Int)) : List.replicate 16 (Value.int .u8 255) ++ [.int .u8 X, .int .u8 Y, .int .u8 Z] = (headI kn n).map fun x => Value.int .u8 (x.toNat : Int) := by
  have e1 : ((UInt8.ofNat (n / 256)).toNat : Int) = X := by rw [UInt8.toNat_ofNat']; omega
  have e2 : ((UInt8.ofNat (n % 256)).toNat : Int) = Y := by rw [UInt8.toNat_ofNat']; omega
  have e3 : ((UInt8.ofNat kn).toNat : Int) = Z := by rw [UInt8.toNat_ofNat']; omega
  unfold headI
  rw [List.map_append]
  simp only [List.map_cons, List.map_nil, e1, e2, e3]
  rfl
theorem own_conv {w : World} {base : Nat} {ad : Option Addr} {n c : Nat} {l : List UInt8} (h : w.ownsRow base 5 1 (.slice ad n c) l.length (l.map fun x => Value.int .u8 (x.toNat : Int))) (hl : n = l.length) (h0 : 0 < l.length) : (convert 43 9 (.slice ad n c)).run Tryd.prog w = .ok (.string ⟨l.toArray⟩) w := by
  obtain ⟨hn, ⟨hv, h1⟩ | ⟨g, cap, cur, hv, hg, hh, hc, hm, hs, ht⟩⟩ := h
  · omega
  · obtain ⟨rfl, _, rfl⟩ : ad = some ⟨g, 0, none⟩ ∧ n = l.length ∧ c = cap := by
      simp only [Value.slice.injEq] at hv
      exact ⟨hv.1, hv.2.1, hv.2.2⟩
    subst hl
    refine run_convert_bytes_back (P := Tryd.prog) w 43 9 5 ⟨g, 0, none⟩ c l Tryd.underlying43 Tryd.underlying5 Tryd.underlying9 (fun j hj => ?_)
    have e : cur.toList[j]? = (l.map fun x => Value.int .u8 (x.toNat : Int))[j]? := by
      have t2 : (cur.toList.take (l.length * 1))[j]? = (l.map fun x => Value.int .u8 (x.toNat : Int))[j]? := by rw [ht]
      rwa [List.getElem?_take, if_pos (by omega)] at t2
    have ha : (⟨g, 0, none⟩ : Addr).add j = ⟨g, j, none⟩ := by unfold Addr.add; split <;> simp_all
    rw [ha]
    rw [World.cell?, hh]
    rw [List.getElem?_map, List.getElem?_eq_getElem hj] at e
    simpa using e
theorem news3 (w : World) (a b c : Value) (t : TypeId) : ∀ (j : Nat) (u : Value), [a, b, c][j]? = some u → (w.alloc (.cells #[a, b, c] t)).cell? (Addr.add ⟨w.heap.size, 0, none⟩ j) = some u := by
  intro j u hj
  rcases j with _ | _ | _ | j
  · simp at hj; subst hj; simp [Addr.add]
  · simp at hj; subst hj; simp [Addr.add]
  · simp at hj; subst hj; simp [Addr.add]
  · simp at hj
theorem one3 (a b c : Int) : ∀ u ∈ [Value.int .u8 a, .int .u8 b, .int .u8 c], u.oneCell' = true := by
  intro u hu
  simp at hu
  rcases hu with h | h | h <;> subst h <;> rfl
set_option maxRecDepth 100000 in
set_option maxHeartbeats 1600000 in
theorem rmake_any (k : Int) (bd : List UInt8) (w : World) (hl : bd.length ≤ 1000000) :
    Calls Tryd.prog 15 #[.agg #[.int .i64 k, .string ⟨bd.toArray⟩]] w fun e w' => e = mkAns k bd ∧ Below w.heap.size w w' := by
  obtain ⟨i0, hi, hz0, hz1, hz2⟩ := info_parts info5
  have hb1 : Below w.heap.size w (w.alloc (.cells #[.int .i64 k, .string ⟨bd.toArray⟩] 37)) := (Below.refl _ _).alloc (Nat.le_refl _) _
  have HB : Hid (Below w.heap.size w (w.alloc (.cells #[.int .i64 k, .string ⟨bd.toArray⟩] 37))) := hb1
  have hr : (w.alloc (.cells #[.int .i64 k, .string ⟨bd.toArray⟩] 37)).heap[w.heap.size]? = some (.cells #[.int .i64 k, .string ⟨bd.toArray⟩] 37 (0, 0)) := hp_new rfl
  have c0 : (w.alloc (.cells #[.int .i64 k, .string ⟨bd.toArray⟩] 37)).cell? ⟨w.heap.size, 0, none⟩ = some (.int .i64 k) := cl_row hr rfl
  have c1 : (w.alloc (.cells #[.int .i64 k, .string ⟨bd.toArray⟩] 37)).cell? ⟨w.heap.size, 1, none⟩ = some (.string ⟨bd.toArray⟩) := cl_row hr rfl
  have hsz : (⟨bd.toArray⟩ : ByteArray).size = bd.length := list_size bd
  have hq : w.heap.size < (w.alloc (.cells #[.int .i64 k, .string ⟨bd.toArray⟩] 37)).heap.size := by simp
  generalize hW : w.alloc (.cells #[.int .i64 k, .string ⟨bd.toArray⟩] 37) = W at *
  generalize hR : mkAns k bd = r at *
  unfold mkAns makeI at hR
  have hl2 : (bd.length : Int) ≤ 1000000 := by omega
  clear hb1 hr
  by_cases hk1 : k < 1
  · rw [if_neg (by omega)] at hR
    have HR : Hid (_ = r) := hR
    clear hR
    go_enter Tryd.func15, Tryd.ntmps15
    go_wp2
    go_ret2
    exact ⟨HR.out, HB.out⟩
  · have hk1' : 1 ≤ k := by omega
    by_cases hk2 : 5 < k
    · rw [if_neg (by omega)] at hR
      have HR : Hid (_ = r) := hR
      clear hR
      go_enter Tryd.func15, Tryd.ntmps15
      go_wp2
      go_ret2
      exact ⟨HR.out, HB.out⟩
    · have hk2' : k ≤ 5 := by omega
      rw [if_pos ⟨hk1', hk2'⟩] at hR
      by_cases hm : 4096 < 19 + bd.length
      · rw [if_pos hm] at hR
        have hm2 : (4096 : Int) < 19 + bd.length := by omega
        have HR : Hid (_ = r) := hR
        clear hR
        go_enter Tryd.func15, Tryd.ntmps15
        go_wp2
        go_ret2
        exact ⟨HR.out, HB.out⟩
      · rw [if_neg hm] at hR
        have hm2 : (19 : Int) + bd.length ≤ 4096 := by omega
        have KF : Hid (_ : Prop) := rfits_any k ((19 + bd.length : Nat) : Int) W hk1' hk2' (by omega)
        cases hf : fitI k ((19 + bd.length : Nat) : Int)
        · rw [hf] at KF
          rw [if_neg (by rw [hf]; decide)] at hR
          have HR : Hid (_ = r) := hR
          clear hR
          go_enter Tryd.func15, Tryd.ntmps15
          go_wp2_with fail
          refine Calls.mono KF.out ?_
          rintro e w1 ⟨rfl, hw1⟩
          obtain rfl : W = w1 := hw1.symm
          clear hw1
          go_wp2
          go_ret2
          exact ⟨HR.out, HB.out⟩
        · rw [hf] at KF
          rw [if_pos hf] at hR
          obtain ⟨kn, rfl⟩ := Int.eq_ofNat_of_zero_le (show 0 ≤ k by omega)
          have HR : Hid (_ = r) := hR
          rw [Int.toNat_natCast] at HR
          have hmk := mk16 W
          have HBm : Hid (Below w.heap.size w (W.alloc (.cells (mkC 0) 5))) := HB.out.alloc HB.out.size _
          have HRm : Hid ((W.alloc (.cells (mkC 0) 5)).heap[W.heap.size]? = some (.cells (mkC 0) 5 (0, 0))) := hp_new rfl
          have HCm : Hid ((W.alloc (.cells (mkC 0) 5)).heap[w.heap.size]? = some (.cells #[.int .i64 (kn : Int), .string ⟨bd.toArray⟩] 37 (0, 0))) := hp_up (by rw [← hW]; exact hp_new rfl)
          have hq2 : (W.alloc (.cells (mkC 0) 5)).heap.size = W.heap.size + 1 := by simp
          generalize W.alloc (.cells (mkC 0) 5) = V at *
          clear hR hf
          go_enter Tryd.func15, Tryd.ntmps15
          go_wp2_with fail
          refine Calls.mono KF.out ?_
          rintro e w1 ⟨rfl, hw1⟩
          obtain rfl : W = w1 := hw1.symm
          clear hw1
          go_wp2
          have HQ2 : Hid (V.heap.size = W.heap.size + 1) := hq2
          have HQ : Hid (w.heap.size < W.heap.size) := hq
          generalize hg : W.heap.size = g at *
          clear c0 c1 hmk hq2 hq hW hg
          go_loopw [6] (fun t wr => ∃ j : Nat, t = .int .i64 (j : Int) ∧ j ≤ 16 ∧ wr.heap[g]? = some (.cells (mkC j) 5 (0, 0)) ∧ Beside g g V wr) (fun t _ => 16 - (match t with | .int _ n => n.toNat | _ => 0))
          case atStart => exact ⟨0, rfl, by omega, HRm.out, Beside.refl V⟩
          case round =>
            obtain ⟨j, rfl, hj, hrow, hbs⟩ := hrel
            have HROW : Hid (wr.heap[g]? = some (.cells (mkC j) 5 (0, 0))) := hrow
            have HBS : Hid (Beside g g V wr) := hbs
            clear hrow hbs
            by_cases hj16 : j < 16
            · have hj2 : (j : Int) < 16 := by omega
              obtain ⟨v, hv⟩ := mkC_at j hj16
              have q0 : wr.cell? ⟨g, j, none⟩ = some v := cl_row HROW.out hv
              have f0 : wr.frozen? ⟨g, j, none⟩ = false := fz_row HROW.out
              have HNX : Hid ((wr.setCell ⟨g, j, none⟩ (.int .u8 255)).heap[g]? = some (.cells (mkC (j + 1)) 5 (0, 0))) := by
                have e := heap_setCell_same wr g j (mkC j) 5 (.int .u8 255) HROW.out
                rw [mkC_next j hj16] at e
                exact e
              clear hv
              go_wp2
              exact ⟨⟨j + 1, by simp, by omega, HNX.out, HBS.out.trans (Beside.setp wr j _)⟩, by simp only []; omega⟩
            · obtain rfl : j = 16 := by omega
              have HCr : Hid (wr.heap[w.heap.size]? = some (.cells #[.int .i64 (kn : Int), .string ⟨bd.toArray⟩] 37 (0, 0))) := (HBS.out.block _ (by have := HQ.out; have := HQ2.out; omega) (by have := HQ.out; omega) (by have := HQ.out; omega)).trans HCm.out
              have c0 : wr.cell? ⟨w.heap.size, 0, none⟩ = some (.int .i64 (kn : Int)) := cl_row HCr.out rfl
              have c1 : wr.cell? ⟨w.heap.size, 1, none⟩ = some (.string ⟨bd.toArray⟩) := cl_row HCr.out rfl
              have HC1 : Hid (∀ o, (wr.alloc o).cell? ⟨w.heap.size, 1, none⟩ = some (.string ⟨bd.toArray⟩)) := fun o => cl_row (hp_up HCr.out) rfl
              have hsz2 := HBS.out.size
              have HOW : Hid (wr.ownsRow g 5 1 (.slice (some ⟨g, 0, none⟩) 16 16) 16 (List.replicate 16 (Value.int .u8 255))) := ⟨rfl, Or.inr ⟨g, 16, mkC 16, rfl, Nat.le_refl _, HROW.out, Nat.le_refl _, by decide, rfl, rfl⟩⟩
              have HHC : Hid (_ = _) := head_cells kn (19 + bd.length) (by omega) (by omega) ((19 + (bd.length : Int)) / 256) ((19 + (bd.length : Int)) % 256) (kn : Int) (by omega) (by omega) rfl
              have HHL : Hid ((headI kn (19 + bd.length)).length = 19) := rfl
              have ha := app_bytes (headI kn (19 + bd.length)) bd
              have hh : (⟨(headI kn (19 + bd.length)).toArray⟩ : ByteArray).size = 19 := by rw [list_size]; rfl
              have HNW : Hid (∀ (j : Nat) (u : Value), ([.int .u8 ((19 + (bd.length : Int)) / 256), .int .u8 ((19 + (bd.length : Int)) % 256), .int .u8 (kn : Int)] : List Value)[j]? = some u → (wr.alloc (.cells #[.int .u8 ((19 + (bd.length : Int)) / 256), .int .u8 ((19 + (bd.length : Int)) % 256), .int .u8 (kn : Int)] 5)).cell? (Addr.add ⟨wr.heap.size, 0, none⟩ j) = some u) := news3 wr _ _ _ 5
              have HGW : Hid (g ≤ wr.heap.size) := by unfold Hid; have := HQ2.out; omega
              go_wp2_with (at_builtin; refine wpList_append_own _ rfl _ _ 43 rfl g 5 i0 (.int .u8 0) 1 1 Tryd.underlying43 hi hz0 hz1 hz2 rfl (by decide) (.slice (some ⟨g, 0, none⟩) 16 16) 16 (List.replicate 16 (Value.int .u8 255)) rfl (World.ownsRow.alloc HOW.out _) ⟨wr.heap.size, 0, none⟩ 3 3 [.int .u8 ((19 + (bd.length : Int)) / 256), .int .u8 ((19 + (bd.length : Int)) % 256), .int .u8 (kn : Int)] rfl rfl HNW.out (one3 _ _ _) (by unfold maxLen; omega) (by omega) (Nat.le_trans HGW.out (by simp)) ?_; intro v7 w7 hown7 hgrow7 _; obtain ⟨ad7, c7, rfl⟩ := slice_of_owns hown7; have hown8 : w7.ownsRow g 5 1 (.slice ad7 19 c7) (headI kn (19 + bd.length)).length ((headI kn (19 + bd.length)).map fun x => Value.int .u8 (x.toNat : Int)) := (by rw [← HHC.out]; exact hown7); have hcv := own_conv hown8 rfl (by rw [HHL.out]; decide); have q1 := hgrow7.cell (a := ⟨w.heap.size, 1, none⟩) (HC1.out _) (by intro h; have h9 := HQ.out; have h8 : w.heap.size = g := (by simpa [Value.ownBlock] using h); omega); have HG7 : Hid (_ : Prop) := hgrow7; clear hown7 hgrow7 hown8)
              have hbw : Below g wr w7 := ((Below.refl _ _).alloc HGW.out _).grown HG7.out (Nat.le_trans HGW.out (by simp)) (fun k e => (owns_lt HOW.out k e).1)
              go_ret2
              refine ⟨HR.out, ?_⟩
              have h1 : Below w.heap.size w wr := HBm.out.trans (HBS.out.below (by have := HQ.out; omega) (by have := HQ.out; omega) (by have := HBm.out.size; exact this))
              exact h1.trans (hbw.mono (by have := HQ.out; omega))
end Go.Proofs.YtlinoklgchfedaaDoor
