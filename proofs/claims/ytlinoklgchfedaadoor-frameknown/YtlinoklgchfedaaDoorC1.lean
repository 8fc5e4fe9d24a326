/-
  What is wrong with a header, as the reference tells it.
-/
import Derived.Test.YtlinoklgchfedaaDoorB2
import Derived.Deep.RegionHeld3
namespace Go.Proofs.YtlinoklgchfedaaDoor
open Go.RowKit
theorem get_at (s : ByteArray) (i : Nat) (h : i < s.size) : s.data.toList.getD i 0 = s[i] := by
  rw [List.getD_eq_getElem?_getD, List.getElem?_eq_getElem (by simpa using h)]; rfl
theorem all_mark (l : List UInt8) (h : 16 ≤ l.length) (ha : ∀ j, j < 16 → l.getD j 0 = 255) : l.take 16 = mark := by
  apply List.ext_getElem
  · rw [List.length_take]; simp [mark]; omega
  · intro i h1 h2
    have hi : i < 16 := by rw [List.length_take] at h1; omega
    have e := ha i hi
    rw [List.getD_eq_getElem?_getD, List.getElem?_eq_getElem (by omega)] at e
    rw [List.getElem_take]
    have m : mark[i] = 255 := by
      have : ∀ j : Fin 16, mark.getD j.val 0 = 255 := by decide
      have k := this ⟨i, hi⟩
      rw [List.getD_eq_getElem?_getD, List.getElem?_eq_getElem h2] at k
      exact k
    exact e.trans m.symm
theorem not_mark (l : List UInt8) (k : Nat) (hk : k < 16) (ha : l.getD k 0 ≠ 255) : l.take 16 ≠ mark := by
  intro e
  apply ha
  have : (l.take 16).getD k 0 = l.getD k 0 := by
    rw [List.getD_eq_getElem?_getD, List.getD_eq_getElem?_getD, List.getElem?_take, if_pos hk]
  rw [← this, e]
  have : ∀ j : Fin 16, mark.getD j.val 0 = 255 := by decide
  exact this ⟨k, hk⟩
/-- The walk's numbers of a header. -/
structure Parts (s : ByteArray) (h : 19 ≤ s.size) (x y z : Nat) (m n : Int) : Prop where
  hx : s[16].toNat = x
  hy : s[17].toNat = y
  hz : s[18].toNat = z
  hm : (x : Int) * 256 = m
  hn : m + (y : Int) = n
  e1 : wrap64 (x : Int) = (x : Int)
  e2 : wrap64 (y : Int) = (y : Int)
  e3 : wrap64 (z : Int) = (z : Int)
  e4 : wrap64 m = m
  e5 : wrap64 n = n
  f1 : IntKind.i64.wrap (x : Int) = (x : Int)
  f2 : IntKind.i64.wrap (y : Int) = (y : Int)
  f3 : IntKind.i64.wrap (z : Int) = (z : Int)
  f4 : IntKind.i64.wrap m = m
  f5 : IntKind.i64.wrap n = n
  b6 : (z : Int) < 256
  len : (lenI s.data.toList : Int) = n
  kind : kindI s.data.toList = z
theorem parts (s : ByteArray) (h : 19 ≤ s.size) : ∃ x y z m n, Parts s h x y z m n := by
  have b1 := s[16].toNat_lt
  have b2 := s[17].toNat_lt
  have b3 := s[18].toNat_lt
  refine ⟨s[16].toNat, s[17].toNat, s[18].toNat, _, _, rfl, rfl, rfl, rfl, rfl, ?_, ?_, ?_, ?_, ?_, ?_, ?_, ?_, ?_, ?_, ?_, ?_, ?_⟩
  · unfold wrap64; omega
  · unfold wrap64; omega
  · unfold wrap64; omega
  · unfold wrap64; omega
  · unfold wrap64; omega
  · rw [IntKind.wrap_i64]; omega
  · rw [IntKind.wrap_i64]; omega
  · rw [IntKind.wrap_i64]; omega
  · rw [IntKind.wrap_i64]; omega
  · rw [IntKind.wrap_i64]; omega
  · omega
  · unfold lenI; rw [get_at s 16 (by omega), get_at s 17 (by omega)]; omega
  · unfold kindI; rw [get_at s 18 (by omega)]
theorem wrong_form {l : List UInt8} {z : Nat} {n : Int} (hm : l.take 16 = mark) (hl : (lenI l : Int) = n) (hk : kindI l = z) : wrongI l = if n < 19 ∨ 4096 < n then 2 else if z < 1 ∨ 5 < z then 3 else if fitI z n = true then 0 else 2 := by
  unfold wrongI
  rw [if_pos hm, hk, hl]
  have : (lenI l < 19 ∨ 4096 < lenI l) ↔ (n < 19 ∨ 4096 < n) := by omega
  simp only [this]
set_option maxRecDepth 100000 in
set_option maxHeartbeats 1600000 in
theorem rwrong_any (s : ByteArray) (w : World) (hs : s.size = 19) :
    Calls Tryd.prog 24 #[.string s] w fun e w' => e = .returned (verV (wrongI s.data.toList)) ∧ Below w.heap.size w w' := by
  obtain ⟨X, hX⟩ : ∃ X, X = wrongI s.data.toList := ⟨_, rfl⟩
  have HX : Hid (_ = _) := hX
  rw [← hX]
  clear hX
  have HB : Hid (Below w.heap.size w (w.alloc (.cells #[.int .i64 0, .int .u8 0, .int .u8 0] 27))) := (Below.refl _ _).alloc (Nat.le_refl _) _
  have r0 : (w.alloc (.cells #[.int .i64 0, .int .u8 0, .int .u8 0] 27)).heap[w.heap.size]? = some (.cells #[.int .i64 0, .int .u8 0, .int .u8 0] 27 (0, 0)) := hp_new rfl
  have HR : Hid ((w.alloc (.cells #[.int .i64 0, .int .u8 0, .int .u8 0] 27)).heap[w.heap.size]? = some (.cells #[.int .i64 0, .int .u8 0, .int .u8 0] 27 (0, 0))) := r0
  have HL : Hid (16 ≤ s.data.toList.length) := by
    have e : s.data.toList.length = s.size := by simp
    unfold Hid
    omega
  clear r0
  go_enter Tryd.func24, Tryd.ntmps24
  go_wp2
  generalize w.alloc (.cells #[.int .i64 0, .int .u8 0, .int .u8 0] 27) = W at *
  go_loopw [3] (fun t wr => ∃ k : Nat, t = .int .i64 (k : Int) ∧ k ≤ 16 ∧ (∀ j, j < k → s.data.toList.getD j 0 = 255) ∧ W = wr) (fun t _ => 16 - (match t with | .int _ n => n.toNat | _ => 0))
  case atStart => exact ⟨0, rfl, by omega, fun j hj => absurd hj (by omega), rfl⟩
  case round =>
    obtain ⟨k, rfl, hk, hall, rfl⟩ := hrel
    have HA : Hid (∀ j, j < k → s.data.toList.getD j 0 = 255) := hall
    clear hall
    by_cases h16 : k < 16
    · have h1 : (k : Int) < 16 := by omega
      have h2 : (k : Int) < s.size := by omega
      have h3 : k < s.size := by omega
      have he := get_at s k h3
      by_cases hv : s[k] = 255
      · have hv2 : ((s[k].toNat : Int) != 255) = false := by rw [hv]; rfl
        have HA2 : Hid (∀ j, j < k + 1 → s.data.toList.getD j 0 = 255) := fun j hj => by
          by_cases z : j = k
          · subst z; rw [he, hv]
          · exact HA.out j (by omega)
        clear hv he
        go_wp2
        exact ⟨⟨k + 1, by simp, by omega, HA2.out, trivial⟩, by simp only []; omega⟩
      · have hv2 : ((s[k].toNat : Int) != 255) = true := by
          rw [bne_iff_ne]; intro z; apply hv; apply UInt8.toNat_inj.1; show s[k].toNat = 255; omega
        have HXN : Hid (X = 1) := by
          unfold Hid; rw [HX.out]; unfold wrongI; rw [if_neg (not_mark _ k h16 (by rw [he]; exact hv))]
        clear hv he
        go_wp2_with fail
        refine (rreset_any 1 1 W).mono ?_
        rintro e w5 ⟨rfl, hb5⟩
        have HB5 : Hid (Below w.heap.size w w5) := HB.out.trans (hb5.mono HB.out.size)
        have HR5 : Hid (w5.heap[w.heap.size]? = some (.cells #[.int .i64 0, .int .u8 0, .int .u8 0] 27 (0, 0))) := (hb5.block _ (Array.getElem?_eq_some_iff.mp HR.out).1).trans HR.out
        clear hb5
        have q0 : w5.cell? ⟨w.heap.size, 0, none⟩ = some (.int .i64 0) := cl_row HR5.out rfl
        have q1 : w5.cell? ⟨w.heap.size, 1, none⟩ = some (.int .u8 0) := cl_row HR5.out rfl
        have q2 : w5.cell? ⟨w.heap.size, 2, none⟩ = some (.int .u8 0) := cl_row HR5.out rfl
        have f0 : w5.frozen? ⟨w.heap.size, 0, none⟩ = false := fz_row HR5.out
        have f1 : w5.frozen? ⟨w.heap.size, 1, none⟩ = false := fz_row HR5.out
        have f2 : w5.frozen? ⟨w.heap.size, 2, none⟩ = false := fz_row HR5.out
        go_wp2
        rw [HXN.out]
        refine bodyPost_ret (v := verV 1) (by simp [results, Tryd.results24, go_sem, verV, vaI, vcI, q0, q1, q2]) rfl ⟨rfl, ?_⟩
        exact ((HB5.out.setCell (p := ⟨w.heap.size, 0, none⟩) (Nat.le_refl _) _).setCell (p := ⟨w.heap.size, 1, none⟩) (Nat.le_refl _) _).setCell (p := ⟨w.heap.size, 2, none⟩) (Nat.le_refl _) _
    · obtain rfl : k = 16 := by omega
      have hm := all_mark _ HL.out HA.out
      have i16 : (16 : Int) < s.size := by omega
      have i17 : (17 : Int) < s.size := by omega
      have i18 : (18 : Int) < s.size := by omega
      have j16 : 16 < s.size := by omega
      have j17 : 17 < s.size := by omega
      have j18 : 18 < s.size := by omega
      obtain ⟨x, y, z, m, n, hx, hy, hz, hm2, hn, e1, e2, e3, e4, e5, f1, f2, f3, f4, f5, b6, hln, hkd⟩ := parts s (by omega)
      have HWY : Hid (X = _) := HX.out.trans (wrong_form hm hln hkd)
      clear hm hln hkd HA h16 hk
      go_wp2
      go_quiet (fail)
      have HBV : Hid (Below w.heap.size w (W.drewN nq)) := below_drewN HB.out nq
      have HRV : Hid ((W.drewN nq).heap[w.heap.size]? = some (.cells #[.int .i64 0, .int .u8 0, .int .u8 0] 27 (0, 0))) := HR.out
      generalize W.drewN nq = V at *
      clear HB HR e1 e2 e3 e4 e5 f1 f2 f3 f4 f5 hx hy hz hm2 hn
      by_cases n1 : n < 19
      · have HXN : Hid (X = 2) := by unfold Hid; rw [HWY.out, if_pos (Or.inl n1)]
        clear HWY
        go_wp2_with fail
        refine (rreset_any 1 2 V).mono ?_
        rintro e w5 ⟨rfl, hb5⟩
        have HB5 : Hid (Below w.heap.size w w5) := HBV.out.trans (hb5.mono HBV.out.size)
        have HR5 : Hid (w5.heap[w.heap.size]? = some (.cells #[.int .i64 0, .int .u8 0, .int .u8 0] 27 (0, 0))) := (hb5.block _ (Array.getElem?_eq_some_iff.mp HRV.out).1).trans HRV.out
        clear hb5
        have q0 : w5.cell? ⟨w.heap.size, 0, none⟩ = some (.int .i64 0) := cl_row HR5.out rfl
        have q1 : w5.cell? ⟨w.heap.size, 1, none⟩ = some (.int .u8 0) := cl_row HR5.out rfl
        have q2 : w5.cell? ⟨w.heap.size, 2, none⟩ = some (.int .u8 0) := cl_row HR5.out rfl
        have f0 : w5.frozen? ⟨w.heap.size, 0, none⟩ = false := fz_row HR5.out
        have f1 : w5.frozen? ⟨w.heap.size, 1, none⟩ = false := fz_row HR5.out
        have f2 : w5.frozen? ⟨w.heap.size, 2, none⟩ = false := fz_row HR5.out
        go_wp2
        rw [HXN.out]
        refine bodyPost_ret (v := verV 2) (by simp [results, Tryd.results24, go_sem, verV, vaI, vcI, q0, q1, q2]) rfl ⟨rfl, ?_⟩
        exact ((HB5.out.setCell (p := ⟨w.heap.size, 0, none⟩) (Nat.le_refl _) _).setCell (p := ⟨w.heap.size, 1, none⟩) (Nat.le_refl _) _).setCell (p := ⟨w.heap.size, 2, none⟩) (Nat.le_refl _) _
      · by_cases n2 : 4096 < n
        · have HXN : Hid (X = 2) := by unfold Hid; rw [HWY.out, if_pos (Or.inr n2)]
          have n1' : 19 ≤ n := by omega
          clear HWY
          go_wp2_with fail
          refine (rreset_any 1 2 V).mono ?_
          rintro e w5 ⟨rfl, hb5⟩
          have HB5 : Hid (Below w.heap.size w w5) := HBV.out.trans (hb5.mono HBV.out.size)
          have HR5 : Hid (w5.heap[w.heap.size]? = some (.cells #[.int .i64 0, .int .u8 0, .int .u8 0] 27 (0, 0))) := (hb5.block _ (Array.getElem?_eq_some_iff.mp HRV.out).1).trans HRV.out
          clear hb5
          have q0 : w5.cell? ⟨w.heap.size, 0, none⟩ = some (.int .i64 0) := cl_row HR5.out rfl
          have q1 : w5.cell? ⟨w.heap.size, 1, none⟩ = some (.int .u8 0) := cl_row HR5.out rfl
          have q2 : w5.cell? ⟨w.heap.size, 2, none⟩ = some (.int .u8 0) := cl_row HR5.out rfl
          have f0 : w5.frozen? ⟨w.heap.size, 0, none⟩ = false := fz_row HR5.out
          have f1 : w5.frozen? ⟨w.heap.size, 1, none⟩ = false := fz_row HR5.out
          have f2 : w5.frozen? ⟨w.heap.size, 2, none⟩ = false := fz_row HR5.out
          go_wp2
          rw [HXN.out]
          refine bodyPost_ret (v := verV 2) (by simp [results, Tryd.results24, go_sem, verV, vaI, vcI, q0, q1, q2]) rfl ⟨rfl, ?_⟩
          exact ((HB5.out.setCell (p := ⟨w.heap.size, 0, none⟩) (Nat.le_refl _) _).setCell (p := ⟨w.heap.size, 1, none⟩) (Nat.le_refl _) _).setCell (p := ⟨w.heap.size, 2, none⟩) (Nat.le_refl _) _
        · have n1' : 19 ≤ n := by omega
          have n2' : n ≤ 4096 := by omega
          by_cases k1 : z < 1
          · have HXN : Hid (X = 3) := by unfold Hid; rw [HWY.out, if_neg (by omega), if_pos (Or.inl k1)]
            have k1' : (z : Int) < 1 := by omega
            clear HWY
            go_wp2_with fail
            refine (rreset_any 1 3 V).mono ?_
            rintro e w5 ⟨rfl, hb5⟩
            have HB5 : Hid (Below w.heap.size w w5) := HBV.out.trans (hb5.mono HBV.out.size)
            have HR5 : Hid (w5.heap[w.heap.size]? = some (.cells #[.int .i64 0, .int .u8 0, .int .u8 0] 27 (0, 0))) := (hb5.block _ (Array.getElem?_eq_some_iff.mp HRV.out).1).trans HRV.out
            clear hb5
            have q0 : w5.cell? ⟨w.heap.size, 0, none⟩ = some (.int .i64 0) := cl_row HR5.out rfl
            have q1 : w5.cell? ⟨w.heap.size, 1, none⟩ = some (.int .u8 0) := cl_row HR5.out rfl
            have q2 : w5.cell? ⟨w.heap.size, 2, none⟩ = some (.int .u8 0) := cl_row HR5.out rfl
            have f0 : w5.frozen? ⟨w.heap.size, 0, none⟩ = false := fz_row HR5.out
            have f1 : w5.frozen? ⟨w.heap.size, 1, none⟩ = false := fz_row HR5.out
            have f2 : w5.frozen? ⟨w.heap.size, 2, none⟩ = false := fz_row HR5.out
            go_wp2
            rw [HXN.out]
            refine bodyPost_ret (v := verV 3) (by simp [results, Tryd.results24, go_sem, verV, vaI, vcI, q0, q1, q2]) rfl ⟨rfl, ?_⟩
            exact ((HB5.out.setCell (p := ⟨w.heap.size, 0, none⟩) (Nat.le_refl _) _).setCell (p := ⟨w.heap.size, 1, none⟩) (Nat.le_refl _) _).setCell (p := ⟨w.heap.size, 2, none⟩) (Nat.le_refl _) _
          · have k1' : (1 : Int) ≤ z := by omega
            by_cases k2 : 5 < z
            · have HXN : Hid (X = 3) := by unfold Hid; rw [HWY.out, if_neg (by omega), if_pos (Or.inr k2)]
              have k2' : (5 : Int) < z := by omega
              clear HWY
              go_wp2_with fail
              refine (rreset_any 1 3 V).mono ?_
              rintro e w5 ⟨rfl, hb5⟩
              have HB5 : Hid (Below w.heap.size w w5) := HBV.out.trans (hb5.mono HBV.out.size)
              have HR5 : Hid (w5.heap[w.heap.size]? = some (.cells #[.int .i64 0, .int .u8 0, .int .u8 0] 27 (0, 0))) := (hb5.block _ (Array.getElem?_eq_some_iff.mp HRV.out).1).trans HRV.out
              clear hb5
              have q0 : w5.cell? ⟨w.heap.size, 0, none⟩ = some (.int .i64 0) := cl_row HR5.out rfl
              have q1 : w5.cell? ⟨w.heap.size, 1, none⟩ = some (.int .u8 0) := cl_row HR5.out rfl
              have q2 : w5.cell? ⟨w.heap.size, 2, none⟩ = some (.int .u8 0) := cl_row HR5.out rfl
              have f0 : w5.frozen? ⟨w.heap.size, 0, none⟩ = false := fz_row HR5.out
              have f1 : w5.frozen? ⟨w.heap.size, 1, none⟩ = false := fz_row HR5.out
              have f2 : w5.frozen? ⟨w.heap.size, 2, none⟩ = false := fz_row HR5.out
              go_wp2
              rw [HXN.out]
              refine bodyPost_ret (v := verV 3) (by simp [results, Tryd.results24, go_sem, verV, vaI, vcI, q0, q1, q2]) rfl ⟨rfl, ?_⟩
              exact ((HB5.out.setCell (p := ⟨w.heap.size, 0, none⟩) (Nat.le_refl _) _).setCell (p := ⟨w.heap.size, 1, none⟩) (Nat.le_refl _) _).setCell (p := ⟨w.heap.size, 2, none⟩) (Nat.le_refl _) _
            · have k2' : (z : Int) ≤ 5 := by omega
              have KF : Hid (_ : Prop) := rfits_any (z : Int) (n) V k1' k2' n2'
              cases hf : fitI z (n)
              · rw [hf] at KF
                have HXN : Hid (X = 2) := by unfold Hid; rw [HWY.out, if_neg (by omega), if_neg (by omega), if_neg (by rw [hf]; decide)]
                clear HWY
                go_wp2_with fail
                refine Calls.mono KF.out ?_
                rintro e w6 ⟨rfl, hw6⟩
                obtain rfl : V = w6 := hw6.symm
                clear hw6
                go_wp2_with fail
                refine (rreset_any 1 2 V).mono ?_
                rintro e w5 ⟨rfl, hb5⟩
                have HB5 : Hid (Below w.heap.size w w5) := HBV.out.trans (hb5.mono HBV.out.size)
                have HR5 : Hid (w5.heap[w.heap.size]? = some (.cells #[.int .i64 0, .int .u8 0, .int .u8 0] 27 (0, 0))) := (hb5.block _ (Array.getElem?_eq_some_iff.mp HRV.out).1).trans HRV.out
                clear hb5
                have q0 : w5.cell? ⟨w.heap.size, 0, none⟩ = some (.int .i64 0) := cl_row HR5.out rfl
                have q1 : w5.cell? ⟨w.heap.size, 1, none⟩ = some (.int .u8 0) := cl_row HR5.out rfl
                have q2 : w5.cell? ⟨w.heap.size, 2, none⟩ = some (.int .u8 0) := cl_row HR5.out rfl
                have f0 : w5.frozen? ⟨w.heap.size, 0, none⟩ = false := fz_row HR5.out
                have f1 : w5.frozen? ⟨w.heap.size, 1, none⟩ = false := fz_row HR5.out
                have f2 : w5.frozen? ⟨w.heap.size, 2, none⟩ = false := fz_row HR5.out
                go_wp2
                rw [HXN.out]
                refine bodyPost_ret (v := verV 2) (by simp [results, Tryd.results24, go_sem, verV, vaI, vcI, q0, q1, q2]) rfl ⟨rfl, ?_⟩
                exact ((HB5.out.setCell (p := ⟨w.heap.size, 0, none⟩) (Nat.le_refl _) _).setCell (p := ⟨w.heap.size, 1, none⟩) (Nat.le_refl _) _).setCell (p := ⟨w.heap.size, 2, none⟩) (Nat.le_refl _) _
              · rw [hf] at KF
                have HXN : Hid (X = 0) := by unfold Hid; rw [HWY.out, if_neg (by omega), if_neg (by omega), if_pos hf]
                clear HWY
                go_wp2_with fail
                refine Calls.mono KF.out ?_
                rintro e w6 ⟨rfl, hw6⟩
                obtain rfl : V = w6 := hw6.symm
                clear hw6
                have q0 : V.cell? ⟨w.heap.size, 0, none⟩ = some (.int .i64 0) := cl_row HRV.out rfl
                have q1 : V.cell? ⟨w.heap.size, 1, none⟩ = some (.int .u8 0) := cl_row HRV.out rfl
                have q2 : V.cell? ⟨w.heap.size, 2, none⟩ = some (.int .u8 0) := cl_row HRV.out rfl
                have f0 : V.frozen? ⟨w.heap.size, 0, none⟩ = false := fz_row HRV.out
                have f1 : V.frozen? ⟨w.heap.size, 1, none⟩ = false := fz_row HRV.out
                have f2 : V.frozen? ⟨w.heap.size, 2, none⟩ = false := fz_row HRV.out
                go_wp2
                rw [HXN.out]
                refine bodyPost_ret (v := verV 0) (by simp [results, Tryd.results24, go_sem, verV, vaI, vcI, q0, q1, q2]) rfl ⟨rfl, ?_⟩
                exact ((HBV.out.setCell (p := ⟨w.heap.size, 0, none⟩) (Nat.le_refl _) _).setCell (p := ⟨w.heap.size, 1, none⟩) (Nat.le_refl _) _).setCell (p := ⟨w.heap.size, 2, none⟩) (Nat.le_refl _) _
end Go.Proofs.YtlinoklgchfedaaDoor
