/-
  Decode.
-/
import Derived.Test.YtfhapjhkjdifjaaGreatDoorM7
import Derived.BigRegion
set_option linter.unusedVariables false
set_option linter.unusedSimpArgs false
namespace Go.Proofs.YtfhapjhkjdifjaaGreatDoor
open Go.RowKit
/-- What is left behind the capabilities' verdict, stored. -/
theorem setV_facts {w W2 W3 W4 w5 : World} {C V0 : Array Value} {R1 R2 : Array Value} (h3 : Below w.heap.size w W3) (h4 : Below W3.heap.size W3 W4) (hf : Fr w.heap.size W2.heap.size W4 w5) (hv : w5.heap[W2.heap.size + 1]? = some (.cells V0 37 (0, 0)))
    (u1 : W3.heap[w.heap.size]? = some (.cells R1 50 (0, 0))) (u2 : W3.heap[w.heap.size + 1]? = some (.cells R2 37 (0, 0))) (q1 : w.heap.size ≠ W2.heap.size) (q2 : w.heap.size + 1 ≠ W2.heap.size) (q3 : w.heap.size + 1 < W2.heap.size) :
    Below w.heap.size w (w5.setRow (W2.heap.size + 1) C) ∧ (w5.setRow (W2.heap.size + 1) C).heap[w.heap.size]? = some (.cells R1 50 (0, 0)) ∧ (w5.setRow (W2.heap.size + 1) C).heap[w.heap.size + 1]? = some (.cells R2 37 (0, 0)) ∧ (w5.setRow (W2.heap.size + 1) C).heap[W2.heap.size + 1]? = some (.cells C 37 (0, 0)) := by
  have b4 : Below w.heap.size w W4 := h3.trans (h4.mono h3.size)
  have b5 : Below w.heap.size w w5 := b4.trans (hf.below (by omega) b4.size)
  have k1 := hf.keep ((h4.block _ (lt_of_heap u1)).trans u1) q1 (by decide)
  have k2 := hf.keep ((h4.block _ (lt_of_heap u2)).trans u2) q2 (by decide)
  exact ⟨below_setRow b5 (by omega) _, (row_other w5 _ _ _ (by omega)).trans k1, (row_other w5 _ _ _ (by omega)).trans k2, row_same w5 _ _ _ hv⟩
set_option maxHeartbeats 6400000 in
set_option maxRecDepth 100000 in
theorem decode_caps (l : List UInt8) (m2 m3 m4 : Nat) (w : World) (hg : FamSizes w) (hl : 10 ≤ l.length) (hh : headI l = .ok { zO with asn := (m2 : Int), hold := (m3 : Int), id := (m4 : Int) }) (n : Nat) (hr : runL (stepO stepC) (l.drop 10) { zO with asn := (m2 : Int), hold := (m3 : Int), id := (m4 : Int) } = .error n) : Calls Tryz.prog 12 #[.string ⟨l.toArray⟩] w fun e w' => e = .returned (.tuple #[opV zO nilS nilS nilS, vdt 3 2 (n : Int)]) ∧ Below w.heap.size w w' := by
  have hb1 : Below w.heap.size w ((w.alloc (.cells #[.int .u32 0, .int .i64 0, .int .u32 0, .slice none 0 0, .bool false, .bool false, .slice none 0 0, .bool false, .bool false, .int .i64 0, .slice none 0 0] 50)).alloc (.cells #[.int .i64 0, .int .u8 0, .int .u8 0] 37)) := ((Below.refl _ _).alloc (Nat.le_refl _) _).alloc (by simp) _
  have hz1 : ((w.alloc (.cells #[.int .u32 0, .int .i64 0, .int .u32 0, .slice none 0 0, .bool false, .bool false, .slice none 0 0, .bool false, .bool false, .int .i64 0, .slice none 0 0] 50)).alloc (.cells #[.int .i64 0, .int .u8 0, .int .u8 0] 37)).heap[w.heap.size]? = some (.cells #[.int .u32 0, .int .i64 0, .int .u32 0, .slice none 0 0, .bool false, .bool false, .slice none 0 0, .bool false, .bool false, .int .i64 0, .slice none 0 0] 50 (0, 0)) := hp_up (hp_new rfl)
  have hz2 : ((w.alloc (.cells #[.int .u32 0, .int .i64 0, .int .u32 0, .slice none 0 0, .bool false, .bool false, .slice none 0 0, .bool false, .bool false, .int .i64 0, .slice none 0 0] 50)).alloc (.cells #[.int .i64 0, .int .u8 0, .int .u8 0] 37)).heap[w.heap.size + 1]? = some (.cells #[.int .i64 0, .int .u8 0, .int .u8 0] 37 (0, 0)) := hp_new (by simp)
  have HB1 : Hid (Below _ _ _) := hb1
  have HZ1 : Hid (_ = _) := hz1
  have HZ2 : Hid (_ = _) := hz2
  have KH : Hid (∀ X, Calls Tryz.prog 30 #[.string ⟨l.toArray⟩] X fun e w' => e = .returned (.tuple #[opV { zO with asn := (m2 : Int), hold := (m3 : Int), id := (m4 : Int) } nilS nilS nilS, vdt 0 0 0]) ∧ Below X.heap.size X w') := fun X => by have := takeHead_any l X; rw [hh] at this; exact this
  have HG : Hid (FamSizes w) := hg
  have HRUN : Hid (_ = _) := hr
  have hsl : (⟨l.toArray⟩ : ByteArray).extract 10 (⟨l.toArray⟩ : ByteArray).size = ⟨(l.drop 10).toArray⟩ := ext_l l 10
  have hsl2 : (⟨l.toArray⟩ : ByteArray).extract 10 l.length = ⟨(l.drop 10).toArray⟩ := ext_l l 10
  have s1 : (10 : Int) ≤ (l.length : Int) := by omega
  have s2 : (10 : Int) ≤ ((⟨l.toArray⟩ : ByteArray).size : Int) := by rw [list_size]; omega
  have s3 : 10 ≤ (⟨l.toArray⟩ : ByteArray).size := by rw [list_size]; omega
  clear hb1 hz1 hz2 hh hg hr
  unfold opV opC zO nilS vdt at KH
  unfold opV opC zO nilS vdt
  dsimp only at KH ⊢
  go_enter Tryz.func12, Tryz.ntmps12
  go_wp2_with fail
  generalize ((w.alloc (.cells #[.int .u32 0, .int .i64 0, .int .u32 0, .slice none 0 0, .bool false, .bool false, .slice none 0 0, .bool false, .bool false, .int .i64 0, .slice none 0 0] 50)).alloc (.cells #[.int .i64 0, .int .u8 0, .int .u8 0] 37)) = W1 at *
  refine Calls.mono (KH.out W1) ?_
  rintro e W2 ⟨rfl, hb2⟩
  have HB2 : Hid (Below w.heap.size w W2) := HB1.out.trans (hb2.mono HB1.out.size)
  have HY1 : Hid (W2.heap[w.heap.size]? = _) := (hb2.block _ (lt_of_heap HZ1.out)).trans HZ1.out
  have HY2 : Hid (W2.heap[w.heap.size + 1]? = _) := (hb2.block _ (lt_of_heap HZ2.out)).trans HZ2.out
  clear hb2 HB1 HZ1 HZ2
  have hlt : w.heap.size + 1 < W2.heap.size := lt_of_heap HY2.out
  have hlt0 : w.heap.size < W2.heap.size := by omega
  have hb3 : Below W2.heap.size W2 ((W2.alloc (.cells #[.int .u32 (m2 : Int), .int .i64 (m3 : Int), .int .u32 (m4 : Int), .slice none 0 0, .bool false, .bool false, .slice none 0 0, .bool false, .bool false, .int .i64 0, .slice none 0 0] 50)).alloc (.cells #[.int .i64 0, .int .u8 0, .int .u8 0] 37)) := ((Below.refl _ _).alloc (Nat.le_refl _) _).alloc (by simp) _
  have hp3 : ((W2.alloc (.cells #[.int .u32 (m2 : Int), .int .i64 (m3 : Int), .int .u32 (m4 : Int), .slice none 0 0, .bool false, .bool false, .slice none 0 0, .bool false, .bool false, .int .i64 0, .slice none 0 0] 50)).alloc (.cells #[.int .i64 0, .int .u8 0, .int .u8 0] 37)).heap[W2.heap.size]? = some (.cells (opC { zO with asn := (m2 : Int), hold := (m3 : Int), id := (m4 : Int) } nilS nilS nilS) 50 (0, 0)) := hp_up (hp_new rfl)
  have hv3 : ((W2.alloc (.cells #[.int .u32 (m2 : Int), .int .i64 (m3 : Int), .int .u32 (m4 : Int), .slice none 0 0, .bool false, .bool false, .slice none 0 0, .bool false, .bool false, .int .i64 0, .slice none 0 0] 50)).alloc (.cells #[.int .i64 0, .int .u8 0, .int .u8 0] 37)).heap[W2.heap.size + 1]? = some (.cells #[.int .i64 0, .int .u8 0, .int .u8 0] 37 (0, 0)) := hp_new (by simp)
  have hs3 : ((W2.alloc (.cells #[.int .u32 (m2 : Int), .int .i64 (m3 : Int), .int .u32 (m4 : Int), .slice none 0 0, .bool false, .bool false, .slice none 0 0, .bool false, .bool false, .int .i64 0, .slice none 0 0] 50)).alloc (.cells #[.int .i64 0, .int .u8 0, .int .u8 0] 37)).heap.size = W2.heap.size + 2 := by simp
  have HO3 : Hid (OAt w.heap.size ((W2.alloc (.cells #[.int .u32 (m2 : Int), .int .i64 (m3 : Int), .int .u32 (m4 : Int), .slice none 0 0, .bool false, .bool false, .slice none 0 0, .bool false, .bool false, .int .i64 0, .slice none 0 0] 50)).alloc (.cells #[.int .i64 0, .int .u8 0, .int .u8 0] 37)) W2.heap.size { zO with asn := (m2 : Int), hold := (m3 : Int), id := (m4 : Int) }) := ⟨nilS, nilS, nilS, hp3, World.ownsRow_nil _ _ _ _, World.ownsRow_nil _ _ _ _, World.ownsRow_nil _ _ _ _, ⟨rfl, rfl, rfl⟩⟩
  have HV3 : Hid (_ = _) := hv3
  have HS3 : Hid (_ = _) := hs3
  have HB3 : Hid (Below w.heap.size w ((W2.alloc (.cells #[.int .u32 (m2 : Int), .int .i64 (m3 : Int), .int .u32 (m4 : Int), .slice none 0 0, .bool false, .bool false, .slice none 0 0, .bool false, .bool false, .int .i64 0, .slice none 0 0] 50)).alloc (.cells #[.int .i64 0, .int .u8 0, .int .u8 0] 37))) := HB2.out.trans (hb3.mono HB2.out.size)
  have HU1 : Hid (((W2.alloc (.cells #[.int .u32 (m2 : Int), .int .i64 (m3 : Int), .int .u32 (m4 : Int), .slice none 0 0, .bool false, .bool false, .slice none 0 0, .bool false, .bool false, .int .i64 0, .slice none 0 0] 50)).alloc (.cells #[.int .i64 0, .int .u8 0, .int .u8 0] 37)).heap[w.heap.size]? = _) := (hb3.block _ (lt_of_heap HY1.out)).trans HY1.out
  have HU2 : Hid (((W2.alloc (.cells #[.int .u32 (m2 : Int), .int .i64 (m3 : Int), .int .u32 (m4 : Int), .slice none 0 0, .bool false, .bool false, .slice none 0 0, .bool false, .bool false, .int .i64 0, .slice none 0 0] 50)).alloc (.cells #[.int .i64 0, .int .u8 0, .int .u8 0] 37)).heap[w.heap.size + 1]? = _) := (hb3.block _ (lt_of_heap HY2.out)).trans HY2.out
  have HQ : Hid (w.heap.size + 1 < W2.heap.size) := hlt
  clear hb3 hp3 hv3 hs3
  go_wp2
  clear HY1 HY2 HB2
  generalize ((W2.alloc (.cells #[.int .u32 (m2 : Int), .int .i64 (m3 : Int), .int .u32 (m4 : Int), .slice none 0 0, .bool false, .bool false, .slice none 0 0, .bool false, .bool false, .int .i64 0, .slice none 0 0] 50)).alloc (.cells #[.int .i64 0, .int .u8 0, .int .u8 0] 37)) = W3 at *
  have KT : Hid (Calls Tryz.prog 32 #[.pointer (some ⟨W2.heap.size, 0, none⟩)] W3.drew fun e w' => e = .returned (.func (.func 54) #[] #[.pointer (some ⟨W3.heap.size, 0, none⟩)]) ∧ w' = W3.drew.alloc (.cells #[.pointer (some ⟨W2.heap.size, 0, none⟩)] 76)) := taker_any W2.heap.size W3.drew
  have hb4 : Below W3.heap.size W3 (W3.drew.alloc (.cells #[.pointer (some ⟨W2.heap.size, 0, none⟩)] 76)) := (Below.refl _ _).drew.alloc (Nat.le_refl _) _
  have hq4 : (W3.drew.alloc (.cells #[.pointer (some ⟨W2.heap.size, 0, none⟩)] 76)).heap[W3.heap.size]? = some (.cells #[.pointer (some ⟨W2.heap.size, 0, none⟩)] 76 (0, 0)) := hp_new rfl
  have hs4 : (W3.drew.alloc (.cells #[.pointer (some ⟨W2.heap.size, 0, none⟩)] 76)).heap.size = W3.heap.size + 1 := by simp
  have hg4 : FamSizes (W3.drew.alloc (.cells #[.pointer (some ⟨W2.heap.size, 0, none⟩)] 76)) := HG.out.below (HB3.out.trans (hb4.mono HB3.out.size))
  have KC : Hid (Calls Tryz.prog 31 #[.string ⟨(l.drop 10).toArray⟩, .func (.func 54) #[] #[.pointer (some ⟨W3.heap.size, 0, none⟩)]] (W3.drew.alloc (.cells #[.pointer (some ⟨W2.heap.size, 0, none⟩)] 76)) fun e w' => StepOk w.heap.size W2.heap.size (.error n) e w' ∧ Fr w.heap.size W2.heap.size (W3.drew.alloc (.cells #[.pointer (some ⟨W2.heap.size, 0, none⟩)] 76)) w') := by
    have h := eachCap_any w.heap.size W2.heap.size 54 (.pointer (some ⟨W3.heap.size, 0, none⟩)) stepC (l.drop 10) { zO with asn := (m2 : Int), hold := (m3 : Int), id := (m4 : Int) } (W3.drew.alloc (.cells #[.pointer (some ⟨W2.heap.size, 0, none⟩)] 76)) (HO3.out.below hb4) (by have := HS3.out; omega) (by have := HS3.out; have := HQ.out; omega) enter63
      (fun Y o' c v hc hv h1 hF => taker1_any w.heap.size W2.heap.size W3.heap.size o' c v Y hc hv h1 (hF.keep hq4 (by have := HS3.out; omega) (by decide)) (hg4.fr hF HG.out.lt (by have := HQ.out; omega)) HG.out.lt (by have := HQ.out; omega) (by have := hF.size; have := HS3.out; omega) (by have := hF.size; have := HS3.out; have := HQ.out; omega))
    rw [HRUN.out] at h
    exact h
  have HB4 : Hid (Below W3.heap.size W3 (W3.drew.alloc (.cells #[.pointer (some ⟨W2.heap.size, 0, none⟩)] 76))) := hb4
  clear hb4 hq4 hs4 hg4 HRUN
  go_region_with (first | (go_at_call 32; refine Calls.mono KT.out ?_; rintro e w4 ⟨rfl, hw4⟩; subst hw4) | (go_at_call 31; (try rw [hsl]); (try rw [hsl2]); refine Calls.mono KC.out ?_; rintro e w5 ⟨hok, hf5⟩; obtain rfl : e = .returned (vdt 3 2 (n : Int)) := hok; unfold vdt; have hv5 := hf5.keep ((HB4.out.block _ (lt_of_heap HV3.out)).trans HV3.out) (by omega) (by decide); have y0 := cl_row (i := 0) hv5 rfl; have y1 := cl_row (i := 1) hv5 rfl; have y2 := cl_row (i := 2) hv5 rfl; have x0 := fz_row (i := 0) hv5; have x1 := fz_row (i := 1) hv5; have x2 := fz_row (i := 2) hv5))
  all_goals
    have hE := setV_facts (w := w) (W3 := W3) (C := #[.int .i64 3, .int .u8 2, .int .u8 (n : Int)]) HB3.out HB4.out hf5 hv5 HU1.out HU2.out (by have := HQ.out; omega) (by have := HQ.out; omega) (by have := HQ.out; omega)
    rw [chain3 hv5]
    clear hf5 hv5 y0 y1 y2 x0 x1 x2
    generalize w5.setRow (W2.heap.size + 1) #[.int .i64 3, .int .u8 2, .int .u8 (n : Int)] = W6 at *
    obtain ⟨hB6, hU1, hU2, hV6⟩ := hE
    have HB6 : Hid (Below w.heap.size w W6) := hB6
    have HX1 : Hid (_ = _) := hU1
    have HX2 : Hid (_ = _) := hU2
    have e0 := cl_row (i := 0) hV6 rfl
    have e1 := cl_row (i := 1) hV6 rfl
    have e2 := cl_row (i := 2) hV6 rfl
    have c0 := cl_row (i := 0) HX1.out rfl
    have f0 := fz_row (i := 0) HX1.out
    have c1 := cl_row (i := 1) HX1.out rfl
    have f1 := fz_row (i := 1) HX1.out
    have c2 := cl_row (i := 2) HX1.out rfl
    have f2 := fz_row (i := 2) HX1.out
    have c3 := cl_row (i := 3) HX1.out rfl
    have f3 := fz_row (i := 3) HX1.out
    have c4 := cl_row (i := 4) HX1.out rfl
    have f4 := fz_row (i := 4) HX1.out
    have c5 := cl_row (i := 5) HX1.out rfl
    have f5 := fz_row (i := 5) HX1.out
    have c6 := cl_row (i := 6) HX1.out rfl
    have f6 := fz_row (i := 6) HX1.out
    have c7 := cl_row (i := 7) HX1.out rfl
    have f7 := fz_row (i := 7) HX1.out
    have c8 := cl_row (i := 8) HX1.out rfl
    have f8 := fz_row (i := 8) HX1.out
    have c9 := cl_row (i := 9) HX1.out rfl
    have f9 := fz_row (i := 9) HX1.out
    have c10 := cl_row (i := 10) HX1.out rfl
    have f10 := fz_row (i := 10) HX1.out
    have d0 := cl_row (i := 0) HX2.out rfl
    have g0 := fz_row (i := 0) HX2.out
    have d1 := cl_row (i := 1) HX2.out rfl
    have g1 := fz_row (i := 1) HX2.out
    have d2 := cl_row (i := 2) HX2.out rfl
    have g2 := fz_row (i := 2) HX2.out
    have hne1 : ¬ (W2.heap.size + 1 = w.heap.size) := by have := HQ.out; omega
    have hne2 : ¬ (W2.heap.size + 1 = w.heap.size + 1) := by have := HQ.out; omega
    go_wp2
    go_region
    rw [chain11 HX1.out, chain3 (W := W6.setRow w.heap.size #[.int .u32 0, .int .i64 0, .int .u32 0, .slice none 0 0, .bool false, .bool false, .slice none 0 0, .bool false, .bool false, .int .i64 0, .slice none 0 0]) ((row_other W6 w.heap.size (w.heap.size + 1) #[.int .u32 0, .int .i64 0, .int .u32 0, .slice none 0 0, .bool false, .bool false, .slice none 0 0, .bool false, .bool false, .int .i64 0, .slice none 0 0] (by omega)).trans HX2.out)]
    have HW5 : Hid ((((W6.setRow w.heap.size #[.int .u32 0, .int .i64 0, .int .u32 0, .slice none 0 0, .bool false, .bool false, .slice none 0 0, .bool false, .bool false, .int .i64 0, .slice none 0 0]).setRow (w.heap.size + 1) #[.int .i64 3, .int .u8 2, .int .u8 (n : Int)]).drew).heap[w.heap.size]? = some (.cells #[.int .u32 0, .int .i64 0, .int .u32 0, .slice none 0 0, .bool false, .bool false, .slice none 0 0, .bool false, .bool false, .int .i64 0, .slice none 0 0] 50 (0, 0)) ∧ (((W6.setRow w.heap.size #[.int .u32 0, .int .i64 0, .int .u32 0, .slice none 0 0, .bool false, .bool false, .slice none 0 0, .bool false, .bool false, .int .i64 0, .slice none 0 0]).setRow (w.heap.size + 1) #[.int .i64 3, .int .u8 2, .int .u8 (n : Int)]).drew).heap[w.heap.size + 1]? = some (.cells #[.int .i64 3, .int .u8 2, .int .u8 (n : Int)] 37 (0, 0)) ∧ Below w.heap.size w (((W6.setRow w.heap.size #[.int .u32 0, .int .i64 0, .int .u32 0, .slice none 0 0, .bool false, .bool false, .slice none 0 0, .bool false, .bool false, .int .i64 0, .slice none 0 0]).setRow (w.heap.size + 1) #[.int .i64 3, .int .u8 2, .int .u8 (n : Int)]).drew)) := by
      have h1 := (row_other (W6.setRow w.heap.size #[.int .u32 0, .int .i64 0, .int .u32 0, .slice none 0 0, .bool false, .bool false, .slice none 0 0, .bool false, .bool false, .int .i64 0, .slice none 0 0]) (w.heap.size + 1) w.heap.size #[.int .i64 3, .int .u8 2, .int .u8 (n : Int)] (by omega)).trans (row_same W6 w.heap.size _ #[.int .u32 0, .int .i64 0, .int .u32 0, .slice none 0 0, .bool false, .bool false, .slice none 0 0, .bool false, .bool false, .int .i64 0, .slice none 0 0] HX1.out)
      have h2 := row_same (W6.setRow w.heap.size #[.int .u32 0, .int .i64 0, .int .u32 0, .slice none 0 0, .bool false, .bool false, .slice none 0 0, .bool false, .bool false, .int .i64 0, .slice none 0 0]) (w.heap.size + 1) _ #[.int .i64 3, .int .u8 2, .int .u8 (n : Int)] ((row_other W6 w.heap.size (w.heap.size + 1) #[.int .u32 0, .int .i64 0, .int .u32 0, .slice none 0 0, .bool false, .bool false, .slice none 0 0, .bool false, .bool false, .int .i64 0, .slice none 0 0] (by omega)).trans HX2.out)
      exact ⟨h1, h2, (below_setRow (below_setRow HB6.out (Nat.le_refl _) _) (by omega) _).drew⟩
    clear c0 f0 c1 f1 c2 f2 c3 f3 c4 f4 c5 f5 c6 f6 c7 f7 c8 f8 c9 f9 c10 f10 d0 g0 d1 g1 d2 g2 e0 e1 e2 hV6
    generalize ((W6.setRow w.heap.size #[.int .u32 0, .int .i64 0, .int .u32 0, .slice none 0 0, .bool false, .bool false, .slice none 0 0, .bool false, .bool false, .int .i64 0, .slice none 0 0]).setRow (w.heap.size + 1) #[.int .i64 3, .int .u8 2, .int .u8 (n : Int)]).drew = W7 at *
    have p0 := cl_row (i := 0) HW5.out.1 rfl
    have p1 := cl_row (i := 1) HW5.out.1 rfl
    have p2 := cl_row (i := 2) HW5.out.1 rfl
    have p3 := cl_row (i := 3) HW5.out.1 rfl
    have p4 := cl_row (i := 4) HW5.out.1 rfl
    have p5 := cl_row (i := 5) HW5.out.1 rfl
    have p6 := cl_row (i := 6) HW5.out.1 rfl
    have p7 := cl_row (i := 7) HW5.out.1 rfl
    have p8 := cl_row (i := 8) HW5.out.1 rfl
    have p9 := cl_row (i := 9) HW5.out.1 rfl
    have p10 := cl_row (i := 10) HW5.out.1 rfl
    have r0 := cl_row (i := 0) HW5.out.2.1 rfl
    have r1 := cl_row (i := 1) HW5.out.2.1 rfl
    have r2 := cl_row (i := 2) HW5.out.2.1 rfl
    go_wp2
    refine bodyPost_ret (v := .tuple #[.agg #[.int .u32 0, .int .i64 0, .int .u32 0, .slice none 0 0, .bool false, .bool false, .slice none 0 0, .bool false, .bool false, .int .i64 0, .slice none 0 0], .agg #[.int .i64 3, .int .u8 2, .int .u8 (n : Int)]]) (by simp [results, Tryz.results12, go_sem, p0, p1, p2, p3, p4, p5, p6, p7, p8, p9, p10, r0, r1, r2]) rfl ⟨rfl, HW5.out.2.2⟩
end Go.Proofs.YtfhapjhkjdifjaaGreatDoor
