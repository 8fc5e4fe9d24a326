/-
  Decode.
-/
import Derived.Test.YtfhapjhkjdifjaaGreatDoorM7e
import Derived.BigRegion
set_option linter.unusedVariables false
set_option linter.unusedSimpArgs false
namespace Go.Proofs.YtfhapjhkjdifjaaGreatDoor
open Go.RowKit
/-- The answers are stored, and handed back. -/
theorem dec_rows {w W : World} {p : Nat} {o : Opn} {vf va vk : Value} (hb : Below w.heap.size w W) (u1 : W.heap[w.heap.size]? = some (.cells #[.int .u32 0, .int .i64 0, .int .u32 0, .slice none 0 0, .bool false, .bool false, .slice none 0 0, .bool false, .bool false, .int .i64 0, .slice none 0 0] 50 (0, 0))) (u2 : W.heap[w.heap.size + 1]? = some (.cells #[.int .i64 0, .int .u8 0, .int .u8 0] 37 (0, 0))) (hall : W.heap[p]? = some (.cells (opC o vf va vk) 50 (0, 0)) ∧ W.ownsRow w.heap.size 3 1 vf o.fams.length (intsC o.fams) ∧ W.ownsRow w.heap.size 108 3 va o.adds.length (addsC o.adds) ∧ W.ownsRow w.heap.size 129 2 vk o.kept.length (keptC o.kept) ∧ OpOk o) :
    let W' := ((W.setRow w.heap.size (opC o vf va vk)).setRow (w.heap.size + 1) #[.int .i64 0, .int .u8 0, .int .u8 0]).drew
    W'.heap[w.heap.size]? = some (.cells (opC o vf va vk) 50 (0, 0)) ∧ W'.heap[w.heap.size + 1]? = some (.cells #[.int .i64 0, .int .u8 0, .int .u8 0] 37 (0, 0)) ∧ Below w.heap.size w W' ∧ W'.ownsRow w.heap.size 3 1 vf o.fams.length (intsC o.fams) ∧ W'.ownsRow w.heap.size 108 3 va o.adds.length (addsC o.adds) ∧ W'.ownsRow w.heap.size 129 2 vk o.kept.length (keptC o.kept) := by
  intro W'
  have h2 : (W.setRow w.heap.size (opC o vf va vk)).heap[w.heap.size + 1]? = some (.cells #[.int .i64 0, .int .u8 0, .int .u8 0] 37 (0, 0)) := (row_other W w.heap.size (w.heap.size + 1) _ (by omega)).trans u2
  have b1 : Beside w.heap.size W (W.setRow w.heap.size (opC o vf va vk)) := Beside.setRow u1
  have b2 : Beside (w.heap.size + 1) (W.setRow w.heap.size (opC o vf va vk)) ((W.setRow w.heap.size (opC o vf va vk)).setRow (w.heap.size + 1) #[.int .i64 0, .int .u8 0, .int .u8 0]) := Beside.setRow h2
  refine ⟨(row_other (W.setRow w.heap.size (opC o vf va vk)) (w.heap.size + 1) w.heap.size #[.int .i64 0, .int .u8 0, .int .u8 0] (by omega)).trans (row_same W w.heap.size _ _ u1), row_same _ _ _ _ h2, (below_setRow (below_setRow hb (Nat.le_refl _) _) (by omega) _).drew, ?_, ?_, ?_⟩
  · have k := owns_beside (owns_beside hall.2.1 b1 u1 (by decide)) b2 h2 (by decide)
    exact k
  · have k := owns_beside (owns_beside hall.2.2.1 b1 u1 (by decide)) b2 h2 (by decide)
    exact k
  · have k := owns_beside (owns_beside hall.2.2.2.1 b1 u1 (by decide)) b2 h2 (by decide)
    exact k
set_option maxHeartbeats 6400000 in
set_option maxRecDepth 100000 in
theorem decode_fine (l : List UInt8) (m2 m3 m4 : Nat) (w : World) (hg : FamSizes w) (hl : 10 ≤ l.length) (hh : headI l = .ok { zO with asn := (m2 : Int), hold := (m3 : Int), id := (m4 : Int) }) (o : Opn) (hr : runL (stepO stepC) (l.drop 10) { zO with asn := (m2 : Int), hold := (m3 : Int), id := (m4 : Int) } = .ok o) : Calls Tryz.prog 12 #[.string ⟨l.toArray⟩] w fun e w' => DecOk w.heap.size (.ok (if o.fams.length = 0 then { o with fams := [1] } else o)) e w' ∧ Below w.heap.size w w' := by
  have hb1 : Below w.heap.size w ((w.alloc (.cells #[.int .u32 0, .int .i64 0, .int .u32 0, .slice none 0 0, .bool false, .bool false, .slice none 0 0, .bool false, .bool false, .int .i64 0, .slice none 0 0] 50)).alloc (.cells #[.int .i64 0, .int .u8 0, .int .u8 0] 37)) := ((Below.refl _ _).alloc (Nat.le_refl _) _).alloc (by simp) _
  have hz1 : ((w.alloc (.cells #[.int .u32 0, .int .i64 0, .int .u32 0, .slice none 0 0, .bool false, .bool false, .slice none 0 0, .bool false, .bool false, .int .i64 0, .slice none 0 0] 50)).alloc (.cells #[.int .i64 0, .int .u8 0, .int .u8 0] 37)).heap[w.heap.size]? = some (.cells #[.int .u32 0, .int .i64 0, .int .u32 0, .slice none 0 0, .bool false, .bool false, .slice none 0 0, .bool false, .bool false, .int .i64 0, .slice none 0 0] 50 (0, 0)) := hp_up (hp_new rfl)
  have hz2 : ((w.alloc (.cells #[.int .u32 0, .int .i64 0, .int .u32 0, .slice none 0 0, .bool false, .bool false, .slice none 0 0, .bool false, .bool false, .int .i64 0, .slice none 0 0] 50)).alloc (.cells #[.int .i64 0, .int .u8 0, .int .u8 0] 37)).heap[w.heap.size + 1]? = some (.cells #[.int .i64 0, .int .u8 0, .int .u8 0] 37 (0, 0)) := hp_new (by simp)
  have HB1 : Hid (Below _ _ _) := hb1
  have HZ1 : Hid (_ = _) := hz1
  have HZ2 : Hid (_ = _) := hz2
  have KH : Hid (∀ X, Calls Tryz.prog 30 #[.string ⟨l.toArray⟩] X fun e w' => e = .returned (.tuple #[opV { zO with asn := (m2 : Int), hold := (m3 : Int), id := (m4 : Int) } nilS nilS nilS, vdt 0 0 0]) ∧ Below X.heap.size X w') := fun X => by have := takeHead_any l X; rw [hh] at this; exact this
  have HG : Hid (FamSizes w) := hg
  have HRUN : Hid (_ = _) := hr
  have hsl : (⟨l.toArray⟩ : ByteArray).extract 10 (⟨l.toArray⟩ : ByteArray).size = ⟨(l.drop 10).toArray⟩ := ext_l l 10
  have hsl2 : (⟨l.toArray⟩ : ByteArray).extract 10 l.length = ⟨(l.drop 10).toArray⟩ := ext_l l 10
  have s1 : (10 : Int) ≤ (l.length : Int) := by omega
  have s2 : (10 : Int) ≤ ((⟨l.toArray⟩ : ByteArray).size : Int) := by rw [list_size]; omega
  have s3 : 10 ≤ (⟨l.toArray⟩ : ByteArray).size := by rw [list_size]; omega
  clear hb1 hz1 hz2 hh hg hr
  unfold opV opC zO nilS vdt at KH
  dsimp only at KH
  go_enter Tryz.func12, Tryz.ntmps12
  go_wp2_with fail
  generalize ((w.alloc (.cells #[.int .u32 0, .int .i64 0, .int .u32 0, .slice none 0 0, .bool false, .bool false, .slice none 0 0, .bool false, .bool false, .int .i64 0, .slice none 0 0] 50)).alloc (.cells #[.int .i64 0, .int .u8 0, .int .u8 0] 37)) = W1 at *
  refine Calls.mono (KH.out W1) ?_
  rintro e W2 ⟨rfl, hb2⟩
  have HB2 : Hid (Below w.heap.size w W2) := HB1.out.trans (hb2.mono HB1.out.size)
  have HY1 : Hid (W2.heap[w.heap.size]? = _) := (hb2.block _ (lt_of_heap HZ1.out)).trans HZ1.out
  have HY2 : Hid (W2.heap[w.heap.size + 1]? = _) := (hb2.block _ (lt_of_heap HZ2.out)).trans HZ2.out
  clear hb2 HB1 HZ1 HZ2
  have hlt : w.heap.size + 1 < W2.heap.size := lt_of_heap HY2.out
  have hlt0 : w.heap.size < W2.heap.size := by omega
  have hb3 : Below W2.heap.size W2 ((W2.alloc (.cells #[.int .u32 (m2 : Int), .int .i64 (m3 : Int), .int .u32 (m4 : Int), .slice none 0 0, .bool false, .bool false, .slice none 0 0, .bool false, .bool false, .int .i64 0, .slice none 0 0] 50)).alloc (.cells #[.int .i64 0, .int .u8 0, .int .u8 0] 37)) := ((Below.refl _ _).alloc (Nat.le_refl _) _).alloc (by simp) _
  have hp3 : ((W2.alloc (.cells #[.int .u32 (m2 : Int), .int .i64 (m3 : Int), .int .u32 (m4 : Int), .slice none 0 0, .bool false, .bool false, .slice none 0 0, .bool false, .bool false, .int .i64 0, .slice none 0 0] 50)).alloc (.cells #[.int .i64 0, .int .u8 0, .int .u8 0] 37)).heap[W2.heap.size]? = some (.cells (opC { zO with asn := (m2 : Int), hold := (m3 : Int), id := (m4 : Int) } nilS nilS nilS) 50 (0, 0)) := hp_up (hp_new rfl)
  have hv3 : ((W2.alloc (.cells #[.int .u32 (m2 : Int), .int .i64 (m3 : Int), .int .u32 (m4 : Int), .slice none 0 0, .bool false, .bool false, .slice none 0 0, .bool false, .bool false, .int .i64 0, .slice none 0 0] 50)).alloc (.cells #[.int .i64 0, .int .u8 0, .int .u8 0] 37)).heap[W2.heap.size + 1]? = some (.cells #[.int .i64 0, .int .u8 0, .int .u8 0] 37 (0, 0)) := hp_new (by simp)
  have hs3 : ((W2.alloc (.cells #[.int .u32 (m2 : Int), .int .i64 (m3 : Int), .int .u32 (m4 : Int), .slice none 0 0, .bool false, .bool false, .slice none 0 0, .bool false, .bool false, .int .i64 0, .slice none 0 0] 50)).alloc (.cells #[.int .i64 0, .int .u8 0, .int .u8 0] 37)).heap.size = W2.heap.size + 2 := by simp
  have HO3 : Hid (OAt w.heap.size ((W2.alloc (.cells #[.int .u32 (m2 : Int), .int .i64 (m3 : Int), .int .u32 (m4 : Int), .slice none 0 0, .bool false, .bool false, .slice none 0 0, .bool false, .bool false, .int .i64 0, .slice none 0 0] 50)).alloc (.cells #[.int .i64 0, .int .u8 0, .int .u8 0] 37)) W2.heap.size { zO with asn := (m2 : Int), hold := (m3 : Int), id := (m4 : Int) }) := ⟨nilS, nilS, nilS, hp3, World.ownsRow_nil _ _ _ _, World.ownsRow_nil _ _ _ _, World.ownsRow_nil _ _ _ _, ⟨rfl, rfl, rfl⟩⟩
  have HV3 : Hid (_ = _) := hv3
  have HS3 : Hid (_ = _) := hs3
  have HB3 : Hid (Below w.heap.size w ((W2.alloc (.cells #[.int .u32 (m2 : Int), .int .i64 (m3 : Int), .int .u32 (m4 : Int), .slice none 0 0, .bool false, .bool false, .slice none 0 0, .bool false, .bool false, .int .i64 0, .slice none 0 0] 50)).alloc (.cells #[.int .i64 0, .int .u8 0, .int .u8 0] 37))) := HB2.out.trans (hb3.mono HB2.out.size)
  have HU1 : Hid (((W2.alloc (.cells #[.int .u32 (m2 : Int), .int .i64 (m3 : Int), .int .u32 (m4 : Int), .slice none 0 0, .bool false, .bool false, .slice none 0 0, .bool false, .bool false, .int .i64 0, .slice none 0 0] 50)).alloc (.cells #[.int .i64 0, .int .u8 0, .int .u8 0] 37)).heap[w.heap.size]? = _) := (hb3.block _ (lt_of_heap HY1.out)).trans HY1.out
  have HU2 : Hid (((W2.alloc (.cells #[.int .u32 (m2 : Int), .int .i64 (m3 : Int), .int .u32 (m4 : Int), .slice none 0 0, .bool false, .bool false, .slice none 0 0, .bool false, .bool false, .int .i64 0, .slice none 0 0] 50)).alloc (.cells #[.int .i64 0, .int .u8 0, .int .u8 0] 37)).heap[w.heap.size + 1]? = _) := (hb3.block _ (lt_of_heap HY2.out)).trans HY2.out
  have HQ : Hid (w.heap.size + 1 < W2.heap.size) := hlt
  clear hb3 hp3 hv3 hs3
  go_wp2
  clear HY1 HY2 HB2
  generalize ((W2.alloc (.cells #[.int .u32 (m2 : Int), .int .i64 (m3 : Int), .int .u32 (m4 : Int), .slice none 0 0, .bool false, .bool false, .slice none 0 0, .bool false, .bool false, .int .i64 0, .slice none 0 0] 50)).alloc (.cells #[.int .i64 0, .int .u8 0, .int .u8 0] 37)) = W3 at *
  have KT : Hid (Calls Tryz.prog 32 #[.pointer (some ⟨W2.heap.size, 0, none⟩)] W3.drew fun e w' => e = .returned (.func (.func 54) #[] #[.pointer (some ⟨W3.heap.size, 0, none⟩)]) ∧ w' = W3.drew.alloc (.cells #[.pointer (some ⟨W2.heap.size, 0, none⟩)] 76)) := taker_any W2.heap.size W3.drew
  have hb4 : Below W3.heap.size W3 (W3.drew.alloc (.cells #[.pointer (some ⟨W2.heap.size, 0, none⟩)] 76)) := (Below.refl _ _).drew.alloc (Nat.le_refl _) _
  have hq4 : (W3.drew.alloc (.cells #[.pointer (some ⟨W2.heap.size, 0, none⟩)] 76)).heap[W3.heap.size]? = some (.cells #[.pointer (some ⟨W2.heap.size, 0, none⟩)] 76 (0, 0)) := hp_new rfl
  have hs4 : (W3.drew.alloc (.cells #[.pointer (some ⟨W2.heap.size, 0, none⟩)] 76)).heap.size = W3.heap.size + 1 := by simp
  have hg4 : FamSizes (W3.drew.alloc (.cells #[.pointer (some ⟨W2.heap.size, 0, none⟩)] 76)) := HG.out.below (HB3.out.trans (hb4.mono HB3.out.size))
  have KC : Hid (Calls Tryz.prog 31 #[.string ⟨(l.drop 10).toArray⟩, .func (.func 54) #[] #[.pointer (some ⟨W3.heap.size, 0, none⟩)]] (W3.drew.alloc (.cells #[.pointer (some ⟨W2.heap.size, 0, none⟩)] 76)) fun e w' => StepOk w.heap.size W2.heap.size (.ok o) e w' ∧ Fr w.heap.size W2.heap.size (W3.drew.alloc (.cells #[.pointer (some ⟨W2.heap.size, 0, none⟩)] 76)) w') := by
    have h := eachCap_any w.heap.size W2.heap.size 54 (.pointer (some ⟨W3.heap.size, 0, none⟩)) stepC (l.drop 10) { zO with asn := (m2 : Int), hold := (m3 : Int), id := (m4 : Int) } (W3.drew.alloc (.cells #[.pointer (some ⟨W2.heap.size, 0, none⟩)] 76)) (HO3.out.below hb4) (by have := HS3.out; omega) (by have := HS3.out; have := HQ.out; omega) enter63
      (fun Y o' c v hc hv h1 hF => taker1_any w.heap.size W2.heap.size W3.heap.size o' c v Y hc hv h1 (hF.keep hq4 (by have := HS3.out; omega) (by decide)) (hg4.fr hF HG.out.lt (by have := HQ.out; omega)) HG.out.lt (by have := HQ.out; omega) (by have := hF.size; have := HS3.out; omega) (by have := hF.size; have := HS3.out; have := HQ.out; omega))
    rw [HRUN.out] at h
    exact h
  have HB4 : Hid (Below W3.heap.size W3 (W3.drew.alloc (.cells #[.pointer (some ⟨W2.heap.size, 0, none⟩)] 76))) := hb4
  clear hb4 hq4 hs4 hg4 HRUN
  go_region_with (first | (go_at_call 32; refine Calls.mono KT.out ?_; rintro e w4 ⟨rfl, hw4⟩; subst hw4) | (go_at_call 31; (try rw [hsl]); (try rw [hsl2]); refine Calls.mono KC.out ?_; rintro e w5 ⟨hok, hf5⟩; obtain ⟨rfl, ho5⟩ : e = .returned (vdt 0 0 0) ∧ OAt w.heap.size w5 W2.heap.size o := hok; unfold vdt; have hv5 := hf5.keep ((HB4.out.block _ (lt_of_heap HV3.out)).trans HV3.out) (by omega) (by decide); have y0 := cl_row (i := 0) hv5 rfl; have y1 := cl_row (i := 1) hv5 rfl; have y2 := cl_row (i := 2) hv5 rfl; have x0 := fz_row (i := 0) hv5; have x1 := fz_row (i := 1) hv5; have x2 := fz_row (i := 2) hv5))
  all_goals
    have hE := setV_facts (w := w) (W3 := W3) (C := #[.int .i64 0, .int .u8 0, .int .u8 0]) HB3.out HB4.out hf5 hv5 HU1.out HU2.out (by have := HQ.out; omega) (by have := HQ.out; omega) (by have := HQ.out; omega)
    have HO6 : Hid (OAt w.heap.size (w5.setRow (W2.heap.size + 1) #[.int .i64 0, .int .u8 0, .int .u8 0]) W2.heap.size o) := ho5.beside (Beside.setRow hv5) hv5 (by decide)
    rw [chain3 hv5]
    clear hf5 hv5 y0 y1 y2 x0 x1 x2 ho5
    generalize w5.setRow (W2.heap.size + 1) #[.int .i64 0, .int .u8 0, .int .u8 0] = W6 at *
    obtain ⟨hB6, hU1, hU2, hV6⟩ := hE
    have HB6 : Hid (Below w.heap.size w W6) := hB6
    have HX1 : Hid (_ = _) := hU1
    have HX2 : Hid (_ = _) := hU2
    have HV6 : Hid (_ = _) := hV6
    have e0 := cl_row (i := 0) hV6 rfl
    clear hB6 hU1 hU2 hV6 KC KT HB4 HB3 HU1 HU2 HV3 HO3
    obtain ⟨vf, va, vk, h1, h2, h3, h4, h5⟩ := HO6.out
    obtain ⟨a1, k1, rfl⟩ := slice_of_owns h2
    obtain ⟨a2, k2, rfl⟩ := slice_of_owns h3
    obtain ⟨a3, k3, rfl⟩ := slice_of_owns h4
    have c3 : W6.cell? ⟨W2.heap.size, 3, none⟩ = some (.slice a1 o.fams.length k1) := cl_row h1 rfl
    have f3 := fz_row (i := 3) h1
    have hpl : W2.heap.size < W6.heap.size := lt_of_heap h1
    by_cases hz : o.fams.length = 0
    · have HIF : Hid ((if o.fams.length = 0 then { o with fams := [1] } else o) = { o with fams := [1] }) := if_pos hz
      rw [hz] at c3
      have hba : Below W6.heap.size W6 (W6.alloc (.cells #[.int .i64 1] 3)) := (Below.refl _ _).alloc (Nat.le_refl _) _
      have hown : (W6.alloc (.cells #[.int .i64 1] 3)).ownsRow w.heap.size 3 1 (.slice (some ⟨W6.heap.size, 0, none⟩) 1 1) ([1] : List Int).length (intsC [1]) := ⟨rfl, Or.inr ⟨W6.heap.size, 1, #[.int .i64 1], rfl, by have := HQ.out; omega, hp_new rfl, Nat.le_refl _, by unfold maxLen; omega, rfl, rfl⟩⟩
      obtain ⟨hO, hF, hP⟩ := OAt.setF (vf' := .slice (some ⟨W6.heap.size, 0, none⟩) 1 1) (L' := [1]) ((hba.block _ hpl).trans h1) (owns_below h2 hba) (owns_below h3 hba) (owns_below h4 hba) h5 (grown_refl _ _) hown rfl
      have HB6' : Hid (Below w.heap.size w ((W6.setCell ⟨W2.heap.size, 3, none⟩ (.slice (some ⟨W6.heap.size, 0, none⟩) 1 1)).alloc (.cells #[.int .i64 1] 3))) := by
        unfold Hid
        rw [← World.setCell_alloc_past _ _ _ _ hpl]
        exact (HB6.out.trans (hba.mono HB6.out.size)).trans (hF.below (by have := HQ.out; omega) (Nat.le_trans HB6.out.size hba.size))
      rw [World.setCell_alloc_past _ _ _ _ hpl] at hO hF
      have hX1 := hF.keep ((hba.block _ (lt_of_heap HX1.out)).trans HX1.out) (by have := HQ.out; omega) (by decide)
      have hX2 := hF.keep ((hba.block _ (lt_of_heap HX2.out)).trans HX2.out) (by have := HQ.out; omega) (by decide)
      have hV7 := hF.keep ((hba.block _ (lt_of_heap HV6.out)).trans HV6.out) (by omega) (by decide)
      obtain ⟨q, hq⟩ : ∃ q, q = ({ o with fams := [1] } : Opn) := ⟨_, rfl⟩
      rw [← hq] at hO HIF
      have HQE : Hid (q = ({ o with fams := [1] } : Opn)) := hq
      clear hq
      go_wp2
      clear HX1 HX2 HV6 HB6 HO6 e0 c3 f3 hP hown hba h1 h2 h3 h4 h5 hF
      generalize (W6.setCell ⟨W2.heap.size, 3, none⟩ (.slice (some ⟨W6.heap.size, 0, none⟩) 1 1)).alloc (.cells #[.int .i64 1] 3) = W8 at *
      have HB6 : Hid (Below w.heap.size w W8) := HB6'.out
      have HX1 : Hid (_ = _) := hX1
      have HX2 : Hid (_ = _) := hX2
      have HV6 : Hid (_ = _) := hV7
      obtain ⟨vf', va', vk', h1, h2, h3, h4, h5⟩ := hO
      obtain ⟨a1', k1', rfl⟩ := slice_of_owns h2
      obtain ⟨a2', k2', rfl⟩ := slice_of_owns h3
      obtain ⟨a3', k3', rfl⟩ := slice_of_owns h4
      have HALL : Hid (_ ∧ _ ∧ _ ∧ _ ∧ _) := ⟨h1, h2, h3, h4, h5⟩
      clear h1 h2 h3 h4 h5 hX1 hX2 hV7
      have c0 := cl_row (i := 0) HX1.out rfl
      have f0 := fz_row (i := 0) HX1.out
      have c1 := cl_row (i := 1) HX1.out rfl
      have f1 := fz_row (i := 1) HX1.out
      have c2 := cl_row (i := 2) HX1.out rfl
      have f2 := fz_row (i := 2) HX1.out
      have c3 := cl_row (i := 3) HX1.out rfl
      have f3 := fz_row (i := 3) HX1.out
      have c4 := cl_row (i := 4) HX1.out rfl
      have f4 := fz_row (i := 4) HX1.out
      have c5 := cl_row (i := 5) HX1.out rfl
      have f5 := fz_row (i := 5) HX1.out
      have c6 := cl_row (i := 6) HX1.out rfl
      have f6 := fz_row (i := 6) HX1.out
      have c7 := cl_row (i := 7) HX1.out rfl
      have f7 := fz_row (i := 7) HX1.out
      have c8 := cl_row (i := 8) HX1.out rfl
      have f8 := fz_row (i := 8) HX1.out
      have c9 := cl_row (i := 9) HX1.out rfl
      have f9 := fz_row (i := 9) HX1.out
      have c10 := cl_row (i := 10) HX1.out rfl
      have f10 := fz_row (i := 10) HX1.out
      have d0 := cl_row (i := 0) HX2.out rfl
      have g0 := fz_row (i := 0) HX2.out
      have d1 := cl_row (i := 1) HX2.out rfl
      have g1 := fz_row (i := 1) HX2.out
      have d2 := cl_row (i := 2) HX2.out rfl
      have g2 := fz_row (i := 2) HX2.out
      have u0 : W8.cell? ⟨W2.heap.size, 0, none⟩ = some (.int .u32 q.asn) := cl_row HALL.out.1 rfl
      have u1 : W8.cell? ⟨W2.heap.size, 1, none⟩ = some (.int .i64 q.hold) := cl_row HALL.out.1 rfl
      have u2 : W8.cell? ⟨W2.heap.size, 2, none⟩ = some (.int .u32 q.id) := cl_row HALL.out.1 rfl
      have u3 : W8.cell? ⟨W2.heap.size, 3, none⟩ = some (.slice a1' q.fams.length k1') := cl_row HALL.out.1 rfl
      have u4 : W8.cell? ⟨W2.heap.size, 4, none⟩ = some (.bool q.four) := cl_row HALL.out.1 rfl
      have u5 : W8.cell? ⟨W2.heap.size, 5, none⟩ = some (.bool q.refr) := cl_row HALL.out.1 rfl
      have u6 : W8.cell? ⟨W2.heap.size, 6, none⟩ = some (.slice a2' q.adds.length k2') := cl_row HALL.out.1 rfl
      have u7 : W8.cell? ⟨W2.heap.size, 7, none⟩ = some (.bool q.gr) := cl_row HALL.out.1 rfl
      have u8 : W8.cell? ⟨W2.heap.size, 8, none⟩ = some (.bool q.again) := cl_row HALL.out.1 rfl
      have u9 : W8.cell? ⟨W2.heap.size, 9, none⟩ = some (.int .i64 q.time) := cl_row HALL.out.1 rfl
      have u10 : W8.cell? ⟨W2.heap.size, 10, none⟩ = some (.slice a3' q.kept.length k3') := cl_row HALL.out.1 rfl
      have v0 := cl_row (i := 0) HV6.out rfl
      have v1 := cl_row (i := 1) HV6.out rfl
      have v2 := cl_row (i := 2) HV6.out rfl
      have hne1 : ¬ (W2.heap.size + 1 = w.heap.size) := by have := HQ.out; omega
      have hne2 : ¬ (W2.heap.size + 1 = w.heap.size + 1) := by have := HQ.out; omega
      have hne3 : ¬ (W2.heap.size = w.heap.size) := by have := HQ.out; omega
      have hne4 : ¬ (W2.heap.size = w.heap.size + 1) := by have := HQ.out; omega
      have HW5 : Hid (_ ∧ _ ∧ _ ∧ _ ∧ _ ∧ _) := dec_rows HB6.out HX1.out HX2.out HALL.out
      unfold opC at HW5
      try dsimp only at HW5
      go_region
      rw [chain11 HX1.out, chain3 (W := W8.setRow w.heap.size #[.int .u32 q.asn, .int .i64 q.hold, .int .u32 q.id, .slice a1' q.fams.length k1', .bool q.four, .bool q.refr, .slice a2' q.adds.length k2', .bool q.gr, .bool q.again, .int .i64 q.time, .slice a3' q.kept.length k3']) ((row_other W8 w.heap.size (w.heap.size + 1) #[.int .u32 q.asn, .int .i64 q.hold, .int .u32 q.id, .slice a1' q.fams.length k1', .bool q.four, .bool q.refr, .slice a2' q.adds.length k2', .bool q.gr, .bool q.again, .int .i64 q.time, .slice a3' q.kept.length k3'] (by omega)).trans HX2.out)]
      clear c0 f0 c1 f1 c2 f2 c3 f3 c4 f4 c5 f5 c6 f6 c7 f7 c8 f8 c9 f9 c10 f10 d0 g0 d1 g1 d2 g2 u0 u1 u2 u3 u4 u5 u6 u7 u8 u9 u10 v0 v1 v2
      generalize ((W8.setRow w.heap.size #[.int .u32 q.asn, .int .i64 q.hold, .int .u32 q.id, .slice a1' q.fams.length k1', .bool q.four, .bool q.refr, .slice a2' q.adds.length k2', .bool q.gr, .bool q.again, .int .i64 q.time, .slice a3' q.kept.length k3']).setRow (w.heap.size + 1) #[.int .i64 0, .int .u8 0, .int .u8 0]).drew = W7 at *
      have p0 := cl_row (i := 0) HW5.out.1 rfl
      have p1 := cl_row (i := 1) HW5.out.1 rfl
      have p2 := cl_row (i := 2) HW5.out.1 rfl
      have p3 := cl_row (i := 3) HW5.out.1 rfl
      have p4 := cl_row (i := 4) HW5.out.1 rfl
      have p5 := cl_row (i := 5) HW5.out.1 rfl
      have p6 := cl_row (i := 6) HW5.out.1 rfl
      have p7 := cl_row (i := 7) HW5.out.1 rfl
      have p8 := cl_row (i := 8) HW5.out.1 rfl
      have p9 := cl_row (i := 9) HW5.out.1 rfl
      have p10 := cl_row (i := 10) HW5.out.1 rfl
      have r0 := cl_row (i := 0) HW5.out.2.1 rfl
      have r1 := cl_row (i := 1) HW5.out.2.1 rfl
      have r2 := cl_row (i := 2) HW5.out.2.1 rfl
      go_wp2
      refine bodyPost_ret (v := .tuple #[.agg #[.int .u32 q.asn, .int .i64 q.hold, .int .u32 q.id, .slice a1' q.fams.length k1', .bool q.four, .bool q.refr, .slice a2' q.adds.length k2', .bool q.gr, .bool q.again, .int .i64 q.time, .slice a3' q.kept.length k3'], .agg #[.int .i64 0, .int .u8 0, .int .u8 0]]) (by simp [results, Tryz.results12, go_sem, p0, p1, p2, p3, p4, p5, p6, p7, p8, p9, p10, r0, r1, r2]) rfl ⟨by rw [← HQE.out]; exact ⟨_, _, _, rfl, HW5.out.2.2.2.1, HW5.out.2.2.2.2.1, HW5.out.2.2.2.2.2, HALL.out.2.2.2.2⟩, HW5.out.2.2.1⟩
    · have HIF : Hid ((if o.fams.length = 0 then { o with fams := [1] } else o) = o) := if_neg hz
      have hzi : ((o.fams.length : Int) == 0) = false := beq_eq_false_iff_ne.2 (by omega)
      have HALL : Hid (_ ∧ _ ∧ _ ∧ _ ∧ _) := ⟨h1, h2, h3, h4, h5⟩
      clear h1 h2 h3 h4 h5 HO6 e0 c3 f3
      have c0 := cl_row (i := 0) HX1.out rfl
      have f0 := fz_row (i := 0) HX1.out
      have c1 := cl_row (i := 1) HX1.out rfl
      have f1 := fz_row (i := 1) HX1.out
      have c2 := cl_row (i := 2) HX1.out rfl
      have f2 := fz_row (i := 2) HX1.out
      have c3 := cl_row (i := 3) HX1.out rfl
      have f3 := fz_row (i := 3) HX1.out
      have c4 := cl_row (i := 4) HX1.out rfl
      have f4 := fz_row (i := 4) HX1.out
      have c5 := cl_row (i := 5) HX1.out rfl
      have f5 := fz_row (i := 5) HX1.out
      have c6 := cl_row (i := 6) HX1.out rfl
      have f6 := fz_row (i := 6) HX1.out
      have c7 := cl_row (i := 7) HX1.out rfl
      have f7 := fz_row (i := 7) HX1.out
      have c8 := cl_row (i := 8) HX1.out rfl
      have f8 := fz_row (i := 8) HX1.out
      have c9 := cl_row (i := 9) HX1.out rfl
      have f9 := fz_row (i := 9) HX1.out
      have c10 := cl_row (i := 10) HX1.out rfl
      have f10 := fz_row (i := 10) HX1.out
      have d0 := cl_row (i := 0) HX2.out rfl
      have g0 := fz_row (i := 0) HX2.out
      have d1 := cl_row (i := 1) HX2.out rfl
      have g1 := fz_row (i := 1) HX2.out
      have d2 := cl_row (i := 2) HX2.out rfl
      have g2 := fz_row (i := 2) HX2.out
      have u0 : W6.cell? ⟨W2.heap.size, 0, none⟩ = some (.int .u32 o.asn) := cl_row HALL.out.1 rfl
      have u1 : W6.cell? ⟨W2.heap.size, 1, none⟩ = some (.int .i64 o.hold) := cl_row HALL.out.1 rfl
      have u2 : W6.cell? ⟨W2.heap.size, 2, none⟩ = some (.int .u32 o.id) := cl_row HALL.out.1 rfl
      have u3 : W6.cell? ⟨W2.heap.size, 3, none⟩ = some (.slice a1 o.fams.length k1) := cl_row HALL.out.1 rfl
      have u4 : W6.cell? ⟨W2.heap.size, 4, none⟩ = some (.bool o.four) := cl_row HALL.out.1 rfl
      have u5 : W6.cell? ⟨W2.heap.size, 5, none⟩ = some (.bool o.refr) := cl_row HALL.out.1 rfl
      have u6 : W6.cell? ⟨W2.heap.size, 6, none⟩ = some (.slice a2 o.adds.length k2) := cl_row HALL.out.1 rfl
      have u7 : W6.cell? ⟨W2.heap.size, 7, none⟩ = some (.bool o.gr) := cl_row HALL.out.1 rfl
      have u8 : W6.cell? ⟨W2.heap.size, 8, none⟩ = some (.bool o.again) := cl_row HALL.out.1 rfl
      have u9 : W6.cell? ⟨W2.heap.size, 9, none⟩ = some (.int .i64 o.time) := cl_row HALL.out.1 rfl
      have u10 : W6.cell? ⟨W2.heap.size, 10, none⟩ = some (.slice a3 o.kept.length k3) := cl_row HALL.out.1 rfl
      have v0 := cl_row (i := 0) HV6.out rfl
      have v1 := cl_row (i := 1) HV6.out rfl
      have v2 := cl_row (i := 2) HV6.out rfl
      have hne1 : ¬ (W2.heap.size + 1 = w.heap.size) := by have := HQ.out; omega
      have hne2 : ¬ (W2.heap.size + 1 = w.heap.size + 1) := by have := HQ.out; omega
      have hne3 : ¬ (W2.heap.size = w.heap.size) := by have := HQ.out; omega
      have hne4 : ¬ (W2.heap.size = w.heap.size + 1) := by have := HQ.out; omega
      have HW5 : Hid (_ ∧ _ ∧ _ ∧ _ ∧ _ ∧ _) := dec_rows HB6.out HX1.out HX2.out HALL.out
      unfold opC at HW5
      try dsimp only at HW5
      go_wp2
      go_region
      rw [chain11 HX1.out, chain3 (W := W6.setRow w.heap.size #[.int .u32 o.asn, .int .i64 o.hold, .int .u32 o.id, .slice a1 o.fams.length k1, .bool o.four, .bool o.refr, .slice a2 o.adds.length k2, .bool o.gr, .bool o.again, .int .i64 o.time, .slice a3 o.kept.length k3]) ((row_other W6 w.heap.size (w.heap.size + 1) #[.int .u32 o.asn, .int .i64 o.hold, .int .u32 o.id, .slice a1 o.fams.length k1, .bool o.four, .bool o.refr, .slice a2 o.adds.length k2, .bool o.gr, .bool o.again, .int .i64 o.time, .slice a3 o.kept.length k3] (by omega)).trans HX2.out)]
      clear c0 f0 c1 f1 c2 f2 c3 f3 c4 f4 c5 f5 c6 f6 c7 f7 c8 f8 c9 f9 c10 f10 d0 g0 d1 g1 d2 g2 u0 u1 u2 u3 u4 u5 u6 u7 u8 u9 u10 v0 v1 v2
      generalize ((W6.setRow w.heap.size #[.int .u32 o.asn, .int .i64 o.hold, .int .u32 o.id, .slice a1 o.fams.length k1, .bool o.four, .bool o.refr, .slice a2 o.adds.length k2, .bool o.gr, .bool o.again, .int .i64 o.time, .slice a3 o.kept.length k3]).setRow (w.heap.size + 1) #[.int .i64 0, .int .u8 0, .int .u8 0]).drew = W7 at *
      have p0 := cl_row (i := 0) HW5.out.1 rfl
      have p1 := cl_row (i := 1) HW5.out.1 rfl
      have p2 := cl_row (i := 2) HW5.out.1 rfl
      have p3 := cl_row (i := 3) HW5.out.1 rfl
      have p4 := cl_row (i := 4) HW5.out.1 rfl
      have p5 := cl_row (i := 5) HW5.out.1 rfl
      have p6 := cl_row (i := 6) HW5.out.1 rfl
      have p7 := cl_row (i := 7) HW5.out.1 rfl
      have p8 := cl_row (i := 8) HW5.out.1 rfl
      have p9 := cl_row (i := 9) HW5.out.1 rfl
      have p10 := cl_row (i := 10) HW5.out.1 rfl
      have r0 := cl_row (i := 0) HW5.out.2.1 rfl
      have r1 := cl_row (i := 1) HW5.out.2.1 rfl
      have r2 := cl_row (i := 2) HW5.out.2.1 rfl
      go_wp2
      refine bodyPost_ret (v := .tuple #[.agg #[.int .u32 o.asn, .int .i64 o.hold, .int .u32 o.id, .slice a1 o.fams.length k1, .bool o.four, .bool o.refr, .slice a2 o.adds.length k2, .bool o.gr, .bool o.again, .int .i64 o.time, .slice a3 o.kept.length k3], .agg #[.int .i64 0, .int .u8 0, .int .u8 0]]) (by simp [results, Tryz.results12, go_sem, p0, p1, p2, p3, p4, p5, p6, p7, p8, p9, p10, r0, r1, r2]) rfl ⟨by exact ⟨_, _, _, rfl, HW5.out.2.2.2.1, HW5.out.2.2.2.2.1, HW5.out.2.2.2.2.2, HALL.out.2.2.2.2⟩, HW5.out.2.2.1⟩
end Go.Proofs.YtfhapjhkjdifjaaGreatDoor
