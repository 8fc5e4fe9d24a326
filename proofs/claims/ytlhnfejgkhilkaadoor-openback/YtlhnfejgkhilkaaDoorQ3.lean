/-
  OpenBack: opens come back from their bodies.
-/
import Derived.Test.YtlhnfejgkhilkaaDoorQ2
import Derived.Test.YtlhnfejgkhilkaaDoorN2
set_option linter.unusedVariables false
set_option linter.unusedSimpArgs false
namespace Go.Proofs.YtlhnfejgkhilkaaDoor
open Go.RowKit
set_option maxRecDepth 100000 in
set_option maxHeartbeats 3200000 in
theorem same_any (o : Opn) (vf va vk uf ua uk : Value) (w : World) (hg : FamSizes w) (hw : OpnWf o) (hm : mayB o = true) (h1 : ListsAt w o vf va vk) (h2 : ListsAt w o uf ua uk) :
    Calls Tryd.prog 21 #[opV o vf va vk, opV o uf ua uk] w fun e w' => e = .returned (.bool true) ∧ Below w.heap.size w w' := by
  have hb1 : Below w.heap.size w ((w.alloc (.cells (opC o vf va vk) 27)).alloc (.cells (opC o uf ua uk) 27)) := ((Below.refl _ _).alloc (Nat.le_refl _) _).alloc (by simp) _
  have hr2 : ((w.alloc (.cells (opC o vf va vk) 27)).alloc (.cells (opC o uf ua uk) 27)).heap[w.heap.size + 1]? = some (.cells (opC o uf ua uk) 27 (0, 0)) := hp_new (by simp)
  have K1 : Hid (_ : Prop) := encode_yes o vf va vk _ (hg.below hb1) (h1.below hb1) hw hm
  have K2 : Hid (∀ X, Below w.heap.size w X → Calls Tryd.prog 9 #[opV o uf ua uk] X fun e w' => e = .returned (.tuple #[.string ⟨(encL o).toArray⟩, .int .i64 0]) ∧ Below X.heap.size X w') := fun X hX => encode_yes o uf ua uk X (hg.below hX) (h2.below hX) hw hm
  have HB1 : Hid (Below _ _ _) := hb1
  have HR2 : Hid (_ = _) := hr2
  clear hb1 hr2 hg hw hm h1 h2
  generalize encL o = E at *
  unfold opV opC at K1 K2
  unfold opC at HB1 HR2
  unfold opV opC
  go_enter Tryd.func21, Tryd.ntmps21
  go_wp2_with fail
  refine Calls.mono K1.out ?_
  rintro e w1 ⟨rfl, hb⟩
  have HB2 : Hid (Below w.heap.size w w1) := HB1.out.trans (hb.mono HB1.out.size)
  have hr := (hb.block _ (lt_of_heap HR2.out)).trans HR2.out
  have c0 : w1.cell? ⟨w.heap.size + 1, 0, none⟩ = some (.int .u32 o.asn) := cl_row hr rfl
  have c1 : w1.cell? ⟨w.heap.size + 1, 1, none⟩ = some (.int .i64 o.hold) := cl_row hr rfl
  have c2 : w1.cell? ⟨w.heap.size + 1, 2, none⟩ = some (.int .u32 o.id) := cl_row hr rfl
  have c3 : w1.cell? ⟨w.heap.size + 1, 3, none⟩ = some (uf) := cl_row hr rfl
  have c4 : w1.cell? ⟨w.heap.size + 1, 4, none⟩ = some (.bool o.four) := cl_row hr rfl
  have c5 : w1.cell? ⟨w.heap.size + 1, 5, none⟩ = some (.bool o.refr) := cl_row hr rfl
  have c6 : w1.cell? ⟨w.heap.size + 1, 6, none⟩ = some (ua) := cl_row hr rfl
  have c7 : w1.cell? ⟨w.heap.size + 1, 7, none⟩ = some (.bool o.gr) := cl_row hr rfl
  have c8 : w1.cell? ⟨w.heap.size + 1, 8, none⟩ = some (.bool o.again) := cl_row hr rfl
  have c9 : w1.cell? ⟨w.heap.size + 1, 9, none⟩ = some (.int .i64 o.time) := cl_row hr rfl
  have c10 : w1.cell? ⟨w.heap.size + 1, 10, none⟩ = some (uk) := cl_row hr rfl
  clear hb hr HB1 HR2 K1
  go_wp2_with fail
  refine Calls.mono (K2.out w1 HB2.out) ?_
  rintro e w2 ⟨rfl, hb⟩
  go_wp2
  go_ret
  exact ⟨rfl, HB2.out.trans (hb.mono HB2.out.size)⟩
set_option maxRecDepth 100000 in
set_option maxHeartbeats 6400000 in
theorem back_walk (o : Opn) (vf va vk : Value) (w : World) (hg : FamSizes w) (hL : ListsAt w o vf va vk) (hw : OpnWf o) :
    Calls Tryd.prog 6 #[opV o vf va vk] w fun e w' => e = .returned (.bool true) ∧ Below w.heap.size w w' := by
  have hb0 : Below w.heap.size w (w.alloc (.cells (opC o vf va vk) 27)) := (Below.refl _ _).alloc (Nat.le_refl _) _
  have hr0 : (w.alloc (.cells (opC o vf va vk) 27)).heap[w.heap.size]? = some (.cells (opC o vf va vk) 27 (0, 0)) := hp_new rfl
  have K0 : Hid (_ : Prop) := works_any _ (hg.below hb0)
  have HB0 : Hid (Below _ _ _) := hb0
  have HR0 : Hid (_ = _) := hr0
  have HG : Hid (FamSizes w) := hg
  have HL : Hid (ListsAt w o vf va vk) := hL
  have KC : Hid (∀ X, Below w.heap.size w X → Calls Tryd.prog 11 #[opV o vf va vk] X fun e w' => e = .returned (.int .i64 (if mayB o = true then 0 else 2)) ∧ Below X.heap.size X w') := fun X hX => check_any o vf va vk X (hg.below hX) (hL.below hX)
  obtain ⟨a1, k1, rfl⟩ := hL.f.len
  obtain ⟨a2, k2, rfl⟩ := hL.a.len
  obtain ⟨a3, k3, rfl⟩ := hL.k.len
  cases hm : mayB o with
  | false =>
    have KE : Hid (∀ X, Below w.heap.size w X → Calls Tryd.prog 9 #[opV o (.slice a1 o.fams.length k1) (.slice a2 o.adds.length k2) (.slice a3 o.kept.length k3)] X fun e w' => e = .returned (.tuple #[.string ⟨#[]⟩, .int .i64 2]) ∧ Below X.heap.size X w') := fun X hX => encode_no o _ _ _ X (HG.out.below hX) (HL.out.below hX) hm
    rw [hm, if_neg (by decide)] at KC
    clear hb0 hr0 hg hL hm HL
    unfold opV opC at KC KE
    unfold opC at HB0 HR0 K0
    unfold opV opC
    go_enter Tryd.func6, Tryd.ntmps6
    go_wp2_with fail
    refine Calls.mono K0.out ?_
    rintro e w1 ⟨rfl, hb⟩
    have HB1 : Hid (Below w.heap.size w w1) := HB0.out.trans (hb.mono HB0.out.size)
    have HR1 : Hid (w1.heap[w.heap.size]? = _) := (hb.block _ (lt_of_heap HR0.out)).trans HR0.out
    have c0 : w1.cell? ⟨w.heap.size, 0, none⟩ = some (.int .u32 o.asn) := cl_row HR1.out rfl
    have c1 : w1.cell? ⟨w.heap.size, 1, none⟩ = some (.int .i64 o.hold) := cl_row HR1.out rfl
    have c2 : w1.cell? ⟨w.heap.size, 2, none⟩ = some (.int .u32 o.id) := cl_row HR1.out rfl
    have c3 : w1.cell? ⟨w.heap.size, 3, none⟩ = some (.slice a1 o.fams.length k1) := cl_row HR1.out rfl
    have c4 : w1.cell? ⟨w.heap.size, 4, none⟩ = some (.bool o.four) := cl_row HR1.out rfl
    have c5 : w1.cell? ⟨w.heap.size, 5, none⟩ = some (.bool o.refr) := cl_row HR1.out rfl
    have c6 : w1.cell? ⟨w.heap.size, 6, none⟩ = some (.slice a2 o.adds.length k2) := cl_row HR1.out rfl
    have c7 : w1.cell? ⟨w.heap.size, 7, none⟩ = some (.bool o.gr) := cl_row HR1.out rfl
    have c8 : w1.cell? ⟨w.heap.size, 8, none⟩ = some (.bool o.again) := cl_row HR1.out rfl
    have c9 : w1.cell? ⟨w.heap.size, 9, none⟩ = some (.int .i64 o.time) := cl_row HR1.out rfl
    have c10 : w1.cell? ⟨w.heap.size, 10, none⟩ = some (.slice a3 o.kept.length k3) := cl_row HR1.out rfl
    clear hb K0 HB0 HR0
    go_wp2_with fail
    refine Calls.mono (KE.out w1 HB1.out) ?_
    rintro e w2 ⟨rfl, hb⟩
    have HB2 : Hid (Below w.heap.size w w2) := HB1.out.trans (hb.mono HB1.out.size)
    have HR2 : Hid (w2.heap[w.heap.size]? = _) := (hb.block _ (lt_of_heap HR1.out)).trans HR1.out
    clear hb HB1 HR1 c0 c1 c2 c3 c4 c5 c6 c7 c8 c9 c10
    have c0 : w2.cell? ⟨w.heap.size, 0, none⟩ = some (.int .u32 o.asn) := cl_row HR2.out rfl
    have c1 : w2.cell? ⟨w.heap.size, 1, none⟩ = some (.int .i64 o.hold) := cl_row HR2.out rfl
    have c2 : w2.cell? ⟨w.heap.size, 2, none⟩ = some (.int .u32 o.id) := cl_row HR2.out rfl
    have c3 : w2.cell? ⟨w.heap.size, 3, none⟩ = some (.slice a1 o.fams.length k1) := cl_row HR2.out rfl
    have c4 : w2.cell? ⟨w.heap.size, 4, none⟩ = some (.bool o.four) := cl_row HR2.out rfl
    have c5 : w2.cell? ⟨w.heap.size, 5, none⟩ = some (.bool o.refr) := cl_row HR2.out rfl
    have c6 : w2.cell? ⟨w.heap.size, 6, none⟩ = some (.slice a2 o.adds.length k2) := cl_row HR2.out rfl
    have c7 : w2.cell? ⟨w.heap.size, 7, none⟩ = some (.bool o.gr) := cl_row HR2.out rfl
    have c8 : w2.cell? ⟨w.heap.size, 8, none⟩ = some (.bool o.again) := cl_row HR2.out rfl
    have c9 : w2.cell? ⟨w.heap.size, 9, none⟩ = some (.int .i64 o.time) := cl_row HR2.out rfl
    have c10 : w2.cell? ⟨w.heap.size, 10, none⟩ = some (.slice a3 o.kept.length k3) := cl_row HR2.out rfl
    go_wp2_with fail
    refine Calls.mono (KC.out w2 HB2.out) ?_
    rintro e w3 ⟨rfl, hb⟩
    go_wp2
    go_ret
    exact ⟨rfl, HB2.out.trans (hb.mono HB2.out.size)⟩
  | true =>
    have KE : Hid (∀ X, Below w.heap.size w X → Calls Tryd.prog 9 #[opV o (.slice a1 o.fams.length k1) (.slice a2 o.adds.length k2) (.slice a3 o.kept.length k3)] X fun e w' => e = .returned (.tuple #[.string ⟨(encL o).toArray⟩, .int .i64 0]) ∧ Below X.heap.size X w') := fun X hX => encode_yes o _ _ _ X (HG.out.below hX) (HL.out.below hX) hw hm
    have KD : Hid (∀ X, Below w.heap.size w X → Calls Tryd.prog 15 #[.string ⟨(encL o).toArray⟩] X fun e w' => DecOk X.heap.size (.ok o) e w' ∧ Below X.heap.size X w') := fun X hX => by
      have := decode_any (encL o) X (HG.out.below hX)
      rw [dec_back o (mayF_of hm) hw] at this
      exact this
    rw [hm, if_pos rfl] at KC
    have KS : Hid (∀ X uf ua uk, Below w.heap.size w X → ListsAt X o uf ua uk → Calls Tryd.prog 21 #[opV o (.slice a1 o.fams.length k1) (.slice a2 o.adds.length k2) (.slice a3 o.kept.length k3), opV o uf ua uk] X fun e w' => e = .returned (.bool true) ∧ Below X.heap.size X w') := fun X uf ua uk hX hl => same_any o _ _ _ uf ua uk X (HG.out.below hX) hw hm (HL.out.below hX) hl
    have KC2 : Hid (∀ X uf ua uk, Below w.heap.size w X → ListsAt X o uf ua uk → Calls Tryd.prog 11 #[opV o uf ua uk] X fun e w' => e = .returned (.int .i64 0) ∧ Below X.heap.size X w') := fun X uf ua uk hX hl => by
      have := check_any o uf ua uk X (HG.out.below hX) hl
      rw [hm, if_pos rfl] at this
      exact this
    clear hb0 hr0 hg hL hm HL hw
    generalize encL o = E at *
    unfold opV opC at KC KE KS KC2
    unfold opC at HB0 HR0 K0
    unfold opV opC
    go_enter Tryd.func6, Tryd.ntmps6
    go_wp2_with fail
    refine Calls.mono K0.out ?_
    rintro e w1 ⟨rfl, hb⟩
    have HB1 : Hid (Below w.heap.size w w1) := HB0.out.trans (hb.mono HB0.out.size)
    have HR1 : Hid (w1.heap[w.heap.size]? = _) := (hb.block _ (lt_of_heap HR0.out)).trans HR0.out
    have c0 : w1.cell? ⟨w.heap.size, 0, none⟩ = some (.int .u32 o.asn) := cl_row HR1.out rfl
    have c1 : w1.cell? ⟨w.heap.size, 1, none⟩ = some (.int .i64 o.hold) := cl_row HR1.out rfl
    have c2 : w1.cell? ⟨w.heap.size, 2, none⟩ = some (.int .u32 o.id) := cl_row HR1.out rfl
    have c3 : w1.cell? ⟨w.heap.size, 3, none⟩ = some (.slice a1 o.fams.length k1) := cl_row HR1.out rfl
    have c4 : w1.cell? ⟨w.heap.size, 4, none⟩ = some (.bool o.four) := cl_row HR1.out rfl
    have c5 : w1.cell? ⟨w.heap.size, 5, none⟩ = some (.bool o.refr) := cl_row HR1.out rfl
    have c6 : w1.cell? ⟨w.heap.size, 6, none⟩ = some (.slice a2 o.adds.length k2) := cl_row HR1.out rfl
    have c7 : w1.cell? ⟨w.heap.size, 7, none⟩ = some (.bool o.gr) := cl_row HR1.out rfl
    have c8 : w1.cell? ⟨w.heap.size, 8, none⟩ = some (.bool o.again) := cl_row HR1.out rfl
    have c9 : w1.cell? ⟨w.heap.size, 9, none⟩ = some (.int .i64 o.time) := cl_row HR1.out rfl
    have c10 : w1.cell? ⟨w.heap.size, 10, none⟩ = some (.slice a3 o.kept.length k3) := cl_row HR1.out rfl
    clear hb K0 HB0 HR0
    go_wp2_with fail
    refine Calls.mono (KE.out w1 HB1.out) ?_
    rintro e w2 ⟨rfl, hb⟩
    have HB2 : Hid (Below w.heap.size w w2) := HB1.out.trans (hb.mono HB1.out.size)
    have HR2 : Hid (w2.heap[w.heap.size]? = _) := (hb.block _ (lt_of_heap HR1.out)).trans HR1.out
    clear hb HB1 HR1 c0 c1 c2 c3 c4 c5 c6 c7 c8 c9 c10
    go_wp2_with fail
    refine Calls.mono (KD.out w2 HB2.out) ?_
    rintro e w3 ⟨⟨uf, ua, uk, rfl, g1, g2, g3, g4⟩, hb⟩
    have hl3 := lists_of_owns g1 g2 g3
    obtain ⟨b1, j1, rfl⟩ := slice_of_owns g1
    obtain ⟨b2, j2, rfl⟩ := slice_of_owns g2
    obtain ⟨b3, j3, rfl⟩ := slice_of_owns g3
    have HB3 : Hid (Below w.heap.size w w3) := HB2.out.trans (hb.mono HB2.out.size)
    have HR3 : Hid (w3.heap[w.heap.size]? = _) := (hb.block _ (lt_of_heap HR2.out)).trans HR2.out
    clear hb HB2 HR2 g1 g2 g3 g4
    have hb4 : Below w3.heap.size w3 ((w3.alloc (.cells #[.int .u32 o.asn, .int .i64 o.hold, .int .u32 o.id, .slice b1 o.fams.length j1, .bool o.four, .bool o.refr, .slice b2 o.adds.length j2, .bool o.gr, .bool o.again, .int .i64 o.time, .slice b3 o.kept.length j3] 27)).alloc (.cells #[.int .i64 0, .int .u8 0, .int .u8 0] 37)) := ((Below.refl _ _).alloc (Nat.le_refl _) _).alloc (by simp) _
    have HB4 : Hid (Below w.heap.size w _) := HB3.out.trans (hb4.mono HB3.out.size)
    have HR4 : Hid (((w3.alloc (.cells #[.int .u32 o.asn, .int .i64 o.hold, .int .u32 o.id, .slice b1 o.fams.length j1, .bool o.four, .bool o.refr, .slice b2 o.adds.length j2, .bool o.gr, .bool o.again, .int .i64 o.time, .slice b3 o.kept.length j3] 27)).alloc (.cells #[.int .i64 0, .int .u8 0, .int .u8 0] 37)).heap[w.heap.size]? = _) := (hb4.block _ (lt_of_heap HR3.out)).trans HR3.out
    have HP4 : Hid (((w3.alloc (.cells #[.int .u32 o.asn, .int .i64 o.hold, .int .u32 o.id, .slice b1 o.fams.length j1, .bool o.four, .bool o.refr, .slice b2 o.adds.length j2, .bool o.gr, .bool o.again, .int .i64 o.time, .slice b3 o.kept.length j3] 27)).alloc (.cells #[.int .i64 0, .int .u8 0, .int .u8 0] 37)).heap[w3.heap.size]? = some (.cells #[.int .u32 o.asn, .int .i64 o.hold, .int .u32 o.id, .slice b1 o.fams.length j1, .bool o.four, .bool o.refr, .slice b2 o.adds.length j2, .bool o.gr, .bool o.again, .int .i64 o.time, .slice b3 o.kept.length j3] 27 (0, 0))) := hp_up (hp_new rfl)
    have HL4 : Hid (_ : Prop) := hl3.below hb4
    have c0 : ((w3.alloc (.cells #[.int .u32 o.asn, .int .i64 o.hold, .int .u32 o.id, .slice b1 o.fams.length j1, .bool o.four, .bool o.refr, .slice b2 o.adds.length j2, .bool o.gr, .bool o.again, .int .i64 o.time, .slice b3 o.kept.length j3] 27)).alloc (.cells #[.int .i64 0, .int .u8 0, .int .u8 0] 37)).cell? ⟨w.heap.size, 0, none⟩ = some (.int .u32 o.asn) := cl_row HR4.out rfl
    have c1 : ((w3.alloc (.cells #[.int .u32 o.asn, .int .i64 o.hold, .int .u32 o.id, .slice b1 o.fams.length j1, .bool o.four, .bool o.refr, .slice b2 o.adds.length j2, .bool o.gr, .bool o.again, .int .i64 o.time, .slice b3 o.kept.length j3] 27)).alloc (.cells #[.int .i64 0, .int .u8 0, .int .u8 0] 37)).cell? ⟨w.heap.size, 1, none⟩ = some (.int .i64 o.hold) := cl_row HR4.out rfl
    have c2 : ((w3.alloc (.cells #[.int .u32 o.asn, .int .i64 o.hold, .int .u32 o.id, .slice b1 o.fams.length j1, .bool o.four, .bool o.refr, .slice b2 o.adds.length j2, .bool o.gr, .bool o.again, .int .i64 o.time, .slice b3 o.kept.length j3] 27)).alloc (.cells #[.int .i64 0, .int .u8 0, .int .u8 0] 37)).cell? ⟨w.heap.size, 2, none⟩ = some (.int .u32 o.id) := cl_row HR4.out rfl
    have c3 : ((w3.alloc (.cells #[.int .u32 o.asn, .int .i64 o.hold, .int .u32 o.id, .slice b1 o.fams.length j1, .bool o.four, .bool o.refr, .slice b2 o.adds.length j2, .bool o.gr, .bool o.again, .int .i64 o.time, .slice b3 o.kept.length j3] 27)).alloc (.cells #[.int .i64 0, .int .u8 0, .int .u8 0] 37)).cell? ⟨w.heap.size, 3, none⟩ = some (.slice a1 o.fams.length k1) := cl_row HR4.out rfl
    have c4 : ((w3.alloc (.cells #[.int .u32 o.asn, .int .i64 o.hold, .int .u32 o.id, .slice b1 o.fams.length j1, .bool o.four, .bool o.refr, .slice b2 o.adds.length j2, .bool o.gr, .bool o.again, .int .i64 o.time, .slice b3 o.kept.length j3] 27)).alloc (.cells #[.int .i64 0, .int .u8 0, .int .u8 0] 37)).cell? ⟨w.heap.size, 4, none⟩ = some (.bool o.four) := cl_row HR4.out rfl
    have c5 : ((w3.alloc (.cells #[.int .u32 o.asn, .int .i64 o.hold, .int .u32 o.id, .slice b1 o.fams.length j1, .bool o.four, .bool o.refr, .slice b2 o.adds.length j2, .bool o.gr, .bool o.again, .int .i64 o.time, .slice b3 o.kept.length j3] 27)).alloc (.cells #[.int .i64 0, .int .u8 0, .int .u8 0] 37)).cell? ⟨w.heap.size, 5, none⟩ = some (.bool o.refr) := cl_row HR4.out rfl
    have c6 : ((w3.alloc (.cells #[.int .u32 o.asn, .int .i64 o.hold, .int .u32 o.id, .slice b1 o.fams.length j1, .bool o.four, .bool o.refr, .slice b2 o.adds.length j2, .bool o.gr, .bool o.again, .int .i64 o.time, .slice b3 o.kept.length j3] 27)).alloc (.cells #[.int .i64 0, .int .u8 0, .int .u8 0] 37)).cell? ⟨w.heap.size, 6, none⟩ = some (.slice a2 o.adds.length k2) := cl_row HR4.out rfl
    have c7 : ((w3.alloc (.cells #[.int .u32 o.asn, .int .i64 o.hold, .int .u32 o.id, .slice b1 o.fams.length j1, .bool o.four, .bool o.refr, .slice b2 o.adds.length j2, .bool o.gr, .bool o.again, .int .i64 o.time, .slice b3 o.kept.length j3] 27)).alloc (.cells #[.int .i64 0, .int .u8 0, .int .u8 0] 37)).cell? ⟨w.heap.size, 7, none⟩ = some (.bool o.gr) := cl_row HR4.out rfl
    have c8 : ((w3.alloc (.cells #[.int .u32 o.asn, .int .i64 o.hold, .int .u32 o.id, .slice b1 o.fams.length j1, .bool o.four, .bool o.refr, .slice b2 o.adds.length j2, .bool o.gr, .bool o.again, .int .i64 o.time, .slice b3 o.kept.length j3] 27)).alloc (.cells #[.int .i64 0, .int .u8 0, .int .u8 0] 37)).cell? ⟨w.heap.size, 8, none⟩ = some (.bool o.again) := cl_row HR4.out rfl
    have c9 : ((w3.alloc (.cells #[.int .u32 o.asn, .int .i64 o.hold, .int .u32 o.id, .slice b1 o.fams.length j1, .bool o.four, .bool o.refr, .slice b2 o.adds.length j2, .bool o.gr, .bool o.again, .int .i64 o.time, .slice b3 o.kept.length j3] 27)).alloc (.cells #[.int .i64 0, .int .u8 0, .int .u8 0] 37)).cell? ⟨w.heap.size, 9, none⟩ = some (.int .i64 o.time) := cl_row HR4.out rfl
    have c10 : ((w3.alloc (.cells #[.int .u32 o.asn, .int .i64 o.hold, .int .u32 o.id, .slice b1 o.fams.length j1, .bool o.four, .bool o.refr, .slice b2 o.adds.length j2, .bool o.gr, .bool o.again, .int .i64 o.time, .slice b3 o.kept.length j3] 27)).alloc (.cells #[.int .i64 0, .int .u8 0, .int .u8 0] 37)).cell? ⟨w.heap.size, 10, none⟩ = some (.slice a3 o.kept.length k3) := cl_row HR4.out rfl
    clear hb4 hl3
    unfold opV opC vdt
    dsimp only
    go_wp2_with fail
    generalize (w3.alloc (.cells #[.int .u32 o.asn, .int .i64 o.hold, .int .u32 o.id, .slice b1 o.fams.length j1, .bool o.four, .bool o.refr, .slice b2 o.adds.length j2, .bool o.gr, .bool o.again, .int .i64 o.time, .slice b3 o.kept.length j3] 27)).alloc (.cells #[.int .i64 0, .int .u8 0, .int .u8 0] 37) = w4 at *
    refine Calls.mono (KC.out w4 HB4.out) ?_
    rintro e w5 ⟨rfl, hb⟩
    have HB5 : Hid (Below w.heap.size w w5) := HB4.out.trans (hb.mono HB4.out.size)
    have HR5 : Hid (w5.heap[w.heap.size]? = _) := (hb.block _ (lt_of_heap HR4.out)).trans HR4.out
    have HP5 : Hid (w5.heap[w3.heap.size]? = _) := (hb.block _ (lt_of_heap HP4.out)).trans HP4.out
    have HL5 : Hid (_ : Prop) := HL4.out.below hb
    clear hb HB4 HR4 HP4 HL4 c0 c1 c2 c3 c4 c5 c6 c7 c8 c9 c10
    have d0 : w5.cell? ⟨w3.heap.size, 0, none⟩ = some (.int .u32 o.asn) := cl_row HP5.out rfl
    have d1 : w5.cell? ⟨w3.heap.size, 1, none⟩ = some (.int .i64 o.hold) := cl_row HP5.out rfl
    have d2 : w5.cell? ⟨w3.heap.size, 2, none⟩ = some (.int .u32 o.id) := cl_row HP5.out rfl
    have d3 : w5.cell? ⟨w3.heap.size, 3, none⟩ = some (.slice b1 o.fams.length j1) := cl_row HP5.out rfl
    have d4 : w5.cell? ⟨w3.heap.size, 4, none⟩ = some (.bool o.four) := cl_row HP5.out rfl
    have d5 : w5.cell? ⟨w3.heap.size, 5, none⟩ = some (.bool o.refr) := cl_row HP5.out rfl
    have d6 : w5.cell? ⟨w3.heap.size, 6, none⟩ = some (.slice b2 o.adds.length j2) := cl_row HP5.out rfl
    have d7 : w5.cell? ⟨w3.heap.size, 7, none⟩ = some (.bool o.gr) := cl_row HP5.out rfl
    have d8 : w5.cell? ⟨w3.heap.size, 8, none⟩ = some (.bool o.again) := cl_row HP5.out rfl
    have d9 : w5.cell? ⟨w3.heap.size, 9, none⟩ = some (.int .i64 o.time) := cl_row HP5.out rfl
    have d10 : w5.cell? ⟨w3.heap.size, 10, none⟩ = some (.slice b3 o.kept.length j3) := cl_row HP5.out rfl
    go_wp2_with fail
    refine Calls.mono (KC2.out w5 _ _ _ HB5.out HL5.out) ?_
    rintro e w6 ⟨rfl, hb⟩
    have HB6 : Hid (Below w.heap.size w w6) := HB5.out.trans (hb.mono HB5.out.size)
    have HR6 : Hid (w6.heap[w.heap.size]? = _) := (hb.block _ (lt_of_heap HR5.out)).trans HR5.out
    have HP6 : Hid (w6.heap[w3.heap.size]? = _) := (hb.block _ (lt_of_heap HP5.out)).trans HP5.out
    have HL6 : Hid (_ : Prop) := HL5.out.below hb
    clear hb HB5 HR5 HP5 HL5 d0 d1 d2 d3 d4 d5 d6 d7 d8 d9 d10
    have c0 : w6.cell? ⟨w.heap.size, 0, none⟩ = some (.int .u32 o.asn) := cl_row HR6.out rfl
    have c1 : w6.cell? ⟨w.heap.size, 1, none⟩ = some (.int .i64 o.hold) := cl_row HR6.out rfl
    have c2 : w6.cell? ⟨w.heap.size, 2, none⟩ = some (.int .u32 o.id) := cl_row HR6.out rfl
    have c3 : w6.cell? ⟨w.heap.size, 3, none⟩ = some (.slice a1 o.fams.length k1) := cl_row HR6.out rfl
    have c4 : w6.cell? ⟨w.heap.size, 4, none⟩ = some (.bool o.four) := cl_row HR6.out rfl
    have c5 : w6.cell? ⟨w.heap.size, 5, none⟩ = some (.bool o.refr) := cl_row HR6.out rfl
    have c6 : w6.cell? ⟨w.heap.size, 6, none⟩ = some (.slice a2 o.adds.length k2) := cl_row HR6.out rfl
    have c7 : w6.cell? ⟨w.heap.size, 7, none⟩ = some (.bool o.gr) := cl_row HR6.out rfl
    have c8 : w6.cell? ⟨w.heap.size, 8, none⟩ = some (.bool o.again) := cl_row HR6.out rfl
    have c9 : w6.cell? ⟨w.heap.size, 9, none⟩ = some (.int .i64 o.time) := cl_row HR6.out rfl
    have c10 : w6.cell? ⟨w.heap.size, 10, none⟩ = some (.slice a3 o.kept.length k3) := cl_row HR6.out rfl
    have d0 : w6.cell? ⟨w3.heap.size, 0, none⟩ = some (.int .u32 o.asn) := cl_row HP6.out rfl
    have d1 : w6.cell? ⟨w3.heap.size, 1, none⟩ = some (.int .i64 o.hold) := cl_row HP6.out rfl
    have d2 : w6.cell? ⟨w3.heap.size, 2, none⟩ = some (.int .u32 o.id) := cl_row HP6.out rfl
    have d3 : w6.cell? ⟨w3.heap.size, 3, none⟩ = some (.slice b1 o.fams.length j1) := cl_row HP6.out rfl
    have d4 : w6.cell? ⟨w3.heap.size, 4, none⟩ = some (.bool o.four) := cl_row HP6.out rfl
    have d5 : w6.cell? ⟨w3.heap.size, 5, none⟩ = some (.bool o.refr) := cl_row HP6.out rfl
    have d6 : w6.cell? ⟨w3.heap.size, 6, none⟩ = some (.slice b2 o.adds.length j2) := cl_row HP6.out rfl
    have d7 : w6.cell? ⟨w3.heap.size, 7, none⟩ = some (.bool o.gr) := cl_row HP6.out rfl
    have d8 : w6.cell? ⟨w3.heap.size, 8, none⟩ = some (.bool o.again) := cl_row HP6.out rfl
    have d9 : w6.cell? ⟨w3.heap.size, 9, none⟩ = some (.int .i64 o.time) := cl_row HP6.out rfl
    have d10 : w6.cell? ⟨w3.heap.size, 10, none⟩ = some (.slice b3 o.kept.length j3) := cl_row HP6.out rfl
    go_wp2_with fail
    refine Calls.mono (KS.out w6 _ _ _ HB6.out HL6.out) ?_
    rintro e w7 ⟨rfl, hb⟩
    have HB7 : Hid (Below w.heap.size w w7) := HB6.out.trans (hb.mono HB6.out.size)
    have HR7 : Hid (w7.heap[w.heap.size]? = _) := (hb.block _ (lt_of_heap HR6.out)).trans HR6.out
    have HP7 : Hid (w7.heap[w3.heap.size]? = _) := (hb.block _ (lt_of_heap HP6.out)).trans HP6.out
    clear hb HB6 HR6 HP6 HL6 c0 d0 c1 d1 c2 d2 c3 d3 c4 d4 c5 d5 c6 d6 c7 d7 c8 d8 c9 d9 c10 d10
    have c0 : w7.cell? ⟨w.heap.size, 0, none⟩ = some (.int .u32 o.asn) := cl_row HR7.out rfl
    have c1 : w7.cell? ⟨w.heap.size, 1, none⟩ = some (.int .i64 o.hold) := cl_row HR7.out rfl
    have c2 : w7.cell? ⟨w.heap.size, 2, none⟩ = some (.int .u32 o.id) := cl_row HR7.out rfl
    have c3 : w7.cell? ⟨w.heap.size, 3, none⟩ = some (.slice a1 o.fams.length k1) := cl_row HR7.out rfl
    have c4 : w7.cell? ⟨w.heap.size, 4, none⟩ = some (.bool o.four) := cl_row HR7.out rfl
    have c5 : w7.cell? ⟨w.heap.size, 5, none⟩ = some (.bool o.refr) := cl_row HR7.out rfl
    have c6 : w7.cell? ⟨w.heap.size, 6, none⟩ = some (.slice a2 o.adds.length k2) := cl_row HR7.out rfl
    have c7 : w7.cell? ⟨w.heap.size, 7, none⟩ = some (.bool o.gr) := cl_row HR7.out rfl
    have c8 : w7.cell? ⟨w.heap.size, 8, none⟩ = some (.bool o.again) := cl_row HR7.out rfl
    have c9 : w7.cell? ⟨w.heap.size, 9, none⟩ = some (.int .i64 o.time) := cl_row HR7.out rfl
    have c10 : w7.cell? ⟨w.heap.size, 10, none⟩ = some (.slice a3 o.kept.length k3) := cl_row HR7.out rfl
    have d0 : w7.cell? ⟨w3.heap.size, 0, none⟩ = some (.int .u32 o.asn) := cl_row HP7.out rfl
    have d1 : w7.cell? ⟨w3.heap.size, 1, none⟩ = some (.int .i64 o.hold) := cl_row HP7.out rfl
    have d2 : w7.cell? ⟨w3.heap.size, 2, none⟩ = some (.int .u32 o.id) := cl_row HP7.out rfl
    have d3 : w7.cell? ⟨w3.heap.size, 3, none⟩ = some (.slice b1 o.fams.length j1) := cl_row HP7.out rfl
    have d4 : w7.cell? ⟨w3.heap.size, 4, none⟩ = some (.bool o.four) := cl_row HP7.out rfl
    have d5 : w7.cell? ⟨w3.heap.size, 5, none⟩ = some (.bool o.refr) := cl_row HP7.out rfl
    have d6 : w7.cell? ⟨w3.heap.size, 6, none⟩ = some (.slice b2 o.adds.length j2) := cl_row HP7.out rfl
    have d7 : w7.cell? ⟨w3.heap.size, 7, none⟩ = some (.bool o.gr) := cl_row HP7.out rfl
    have d8 : w7.cell? ⟨w3.heap.size, 8, none⟩ = some (.bool o.again) := cl_row HP7.out rfl
    have d9 : w7.cell? ⟨w3.heap.size, 9, none⟩ = some (.int .i64 o.time) := cl_row HP7.out rfl
    have d10 : w7.cell? ⟨w3.heap.size, 10, none⟩ = some (.slice b3 o.kept.length j3) := cl_row HP7.out rfl
    go_wp2
    go_ret
    exact ⟨ret_bool (by simp), HB7.out⟩
end Go.Proofs.YtlhnfejgkhilkaaDoor
