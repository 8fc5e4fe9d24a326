/-
  A told prefix that is made of raw data may be.
-/
import Derived.Test.YtfhbgpepkplbaaaDoorBC
import Derived.Test.YtfhbgpepkplbaaaDoorN5
import Derived.Test.YtfhbgpepkplbaaaDoorN2
import Derived.Deep.RegionHeld3
import Derived.Test.YtfhbgpepkplbaaaDoorQ2
namespace Go.Proofs.YtfhbgpepkplbaaaDoor
open Go.RowKit
structure MdAt (w wx : World) (f r : Int) (s : ByteArray) (l ln id lb : Int) : Prop where
  p0 : wx.cell? ⟨w.heap.size + 2, 0, none⟩ = some (.int .i64 f)
  p1 : wx.cell? ⟨w.heap.size + 2, 1, none⟩ = some (.int .u64 r)
  p2 : wx.cell? ⟨w.heap.size + 2, 2, none⟩ = some (.string s)
  p3 : wx.cell? ⟨w.heap.size + 2, 3, none⟩ = some (.int .i64 l)
  q : wx.cell? ⟨w.heap.size, 17, none⟩ = some (.int .u8 ln)
  n0 : wx.cell? ⟨w.heap.size + 3, 0, none⟩ = some (.int .i64 0)
  n1 : wx.cell? ⟨w.heap.size + 3, 1, none⟩ = some (.int .u64 0)
  n2 : wx.cell? ⟨w.heap.size + 3, 2, none⟩ = some (.string ⟨#[]⟩)
  n3 : wx.cell? ⟨w.heap.size + 3, 3, none⟩ = some (.int .i64 0)
  n4 : wx.cell? ⟨w.heap.size + 3, 4, none⟩ = some (.int .u32 id)
  n5 : wx.cell? ⟨w.heap.size + 3, 5, none⟩ = some (.int .u32 lb)
  nf : ∀ i, i < 6 → wx.frozen? ⟨w.heap.size + 3, i, none⟩ = false
  z0 : wx.cell? ⟨w.heap.size + 1, 0, none⟩ = some (.int .i64 0)
  z1 : wx.cell? ⟨w.heap.size + 1, 1, none⟩ = some (.int .u64 0)
  z2 : wx.cell? ⟨w.heap.size + 1, 2, none⟩ = some (.string ⟨#[]⟩)
  z3 : wx.cell? ⟨w.heap.size + 1, 3, none⟩ = some (.int .i64 0)
  z4 : wx.cell? ⟨w.heap.size + 1, 4, none⟩ = some (.int .u32 0)
  z5 : wx.cell? ⟨w.heap.size + 1, 5, none⟩ = some (.int .u32 0)
  zf : ∀ i, i < 6 → wx.frozen? ⟨w.heap.size + 1, i, none⟩ = false
  bel : Below w.heap.size w wx
  siz : w.heap.size + 4 ≤ wx.heap.size
theorem cellB {w w' : World} (hb : Below w.heap.size w w') {b i : Nat} {v : Value} (h : w.cell? ⟨b, i, none⟩ = some v) : w'.cell? ⟨b, i, none⟩ = some v := (hb.cell (p := ⟨b, i, none⟩) (lt_of_cell h)).trans h
theorem MdAt.below {w wx w' : World} {f r : Int} {s : ByteArray} {l ln id lb : Int} (h : MdAt w wx f r s l ln id lb) (hb : Below wx.heap.size wx w') : MdAt w w' f r s l ln id lb := by
  have hs := h.siz
  exact ⟨cellB hb h.p0, cellB hb h.p1, cellB hb h.p2, cellB hb h.p3, cellB hb h.q, cellB hb h.n0, cellB hb h.n1, cellB hb h.n2, cellB hb h.n3, cellB hb h.n4, cellB hb h.n5, fun i hi => (hb.frozen (p := ⟨w.heap.size + 3, i, none⟩) (by simp; omega)).trans (h.nf i hi), cellB hb h.z0, cellB hb h.z1, cellB hb h.z2, cellB hb h.z3, cellB hb h.z4, cellB hb h.z5, fun i hi => (hb.frozen (p := ⟨w.heap.size + 1, i, none⟩) (by simp; omega)).trans (h.zf i hi), h.bel.trans (hb.mono (by omega)), Nat.le_trans h.siz hb.size⟩
theorem push4_0 (h : Array Obj) (a b c d : Obj) : ((((h.push a).push b).push c).push d)[h.size]? = some a := by
  rw [Array.getElem?_push, if_neg (by simp; omega), Array.getElem?_push, if_neg (by simp; omega), Array.getElem?_push, if_neg (by simp), Array.getElem?_push, if_pos rfl]
theorem push4_1 (h : Array Obj) (a b c d : Obj) : ((((h.push a).push b).push c).push d)[h.size + 1]? = some b := by
  rw [Array.getElem?_push, if_neg (by simp), Array.getElem?_push, if_neg (by simp), Array.getElem?_push, if_pos (by simp)]
theorem push4_2 (h : Array Obj) (a b c d : Obj) : ((((h.push a).push b).push c).push d)[h.size + 2]? = some c := by
  rw [Array.getElem?_push, if_neg (by simp), Array.getElem?_push, if_pos (by simp)]
theorem push4_3 (h : Array Obj) (a b c d : Obj) : ((((h.push a).push b).push c).push d)[h.size + 3]? = some d := by
  rw [Array.getElem?_push, if_pos (by simp)]
theorem MdAt.start (w : World) (X : Array Value) (f r : Int) (s : ByteArray) (l ln id lb : Int) (hX : X[17]? = some (.int .u8 ln)) :
    MdAt w ((((w.alloc (.cells X 33)).alloc (.cells #[.int .i64 0, .int .u64 0, .string ⟨#[]⟩, .int .i64 0, .int .u32 0, .int .u32 0] 29)).alloc (.cells #[.int .i64 f, .int .u64 r, .string s, .int .i64 l] 26)).alloc (.cells #[.int .i64 0, .int .u64 0, .string ⟨#[]⟩, .int .i64 0, .int .u32 id, .int .u32 lb] 29)) f r s l ln id lb := by
  have hb : Below w.heap.size w ((((w.alloc (.cells X 33)).alloc (.cells #[.int .i64 0, .int .u64 0, .string ⟨#[]⟩, .int .i64 0, .int .u32 0, .int .u32 0] 29)).alloc (.cells #[.int .i64 f, .int .u64 r, .string s, .int .i64 l] 26)).alloc (.cells #[.int .i64 0, .int .u64 0, .string ⟨#[]⟩, .int .i64 0, .int .u32 id, .int .u32 lb] 29)) := ((((Below.refl _ _).alloc (by simp) _).alloc (by simp) _).alloc (by simp; omega) _).alloc (by simp; omega) _
  refine ⟨?_, ?_, ?_, ?_, ?_, ?_, ?_, ?_, ?_, ?_, ?_, ?_, ?_, ?_, ?_, ?_, ?_, ?_, ?_, hb, by simp⟩
  all_goals (try intro i hi)
  all_goals simp only [al_heap, World.cell?, World.frozen?, push4_0, push4_1, push4_2, push4_3]
  all_goals first | exact hX | rfl | (simp; done)
end Go.Proofs.YtfhbgpepkplbaaaDoor
namespace Go.Proofs.YtfhbgpepkplbaaaDoor
open Go.RowKit
set_option maxRecDepth 100000 in
set_option maxHeartbeats 3200000 in
theorem made_1 (rd ln id lb : Int) (a0 a1 a2 a3 a4 a5 a6 a7 a8 a9 a10 a11 a12 a13 a14 a15 : UInt8) (add : Bool) (w : World) (hg : FamSizes w) (hr : FamRds w) (hl0 : 0 ≤ ln) (hl1 : ln ≤ 255) (_hb0 : 0 ≤ lb) (_hb1 : lb < 4294967296) :
    Calls Tryd.prog 5 #[.agg #[.int .u64 rd, .int .u8 a0.toNat, .int .u8 a1.toNat, .int .u8 a2.toNat, .int .u8 a3.toNat, .int .u8 a4.toNat, .int .u8 a5.toNat, .int .u8 a6.toNat, .int .u8 a7.toNat, .int .u8 a8.toNat, .int .u8 a9.toNat, .int .u8 a10.toNat, .int .u8 a11.toNat, .int .u8 a12.toNat, .int .u8 a13.toNat, .int .u8 a14.toNat, .int .u8 a15.toNat, .int .u8 ln, .int .u32 id, .int .u32 lb], .int .i64 1, .bool add] w fun e w' =>
      e = .returned (.agg #[.int .i64 1, .int .u64 0, .string ⟨(msk [a0, a1, a2, a3] (ln % 33)).toArray⟩, .int .i64 (ln % 33), .int .u32 (if add then id else 0), .int .u32 0]) ∧ Below w.heap.size w w' := by
  have hcv := convA4 w rd ln id lb a0 a1 a2 a3 a4 a5 a6 a7 a8 a9 a10 a11 a12 a13 a14 a15
  have HG : Hid (FamSizes w) := hg
  have HR : Hid (FamRds w) := hr
  have hgx : Hid (FamSizes ((w.alloc (.cells #[.int .u64 rd, .int .u8 a0.toNat, .int .u8 a1.toNat, .int .u8 a2.toNat, .int .u8 a3.toNat, .int .u8 a4.toNat, .int .u8 a5.toNat, .int .u8 a6.toNat, .int .u8 a7.toNat, .int .u8 a8.toNat, .int .u8 a9.toNat, .int .u8 a10.toNat, .int .u8 a11.toNat, .int .u8 a12.toNat, .int .u8 a13.toNat, .int .u8 a14.toNat, .int .u8 a15.toNat, .int .u8 ln, .int .u32 id, .int .u32 lb] 33)).alloc (.cells #[.int .i64 0, .int .u64 0, .string ⟨#[]⟩, .int .i64 0, .int .u32 0, .int .u32 0] 29))) := hg.below (((Below.refl _ _).alloc (Nat.le_refl _) _).alloc (by simp) _)
  have KS : Hid (Calls Tryd.prog 11 #[.int .i64 1] ((w.alloc (.cells #[.int .u64 rd, .int .u8 a0.toNat, .int .u8 a1.toNat, .int .u8 a2.toNat, .int .u8 a3.toNat, .int .u8 a4.toNat, .int .u8 a5.toNat, .int .u8 a6.toNat, .int .u8 a7.toNat, .int .u8 a8.toNat, .int .u8 a9.toNat, .int .u8 a10.toNat, .int .u8 a11.toNat, .int .u8 a12.toNat, .int .u8 a13.toNat, .int .u8 a14.toNat, .int .u8 a15.toNat, .int .u8 ln, .int .u32 id, .int .u32 lb] 33)).alloc (.cells #[.int .i64 0, .int .u64 0, .string ⟨#[]⟩, .int .i64 0, .int .u32 0, .int .u32 0] 29)) fun e w' => e = .returned (.int .i64 4) ∧ w' = ((w.alloc (.cells #[.int .u64 rd, .int .u8 a0.toNat, .int .u8 a1.toNat, .int .u8 a2.toNat, .int .u8 a3.toNat, .int .u8 a4.toNat, .int .u8 a5.toNat, .int .u8 a6.toNat, .int .u8 a7.toNat, .int .u8 a8.toNat, .int .u8 a9.toNat, .int .u8 a10.toNat, .int .u8 a11.toNat, .int .u8 a12.toNat, .int .u8 a13.toNat, .int .u8 a14.toNat, .int .u8 a15.toNat, .int .u8 ln, .int .u32 id, .int .u32 lb] 33)).alloc (.cells #[.int .i64 0, .int .u64 0, .string ⟨#[]⟩, .int .i64 0, .int .u32 0, .int .u32 0] 29))) := size_any 1 _ hgx.out
  clear hg hr hgx
  cases add with
  | true =>
    have H0 : Hid (MdAt w ((((w.alloc (.cells #[.int .u64 rd, .int .u8 a0.toNat, .int .u8 a1.toNat, .int .u8 a2.toNat, .int .u8 a3.toNat, .int .u8 a4.toNat, .int .u8 a5.toNat, .int .u8 a6.toNat, .int .u8 a7.toNat, .int .u8 a8.toNat, .int .u8 a9.toNat, .int .u8 a10.toNat, .int .u8 a11.toNat, .int .u8 a12.toNat, .int .u8 a13.toNat, .int .u8 a14.toNat, .int .u8 a15.toNat, .int .u8 ln, .int .u32 id, .int .u32 lb] 33)).alloc (.cells #[.int .i64 0, .int .u64 0, .string ⟨#[]⟩, .int .i64 0, .int .u32 0, .int .u32 0] 29)).alloc (.cells #[.int .i64 1, .int .u64 0, .string ⟨#[a0, a1, a2, a3]⟩, .int .i64 32] 26)).alloc (.cells #[.int .i64 0, .int .u64 0, .string ⟨#[]⟩, .int .i64 0, .int .u32 id, .int .u32 0] 29)) 1 0 ⟨#[a0, a1, a2, a3]⟩ 32 ln id 0) := MdAt.start w _ 1 0 ⟨#[a0, a1, a2, a3]⟩ 32 ln id 0 rfl
    go_enter Tryd.func5, Tryd.ntmps5
    go_wp2_with fail
    refine Calls.mono KS.out ?_
    rintro e w1 ⟨rfl, rfl⟩
    go_wp2
    clear hcv KS
    generalize (((w.alloc (.cells #[.int .u64 rd, .int .u8 a0.toNat, .int .u8 a1.toNat, .int .u8 a2.toNat, .int .u8 a3.toNat, .int .u8 a4.toNat, .int .u8 a5.toNat, .int .u8 a6.toNat, .int .u8 a7.toNat, .int .u8 a8.toNat, .int .u8 a9.toNat, .int .u8 a10.toNat, .int .u8 a11.toNat, .int .u8 a12.toNat, .int .u8 a13.toNat, .int .u8 a14.toNat, .int .u8 a15.toNat, .int .u8 ln, .int .u32 id, .int .u32 lb] 33)).alloc (.cells #[.int .i64 0, .int .u64 0, .string ⟨#[]⟩, .int .i64 0, .int .u32 0, .int .u32 0] 29)).alloc (.cells #[.int .i64 1, .int .u64 0, .string ⟨#[a0, a1, a2, a3]⟩, .int .i64 32] 26)).alloc (.cells #[.int .i64 0, .int .u64 0, .string ⟨#[]⟩, .int .i64 0, .int .u32 id, .int .u32 0] 29) = wx at *
    have H1 : Hid (MdAt w wx.drew 1 0 ⟨#[a0, a1, a2, a3]⟩ 32 ln id 0) := H0.out.below (Below.refl _ _).drew
    have c0 : wx.cell? ⟨w.heap.size + 1 + 1, 0, none⟩ = some (.int .i64 1) := H0.out.p0
    have c1 : wx.cell? ⟨w.heap.size + 1 + 1, 1, none⟩ = some (.int .u64 0) := H0.out.p1
    have c2 : wx.cell? ⟨w.heap.size + 1 + 1, 2, none⟩ = some (.string ⟨#[a0, a1, a2, a3]⟩) := H0.out.p2
    have c3 : wx.cell? ⟨w.heap.size + 1 + 1, 3, none⟩ = some (.int .i64 32) := H0.out.p3
    have c4 := H0.out.q
    have KC : Hid (Calls Tryd.prog 12 #[.agg #[.int .i64 1, .int .u64 0, .string ⟨#[a0, a1, a2, a3]⟩, .int .i64 32], .int .i64 (ln % 33)] wx.drew fun e w' => e = .returned (.tuple #[.agg #[.int .i64 1, .int .u64 0, .string ⟨(msk [a0, a1, a2, a3] (ln % 33)).toArray⟩, .int .i64 (ln % 33)], .int .i64 0]) ∧ Below wx.drew.heap.size wx.drew w') :=
      cut_yes 1 0 ⟨#[a0, a1, a2, a3]⟩ 32 (ln % 33) wx.drew (HG.out.below H1.out.bel) (HR.out.below H1.out.bel) (chk_full 1 0 ⟨#[a0, a1, a2, a3]⟩ (by decide) rfl (by first | exact Or.inl rfl | exact Or.inr (by decide))) (by omega) (by omega)
    have x1 : ¬ (w.heap.size + 1 + 1 + 1 = w.heap.size + 1 + 1) := by omega
    have x2 : ¬ (w.heap.size + 1 + 1 = w.heap.size + 1 + 1 + 1) := by omega
    have x3 : ¬ (w.heap.size + 1 + 1 + 1 = w.heap.size) := by omega
    have x4 : ¬ (w.heap.size = w.heap.size + 1 + 1 + 1) := by omega
    have x5 : ¬ (w.heap.size + 1 = w.heap.size + 1 + 1 + 1) := by omega
    have x6 : ¬ (w.heap.size + 1 + 1 + 1 = w.heap.size + 1) := by omega
    generalize e3 : w.heap.size + 1 + 1 + 1 = b3 at *
    generalize e2 : w.heap.size + 1 + 1 = b2 at *
    generalize e1 : w.heap.size + 1 = b1 at *
    generalize e0 : w.heap.size = b0 at *
    have EB3 : Hid (w.heap.size + 3 = b3) := by unfold Hid; omega
    have EB2 : Hid (w.heap.size + 2 = b2) := by unfold Hid; omega
    have EB1 : Hid (w.heap.size + 1 = b1) := by unfold Hid; omega
    have EB0 : Hid (w.heap.size = b0) := by unfold Hid; omega
    clear e0 e1 e2 e3
    go_region_held (fun w' => w'.cell? ⟨b2, 0, none⟩ = some (.int .i64 1) ∧ w'.cell? ⟨b2, 1, none⟩ = some (.int .u64 0) ∧ w'.cell? ⟨b2, 2, none⟩ = some (.string ⟨#[a0, a1, a2, a3]⟩) ∧ w'.cell? ⟨b2, 3, none⟩ = some (.int .i64 32) ∧ w'.cell? ⟨b0, 17, none⟩ = some (.int .u8 ln)) (go_keep)
      (first | (go_at_call 12; refine Calls.mono KC.out ?_; rintro e w2 ⟨rfl, hb2⟩; have h2 := MdAt.below H1.out hb2; have d0 : w2.cell? ⟨b2, 0, none⟩ = some (.int .i64 1) := EB2.out ▸ h2.p0; have d1 : w2.cell? ⟨b2, 1, none⟩ = some (.int .u64 0) := EB2.out ▸ h2.p1; have d2 : w2.cell? ⟨b2, 2, none⟩ = some (.string ⟨#[a0, a1, a2, a3]⟩) := EB2.out ▸ h2.p2; have d3 : w2.cell? ⟨b2, 3, none⟩ = some (.int .i64 32) := EB2.out ▸ h2.p3; have d4 : w2.cell? ⟨b0, 17, none⟩ = some (.int .u8 ln) := EB0.out ▸ h2.q; have n0 : w2.cell? ⟨b3, 0, none⟩ = some (.int .i64 0) := EB3.out ▸ h2.n0; have n1 : w2.cell? ⟨b3, 1, none⟩ = some (.int .u64 0) := EB3.out ▸ h2.n1; have n2 : w2.cell? ⟨b3, 2, none⟩ = some (.string ⟨#[]⟩) := EB3.out ▸ h2.n2; have n3 : w2.cell? ⟨b3, 3, none⟩ = some (.int .i64 0) := EB3.out ▸ h2.n3; have y0 : w2.frozen? ⟨b3, 0, none⟩ = false := EB3.out ▸ h2.nf 0 (by omega); have y1 : w2.frozen? ⟨b3, 1, none⟩ = false := EB3.out ▸ h2.nf 1 (by omega); have y2 : w2.frozen? ⟨b3, 2, none⟩ = false := EB3.out ▸ h2.nf 2 (by omega); have y3 : w2.frozen? ⟨b3, 3, none⟩ = false := EB3.out ▸ h2.nf 3 (by omega)))
    have HB2 : Hid (Below w.heap.size w w2) := h2.bel
    have n4 : w2.cell? ⟨b3, 4, none⟩ = some (.int .u32 id) := EB3.out ▸ h2.n4
    have n5 : w2.cell? ⟨b3, 5, none⟩ = some (.int .u32 0) := EB3.out ▸ h2.n5
    have z0 : w2.cell? ⟨b1, 0, none⟩ = some (.int .i64 0) := EB1.out ▸ h2.z0
    have z1 : w2.cell? ⟨b1, 1, none⟩ = some (.int .u64 0) := EB1.out ▸ h2.z1
    have z2 : w2.cell? ⟨b1, 2, none⟩ = some (.string ⟨#[]⟩) := EB1.out ▸ h2.z2
    have z3 : w2.cell? ⟨b1, 3, none⟩ = some (.int .i64 0) := EB1.out ▸ h2.z3
    have z4 : w2.cell? ⟨b1, 4, none⟩ = some (.int .u32 0) := EB1.out ▸ h2.z4
    have z5 : w2.cell? ⟨b1, 5, none⟩ = some (.int .u32 0) := EB1.out ▸ h2.z5
    have u0 : w2.frozen? ⟨b1, 0, none⟩ = false := EB1.out ▸ h2.zf 0 (by omega)
    have u1 : w2.frozen? ⟨b1, 1, none⟩ = false := EB1.out ▸ h2.zf 1 (by omega)
    have u2 : w2.frozen? ⟨b1, 2, none⟩ = false := EB1.out ▸ h2.zf 2 (by omega)
    have u3 : w2.frozen? ⟨b1, 3, none⟩ = false := EB1.out ▸ h2.zf 3 (by omega)
    have u4 : w2.frozen? ⟨b1, 4, none⟩ = false := EB1.out ▸ h2.zf 4 (by omega)
    have u5 : w2.frozen? ⟨b1, 5, none⟩ = false := EB1.out ▸ h2.zf 5 (by omega)
    have L3 : Hid (w.heap.size ≤ b3) := by have := EB3.out; unfold Hid; omega
    have L1 : Hid (w.heap.size ≤ b1) := by have := EB1.out; unfold Hid; omega
    clear h2 hb2 d0 d1 d2 d3 d4 c0 c1 c2 c3 c4 H0 H1 KC
    go_wp2
    refine bodyPost_ret (v := .agg #[.int .i64 1, .int .u64 0, .string ⟨(msk [a0, a1, a2, a3] (ln % 33)).toArray⟩, .int .i64 (ln % 33), .int .u32 id, .int .u32 0]) (by simp [results, Tryd.results5, go_sem, z0, z1, z2, z3, z4, z5]) rfl ⟨rfl, ?_⟩
    exact (((((((((HB2.out.setCell L3.out _).setCell L3.out _).setCell L3.out _).setCell L3.out _).setCell L1.out _).setCell L1.out _).setCell L1.out _).setCell L1.out _).setCell L1.out _).setCell L1.out _
  | false =>
    have H0 : Hid (MdAt w ((((w.alloc (.cells #[.int .u64 rd, .int .u8 a0.toNat, .int .u8 a1.toNat, .int .u8 a2.toNat, .int .u8 a3.toNat, .int .u8 a4.toNat, .int .u8 a5.toNat, .int .u8 a6.toNat, .int .u8 a7.toNat, .int .u8 a8.toNat, .int .u8 a9.toNat, .int .u8 a10.toNat, .int .u8 a11.toNat, .int .u8 a12.toNat, .int .u8 a13.toNat, .int .u8 a14.toNat, .int .u8 a15.toNat, .int .u8 ln, .int .u32 id, .int .u32 lb] 33)).alloc (.cells #[.int .i64 0, .int .u64 0, .string ⟨#[]⟩, .int .i64 0, .int .u32 0, .int .u32 0] 29)).alloc (.cells #[.int .i64 1, .int .u64 0, .string ⟨#[a0, a1, a2, a3]⟩, .int .i64 32] 26)).alloc (.cells #[.int .i64 0, .int .u64 0, .string ⟨#[]⟩, .int .i64 0, .int .u32 0, .int .u32 0] 29)) 1 0 ⟨#[a0, a1, a2, a3]⟩ 32 ln 0 0) := MdAt.start w _ 1 0 ⟨#[a0, a1, a2, a3]⟩ 32 ln 0 0 rfl
    go_enter Tryd.func5, Tryd.ntmps5
    go_wp2_with fail
    refine Calls.mono KS.out ?_
    rintro e w1 ⟨rfl, rfl⟩
    go_wp2
    clear hcv KS
    generalize (((w.alloc (.cells #[.int .u64 rd, .int .u8 a0.toNat, .int .u8 a1.toNat, .int .u8 a2.toNat, .int .u8 a3.toNat, .int .u8 a4.toNat, .int .u8 a5.toNat, .int .u8 a6.toNat, .int .u8 a7.toNat, .int .u8 a8.toNat, .int .u8 a9.toNat, .int .u8 a10.toNat, .int .u8 a11.toNat, .int .u8 a12.toNat, .int .u8 a13.toNat, .int .u8 a14.toNat, .int .u8 a15.toNat, .int .u8 ln, .int .u32 id, .int .u32 lb] 33)).alloc (.cells #[.int .i64 0, .int .u64 0, .string ⟨#[]⟩, .int .i64 0, .int .u32 0, .int .u32 0] 29)).alloc (.cells #[.int .i64 1, .int .u64 0, .string ⟨#[a0, a1, a2, a3]⟩, .int .i64 32] 26)).alloc (.cells #[.int .i64 0, .int .u64 0, .string ⟨#[]⟩, .int .i64 0, .int .u32 0, .int .u32 0] 29) = wx at *
    have H1 : Hid (MdAt w wx.drew 1 0 ⟨#[a0, a1, a2, a3]⟩ 32 ln 0 0) := H0.out.below (Below.refl _ _).drew
    have c0 : wx.cell? ⟨w.heap.size + 1 + 1, 0, none⟩ = some (.int .i64 1) := H0.out.p0
    have c1 : wx.cell? ⟨w.heap.size + 1 + 1, 1, none⟩ = some (.int .u64 0) := H0.out.p1
    have c2 : wx.cell? ⟨w.heap.size + 1 + 1, 2, none⟩ = some (.string ⟨#[a0, a1, a2, a3]⟩) := H0.out.p2
    have c3 : wx.cell? ⟨w.heap.size + 1 + 1, 3, none⟩ = some (.int .i64 32) := H0.out.p3
    have c4 := H0.out.q
    have KC : Hid (Calls Tryd.prog 12 #[.agg #[.int .i64 1, .int .u64 0, .string ⟨#[a0, a1, a2, a3]⟩, .int .i64 32], .int .i64 (ln % 33)] wx.drew fun e w' => e = .returned (.tuple #[.agg #[.int .i64 1, .int .u64 0, .string ⟨(msk [a0, a1, a2, a3] (ln % 33)).toArray⟩, .int .i64 (ln % 33)], .int .i64 0]) ∧ Below wx.drew.heap.size wx.drew w') :=
      cut_yes 1 0 ⟨#[a0, a1, a2, a3]⟩ 32 (ln % 33) wx.drew (HG.out.below H1.out.bel) (HR.out.below H1.out.bel) (chk_full 1 0 ⟨#[a0, a1, a2, a3]⟩ (by decide) rfl (by first | exact Or.inl rfl | exact Or.inr (by decide))) (by omega) (by omega)
    have x1 : ¬ (w.heap.size + 1 + 1 + 1 = w.heap.size + 1 + 1) := by omega
    have x2 : ¬ (w.heap.size + 1 + 1 = w.heap.size + 1 + 1 + 1) := by omega
    have x3 : ¬ (w.heap.size + 1 + 1 + 1 = w.heap.size) := by omega
    have x4 : ¬ (w.heap.size = w.heap.size + 1 + 1 + 1) := by omega
    have x5 : ¬ (w.heap.size + 1 = w.heap.size + 1 + 1 + 1) := by omega
    have x6 : ¬ (w.heap.size + 1 + 1 + 1 = w.heap.size + 1) := by omega
    generalize e3 : w.heap.size + 1 + 1 + 1 = b3 at *
    generalize e2 : w.heap.size + 1 + 1 = b2 at *
    generalize e1 : w.heap.size + 1 = b1 at *
    generalize e0 : w.heap.size = b0 at *
    have EB3 : Hid (w.heap.size + 3 = b3) := by unfold Hid; omega
    have EB2 : Hid (w.heap.size + 2 = b2) := by unfold Hid; omega
    have EB1 : Hid (w.heap.size + 1 = b1) := by unfold Hid; omega
    have EB0 : Hid (w.heap.size = b0) := by unfold Hid; omega
    clear e0 e1 e2 e3
    go_region_held (fun w' => w'.cell? ⟨b2, 0, none⟩ = some (.int .i64 1) ∧ w'.cell? ⟨b2, 1, none⟩ = some (.int .u64 0) ∧ w'.cell? ⟨b2, 2, none⟩ = some (.string ⟨#[a0, a1, a2, a3]⟩) ∧ w'.cell? ⟨b2, 3, none⟩ = some (.int .i64 32) ∧ w'.cell? ⟨b0, 17, none⟩ = some (.int .u8 ln)) (go_keep)
      (first | (go_at_call 12; refine Calls.mono KC.out ?_; rintro e w2 ⟨rfl, hb2⟩; have h2 := MdAt.below H1.out hb2; have d0 : w2.cell? ⟨b2, 0, none⟩ = some (.int .i64 1) := EB2.out ▸ h2.p0; have d1 : w2.cell? ⟨b2, 1, none⟩ = some (.int .u64 0) := EB2.out ▸ h2.p1; have d2 : w2.cell? ⟨b2, 2, none⟩ = some (.string ⟨#[a0, a1, a2, a3]⟩) := EB2.out ▸ h2.p2; have d3 : w2.cell? ⟨b2, 3, none⟩ = some (.int .i64 32) := EB2.out ▸ h2.p3; have d4 : w2.cell? ⟨b0, 17, none⟩ = some (.int .u8 ln) := EB0.out ▸ h2.q; have n0 : w2.cell? ⟨b3, 0, none⟩ = some (.int .i64 0) := EB3.out ▸ h2.n0; have n1 : w2.cell? ⟨b3, 1, none⟩ = some (.int .u64 0) := EB3.out ▸ h2.n1; have n2 : w2.cell? ⟨b3, 2, none⟩ = some (.string ⟨#[]⟩) := EB3.out ▸ h2.n2; have n3 : w2.cell? ⟨b3, 3, none⟩ = some (.int .i64 0) := EB3.out ▸ h2.n3; have y0 : w2.frozen? ⟨b3, 0, none⟩ = false := EB3.out ▸ h2.nf 0 (by omega); have y1 : w2.frozen? ⟨b3, 1, none⟩ = false := EB3.out ▸ h2.nf 1 (by omega); have y2 : w2.frozen? ⟨b3, 2, none⟩ = false := EB3.out ▸ h2.nf 2 (by omega); have y3 : w2.frozen? ⟨b3, 3, none⟩ = false := EB3.out ▸ h2.nf 3 (by omega)))
    have HB2 : Hid (Below w.heap.size w w2) := h2.bel
    have n4 : w2.cell? ⟨b3, 4, none⟩ = some (.int .u32 0) := EB3.out ▸ h2.n4
    have n5 : w2.cell? ⟨b3, 5, none⟩ = some (.int .u32 0) := EB3.out ▸ h2.n5
    have z0 : w2.cell? ⟨b1, 0, none⟩ = some (.int .i64 0) := EB1.out ▸ h2.z0
    have z1 : w2.cell? ⟨b1, 1, none⟩ = some (.int .u64 0) := EB1.out ▸ h2.z1
    have z2 : w2.cell? ⟨b1, 2, none⟩ = some (.string ⟨#[]⟩) := EB1.out ▸ h2.z2
    have z3 : w2.cell? ⟨b1, 3, none⟩ = some (.int .i64 0) := EB1.out ▸ h2.z3
    have z4 : w2.cell? ⟨b1, 4, none⟩ = some (.int .u32 0) := EB1.out ▸ h2.z4
    have z5 : w2.cell? ⟨b1, 5, none⟩ = some (.int .u32 0) := EB1.out ▸ h2.z5
    have u0 : w2.frozen? ⟨b1, 0, none⟩ = false := EB1.out ▸ h2.zf 0 (by omega)
    have u1 : w2.frozen? ⟨b1, 1, none⟩ = false := EB1.out ▸ h2.zf 1 (by omega)
    have u2 : w2.frozen? ⟨b1, 2, none⟩ = false := EB1.out ▸ h2.zf 2 (by omega)
    have u3 : w2.frozen? ⟨b1, 3, none⟩ = false := EB1.out ▸ h2.zf 3 (by omega)
    have u4 : w2.frozen? ⟨b1, 4, none⟩ = false := EB1.out ▸ h2.zf 4 (by omega)
    have u5 : w2.frozen? ⟨b1, 5, none⟩ = false := EB1.out ▸ h2.zf 5 (by omega)
    have L3 : Hid (w.heap.size ≤ b3) := by have := EB3.out; unfold Hid; omega
    have L1 : Hid (w.heap.size ≤ b1) := by have := EB1.out; unfold Hid; omega
    clear h2 hb2 d0 d1 d2 d3 d4 c0 c1 c2 c3 c4 H0 H1 KC
    go_wp2
    refine bodyPost_ret (v := .agg #[.int .i64 1, .int .u64 0, .string ⟨(msk [a0, a1, a2, a3] (ln % 33)).toArray⟩, .int .i64 (ln % 33), .int .u32 0, .int .u32 0]) (by simp [results, Tryd.results5, go_sem, z0, z1, z2, z3, z4, z5]) rfl ⟨rfl, ?_⟩
    exact (((((((((HB2.out.setCell L3.out _).setCell L3.out _).setCell L3.out _).setCell L3.out _).setCell L1.out _).setCell L1.out _).setCell L1.out _).setCell L1.out _).setCell L1.out _).setCell L1.out _
end Go.Proofs.YtfhbgpepkplbaaaDoor
namespace Go.Proofs.YtfhbgpepkplbaaaDoor
open Go.RowKit
set_option maxRecDepth 100000 in
set_option maxHeartbeats 3200000 in
theorem made_2 (rd ln id lb : Int) (a0 a1 a2 a3 a4 a5 a6 a7 a8 a9 a10 a11 a12 a13 a14 a15 : UInt8) (add : Bool) (w : World) (hg : FamSizes w) (hr : FamRds w) (hl0 : 0 ≤ ln) (hl1 : ln ≤ 255) (_hb0 : 0 ≤ lb) (_hb1 : lb < 4294967296) :
    Calls Tryd.prog 5 #[.agg #[.int .u64 rd, .int .u8 a0.toNat, .int .u8 a1.toNat, .int .u8 a2.toNat, .int .u8 a3.toNat, .int .u8 a4.toNat, .int .u8 a5.toNat, .int .u8 a6.toNat, .int .u8 a7.toNat, .int .u8 a8.toNat, .int .u8 a9.toNat, .int .u8 a10.toNat, .int .u8 a11.toNat, .int .u8 a12.toNat, .int .u8 a13.toNat, .int .u8 a14.toNat, .int .u8 a15.toNat, .int .u8 ln, .int .u32 id, .int .u32 lb], .int .i64 2, .bool add] w fun e w' =>
      e = .returned (.agg #[.int .i64 2, .int .u64 0, .string ⟨(msk [a0, a1, a2, a3, a4, a5, a6, a7, a8, a9, a10, a11, a12, a13, a14, a15] (ln % 129)).toArray⟩, .int .i64 (ln % 129), .int .u32 (if add then id else 0), .int .u32 0]) ∧ Below w.heap.size w w' := by
  have hcv := convA16 w rd ln id lb a0 a1 a2 a3 a4 a5 a6 a7 a8 a9 a10 a11 a12 a13 a14 a15
  have HG : Hid (FamSizes w) := hg
  have HR : Hid (FamRds w) := hr
  have hgx : Hid (FamSizes ((w.alloc (.cells #[.int .u64 rd, .int .u8 a0.toNat, .int .u8 a1.toNat, .int .u8 a2.toNat, .int .u8 a3.toNat, .int .u8 a4.toNat, .int .u8 a5.toNat, .int .u8 a6.toNat, .int .u8 a7.toNat, .int .u8 a8.toNat, .int .u8 a9.toNat, .int .u8 a10.toNat, .int .u8 a11.toNat, .int .u8 a12.toNat, .int .u8 a13.toNat, .int .u8 a14.toNat, .int .u8 a15.toNat, .int .u8 ln, .int .u32 id, .int .u32 lb] 33)).alloc (.cells #[.int .i64 0, .int .u64 0, .string ⟨#[]⟩, .int .i64 0, .int .u32 0, .int .u32 0] 29))) := hg.below (((Below.refl _ _).alloc (Nat.le_refl _) _).alloc (by simp) _)
  have KS : Hid (Calls Tryd.prog 11 #[.int .i64 2] ((w.alloc (.cells #[.int .u64 rd, .int .u8 a0.toNat, .int .u8 a1.toNat, .int .u8 a2.toNat, .int .u8 a3.toNat, .int .u8 a4.toNat, .int .u8 a5.toNat, .int .u8 a6.toNat, .int .u8 a7.toNat, .int .u8 a8.toNat, .int .u8 a9.toNat, .int .u8 a10.toNat, .int .u8 a11.toNat, .int .u8 a12.toNat, .int .u8 a13.toNat, .int .u8 a14.toNat, .int .u8 a15.toNat, .int .u8 ln, .int .u32 id, .int .u32 lb] 33)).alloc (.cells #[.int .i64 0, .int .u64 0, .string ⟨#[]⟩, .int .i64 0, .int .u32 0, .int .u32 0] 29)) fun e w' => e = .returned (.int .i64 16) ∧ w' = ((w.alloc (.cells #[.int .u64 rd, .int .u8 a0.toNat, .int .u8 a1.toNat, .int .u8 a2.toNat, .int .u8 a3.toNat, .int .u8 a4.toNat, .int .u8 a5.toNat, .int .u8 a6.toNat, .int .u8 a7.toNat, .int .u8 a8.toNat, .int .u8 a9.toNat, .int .u8 a10.toNat, .int .u8 a11.toNat, .int .u8 a12.toNat, .int .u8 a13.toNat, .int .u8 a14.toNat, .int .u8 a15.toNat, .int .u8 ln, .int .u32 id, .int .u32 lb] 33)).alloc (.cells #[.int .i64 0, .int .u64 0, .string ⟨#[]⟩, .int .i64 0, .int .u32 0, .int .u32 0] 29))) := size_any 2 _ hgx.out
  clear hg hr hgx
  cases add with
  | true =>
    have H0 : Hid (MdAt w ((((w.alloc (.cells #[.int .u64 rd, .int .u8 a0.toNat, .int .u8 a1.toNat, .int .u8 a2.toNat, .int .u8 a3.toNat, .int .u8 a4.toNat, .int .u8 a5.toNat, .int .u8 a6.toNat, .int .u8 a7.toNat, .int .u8 a8.toNat, .int .u8 a9.toNat, .int .u8 a10.toNat, .int .u8 a11.toNat, .int .u8 a12.toNat, .int .u8 a13.toNat, .int .u8 a14.toNat, .int .u8 a15.toNat, .int .u8 ln, .int .u32 id, .int .u32 lb] 33)).alloc (.cells #[.int .i64 0, .int .u64 0, .string ⟨#[]⟩, .int .i64 0, .int .u32 0, .int .u32 0] 29)).alloc (.cells #[.int .i64 2, .int .u64 0, .string ⟨#[a0, a1, a2, a3, a4, a5, a6, a7, a8, a9, a10, a11, a12, a13, a14, a15]⟩, .int .i64 128] 26)).alloc (.cells #[.int .i64 0, .int .u64 0, .string ⟨#[]⟩, .int .i64 0, .int .u32 id, .int .u32 0] 29)) 2 0 ⟨#[a0, a1, a2, a3, a4, a5, a6, a7, a8, a9, a10, a11, a12, a13, a14, a15]⟩ 128 ln id 0) := MdAt.start w _ 2 0 ⟨#[a0, a1, a2, a3, a4, a5, a6, a7, a8, a9, a10, a11, a12, a13, a14, a15]⟩ 128 ln id 0 rfl
    go_enter Tryd.func5, Tryd.ntmps5
    go_wp2_with fail
    refine Calls.mono KS.out ?_
    rintro e w1 ⟨rfl, rfl⟩
    go_wp2
    clear hcv KS
    generalize (((w.alloc (.cells #[.int .u64 rd, .int .u8 a0.toNat, .int .u8 a1.toNat, .int .u8 a2.toNat, .int .u8 a3.toNat, .int .u8 a4.toNat, .int .u8 a5.toNat, .int .u8 a6.toNat, .int .u8 a7.toNat, .int .u8 a8.toNat, .int .u8 a9.toNat, .int .u8 a10.toNat, .int .u8 a11.toNat, .int .u8 a12.toNat, .int .u8 a13.toNat, .int .u8 a14.toNat, .int .u8 a15.toNat, .int .u8 ln, .int .u32 id, .int .u32 lb] 33)).alloc (.cells #[.int .i64 0, .int .u64 0, .string ⟨#[]⟩, .int .i64 0, .int .u32 0, .int .u32 0] 29)).alloc (.cells #[.int .i64 2, .int .u64 0, .string ⟨#[a0, a1, a2, a3, a4, a5, a6, a7, a8, a9, a10, a11, a12, a13, a14, a15]⟩, .int .i64 128] 26)).alloc (.cells #[.int .i64 0, .int .u64 0, .string ⟨#[]⟩, .int .i64 0, .int .u32 id, .int .u32 0] 29) = wx at *
    have H1 : Hid (MdAt w wx.drew 2 0 ⟨#[a0, a1, a2, a3, a4, a5, a6, a7, a8, a9, a10, a11, a12, a13, a14, a15]⟩ 128 ln id 0) := H0.out.below (Below.refl _ _).drew
    have c0 : wx.cell? ⟨w.heap.size + 1 + 1, 0, none⟩ = some (.int .i64 2) := H0.out.p0
    have c1 : wx.cell? ⟨w.heap.size + 1 + 1, 1, none⟩ = some (.int .u64 0) := H0.out.p1
    have c2 : wx.cell? ⟨w.heap.size + 1 + 1, 2, none⟩ = some (.string ⟨#[a0, a1, a2, a3, a4, a5, a6, a7, a8, a9, a10, a11, a12, a13, a14, a15]⟩) := H0.out.p2
    have c3 : wx.cell? ⟨w.heap.size + 1 + 1, 3, none⟩ = some (.int .i64 128) := H0.out.p3
    have c4 := H0.out.q
    have KC : Hid (Calls Tryd.prog 12 #[.agg #[.int .i64 2, .int .u64 0, .string ⟨#[a0, a1, a2, a3, a4, a5, a6, a7, a8, a9, a10, a11, a12, a13, a14, a15]⟩, .int .i64 128], .int .i64 (ln % 129)] wx.drew fun e w' => e = .returned (.tuple #[.agg #[.int .i64 2, .int .u64 0, .string ⟨(msk [a0, a1, a2, a3, a4, a5, a6, a7, a8, a9, a10, a11, a12, a13, a14, a15] (ln % 129)).toArray⟩, .int .i64 (ln % 129)], .int .i64 0]) ∧ Below wx.drew.heap.size wx.drew w') :=
      cut_yes 2 0 ⟨#[a0, a1, a2, a3, a4, a5, a6, a7, a8, a9, a10, a11, a12, a13, a14, a15]⟩ 128 (ln % 129) wx.drew (HG.out.below H1.out.bel) (HR.out.below H1.out.bel) (chk_full 2 0 ⟨#[a0, a1, a2, a3, a4, a5, a6, a7, a8, a9, a10, a11, a12, a13, a14, a15]⟩ (by decide) rfl (by first | exact Or.inl rfl | exact Or.inr (by decide))) (by omega) (by omega)
    have x1 : ¬ (w.heap.size + 1 + 1 + 1 = w.heap.size + 1 + 1) := by omega
    have x2 : ¬ (w.heap.size + 1 + 1 = w.heap.size + 1 + 1 + 1) := by omega
    have x3 : ¬ (w.heap.size + 1 + 1 + 1 = w.heap.size) := by omega
    have x4 : ¬ (w.heap.size = w.heap.size + 1 + 1 + 1) := by omega
    have x5 : ¬ (w.heap.size + 1 = w.heap.size + 1 + 1 + 1) := by omega
    have x6 : ¬ (w.heap.size + 1 + 1 + 1 = w.heap.size + 1) := by omega
    generalize e3 : w.heap.size + 1 + 1 + 1 = b3 at *
    generalize e2 : w.heap.size + 1 + 1 = b2 at *
    generalize e1 : w.heap.size + 1 = b1 at *
    generalize e0 : w.heap.size = b0 at *
    have EB3 : Hid (w.heap.size + 3 = b3) := by unfold Hid; omega
    have EB2 : Hid (w.heap.size + 2 = b2) := by unfold Hid; omega
    have EB1 : Hid (w.heap.size + 1 = b1) := by unfold Hid; omega
    have EB0 : Hid (w.heap.size = b0) := by unfold Hid; omega
    clear e0 e1 e2 e3
    go_region_held (fun w' => w'.cell? ⟨b2, 0, none⟩ = some (.int .i64 2) ∧ w'.cell? ⟨b2, 1, none⟩ = some (.int .u64 0) ∧ w'.cell? ⟨b2, 2, none⟩ = some (.string ⟨#[a0, a1, a2, a3, a4, a5, a6, a7, a8, a9, a10, a11, a12, a13, a14, a15]⟩) ∧ w'.cell? ⟨b2, 3, none⟩ = some (.int .i64 128) ∧ w'.cell? ⟨b0, 17, none⟩ = some (.int .u8 ln)) (go_keep)
      (first | (go_at_call 12; refine Calls.mono KC.out ?_; rintro e w2 ⟨rfl, hb2⟩; have h2 := MdAt.below H1.out hb2; have d0 : w2.cell? ⟨b2, 0, none⟩ = some (.int .i64 2) := EB2.out ▸ h2.p0; have d1 : w2.cell? ⟨b2, 1, none⟩ = some (.int .u64 0) := EB2.out ▸ h2.p1; have d2 : w2.cell? ⟨b2, 2, none⟩ = some (.string ⟨#[a0, a1, a2, a3, a4, a5, a6, a7, a8, a9, a10, a11, a12, a13, a14, a15]⟩) := EB2.out ▸ h2.p2; have d3 : w2.cell? ⟨b2, 3, none⟩ = some (.int .i64 128) := EB2.out ▸ h2.p3; have d4 : w2.cell? ⟨b0, 17, none⟩ = some (.int .u8 ln) := EB0.out ▸ h2.q; have n0 : w2.cell? ⟨b3, 0, none⟩ = some (.int .i64 0) := EB3.out ▸ h2.n0; have n1 : w2.cell? ⟨b3, 1, none⟩ = some (.int .u64 0) := EB3.out ▸ h2.n1; have n2 : w2.cell? ⟨b3, 2, none⟩ = some (.string ⟨#[]⟩) := EB3.out ▸ h2.n2; have n3 : w2.cell? ⟨b3, 3, none⟩ = some (.int .i64 0) := EB3.out ▸ h2.n3; have y0 : w2.frozen? ⟨b3, 0, none⟩ = false := EB3.out ▸ h2.nf 0 (by omega); have y1 : w2.frozen? ⟨b3, 1, none⟩ = false := EB3.out ▸ h2.nf 1 (by omega); have y2 : w2.frozen? ⟨b3, 2, none⟩ = false := EB3.out ▸ h2.nf 2 (by omega); have y3 : w2.frozen? ⟨b3, 3, none⟩ = false := EB3.out ▸ h2.nf 3 (by omega)))
    have HB2 : Hid (Below w.heap.size w w2) := h2.bel
    have n4 : w2.cell? ⟨b3, 4, none⟩ = some (.int .u32 id) := EB3.out ▸ h2.n4
    have n5 : w2.cell? ⟨b3, 5, none⟩ = some (.int .u32 0) := EB3.out ▸ h2.n5
    have z0 : w2.cell? ⟨b1, 0, none⟩ = some (.int .i64 0) := EB1.out ▸ h2.z0
    have z1 : w2.cell? ⟨b1, 1, none⟩ = some (.int .u64 0) := EB1.out ▸ h2.z1
    have z2 : w2.cell? ⟨b1, 2, none⟩ = some (.string ⟨#[]⟩) := EB1.out ▸ h2.z2
    have z3 : w2.cell? ⟨b1, 3, none⟩ = some (.int .i64 0) := EB1.out ▸ h2.z3
    have z4 : w2.cell? ⟨b1, 4, none⟩ = some (.int .u32 0) := EB1.out ▸ h2.z4
    have z5 : w2.cell? ⟨b1, 5, none⟩ = some (.int .u32 0) := EB1.out ▸ h2.z5
    have u0 : w2.frozen? ⟨b1, 0, none⟩ = false := EB1.out ▸ h2.zf 0 (by omega)
    have u1 : w2.frozen? ⟨b1, 1, none⟩ = false := EB1.out ▸ h2.zf 1 (by omega)
    have u2 : w2.frozen? ⟨b1, 2, none⟩ = false := EB1.out ▸ h2.zf 2 (by omega)
    have u3 : w2.frozen? ⟨b1, 3, none⟩ = false := EB1.out ▸ h2.zf 3 (by omega)
    have u4 : w2.frozen? ⟨b1, 4, none⟩ = false := EB1.out ▸ h2.zf 4 (by omega)
    have u5 : w2.frozen? ⟨b1, 5, none⟩ = false := EB1.out ▸ h2.zf 5 (by omega)
    have L3 : Hid (w.heap.size ≤ b3) := by have := EB3.out; unfold Hid; omega
    have L1 : Hid (w.heap.size ≤ b1) := by have := EB1.out; unfold Hid; omega
    clear h2 hb2 d0 d1 d2 d3 d4 c0 c1 c2 c3 c4 H0 H1 KC
    go_wp2
    refine bodyPost_ret (v := .agg #[.int .i64 2, .int .u64 0, .string ⟨(msk [a0, a1, a2, a3, a4, a5, a6, a7, a8, a9, a10, a11, a12, a13, a14, a15] (ln % 129)).toArray⟩, .int .i64 (ln % 129), .int .u32 id, .int .u32 0]) (by simp [results, Tryd.results5, go_sem, z0, z1, z2, z3, z4, z5]) rfl ⟨rfl, ?_⟩
    exact (((((((((HB2.out.setCell L3.out _).setCell L3.out _).setCell L3.out _).setCell L3.out _).setCell L1.out _).setCell L1.out _).setCell L1.out _).setCell L1.out _).setCell L1.out _).setCell L1.out _
  | false =>
    have H0 : Hid (MdAt w ((((w.alloc (.cells #[.int .u64 rd, .int .u8 a0.toNat, .int .u8 a1.toNat, .int .u8 a2.toNat, .int .u8 a3.toNat, .int .u8 a4.toNat, .int .u8 a5.toNat, .int .u8 a6.toNat, .int .u8 a7.toNat, .int .u8 a8.toNat, .int .u8 a9.toNat, .int .u8 a10.toNat, .int .u8 a11.toNat, .int .u8 a12.toNat, .int .u8 a13.toNat, .int .u8 a14.toNat, .int .u8 a15.toNat, .int .u8 ln, .int .u32 id, .int .u32 lb] 33)).alloc (.cells #[.int .i64 0, .int .u64 0, .string ⟨#[]⟩, .int .i64 0, .int .u32 0, .int .u32 0] 29)).alloc (.cells #[.int .i64 2, .int .u64 0, .string ⟨#[a0, a1, a2, a3, a4, a5, a6, a7, a8, a9, a10, a11, a12, a13, a14, a15]⟩, .int .i64 128] 26)).alloc (.cells #[.int .i64 0, .int .u64 0, .string ⟨#[]⟩, .int .i64 0, .int .u32 0, .int .u32 0] 29)) 2 0 ⟨#[a0, a1, a2, a3, a4, a5, a6, a7, a8, a9, a10, a11, a12, a13, a14, a15]⟩ 128 ln 0 0) := MdAt.start w _ 2 0 ⟨#[a0, a1, a2, a3, a4, a5, a6, a7, a8, a9, a10, a11, a12, a13, a14, a15]⟩ 128 ln 0 0 rfl
    go_enter Tryd.func5, Tryd.ntmps5
    go_wp2_with fail
    refine Calls.mono KS.out ?_
    rintro e w1 ⟨rfl, rfl⟩
    go_wp2
    clear hcv KS
    generalize (((w.alloc (.cells #[.int .u64 rd, .int .u8 a0.toNat, .int .u8 a1.toNat, .int .u8 a2.toNat, .int .u8 a3.toNat, .int .u8 a4.toNat, .int .u8 a5.toNat, .int .u8 a6.toNat, .int .u8 a7.toNat, .int .u8 a8.toNat, .int .u8 a9.toNat, .int .u8 a10.toNat, .int .u8 a11.toNat, .int .u8 a12.toNat, .int .u8 a13.toNat, .int .u8 a14.toNat, .int .u8 a15.toNat, .int .u8 ln, .int .u32 id, .int .u32 lb] 33)).alloc (.cells #[.int .i64 0, .int .u64 0, .string ⟨#[]⟩, .int .i64 0, .int .u32 0, .int .u32 0] 29)).alloc (.cells #[.int .i64 2, .int .u64 0, .string ⟨#[a0, a1, a2, a3, a4, a5, a6, a7, a8, a9, a10, a11, a12, a13, a14, a15]⟩, .int .i64 128] 26)).alloc (.cells #[.int .i64 0, .int .u64 0, .string ⟨#[]⟩, .int .i64 0, .int .u32 0, .int .u32 0] 29) = wx at *
    have H1 : Hid (MdAt w wx.drew 2 0 ⟨#[a0, a1, a2, a3, a4, a5, a6, a7, a8, a9, a10, a11, a12, a13, a14, a15]⟩ 128 ln 0 0) := H0.out.below (Below.refl _ _).drew
    have c0 : wx.cell? ⟨w.heap.size + 1 + 1, 0, none⟩ = some (.int .i64 2) := H0.out.p0
    have c1 : wx.cell? ⟨w.heap.size + 1 + 1, 1, none⟩ = some (.int .u64 0) := H0.out.p1
    have c2 : wx.cell? ⟨w.heap.size + 1 + 1, 2, none⟩ = some (.string ⟨#[a0, a1, a2, a3, a4, a5, a6, a7, a8, a9, a10, a11, a12, a13, a14, a15]⟩) := H0.out.p2
    have c3 : wx.cell? ⟨w.heap.size + 1 + 1, 3, none⟩ = some (.int .i64 128) := H0.out.p3
    have c4 := H0.out.q
    have KC : Hid (Calls Tryd.prog 12 #[.agg #[.int .i64 2, .int .u64 0, .string ⟨#[a0, a1, a2, a3, a4, a5, a6, a7, a8, a9, a10, a11, a12, a13, a14, a15]⟩, .int .i64 128], .int .i64 (ln % 129)] wx.drew fun e w' => e = .returned (.tuple #[.agg #[.int .i64 2, .int .u64 0, .string ⟨(msk [a0, a1, a2, a3, a4, a5, a6, a7, a8, a9, a10, a11, a12, a13, a14, a15] (ln % 129)).toArray⟩, .int .i64 (ln % 129)], .int .i64 0]) ∧ Below wx.drew.heap.size wx.drew w') :=
      cut_yes 2 0 ⟨#[a0, a1, a2, a3, a4, a5, a6, a7, a8, a9, a10, a11, a12, a13, a14, a15]⟩ 128 (ln % 129) wx.drew (HG.out.below H1.out.bel) (HR.out.below H1.out.bel) (chk_full 2 0 ⟨#[a0, a1, a2, a3, a4, a5, a6, a7, a8, a9, a10, a11, a12, a13, a14, a15]⟩ (by decide) rfl (by first | exact Or.inl rfl | exact Or.inr (by decide))) (by omega) (by omega)
    have x1 : ¬ (w.heap.size + 1 + 1 + 1 = w.heap.size + 1 + 1) := by omega
    have x2 : ¬ (w.heap.size + 1 + 1 = w.heap.size + 1 + 1 + 1) := by omega
    have x3 : ¬ (w.heap.size + 1 + 1 + 1 = w.heap.size) := by omega
    have x4 : ¬ (w.heap.size = w.heap.size + 1 + 1 + 1) := by omega
    have x5 : ¬ (w.heap.size + 1 = w.heap.size + 1 + 1 + 1) := by omega
    have x6 : ¬ (w.heap.size + 1 + 1 + 1 = w.heap.size + 1) := by omega
    generalize e3 : w.heap.size + 1 + 1 + 1 = b3 at *
    generalize e2 : w.heap.size + 1 + 1 = b2 at *
    generalize e1 : w.heap.size + 1 = b1 at *
    generalize e0 : w.heap.size = b0 at *
    have EB3 : Hid (w.heap.size + 3 = b3) := by unfold Hid; omega
    have EB2 : Hid (w.heap.size + 2 = b2) := by unfold Hid; omega
    have EB1 : Hid (w.heap.size + 1 = b1) := by unfold Hid; omega
    have EB0 : Hid (w.heap.size = b0) := by unfold Hid; omega
    clear e0 e1 e2 e3
    go_region_held (fun w' => w'.cell? ⟨b2, 0, none⟩ = some (.int .i64 2) ∧ w'.cell? ⟨b2, 1, none⟩ = some (.int .u64 0) ∧ w'.cell? ⟨b2, 2, none⟩ = some (.string ⟨#[a0, a1, a2, a3, a4, a5, a6, a7, a8, a9, a10, a11, a12, a13, a14, a15]⟩) ∧ w'.cell? ⟨b2, 3, none⟩ = some (.int .i64 128) ∧ w'.cell? ⟨b0, 17, none⟩ = some (.int .u8 ln)) (go_keep)
      (first | (go_at_call 12; refine Calls.mono KC.out ?_; rintro e w2 ⟨rfl, hb2⟩; have h2 := MdAt.below H1.out hb2; have d0 : w2.cell? ⟨b2, 0, none⟩ = some (.int .i64 2) := EB2.out ▸ h2.p0; have d1 : w2.cell? ⟨b2, 1, none⟩ = some (.int .u64 0) := EB2.out ▸ h2.p1; have d2 : w2.cell? ⟨b2, 2, none⟩ = some (.string ⟨#[a0, a1, a2, a3, a4, a5, a6, a7, a8, a9, a10, a11, a12, a13, a14, a15]⟩) := EB2.out ▸ h2.p2; have d3 : w2.cell? ⟨b2, 3, none⟩ = some (.int .i64 128) := EB2.out ▸ h2.p3; have d4 : w2.cell? ⟨b0, 17, none⟩ = some (.int .u8 ln) := EB0.out ▸ h2.q; have n0 : w2.cell? ⟨b3, 0, none⟩ = some (.int .i64 0) := EB3.out ▸ h2.n0; have n1 : w2.cell? ⟨b3, 1, none⟩ = some (.int .u64 0) := EB3.out ▸ h2.n1; have n2 : w2.cell? ⟨b3, 2, none⟩ = some (.string ⟨#[]⟩) := EB3.out ▸ h2.n2; have n3 : w2.cell? ⟨b3, 3, none⟩ = some (.int .i64 0) := EB3.out ▸ h2.n3; have y0 : w2.frozen? ⟨b3, 0, none⟩ = false := EB3.out ▸ h2.nf 0 (by omega); have y1 : w2.frozen? ⟨b3, 1, none⟩ = false := EB3.out ▸ h2.nf 1 (by omega); have y2 : w2.frozen? ⟨b3, 2, none⟩ = false := EB3.out ▸ h2.nf 2 (by omega); have y3 : w2.frozen? ⟨b3, 3, none⟩ = false := EB3.out ▸ h2.nf 3 (by omega)))
    have HB2 : Hid (Below w.heap.size w w2) := h2.bel
    have n4 : w2.cell? ⟨b3, 4, none⟩ = some (.int .u32 0) := EB3.out ▸ h2.n4
    have n5 : w2.cell? ⟨b3, 5, none⟩ = some (.int .u32 0) := EB3.out ▸ h2.n5
    have z0 : w2.cell? ⟨b1, 0, none⟩ = some (.int .i64 0) := EB1.out ▸ h2.z0
    have z1 : w2.cell? ⟨b1, 1, none⟩ = some (.int .u64 0) := EB1.out ▸ h2.z1
    have z2 : w2.cell? ⟨b1, 2, none⟩ = some (.string ⟨#[]⟩) := EB1.out ▸ h2.z2
    have z3 : w2.cell? ⟨b1, 3, none⟩ = some (.int .i64 0) := EB1.out ▸ h2.z3
    have z4 : w2.cell? ⟨b1, 4, none⟩ = some (.int .u32 0) := EB1.out ▸ h2.z4
    have z5 : w2.cell? ⟨b1, 5, none⟩ = some (.int .u32 0) := EB1.out ▸ h2.z5
    have u0 : w2.frozen? ⟨b1, 0, none⟩ = false := EB1.out ▸ h2.zf 0 (by omega)
    have u1 : w2.frozen? ⟨b1, 1, none⟩ = false := EB1.out ▸ h2.zf 1 (by omega)
    have u2 : w2.frozen? ⟨b1, 2, none⟩ = false := EB1.out ▸ h2.zf 2 (by omega)
    have u3 : w2.frozen? ⟨b1, 3, none⟩ = false := EB1.out ▸ h2.zf 3 (by omega)
    have u4 : w2.frozen? ⟨b1, 4, none⟩ = false := EB1.out ▸ h2.zf 4 (by omega)
    have u5 : w2.frozen? ⟨b1, 5, none⟩ = false := EB1.out ▸ h2.zf 5 (by omega)
    have L3 : Hid (w.heap.size ≤ b3) := by have := EB3.out; unfold Hid; omega
    have L1 : Hid (w.heap.size ≤ b1) := by have := EB1.out; unfold Hid; omega
    clear h2 hb2 d0 d1 d2 d3 d4 c0 c1 c2 c3 c4 H0 H1 KC
    go_wp2
    refine bodyPost_ret (v := .agg #[.int .i64 2, .int .u64 0, .string ⟨(msk [a0, a1, a2, a3, a4, a5, a6, a7, a8, a9, a10, a11, a12, a13, a14, a15] (ln % 129)).toArray⟩, .int .i64 (ln % 129), .int .u32 0, .int .u32 0]) (by simp [results, Tryd.results5, go_sem, z0, z1, z2, z3, z4, z5]) rfl ⟨rfl, ?_⟩
    exact (((((((((HB2.out.setCell L3.out _).setCell L3.out _).setCell L3.out _).setCell L3.out _).setCell L1.out _).setCell L1.out _).setCell L1.out _).setCell L1.out _).setCell L1.out _).setCell L1.out _
end Go.Proofs.YtfhbgpepkplbaaaDoor
namespace Go.Proofs.YtfhbgpepkplbaaaDoor
open Go.RowKit
set_option maxRecDepth 100000 in
set_option maxHeartbeats 3200000 in
theorem made_3 (rd ln id lb : Int) (a0 a1 a2 a3 a4 a5 a6 a7 a8 a9 a10 a11 a12 a13 a14 a15 : UInt8) (add : Bool) (w : World) (hg : FamSizes w) (hr : FamRds w) (hl0 : 0 ≤ ln) (hl1 : ln ≤ 255) (hb0 : 0 ≤ lb) (hb1 : lb < 4294967296) :
    Calls Tryd.prog 5 #[.agg #[.int .u64 rd, .int .u8 a0.toNat, .int .u8 a1.toNat, .int .u8 a2.toNat, .int .u8 a3.toNat, .int .u8 a4.toNat, .int .u8 a5.toNat, .int .u8 a6.toNat, .int .u8 a7.toNat, .int .u8 a8.toNat, .int .u8 a9.toNat, .int .u8 a10.toNat, .int .u8 a11.toNat, .int .u8 a12.toNat, .int .u8 a13.toNat, .int .u8 a14.toNat, .int .u8 a15.toNat, .int .u8 ln, .int .u32 id, .int .u32 lb], .int .i64 3, .bool add] w fun e w' =>
      e = .returned (.agg #[.int .i64 3, .int .u64 0, .string ⟨(msk [a0, a1, a2, a3] (ln % 33)).toArray⟩, .int .i64 (ln % 33), .int .u32 (if add then id else 0), .int .u32 (lb % 1048576)]) ∧ Below w.heap.size w w' := by
  have hcv := convA4 w rd ln id lb a0 a1 a2 a3 a4 a5 a6 a7 a8 a9 a10 a11 a12 a13 a14 a15
  have HG : Hid (FamSizes w) := hg
  have HR : Hid (FamRds w) := hr
  have hgx : Hid (FamSizes ((w.alloc (.cells #[.int .u64 rd, .int .u8 a0.toNat, .int .u8 a1.toNat, .int .u8 a2.toNat, .int .u8 a3.toNat, .int .u8 a4.toNat, .int .u8 a5.toNat, .int .u8 a6.toNat, .int .u8 a7.toNat, .int .u8 a8.toNat, .int .u8 a9.toNat, .int .u8 a10.toNat, .int .u8 a11.toNat, .int .u8 a12.toNat, .int .u8 a13.toNat, .int .u8 a14.toNat, .int .u8 a15.toNat, .int .u8 ln, .int .u32 id, .int .u32 lb] 33)).alloc (.cells #[.int .i64 0, .int .u64 0, .string ⟨#[]⟩, .int .i64 0, .int .u32 0, .int .u32 0] 29))) := hg.below (((Below.refl _ _).alloc (Nat.le_refl _) _).alloc (by simp) _)
  have KS : Hid (Calls Tryd.prog 11 #[.int .i64 3] ((w.alloc (.cells #[.int .u64 rd, .int .u8 a0.toNat, .int .u8 a1.toNat, .int .u8 a2.toNat, .int .u8 a3.toNat, .int .u8 a4.toNat, .int .u8 a5.toNat, .int .u8 a6.toNat, .int .u8 a7.toNat, .int .u8 a8.toNat, .int .u8 a9.toNat, .int .u8 a10.toNat, .int .u8 a11.toNat, .int .u8 a12.toNat, .int .u8 a13.toNat, .int .u8 a14.toNat, .int .u8 a15.toNat, .int .u8 ln, .int .u32 id, .int .u32 lb] 33)).alloc (.cells #[.int .i64 0, .int .u64 0, .string ⟨#[]⟩, .int .i64 0, .int .u32 0, .int .u32 0] 29)) fun e w' => e = .returned (.int .i64 4) ∧ w' = ((w.alloc (.cells #[.int .u64 rd, .int .u8 a0.toNat, .int .u8 a1.toNat, .int .u8 a2.toNat, .int .u8 a3.toNat, .int .u8 a4.toNat, .int .u8 a5.toNat, .int .u8 a6.toNat, .int .u8 a7.toNat, .int .u8 a8.toNat, .int .u8 a9.toNat, .int .u8 a10.toNat, .int .u8 a11.toNat, .int .u8 a12.toNat, .int .u8 a13.toNat, .int .u8 a14.toNat, .int .u8 a15.toNat, .int .u8 ln, .int .u32 id, .int .u32 lb] 33)).alloc (.cells #[.int .i64 0, .int .u64 0, .string ⟨#[]⟩, .int .i64 0, .int .u32 0, .int .u32 0] 29))) := size_any 3 _ hgx.out
  clear hg hr hgx
  cases add with
  | true =>
    have H0 : Hid (MdAt w ((((w.alloc (.cells #[.int .u64 rd, .int .u8 a0.toNat, .int .u8 a1.toNat, .int .u8 a2.toNat, .int .u8 a3.toNat, .int .u8 a4.toNat, .int .u8 a5.toNat, .int .u8 a6.toNat, .int .u8 a7.toNat, .int .u8 a8.toNat, .int .u8 a9.toNat, .int .u8 a10.toNat, .int .u8 a11.toNat, .int .u8 a12.toNat, .int .u8 a13.toNat, .int .u8 a14.toNat, .int .u8 a15.toNat, .int .u8 ln, .int .u32 id, .int .u32 lb] 33)).alloc (.cells #[.int .i64 0, .int .u64 0, .string ⟨#[]⟩, .int .i64 0, .int .u32 0, .int .u32 0] 29)).alloc (.cells #[.int .i64 3, .int .u64 0, .string ⟨#[a0, a1, a2, a3]⟩, .int .i64 32] 26)).alloc (.cells #[.int .i64 0, .int .u64 0, .string ⟨#[]⟩, .int .i64 0, .int .u32 id, .int .u32 (lb % 1048576)] 29)) 3 0 ⟨#[a0, a1, a2, a3]⟩ 32 ln id (lb % 1048576)) := MdAt.start w _ 3 0 ⟨#[a0, a1, a2, a3]⟩ 32 ln id (lb % 1048576) rfl
    go_enter Tryd.func5, Tryd.ntmps5
    go_wp2_with fail
    refine Calls.mono KS.out ?_
    rintro e w1 ⟨rfl, rfl⟩
    go_wp2
    clear hcv KS
    generalize (((w.alloc (.cells #[.int .u64 rd, .int .u8 a0.toNat, .int .u8 a1.toNat, .int .u8 a2.toNat, .int .u8 a3.toNat, .int .u8 a4.toNat, .int .u8 a5.toNat, .int .u8 a6.toNat, .int .u8 a7.toNat, .int .u8 a8.toNat, .int .u8 a9.toNat, .int .u8 a10.toNat, .int .u8 a11.toNat, .int .u8 a12.toNat, .int .u8 a13.toNat, .int .u8 a14.toNat, .int .u8 a15.toNat, .int .u8 ln, .int .u32 id, .int .u32 lb] 33)).alloc (.cells #[.int .i64 0, .int .u64 0, .string ⟨#[]⟩, .int .i64 0, .int .u32 0, .int .u32 0] 29)).alloc (.cells #[.int .i64 3, .int .u64 0, .string ⟨#[a0, a1, a2, a3]⟩, .int .i64 32] 26)).alloc (.cells #[.int .i64 0, .int .u64 0, .string ⟨#[]⟩, .int .i64 0, .int .u32 id, .int .u32 (lb % 1048576)] 29) = wx at *
    have H1 : Hid (MdAt w wx.drew 3 0 ⟨#[a0, a1, a2, a3]⟩ 32 ln id (lb % 1048576)) := H0.out.below (Below.refl _ _).drew
    have c0 : wx.cell? ⟨w.heap.size + 1 + 1, 0, none⟩ = some (.int .i64 3) := H0.out.p0
    have c1 : wx.cell? ⟨w.heap.size + 1 + 1, 1, none⟩ = some (.int .u64 0) := H0.out.p1
    have c2 : wx.cell? ⟨w.heap.size + 1 + 1, 2, none⟩ = some (.string ⟨#[a0, a1, a2, a3]⟩) := H0.out.p2
    have c3 : wx.cell? ⟨w.heap.size + 1 + 1, 3, none⟩ = some (.int .i64 32) := H0.out.p3
    have c4 := H0.out.q
    have KC : Hid (Calls Tryd.prog 12 #[.agg #[.int .i64 3, .int .u64 0, .string ⟨#[a0, a1, a2, a3]⟩, .int .i64 32], .int .i64 (ln % 33)] wx.drew fun e w' => e = .returned (.tuple #[.agg #[.int .i64 3, .int .u64 0, .string ⟨(msk [a0, a1, a2, a3] (ln % 33)).toArray⟩, .int .i64 (ln % 33)], .int .i64 0]) ∧ Below wx.drew.heap.size wx.drew w') :=
      cut_yes 3 0 ⟨#[a0, a1, a2, a3]⟩ 32 (ln % 33) wx.drew (HG.out.below H1.out.bel) (HR.out.below H1.out.bel) (chk_full 3 0 ⟨#[a0, a1, a2, a3]⟩ (by decide) rfl (by first | exact Or.inl rfl | exact Or.inr (by decide))) (by omega) (by omega)
    have x1 : ¬ (w.heap.size + 1 + 1 + 1 = w.heap.size + 1 + 1) := by omega
    have x2 : ¬ (w.heap.size + 1 + 1 = w.heap.size + 1 + 1 + 1) := by omega
    have x3 : ¬ (w.heap.size + 1 + 1 + 1 = w.heap.size) := by omega
    have x4 : ¬ (w.heap.size = w.heap.size + 1 + 1 + 1) := by omega
    have x5 : ¬ (w.heap.size + 1 = w.heap.size + 1 + 1 + 1) := by omega
    have x6 : ¬ (w.heap.size + 1 + 1 + 1 = w.heap.size + 1) := by omega
    generalize e3 : w.heap.size + 1 + 1 + 1 = b3 at *
    generalize e2 : w.heap.size + 1 + 1 = b2 at *
    generalize e1 : w.heap.size + 1 = b1 at *
    generalize e0 : w.heap.size = b0 at *
    have EB3 : Hid (w.heap.size + 3 = b3) := by unfold Hid; omega
    have EB2 : Hid (w.heap.size + 2 = b2) := by unfold Hid; omega
    have EB1 : Hid (w.heap.size + 1 = b1) := by unfold Hid; omega
    have EB0 : Hid (w.heap.size = b0) := by unfold Hid; omega
    clear e0 e1 e2 e3
    go_region_held (fun w' => w'.cell? ⟨b2, 0, none⟩ = some (.int .i64 3) ∧ w'.cell? ⟨b2, 1, none⟩ = some (.int .u64 0) ∧ w'.cell? ⟨b2, 2, none⟩ = some (.string ⟨#[a0, a1, a2, a3]⟩) ∧ w'.cell? ⟨b2, 3, none⟩ = some (.int .i64 32) ∧ w'.cell? ⟨b0, 17, none⟩ = some (.int .u8 ln)) (go_keep)
      (first | (go_at_call 12; refine Calls.mono KC.out ?_; rintro e w2 ⟨rfl, hb2⟩; have h2 := MdAt.below H1.out hb2; have d0 : w2.cell? ⟨b2, 0, none⟩ = some (.int .i64 3) := EB2.out ▸ h2.p0; have d1 : w2.cell? ⟨b2, 1, none⟩ = some (.int .u64 0) := EB2.out ▸ h2.p1; have d2 : w2.cell? ⟨b2, 2, none⟩ = some (.string ⟨#[a0, a1, a2, a3]⟩) := EB2.out ▸ h2.p2; have d3 : w2.cell? ⟨b2, 3, none⟩ = some (.int .i64 32) := EB2.out ▸ h2.p3; have d4 : w2.cell? ⟨b0, 17, none⟩ = some (.int .u8 ln) := EB0.out ▸ h2.q; have n0 : w2.cell? ⟨b3, 0, none⟩ = some (.int .i64 0) := EB3.out ▸ h2.n0; have n1 : w2.cell? ⟨b3, 1, none⟩ = some (.int .u64 0) := EB3.out ▸ h2.n1; have n2 : w2.cell? ⟨b3, 2, none⟩ = some (.string ⟨#[]⟩) := EB3.out ▸ h2.n2; have n3 : w2.cell? ⟨b3, 3, none⟩ = some (.int .i64 0) := EB3.out ▸ h2.n3; have y0 : w2.frozen? ⟨b3, 0, none⟩ = false := EB3.out ▸ h2.nf 0 (by omega); have y1 : w2.frozen? ⟨b3, 1, none⟩ = false := EB3.out ▸ h2.nf 1 (by omega); have y2 : w2.frozen? ⟨b3, 2, none⟩ = false := EB3.out ▸ h2.nf 2 (by omega); have y3 : w2.frozen? ⟨b3, 3, none⟩ = false := EB3.out ▸ h2.nf 3 (by omega)))
    have HB2 : Hid (Below w.heap.size w w2) := h2.bel
    have n4 : w2.cell? ⟨b3, 4, none⟩ = some (.int .u32 id) := EB3.out ▸ h2.n4
    have n5 : w2.cell? ⟨b3, 5, none⟩ = some (.int .u32 (lb % 1048576)) := EB3.out ▸ h2.n5
    have z0 : w2.cell? ⟨b1, 0, none⟩ = some (.int .i64 0) := EB1.out ▸ h2.z0
    have z1 : w2.cell? ⟨b1, 1, none⟩ = some (.int .u64 0) := EB1.out ▸ h2.z1
    have z2 : w2.cell? ⟨b1, 2, none⟩ = some (.string ⟨#[]⟩) := EB1.out ▸ h2.z2
    have z3 : w2.cell? ⟨b1, 3, none⟩ = some (.int .i64 0) := EB1.out ▸ h2.z3
    have z4 : w2.cell? ⟨b1, 4, none⟩ = some (.int .u32 0) := EB1.out ▸ h2.z4
    have z5 : w2.cell? ⟨b1, 5, none⟩ = some (.int .u32 0) := EB1.out ▸ h2.z5
    have u0 : w2.frozen? ⟨b1, 0, none⟩ = false := EB1.out ▸ h2.zf 0 (by omega)
    have u1 : w2.frozen? ⟨b1, 1, none⟩ = false := EB1.out ▸ h2.zf 1 (by omega)
    have u2 : w2.frozen? ⟨b1, 2, none⟩ = false := EB1.out ▸ h2.zf 2 (by omega)
    have u3 : w2.frozen? ⟨b1, 3, none⟩ = false := EB1.out ▸ h2.zf 3 (by omega)
    have u4 : w2.frozen? ⟨b1, 4, none⟩ = false := EB1.out ▸ h2.zf 4 (by omega)
    have u5 : w2.frozen? ⟨b1, 5, none⟩ = false := EB1.out ▸ h2.zf 5 (by omega)
    have L3 : Hid (w.heap.size ≤ b3) := by have := EB3.out; unfold Hid; omega
    have L1 : Hid (w.heap.size ≤ b1) := by have := EB1.out; unfold Hid; omega
    clear h2 hb2 d0 d1 d2 d3 d4 c0 c1 c2 c3 c4 H0 H1 KC
    go_wp2
    refine bodyPost_ret (v := .agg #[.int .i64 3, .int .u64 0, .string ⟨(msk [a0, a1, a2, a3] (ln % 33)).toArray⟩, .int .i64 (ln % 33), .int .u32 id, .int .u32 (lb % 1048576)]) (by simp [results, Tryd.results5, go_sem, z0, z1, z2, z3, z4, z5]) rfl ⟨rfl, ?_⟩
    exact (((((((((HB2.out.setCell L3.out _).setCell L3.out _).setCell L3.out _).setCell L3.out _).setCell L1.out _).setCell L1.out _).setCell L1.out _).setCell L1.out _).setCell L1.out _).setCell L1.out _
  | false =>
    have H0 : Hid (MdAt w ((((w.alloc (.cells #[.int .u64 rd, .int .u8 a0.toNat, .int .u8 a1.toNat, .int .u8 a2.toNat, .int .u8 a3.toNat, .int .u8 a4.toNat, .int .u8 a5.toNat, .int .u8 a6.toNat, .int .u8 a7.toNat, .int .u8 a8.toNat, .int .u8 a9.toNat, .int .u8 a10.toNat, .int .u8 a11.toNat, .int .u8 a12.toNat, .int .u8 a13.toNat, .int .u8 a14.toNat, .int .u8 a15.toNat, .int .u8 ln, .int .u32 id, .int .u32 lb] 33)).alloc (.cells #[.int .i64 0, .int .u64 0, .string ⟨#[]⟩, .int .i64 0, .int .u32 0, .int .u32 0] 29)).alloc (.cells #[.int .i64 3, .int .u64 0, .string ⟨#[a0, a1, a2, a3]⟩, .int .i64 32] 26)).alloc (.cells #[.int .i64 0, .int .u64 0, .string ⟨#[]⟩, .int .i64 0, .int .u32 0, .int .u32 (lb % 1048576)] 29)) 3 0 ⟨#[a0, a1, a2, a3]⟩ 32 ln 0 (lb % 1048576)) := MdAt.start w _ 3 0 ⟨#[a0, a1, a2, a3]⟩ 32 ln 0 (lb % 1048576) rfl
    go_enter Tryd.func5, Tryd.ntmps5
    go_wp2_with fail
    refine Calls.mono KS.out ?_
    rintro e w1 ⟨rfl, rfl⟩
    go_wp2
    clear hcv KS
    generalize (((w.alloc (.cells #[.int .u64 rd, .int .u8 a0.toNat, .int .u8 a1.toNat, .int .u8 a2.toNat, .int .u8 a3.toNat, .int .u8 a4.toNat, .int .u8 a5.toNat, .int .u8 a6.toNat, .int .u8 a7.toNat, .int .u8 a8.toNat, .int .u8 a9.toNat, .int .u8 a10.toNat, .int .u8 a11.toNat, .int .u8 a12.toNat, .int .u8 a13.toNat, .int .u8 a14.toNat, .int .u8 a15.toNat, .int .u8 ln, .int .u32 id, .int .u32 lb] 33)).alloc (.cells #[.int .i64 0, .int .u64 0, .string ⟨#[]⟩, .int .i64 0, .int .u32 0, .int .u32 0] 29)).alloc (.cells #[.int .i64 3, .int .u64 0, .string ⟨#[a0, a1, a2, a3]⟩, .int .i64 32] 26)).alloc (.cells #[.int .i64 0, .int .u64 0, .string ⟨#[]⟩, .int .i64 0, .int .u32 0, .int .u32 (lb % 1048576)] 29) = wx at *
    have H1 : Hid (MdAt w wx.drew 3 0 ⟨#[a0, a1, a2, a3]⟩ 32 ln 0 (lb % 1048576)) := H0.out.below (Below.refl _ _).drew
    have c0 : wx.cell? ⟨w.heap.size + 1 + 1, 0, none⟩ = some (.int .i64 3) := H0.out.p0
    have c1 : wx.cell? ⟨w.heap.size + 1 + 1, 1, none⟩ = some (.int .u64 0) := H0.out.p1
    have c2 : wx.cell? ⟨w.heap.size + 1 + 1, 2, none⟩ = some (.string ⟨#[a0, a1, a2, a3]⟩) := H0.out.p2
    have c3 : wx.cell? ⟨w.heap.size + 1 + 1, 3, none⟩ = some (.int .i64 32) := H0.out.p3
    have c4 := H0.out.q
    have KC : Hid (Calls Tryd.prog 12 #[.agg #[.int .i64 3, .int .u64 0, .string ⟨#[a0, a1, a2, a3]⟩, .int .i64 32], .int .i64 (ln % 33)] wx.drew fun e w' => e = .returned (.tuple #[.agg #[.int .i64 3, .int .u64 0, .string ⟨(msk [a0, a1, a2, a3] (ln % 33)).toArray⟩, .int .i64 (ln % 33)], .int .i64 0]) ∧ Below wx.drew.heap.size wx.drew w') :=
      cut_yes 3 0 ⟨#[a0, a1, a2, a3]⟩ 32 (ln % 33) wx.drew (HG.out.below H1.out.bel) (HR.out.below H1.out.bel) (chk_full 3 0 ⟨#[a0, a1, a2, a3]⟩ (by decide) rfl (by first | exact Or.inl rfl | exact Or.inr (by decide))) (by omega) (by omega)
    have x1 : ¬ (w.heap.size + 1 + 1 + 1 = w.heap.size + 1 + 1) := by omega
    have x2 : ¬ (w.heap.size + 1 + 1 = w.heap.size + 1 + 1 + 1) := by omega
    have x3 : ¬ (w.heap.size + 1 + 1 + 1 = w.heap.size) := by omega
    have x4 : ¬ (w.heap.size = w.heap.size + 1 + 1 + 1) := by omega
    have x5 : ¬ (w.heap.size + 1 = w.heap.size + 1 + 1 + 1) := by omega
    have x6 : ¬ (w.heap.size + 1 + 1 + 1 = w.heap.size + 1) := by omega
    generalize e3 : w.heap.size + 1 + 1 + 1 = b3 at *
    generalize e2 : w.heap.size + 1 + 1 = b2 at *
    generalize e1 : w.heap.size + 1 = b1 at *
    generalize e0 : w.heap.size = b0 at *
    have EB3 : Hid (w.heap.size + 3 = b3) := by unfold Hid; omega
    have EB2 : Hid (w.heap.size + 2 = b2) := by unfold Hid; omega
    have EB1 : Hid (w.heap.size + 1 = b1) := by unfold Hid; omega
    have EB0 : Hid (w.heap.size = b0) := by unfold Hid; omega
    clear e0 e1 e2 e3
    go_region_held (fun w' => w'.cell? ⟨b2, 0, none⟩ = some (.int .i64 3) ∧ w'.cell? ⟨b2, 1, none⟩ = some (.int .u64 0) ∧ w'.cell? ⟨b2, 2, none⟩ = some (.string ⟨#[a0, a1, a2, a3]⟩) ∧ w'.cell? ⟨b2, 3, none⟩ = some (.int .i64 32) ∧ w'.cell? ⟨b0, 17, none⟩ = some (.int .u8 ln)) (go_keep)
      (first | (go_at_call 12; refine Calls.mono KC.out ?_; rintro e w2 ⟨rfl, hb2⟩; have h2 := MdAt.below H1.out hb2; have d0 : w2.cell? ⟨b2, 0, none⟩ = some (.int .i64 3) := EB2.out ▸ h2.p0; have d1 : w2.cell? ⟨b2, 1, none⟩ = some (.int .u64 0) := EB2.out ▸ h2.p1; have d2 : w2.cell? ⟨b2, 2, none⟩ = some (.string ⟨#[a0, a1, a2, a3]⟩) := EB2.out ▸ h2.p2; have d3 : w2.cell? ⟨b2, 3, none⟩ = some (.int .i64 32) := EB2.out ▸ h2.p3; have d4 : w2.cell? ⟨b0, 17, none⟩ = some (.int .u8 ln) := EB0.out ▸ h2.q; have n0 : w2.cell? ⟨b3, 0, none⟩ = some (.int .i64 0) := EB3.out ▸ h2.n0; have n1 : w2.cell? ⟨b3, 1, none⟩ = some (.int .u64 0) := EB3.out ▸ h2.n1; have n2 : w2.cell? ⟨b3, 2, none⟩ = some (.string ⟨#[]⟩) := EB3.out ▸ h2.n2; have n3 : w2.cell? ⟨b3, 3, none⟩ = some (.int .i64 0) := EB3.out ▸ h2.n3; have y0 : w2.frozen? ⟨b3, 0, none⟩ = false := EB3.out ▸ h2.nf 0 (by omega); have y1 : w2.frozen? ⟨b3, 1, none⟩ = false := EB3.out ▸ h2.nf 1 (by omega); have y2 : w2.frozen? ⟨b3, 2, none⟩ = false := EB3.out ▸ h2.nf 2 (by omega); have y3 : w2.frozen? ⟨b3, 3, none⟩ = false := EB3.out ▸ h2.nf 3 (by omega)))
    have HB2 : Hid (Below w.heap.size w w2) := h2.bel
    have n4 : w2.cell? ⟨b3, 4, none⟩ = some (.int .u32 0) := EB3.out ▸ h2.n4
    have n5 : w2.cell? ⟨b3, 5, none⟩ = some (.int .u32 (lb % 1048576)) := EB3.out ▸ h2.n5
    have z0 : w2.cell? ⟨b1, 0, none⟩ = some (.int .i64 0) := EB1.out ▸ h2.z0
    have z1 : w2.cell? ⟨b1, 1, none⟩ = some (.int .u64 0) := EB1.out ▸ h2.z1
    have z2 : w2.cell? ⟨b1, 2, none⟩ = some (.string ⟨#[]⟩) := EB1.out ▸ h2.z2
    have z3 : w2.cell? ⟨b1, 3, none⟩ = some (.int .i64 0) := EB1.out ▸ h2.z3
    have z4 : w2.cell? ⟨b1, 4, none⟩ = some (.int .u32 0) := EB1.out ▸ h2.z4
    have z5 : w2.cell? ⟨b1, 5, none⟩ = some (.int .u32 0) := EB1.out ▸ h2.z5
    have u0 : w2.frozen? ⟨b1, 0, none⟩ = false := EB1.out ▸ h2.zf 0 (by omega)
    have u1 : w2.frozen? ⟨b1, 1, none⟩ = false := EB1.out ▸ h2.zf 1 (by omega)
    have u2 : w2.frozen? ⟨b1, 2, none⟩ = false := EB1.out ▸ h2.zf 2 (by omega)
    have u3 : w2.frozen? ⟨b1, 3, none⟩ = false := EB1.out ▸ h2.zf 3 (by omega)
    have u4 : w2.frozen? ⟨b1, 4, none⟩ = false := EB1.out ▸ h2.zf 4 (by omega)
    have u5 : w2.frozen? ⟨b1, 5, none⟩ = false := EB1.out ▸ h2.zf 5 (by omega)
    have L3 : Hid (w.heap.size ≤ b3) := by have := EB3.out; unfold Hid; omega
    have L1 : Hid (w.heap.size ≤ b1) := by have := EB1.out; unfold Hid; omega
    clear h2 hb2 d0 d1 d2 d3 d4 c0 c1 c2 c3 c4 H0 H1 KC
    go_wp2
    refine bodyPost_ret (v := .agg #[.int .i64 3, .int .u64 0, .string ⟨(msk [a0, a1, a2, a3] (ln % 33)).toArray⟩, .int .i64 (ln % 33), .int .u32 0, .int .u32 (lb % 1048576)]) (by simp [results, Tryd.results5, go_sem, z0, z1, z2, z3, z4, z5]) rfl ⟨rfl, ?_⟩
    exact (((((((((HB2.out.setCell L3.out _).setCell L3.out _).setCell L3.out _).setCell L3.out _).setCell L1.out _).setCell L1.out _).setCell L1.out _).setCell L1.out _).setCell L1.out _).setCell L1.out _
end Go.Proofs.YtfhbgpepkplbaaaDoor
namespace Go.Proofs.YtfhbgpepkplbaaaDoor
open Go.RowKit
set_option maxRecDepth 100000 in
set_option maxHeartbeats 3200000 in
theorem made_4 (rd ln id lb : Int) (a0 a1 a2 a3 a4 a5 a6 a7 a8 a9 a10 a11 a12 a13 a14 a15 : UInt8) (add : Bool) (w : World) (hg : FamSizes w) (hr : FamRds w) (hl0 : 0 ≤ ln) (hl1 : ln ≤ 255) (hb0 : 0 ≤ lb) (hb1 : lb < 4294967296) :
    Calls Tryd.prog 5 #[.agg #[.int .u64 rd, .int .u8 a0.toNat, .int .u8 a1.toNat, .int .u8 a2.toNat, .int .u8 a3.toNat, .int .u8 a4.toNat, .int .u8 a5.toNat, .int .u8 a6.toNat, .int .u8 a7.toNat, .int .u8 a8.toNat, .int .u8 a9.toNat, .int .u8 a10.toNat, .int .u8 a11.toNat, .int .u8 a12.toNat, .int .u8 a13.toNat, .int .u8 a14.toNat, .int .u8 a15.toNat, .int .u8 ln, .int .u32 id, .int .u32 lb], .int .i64 4, .bool add] w fun e w' =>
      e = .returned (.agg #[.int .i64 4, .int .u64 rd, .string ⟨(msk [a0, a1, a2, a3] (ln % 33)).toArray⟩, .int .i64 (ln % 33), .int .u32 (if add then id else 0), .int .u32 (lb % 1048576)]) ∧ Below w.heap.size w w' := by
  have hcv := convA4 w rd ln id lb a0 a1 a2 a3 a4 a5 a6 a7 a8 a9 a10 a11 a12 a13 a14 a15
  have HG : Hid (FamSizes w) := hg
  have HR : Hid (FamRds w) := hr
  have hgx : Hid (FamSizes ((w.alloc (.cells #[.int .u64 rd, .int .u8 a0.toNat, .int .u8 a1.toNat, .int .u8 a2.toNat, .int .u8 a3.toNat, .int .u8 a4.toNat, .int .u8 a5.toNat, .int .u8 a6.toNat, .int .u8 a7.toNat, .int .u8 a8.toNat, .int .u8 a9.toNat, .int .u8 a10.toNat, .int .u8 a11.toNat, .int .u8 a12.toNat, .int .u8 a13.toNat, .int .u8 a14.toNat, .int .u8 a15.toNat, .int .u8 ln, .int .u32 id, .int .u32 lb] 33)).alloc (.cells #[.int .i64 0, .int .u64 0, .string ⟨#[]⟩, .int .i64 0, .int .u32 0, .int .u32 0] 29))) := hg.below (((Below.refl _ _).alloc (Nat.le_refl _) _).alloc (by simp) _)
  have KS : Hid (Calls Tryd.prog 11 #[.int .i64 4] ((w.alloc (.cells #[.int .u64 rd, .int .u8 a0.toNat, .int .u8 a1.toNat, .int .u8 a2.toNat, .int .u8 a3.toNat, .int .u8 a4.toNat, .int .u8 a5.toNat, .int .u8 a6.toNat, .int .u8 a7.toNat, .int .u8 a8.toNat, .int .u8 a9.toNat, .int .u8 a10.toNat, .int .u8 a11.toNat, .int .u8 a12.toNat, .int .u8 a13.toNat, .int .u8 a14.toNat, .int .u8 a15.toNat, .int .u8 ln, .int .u32 id, .int .u32 lb] 33)).alloc (.cells #[.int .i64 0, .int .u64 0, .string ⟨#[]⟩, .int .i64 0, .int .u32 0, .int .u32 0] 29)) fun e w' => e = .returned (.int .i64 4) ∧ w' = ((w.alloc (.cells #[.int .u64 rd, .int .u8 a0.toNat, .int .u8 a1.toNat, .int .u8 a2.toNat, .int .u8 a3.toNat, .int .u8 a4.toNat, .int .u8 a5.toNat, .int .u8 a6.toNat, .int .u8 a7.toNat, .int .u8 a8.toNat, .int .u8 a9.toNat, .int .u8 a10.toNat, .int .u8 a11.toNat, .int .u8 a12.toNat, .int .u8 a13.toNat, .int .u8 a14.toNat, .int .u8 a15.toNat, .int .u8 ln, .int .u32 id, .int .u32 lb] 33)).alloc (.cells #[.int .i64 0, .int .u64 0, .string ⟨#[]⟩, .int .i64 0, .int .u32 0, .int .u32 0] 29))) := size_any 4 _ hgx.out
  clear hg hr hgx
  cases add with
  | true =>
    have H0 : Hid (MdAt w ((((w.alloc (.cells #[.int .u64 rd, .int .u8 a0.toNat, .int .u8 a1.toNat, .int .u8 a2.toNat, .int .u8 a3.toNat, .int .u8 a4.toNat, .int .u8 a5.toNat, .int .u8 a6.toNat, .int .u8 a7.toNat, .int .u8 a8.toNat, .int .u8 a9.toNat, .int .u8 a10.toNat, .int .u8 a11.toNat, .int .u8 a12.toNat, .int .u8 a13.toNat, .int .u8 a14.toNat, .int .u8 a15.toNat, .int .u8 ln, .int .u32 id, .int .u32 lb] 33)).alloc (.cells #[.int .i64 0, .int .u64 0, .string ⟨#[]⟩, .int .i64 0, .int .u32 0, .int .u32 0] 29)).alloc (.cells #[.int .i64 4, .int .u64 rd, .string ⟨#[a0, a1, a2, a3]⟩, .int .i64 32] 26)).alloc (.cells #[.int .i64 0, .int .u64 0, .string ⟨#[]⟩, .int .i64 0, .int .u32 id, .int .u32 (lb % 1048576)] 29)) 4 rd ⟨#[a0, a1, a2, a3]⟩ 32 ln id (lb % 1048576)) := MdAt.start w _ 4 rd ⟨#[a0, a1, a2, a3]⟩ 32 ln id (lb % 1048576) rfl
    go_enter Tryd.func5, Tryd.ntmps5
    go_wp2_with fail
    refine Calls.mono KS.out ?_
    rintro e w1 ⟨rfl, rfl⟩
    go_wp2
    clear hcv KS
    generalize (((w.alloc (.cells #[.int .u64 rd, .int .u8 a0.toNat, .int .u8 a1.toNat, .int .u8 a2.toNat, .int .u8 a3.toNat, .int .u8 a4.toNat, .int .u8 a5.toNat, .int .u8 a6.toNat, .int .u8 a7.toNat, .int .u8 a8.toNat, .int .u8 a9.toNat, .int .u8 a10.toNat, .int .u8 a11.toNat, .int .u8 a12.toNat, .int .u8 a13.toNat, .int .u8 a14.toNat, .int .u8 a15.toNat, .int .u8 ln, .int .u32 id, .int .u32 lb] 33)).alloc (.cells #[.int .i64 0, .int .u64 0, .string ⟨#[]⟩, .int .i64 0, .int .u32 0, .int .u32 0] 29)).alloc (.cells #[.int .i64 4, .int .u64 rd, .string ⟨#[a0, a1, a2, a3]⟩, .int .i64 32] 26)).alloc (.cells #[.int .i64 0, .int .u64 0, .string ⟨#[]⟩, .int .i64 0, .int .u32 id, .int .u32 (lb % 1048576)] 29) = wx at *
    have H1 : Hid (MdAt w wx.drew 4 rd ⟨#[a0, a1, a2, a3]⟩ 32 ln id (lb % 1048576)) := H0.out.below (Below.refl _ _).drew
    have c0 : wx.cell? ⟨w.heap.size + 1 + 1, 0, none⟩ = some (.int .i64 4) := H0.out.p0
    have c1 : wx.cell? ⟨w.heap.size + 1 + 1, 1, none⟩ = some (.int .u64 rd) := H0.out.p1
    have c2 : wx.cell? ⟨w.heap.size + 1 + 1, 2, none⟩ = some (.string ⟨#[a0, a1, a2, a3]⟩) := H0.out.p2
    have c3 : wx.cell? ⟨w.heap.size + 1 + 1, 3, none⟩ = some (.int .i64 32) := H0.out.p3
    have c4 := H0.out.q
    have KC : Hid (Calls Tryd.prog 12 #[.agg #[.int .i64 4, .int .u64 rd, .string ⟨#[a0, a1, a2, a3]⟩, .int .i64 32], .int .i64 (ln % 33)] wx.drew fun e w' => e = .returned (.tuple #[.agg #[.int .i64 4, .int .u64 rd, .string ⟨(msk [a0, a1, a2, a3] (ln % 33)).toArray⟩, .int .i64 (ln % 33)], .int .i64 0]) ∧ Below wx.drew.heap.size wx.drew w') :=
      cut_yes 4 rd ⟨#[a0, a1, a2, a3]⟩ 32 (ln % 33) wx.drew (HG.out.below H1.out.bel) (HR.out.below H1.out.bel) (chk_full 4 rd ⟨#[a0, a1, a2, a3]⟩ (by decide) rfl (by first | exact Or.inl rfl | exact Or.inr (by decide))) (by omega) (by omega)
    have x1 : ¬ (w.heap.size + 1 + 1 + 1 = w.heap.size + 1 + 1) := by omega
    have x2 : ¬ (w.heap.size + 1 + 1 = w.heap.size + 1 + 1 + 1) := by omega
    have x3 : ¬ (w.heap.size + 1 + 1 + 1 = w.heap.size) := by omega
    have x4 : ¬ (w.heap.size = w.heap.size + 1 + 1 + 1) := by omega
    have x5 : ¬ (w.heap.size + 1 = w.heap.size + 1 + 1 + 1) := by omega
    have x6 : ¬ (w.heap.size + 1 + 1 + 1 = w.heap.size + 1) := by omega
    generalize e3 : w.heap.size + 1 + 1 + 1 = b3 at *
    generalize e2 : w.heap.size + 1 + 1 = b2 at *
    generalize e1 : w.heap.size + 1 = b1 at *
    generalize e0 : w.heap.size = b0 at *
    have EB3 : Hid (w.heap.size + 3 = b3) := by unfold Hid; omega
    have EB2 : Hid (w.heap.size + 2 = b2) := by unfold Hid; omega
    have EB1 : Hid (w.heap.size + 1 = b1) := by unfold Hid; omega
    have EB0 : Hid (w.heap.size = b0) := by unfold Hid; omega
    clear e0 e1 e2 e3
    go_region_held (fun w' => w'.cell? ⟨b2, 0, none⟩ = some (.int .i64 4) ∧ w'.cell? ⟨b2, 1, none⟩ = some (.int .u64 rd) ∧ w'.cell? ⟨b2, 2, none⟩ = some (.string ⟨#[a0, a1, a2, a3]⟩) ∧ w'.cell? ⟨b2, 3, none⟩ = some (.int .i64 32) ∧ w'.cell? ⟨b0, 17, none⟩ = some (.int .u8 ln)) (go_keep)
      (first | (go_at_call 12; refine Calls.mono KC.out ?_; rintro e w2 ⟨rfl, hb2⟩; have h2 := MdAt.below H1.out hb2; have d0 : w2.cell? ⟨b2, 0, none⟩ = some (.int .i64 4) := EB2.out ▸ h2.p0; have d1 : w2.cell? ⟨b2, 1, none⟩ = some (.int .u64 rd) := EB2.out ▸ h2.p1; have d2 : w2.cell? ⟨b2, 2, none⟩ = some (.string ⟨#[a0, a1, a2, a3]⟩) := EB2.out ▸ h2.p2; have d3 : w2.cell? ⟨b2, 3, none⟩ = some (.int .i64 32) := EB2.out ▸ h2.p3; have d4 : w2.cell? ⟨b0, 17, none⟩ = some (.int .u8 ln) := EB0.out ▸ h2.q; have n0 : w2.cell? ⟨b3, 0, none⟩ = some (.int .i64 0) := EB3.out ▸ h2.n0; have n1 : w2.cell? ⟨b3, 1, none⟩ = some (.int .u64 0) := EB3.out ▸ h2.n1; have n2 : w2.cell? ⟨b3, 2, none⟩ = some (.string ⟨#[]⟩) := EB3.out ▸ h2.n2; have n3 : w2.cell? ⟨b3, 3, none⟩ = some (.int .i64 0) := EB3.out ▸ h2.n3; have y0 : w2.frozen? ⟨b3, 0, none⟩ = false := EB3.out ▸ h2.nf 0 (by omega); have y1 : w2.frozen? ⟨b3, 1, none⟩ = false := EB3.out ▸ h2.nf 1 (by omega); have y2 : w2.frozen? ⟨b3, 2, none⟩ = false := EB3.out ▸ h2.nf 2 (by omega); have y3 : w2.frozen? ⟨b3, 3, none⟩ = false := EB3.out ▸ h2.nf 3 (by omega)))
    have HB2 : Hid (Below w.heap.size w w2) := h2.bel
    have n4 : w2.cell? ⟨b3, 4, none⟩ = some (.int .u32 id) := EB3.out ▸ h2.n4
    have n5 : w2.cell? ⟨b3, 5, none⟩ = some (.int .u32 (lb % 1048576)) := EB3.out ▸ h2.n5
    have z0 : w2.cell? ⟨b1, 0, none⟩ = some (.int .i64 0) := EB1.out ▸ h2.z0
    have z1 : w2.cell? ⟨b1, 1, none⟩ = some (.int .u64 0) := EB1.out ▸ h2.z1
    have z2 : w2.cell? ⟨b1, 2, none⟩ = some (.string ⟨#[]⟩) := EB1.out ▸ h2.z2
    have z3 : w2.cell? ⟨b1, 3, none⟩ = some (.int .i64 0) := EB1.out ▸ h2.z3
    have z4 : w2.cell? ⟨b1, 4, none⟩ = some (.int .u32 0) := EB1.out ▸ h2.z4
    have z5 : w2.cell? ⟨b1, 5, none⟩ = some (.int .u32 0) := EB1.out ▸ h2.z5
    have u0 : w2.frozen? ⟨b1, 0, none⟩ = false := EB1.out ▸ h2.zf 0 (by omega)
    have u1 : w2.frozen? ⟨b1, 1, none⟩ = false := EB1.out ▸ h2.zf 1 (by omega)
    have u2 : w2.frozen? ⟨b1, 2, none⟩ = false := EB1.out ▸ h2.zf 2 (by omega)
    have u3 : w2.frozen? ⟨b1, 3, none⟩ = false := EB1.out ▸ h2.zf 3 (by omega)
    have u4 : w2.frozen? ⟨b1, 4, none⟩ = false := EB1.out ▸ h2.zf 4 (by omega)
    have u5 : w2.frozen? ⟨b1, 5, none⟩ = false := EB1.out ▸ h2.zf 5 (by omega)
    have L3 : Hid (w.heap.size ≤ b3) := by have := EB3.out; unfold Hid; omega
    have L1 : Hid (w.heap.size ≤ b1) := by have := EB1.out; unfold Hid; omega
    clear h2 hb2 d0 d1 d2 d3 d4 c0 c1 c2 c3 c4 H0 H1 KC
    go_wp2
    refine bodyPost_ret (v := .agg #[.int .i64 4, .int .u64 rd, .string ⟨(msk [a0, a1, a2, a3] (ln % 33)).toArray⟩, .int .i64 (ln % 33), .int .u32 id, .int .u32 (lb % 1048576)]) (by simp [results, Tryd.results5, go_sem, z0, z1, z2, z3, z4, z5]) rfl ⟨rfl, ?_⟩
    exact (((((((((HB2.out.setCell L3.out _).setCell L3.out _).setCell L3.out _).setCell L3.out _).setCell L1.out _).setCell L1.out _).setCell L1.out _).setCell L1.out _).setCell L1.out _).setCell L1.out _
  | false =>
    have H0 : Hid (MdAt w ((((w.alloc (.cells #[.int .u64 rd, .int .u8 a0.toNat, .int .u8 a1.toNat, .int .u8 a2.toNat, .int .u8 a3.toNat, .int .u8 a4.toNat, .int .u8 a5.toNat, .int .u8 a6.toNat, .int .u8 a7.toNat, .int .u8 a8.toNat, .int .u8 a9.toNat, .int .u8 a10.toNat, .int .u8 a11.toNat, .int .u8 a12.toNat, .int .u8 a13.toNat, .int .u8 a14.toNat, .int .u8 a15.toNat, .int .u8 ln, .int .u32 id, .int .u32 lb] 33)).alloc (.cells #[.int .i64 0, .int .u64 0, .string ⟨#[]⟩, .int .i64 0, .int .u32 0, .int .u32 0] 29)).alloc (.cells #[.int .i64 4, .int .u64 rd, .string ⟨#[a0, a1, a2, a3]⟩, .int .i64 32] 26)).alloc (.cells #[.int .i64 0, .int .u64 0, .string ⟨#[]⟩, .int .i64 0, .int .u32 0, .int .u32 (lb % 1048576)] 29)) 4 rd ⟨#[a0, a1, a2, a3]⟩ 32 ln 0 (lb % 1048576)) := MdAt.start w _ 4 rd ⟨#[a0, a1, a2, a3]⟩ 32 ln 0 (lb % 1048576) rfl
    go_enter Tryd.func5, Tryd.ntmps5
    go_wp2_with fail
    refine Calls.mono KS.out ?_
    rintro e w1 ⟨rfl, rfl⟩
    go_wp2
    clear hcv KS
    generalize (((w.alloc (.cells #[.int .u64 rd, .int .u8 a0.toNat, .int .u8 a1.toNat, .int .u8 a2.toNat, .int .u8 a3.toNat, .int .u8 a4.toNat, .int .u8 a5.toNat, .int .u8 a6.toNat, .int .u8 a7.toNat, .int .u8 a8.toNat, .int .u8 a9.toNat, .int .u8 a10.toNat, .int .u8 a11.toNat, .int .u8 a12.toNat, .int .u8 a13.toNat, .int .u8 a14.toNat, .int .u8 a15.toNat, .int .u8 ln, .int .u32 id, .int .u32 lb] 33)).alloc (.cells #[.int .i64 0, .int .u64 0, .string ⟨#[]⟩, .int .i64 0, .int .u32 0, .int .u32 0] 29)).alloc (.cells #[.int .i64 4, .int .u64 rd, .string ⟨#[a0, a1, a2, a3]⟩, .int .i64 32] 26)).alloc (.cells #[.int .i64 0, .int .u64 0, .string ⟨#[]⟩, .int .i64 0, .int .u32 0, .int .u32 (lb % 1048576)] 29) = wx at *
    have H1 : Hid (MdAt w wx.drew 4 rd ⟨#[a0, a1, a2, a3]⟩ 32 ln 0 (lb % 1048576)) := H0.out.below (Below.refl _ _).drew
    have c0 : wx.cell? ⟨w.heap.size + 1 + 1, 0, none⟩ = some (.int .i64 4) := H0.out.p0
    have c1 : wx.cell? ⟨w.heap.size + 1 + 1, 1, none⟩ = some (.int .u64 rd) := H0.out.p1
    have c2 : wx.cell? ⟨w.heap.size + 1 + 1, 2, none⟩ = some (.string ⟨#[a0, a1, a2, a3]⟩) := H0.out.p2
    have c3 : wx.cell? ⟨w.heap.size + 1 + 1, 3, none⟩ = some (.int .i64 32) := H0.out.p3
    have c4 := H0.out.q
    have KC : Hid (Calls Tryd.prog 12 #[.agg #[.int .i64 4, .int .u64 rd, .string ⟨#[a0, a1, a2, a3]⟩, .int .i64 32], .int .i64 (ln % 33)] wx.drew fun e w' => e = .returned (.tuple #[.agg #[.int .i64 4, .int .u64 rd, .string ⟨(msk [a0, a1, a2, a3] (ln % 33)).toArray⟩, .int .i64 (ln % 33)], .int .i64 0]) ∧ Below wx.drew.heap.size wx.drew w') :=
      cut_yes 4 rd ⟨#[a0, a1, a2, a3]⟩ 32 (ln % 33) wx.drew (HG.out.below H1.out.bel) (HR.out.below H1.out.bel) (chk_full 4 rd ⟨#[a0, a1, a2, a3]⟩ (by decide) rfl (by first | exact Or.inl rfl | exact Or.inr (by decide))) (by omega) (by omega)
    have x1 : ¬ (w.heap.size + 1 + 1 + 1 = w.heap.size + 1 + 1) := by omega
    have x2 : ¬ (w.heap.size + 1 + 1 = w.heap.size + 1 + 1 + 1) := by omega
    have x3 : ¬ (w.heap.size + 1 + 1 + 1 = w.heap.size) := by omega
    have x4 : ¬ (w.heap.size = w.heap.size + 1 + 1 + 1) := by omega
    have x5 : ¬ (w.heap.size + 1 = w.heap.size + 1 + 1 + 1) := by omega
    have x6 : ¬ (w.heap.size + 1 + 1 + 1 = w.heap.size + 1) := by omega
    generalize e3 : w.heap.size + 1 + 1 + 1 = b3 at *
    generalize e2 : w.heap.size + 1 + 1 = b2 at *
    generalize e1 : w.heap.size + 1 = b1 at *
    generalize e0 : w.heap.size = b0 at *
    have EB3 : Hid (w.heap.size + 3 = b3) := by unfold Hid; omega
    have EB2 : Hid (w.heap.size + 2 = b2) := by unfold Hid; omega
    have EB1 : Hid (w.heap.size + 1 = b1) := by unfold Hid; omega
    have EB0 : Hid (w.heap.size = b0) := by unfold Hid; omega
    clear e0 e1 e2 e3
    go_region_held (fun w' => w'.cell? ⟨b2, 0, none⟩ = some (.int .i64 4) ∧ w'.cell? ⟨b2, 1, none⟩ = some (.int .u64 rd) ∧ w'.cell? ⟨b2, 2, none⟩ = some (.string ⟨#[a0, a1, a2, a3]⟩) ∧ w'.cell? ⟨b2, 3, none⟩ = some (.int .i64 32) ∧ w'.cell? ⟨b0, 17, none⟩ = some (.int .u8 ln)) (go_keep)
      (first | (go_at_call 12; refine Calls.mono KC.out ?_; rintro e w2 ⟨rfl, hb2⟩; have h2 := MdAt.below H1.out hb2; have d0 : w2.cell? ⟨b2, 0, none⟩ = some (.int .i64 4) := EB2.out ▸ h2.p0; have d1 : w2.cell? ⟨b2, 1, none⟩ = some (.int .u64 rd) := EB2.out ▸ h2.p1; have d2 : w2.cell? ⟨b2, 2, none⟩ = some (.string ⟨#[a0, a1, a2, a3]⟩) := EB2.out ▸ h2.p2; have d3 : w2.cell? ⟨b2, 3, none⟩ = some (.int .i64 32) := EB2.out ▸ h2.p3; have d4 : w2.cell? ⟨b0, 17, none⟩ = some (.int .u8 ln) := EB0.out ▸ h2.q; have n0 : w2.cell? ⟨b3, 0, none⟩ = some (.int .i64 0) := EB3.out ▸ h2.n0; have n1 : w2.cell? ⟨b3, 1, none⟩ = some (.int .u64 0) := EB3.out ▸ h2.n1; have n2 : w2.cell? ⟨b3, 2, none⟩ = some (.string ⟨#[]⟩) := EB3.out ▸ h2.n2; have n3 : w2.cell? ⟨b3, 3, none⟩ = some (.int .i64 0) := EB3.out ▸ h2.n3; have y0 : w2.frozen? ⟨b3, 0, none⟩ = false := EB3.out ▸ h2.nf 0 (by omega); have y1 : w2.frozen? ⟨b3, 1, none⟩ = false := EB3.out ▸ h2.nf 1 (by omega); have y2 : w2.frozen? ⟨b3, 2, none⟩ = false := EB3.out ▸ h2.nf 2 (by omega); have y3 : w2.frozen? ⟨b3, 3, none⟩ = false := EB3.out ▸ h2.nf 3 (by omega)))
    have HB2 : Hid (Below w.heap.size w w2) := h2.bel
    have n4 : w2.cell? ⟨b3, 4, none⟩ = some (.int .u32 0) := EB3.out ▸ h2.n4
    have n5 : w2.cell? ⟨b3, 5, none⟩ = some (.int .u32 (lb % 1048576)) := EB3.out ▸ h2.n5
    have z0 : w2.cell? ⟨b1, 0, none⟩ = some (.int .i64 0) := EB1.out ▸ h2.z0
    have z1 : w2.cell? ⟨b1, 1, none⟩ = some (.int .u64 0) := EB1.out ▸ h2.z1
    have z2 : w2.cell? ⟨b1, 2, none⟩ = some (.string ⟨#[]⟩) := EB1.out ▸ h2.z2
    have z3 : w2.cell? ⟨b1, 3, none⟩ = some (.int .i64 0) := EB1.out ▸ h2.z3
    have z4 : w2.cell? ⟨b1, 4, none⟩ = some (.int .u32 0) := EB1.out ▸ h2.z4
    have z5 : w2.cell? ⟨b1, 5, none⟩ = some (.int .u32 0) := EB1.out ▸ h2.z5
    have u0 : w2.frozen? ⟨b1, 0, none⟩ = false := EB1.out ▸ h2.zf 0 (by omega)
    have u1 : w2.frozen? ⟨b1, 1, none⟩ = false := EB1.out ▸ h2.zf 1 (by omega)
    have u2 : w2.frozen? ⟨b1, 2, none⟩ = false := EB1.out ▸ h2.zf 2 (by omega)
    have u3 : w2.frozen? ⟨b1, 3, none⟩ = false := EB1.out ▸ h2.zf 3 (by omega)
    have u4 : w2.frozen? ⟨b1, 4, none⟩ = false := EB1.out ▸ h2.zf 4 (by omega)
    have u5 : w2.frozen? ⟨b1, 5, none⟩ = false := EB1.out ▸ h2.zf 5 (by omega)
    have L3 : Hid (w.heap.size ≤ b3) := by have := EB3.out; unfold Hid; omega
    have L1 : Hid (w.heap.size ≤ b1) := by have := EB1.out; unfold Hid; omega
    clear h2 hb2 d0 d1 d2 d3 d4 c0 c1 c2 c3 c4 H0 H1 KC
    go_wp2
    refine bodyPost_ret (v := .agg #[.int .i64 4, .int .u64 rd, .string ⟨(msk [a0, a1, a2, a3] (ln % 33)).toArray⟩, .int .i64 (ln % 33), .int .u32 0, .int .u32 (lb % 1048576)]) (by simp [results, Tryd.results5, go_sem, z0, z1, z2, z3, z4, z5]) rfl ⟨rfl, ?_⟩
    exact (((((((((HB2.out.setCell L3.out _).setCell L3.out _).setCell L3.out _).setCell L3.out _).setCell L1.out _).setCell L1.out _).setCell L1.out _).setCell L1.out _).setCell L1.out _).setCell L1.out _
end Go.Proofs.YtfhbgpepkplbaaaDoor
namespace Go.Proofs.YtfhbgpepkplbaaaDoor
open Go.RowKit
set_option maxRecDepth 100000 in
set_option maxHeartbeats 3200000 in
theorem made_5 (rd ln id lb : Int) (a0 a1 a2 a3 a4 a5 a6 a7 a8 a9 a10 a11 a12 a13 a14 a15 : UInt8) (add : Bool) (w : World) (hg : FamSizes w) (hr : FamRds w) (hl0 : 0 ≤ ln) (hl1 : ln ≤ 255) (hb0 : 0 ≤ lb) (hb1 : lb < 4294967296) :
    Calls Tryd.prog 5 #[.agg #[.int .u64 rd, .int .u8 a0.toNat, .int .u8 a1.toNat, .int .u8 a2.toNat, .int .u8 a3.toNat, .int .u8 a4.toNat, .int .u8 a5.toNat, .int .u8 a6.toNat, .int .u8 a7.toNat, .int .u8 a8.toNat, .int .u8 a9.toNat, .int .u8 a10.toNat, .int .u8 a11.toNat, .int .u8 a12.toNat, .int .u8 a13.toNat, .int .u8 a14.toNat, .int .u8 a15.toNat, .int .u8 ln, .int .u32 id, .int .u32 lb], .int .i64 5, .bool add] w fun e w' =>
      e = .returned (.agg #[.int .i64 5, .int .u64 rd, .string ⟨(msk [a0, a1, a2, a3, a4, a5, a6, a7, a8, a9, a10, a11, a12, a13, a14, a15] (ln % 129)).toArray⟩, .int .i64 (ln % 129), .int .u32 (if add then id else 0), .int .u32 (lb % 1048576)]) ∧ Below w.heap.size w w' := by
  have hcv := convA16 w rd ln id lb a0 a1 a2 a3 a4 a5 a6 a7 a8 a9 a10 a11 a12 a13 a14 a15
  have HG : Hid (FamSizes w) := hg
  have HR : Hid (FamRds w) := hr
  have hgx : Hid (FamSizes ((w.alloc (.cells #[.int .u64 rd, .int .u8 a0.toNat, .int .u8 a1.toNat, .int .u8 a2.toNat, .int .u8 a3.toNat, .int .u8 a4.toNat, .int .u8 a5.toNat, .int .u8 a6.toNat, .int .u8 a7.toNat, .int .u8 a8.toNat, .int .u8 a9.toNat, .int .u8 a10.toNat, .int .u8 a11.toNat, .int .u8 a12.toNat, .int .u8 a13.toNat, .int .u8 a14.toNat, .int .u8 a15.toNat, .int .u8 ln, .int .u32 id, .int .u32 lb] 33)).alloc (.cells #[.int .i64 0, .int .u64 0, .string ⟨#[]⟩, .int .i64 0, .int .u32 0, .int .u32 0] 29))) := hg.below (((Below.refl _ _).alloc (Nat.le_refl _) _).alloc (by simp) _)
  have KS : Hid (Calls Tryd.prog 11 #[.int .i64 5] ((w.alloc (.cells #[.int .u64 rd, .int .u8 a0.toNat, .int .u8 a1.toNat, .int .u8 a2.toNat, .int .u8 a3.toNat, .int .u8 a4.toNat, .int .u8 a5.toNat, .int .u8 a6.toNat, .int .u8 a7.toNat, .int .u8 a8.toNat, .int .u8 a9.toNat, .int .u8 a10.toNat, .int .u8 a11.toNat, .int .u8 a12.toNat, .int .u8 a13.toNat, .int .u8 a14.toNat, .int .u8 a15.toNat, .int .u8 ln, .int .u32 id, .int .u32 lb] 33)).alloc (.cells #[.int .i64 0, .int .u64 0, .string ⟨#[]⟩, .int .i64 0, .int .u32 0, .int .u32 0] 29)) fun e w' => e = .returned (.int .i64 16) ∧ w' = ((w.alloc (.cells #[.int .u64 rd, .int .u8 a0.toNat, .int .u8 a1.toNat, .int .u8 a2.toNat, .int .u8 a3.toNat, .int .u8 a4.toNat, .int .u8 a5.toNat, .int .u8 a6.toNat, .int .u8 a7.toNat, .int .u8 a8.toNat, .int .u8 a9.toNat, .int .u8 a10.toNat, .int .u8 a11.toNat, .int .u8 a12.toNat, .int .u8 a13.toNat, .int .u8 a14.toNat, .int .u8 a15.toNat, .int .u8 ln, .int .u32 id, .int .u32 lb] 33)).alloc (.cells #[.int .i64 0, .int .u64 0, .string ⟨#[]⟩, .int .i64 0, .int .u32 0, .int .u32 0] 29))) := size_any 5 _ hgx.out
  clear hg hr hgx
  cases add with
  | true =>
    have H0 : Hid (MdAt w ((((w.alloc (.cells #[.int .u64 rd, .int .u8 a0.toNat, .int .u8 a1.toNat, .int .u8 a2.toNat, .int .u8 a3.toNat, .int .u8 a4.toNat, .int .u8 a5.toNat, .int .u8 a6.toNat, .int .u8 a7.toNat, .int .u8 a8.toNat, .int .u8 a9.toNat, .int .u8 a10.toNat, .int .u8 a11.toNat, .int .u8 a12.toNat, .int .u8 a13.toNat, .int .u8 a14.toNat, .int .u8 a15.toNat, .int .u8 ln, .int .u32 id, .int .u32 lb] 33)).alloc (.cells #[.int .i64 0, .int .u64 0, .string ⟨#[]⟩, .int .i64 0, .int .u32 0, .int .u32 0] 29)).alloc (.cells #[.int .i64 5, .int .u64 rd, .string ⟨#[a0, a1, a2, a3, a4, a5, a6, a7, a8, a9, a10, a11, a12, a13, a14, a15]⟩, .int .i64 128] 26)).alloc (.cells #[.int .i64 0, .int .u64 0, .string ⟨#[]⟩, .int .i64 0, .int .u32 id, .int .u32 (lb % 1048576)] 29)) 5 rd ⟨#[a0, a1, a2, a3, a4, a5, a6, a7, a8, a9, a10, a11, a12, a13, a14, a15]⟩ 128 ln id (lb % 1048576)) := MdAt.start w _ 5 rd ⟨#[a0, a1, a2, a3, a4, a5, a6, a7, a8, a9, a10, a11, a12, a13, a14, a15]⟩ 128 ln id (lb % 1048576) rfl
    go_enter Tryd.func5, Tryd.ntmps5
    go_wp2_with fail
    refine Calls.mono KS.out ?_
    rintro e w1 ⟨rfl, rfl⟩
    go_wp2
    clear hcv KS
    generalize (((w.alloc (.cells #[.int .u64 rd, .int .u8 a0.toNat, .int .u8 a1.toNat, .int .u8 a2.toNat, .int .u8 a3.toNat, .int .u8 a4.toNat, .int .u8 a5.toNat, .int .u8 a6.toNat, .int .u8 a7.toNat, .int .u8 a8.toNat, .int .u8 a9.toNat, .int .u8 a10.toNat, .int .u8 a11.toNat, .int .u8 a12.toNat, .int .u8 a13.toNat, .int .u8 a14.toNat, .int .u8 a15.toNat, .int .u8 ln, .int .u32 id, .int .u32 lb] 33)).alloc (.cells #[.int .i64 0, .int .u64 0, .string ⟨#[]⟩, .int .i64 0, .int .u32 0, .int .u32 0] 29)).alloc (.cells #[.int .i64 5, .int .u64 rd, .string ⟨#[a0, a1, a2, a3, a4, a5, a6, a7, a8, a9, a10, a11, a12, a13, a14, a15]⟩, .int .i64 128] 26)).alloc (.cells #[.int .i64 0, .int .u64 0, .string ⟨#[]⟩, .int .i64 0, .int .u32 id, .int .u32 (lb % 1048576)] 29) = wx at *
    have H1 : Hid (MdAt w wx.drew 5 rd ⟨#[a0, a1, a2, a3, a4, a5, a6, a7, a8, a9, a10, a11, a12, a13, a14, a15]⟩ 128 ln id (lb % 1048576)) := H0.out.below (Below.refl _ _).drew
    have c0 : wx.cell? ⟨w.heap.size + 1 + 1, 0, none⟩ = some (.int .i64 5) := H0.out.p0
    have c1 : wx.cell? ⟨w.heap.size + 1 + 1, 1, none⟩ = some (.int .u64 rd) := H0.out.p1
    have c2 : wx.cell? ⟨w.heap.size + 1 + 1, 2, none⟩ = some (.string ⟨#[a0, a1, a2, a3, a4, a5, a6, a7, a8, a9, a10, a11, a12, a13, a14, a15]⟩) := H0.out.p2
    have c3 : wx.cell? ⟨w.heap.size + 1 + 1, 3, none⟩ = some (.int .i64 128) := H0.out.p3
    have c4 := H0.out.q
    have KC : Hid (Calls Tryd.prog 12 #[.agg #[.int .i64 5, .int .u64 rd, .string ⟨#[a0, a1, a2, a3, a4, a5, a6, a7, a8, a9, a10, a11, a12, a13, a14, a15]⟩, .int .i64 128], .int .i64 (ln % 129)] wx.drew fun e w' => e = .returned (.tuple #[.agg #[.int .i64 5, .int .u64 rd, .string ⟨(msk [a0, a1, a2, a3, a4, a5, a6, a7, a8, a9, a10, a11, a12, a13, a14, a15] (ln % 129)).toArray⟩, .int .i64 (ln % 129)], .int .i64 0]) ∧ Below wx.drew.heap.size wx.drew w') :=
      cut_yes 5 rd ⟨#[a0, a1, a2, a3, a4, a5, a6, a7, a8, a9, a10, a11, a12, a13, a14, a15]⟩ 128 (ln % 129) wx.drew (HG.out.below H1.out.bel) (HR.out.below H1.out.bel) (chk_full 5 rd ⟨#[a0, a1, a2, a3, a4, a5, a6, a7, a8, a9, a10, a11, a12, a13, a14, a15]⟩ (by decide) rfl (by first | exact Or.inl rfl | exact Or.inr (by decide))) (by omega) (by omega)
    have x1 : ¬ (w.heap.size + 1 + 1 + 1 = w.heap.size + 1 + 1) := by omega
    have x2 : ¬ (w.heap.size + 1 + 1 = w.heap.size + 1 + 1 + 1) := by omega
    have x3 : ¬ (w.heap.size + 1 + 1 + 1 = w.heap.size) := by omega
    have x4 : ¬ (w.heap.size = w.heap.size + 1 + 1 + 1) := by omega
    have x5 : ¬ (w.heap.size + 1 = w.heap.size + 1 + 1 + 1) := by omega
    have x6 : ¬ (w.heap.size + 1 + 1 + 1 = w.heap.size + 1) := by omega
    generalize e3 : w.heap.size + 1 + 1 + 1 = b3 at *
    generalize e2 : w.heap.size + 1 + 1 = b2 at *
    generalize e1 : w.heap.size + 1 = b1 at *
    generalize e0 : w.heap.size = b0 at *
    have EB3 : Hid (w.heap.size + 3 = b3) := by unfold Hid; omega
    have EB2 : Hid (w.heap.size + 2 = b2) := by unfold Hid; omega
    have EB1 : Hid (w.heap.size + 1 = b1) := by unfold Hid; omega
    have EB0 : Hid (w.heap.size = b0) := by unfold Hid; omega
    clear e0 e1 e2 e3
    go_region_held (fun w' => w'.cell? ⟨b2, 0, none⟩ = some (.int .i64 5) ∧ w'.cell? ⟨b2, 1, none⟩ = some (.int .u64 rd) ∧ w'.cell? ⟨b2, 2, none⟩ = some (.string ⟨#[a0, a1, a2, a3, a4, a5, a6, a7, a8, a9, a10, a11, a12, a13, a14, a15]⟩) ∧ w'.cell? ⟨b2, 3, none⟩ = some (.int .i64 128) ∧ w'.cell? ⟨b0, 17, none⟩ = some (.int .u8 ln)) (go_keep)
      (first | (go_at_call 12; refine Calls.mono KC.out ?_; rintro e w2 ⟨rfl, hb2⟩; have h2 := MdAt.below H1.out hb2; have d0 : w2.cell? ⟨b2, 0, none⟩ = some (.int .i64 5) := EB2.out ▸ h2.p0; have d1 : w2.cell? ⟨b2, 1, none⟩ = some (.int .u64 rd) := EB2.out ▸ h2.p1; have d2 : w2.cell? ⟨b2, 2, none⟩ = some (.string ⟨#[a0, a1, a2, a3, a4, a5, a6, a7, a8, a9, a10, a11, a12, a13, a14, a15]⟩) := EB2.out ▸ h2.p2; have d3 : w2.cell? ⟨b2, 3, none⟩ = some (.int .i64 128) := EB2.out ▸ h2.p3; have d4 : w2.cell? ⟨b0, 17, none⟩ = some (.int .u8 ln) := EB0.out ▸ h2.q; have n0 : w2.cell? ⟨b3, 0, none⟩ = some (.int .i64 0) := EB3.out ▸ h2.n0; have n1 : w2.cell? ⟨b3, 1, none⟩ = some (.int .u64 0) := EB3.out ▸ h2.n1; have n2 : w2.cell? ⟨b3, 2, none⟩ = some (.string ⟨#[]⟩) := EB3.out ▸ h2.n2; have n3 : w2.cell? ⟨b3, 3, none⟩ = some (.int .i64 0) := EB3.out ▸ h2.n3; have y0 : w2.frozen? ⟨b3, 0, none⟩ = false := EB3.out ▸ h2.nf 0 (by omega); have y1 : w2.frozen? ⟨b3, 1, none⟩ = false := EB3.out ▸ h2.nf 1 (by omega); have y2 : w2.frozen? ⟨b3, 2, none⟩ = false := EB3.out ▸ h2.nf 2 (by omega); have y3 : w2.frozen? ⟨b3, 3, none⟩ = false := EB3.out ▸ h2.nf 3 (by omega)))
    have HB2 : Hid (Below w.heap.size w w2) := h2.bel
    have n4 : w2.cell? ⟨b3, 4, none⟩ = some (.int .u32 id) := EB3.out ▸ h2.n4
    have n5 : w2.cell? ⟨b3, 5, none⟩ = some (.int .u32 (lb % 1048576)) := EB3.out ▸ h2.n5
    have z0 : w2.cell? ⟨b1, 0, none⟩ = some (.int .i64 0) := EB1.out ▸ h2.z0
    have z1 : w2.cell? ⟨b1, 1, none⟩ = some (.int .u64 0) := EB1.out ▸ h2.z1
    have z2 : w2.cell? ⟨b1, 2, none⟩ = some (.string ⟨#[]⟩) := EB1.out ▸ h2.z2
    have z3 : w2.cell? ⟨b1, 3, none⟩ = some (.int .i64 0) := EB1.out ▸ h2.z3
    have z4 : w2.cell? ⟨b1, 4, none⟩ = some (.int .u32 0) := EB1.out ▸ h2.z4
    have z5 : w2.cell? ⟨b1, 5, none⟩ = some (.int .u32 0) := EB1.out ▸ h2.z5
    have u0 : w2.frozen? ⟨b1, 0, none⟩ = false := EB1.out ▸ h2.zf 0 (by omega)
    have u1 : w2.frozen? ⟨b1, 1, none⟩ = false := EB1.out ▸ h2.zf 1 (by omega)
    have u2 : w2.frozen? ⟨b1, 2, none⟩ = false := EB1.out ▸ h2.zf 2 (by omega)
    have u3 : w2.frozen? ⟨b1, 3, none⟩ = false := EB1.out ▸ h2.zf 3 (by omega)
    have u4 : w2.frozen? ⟨b1, 4, none⟩ = false := EB1.out ▸ h2.zf 4 (by omega)
    have u5 : w2.frozen? ⟨b1, 5, none⟩ = false := EB1.out ▸ h2.zf 5 (by omega)
    have L3 : Hid (w.heap.size ≤ b3) := by have := EB3.out; unfold Hid; omega
    have L1 : Hid (w.heap.size ≤ b1) := by have := EB1.out; unfold Hid; omega
    clear h2 hb2 d0 d1 d2 d3 d4 c0 c1 c2 c3 c4 H0 H1 KC
    go_wp2
    refine bodyPost_ret (v := .agg #[.int .i64 5, .int .u64 rd, .string ⟨(msk [a0, a1, a2, a3, a4, a5, a6, a7, a8, a9, a10, a11, a12, a13, a14, a15] (ln % 129)).toArray⟩, .int .i64 (ln % 129), .int .u32 id, .int .u32 (lb % 1048576)]) (by simp [results, Tryd.results5, go_sem, z0, z1, z2, z3, z4, z5]) rfl ⟨rfl, ?_⟩
    exact (((((((((HB2.out.setCell L3.out _).setCell L3.out _).setCell L3.out _).setCell L3.out _).setCell L1.out _).setCell L1.out _).setCell L1.out _).setCell L1.out _).setCell L1.out _).setCell L1.out _
  | false =>
    have H0 : Hid (MdAt w ((((w.alloc (.cells #[.int .u64 rd, .int .u8 a0.toNat, .int .u8 a1.toNat, .int .u8 a2.toNat, .int .u8 a3.toNat, .int .u8 a4.toNat, .int .u8 a5.toNat, .int .u8 a6.toNat, .int .u8 a7.toNat, .int .u8 a8.toNat, .int .u8 a9.toNat, .int .u8 a10.toNat, .int .u8 a11.toNat, .int .u8 a12.toNat, .int .u8 a13.toNat, .int .u8 a14.toNat, .int .u8 a15.toNat, .int .u8 ln, .int .u32 id, .int .u32 lb] 33)).alloc (.cells #[.int .i64 0, .int .u64 0, .string ⟨#[]⟩, .int .i64 0, .int .u32 0, .int .u32 0] 29)).alloc (.cells #[.int .i64 5, .int .u64 rd, .string ⟨#[a0, a1, a2, a3, a4, a5, a6, a7, a8, a9, a10, a11, a12, a13, a14, a15]⟩, .int .i64 128] 26)).alloc (.cells #[.int .i64 0, .int .u64 0, .string ⟨#[]⟩, .int .i64 0, .int .u32 0, .int .u32 (lb % 1048576)] 29)) 5 rd ⟨#[a0, a1, a2, a3, a4, a5, a6, a7, a8, a9, a10, a11, a12, a13, a14, a15]⟩ 128 ln 0 (lb % 1048576)) := MdAt.start w _ 5 rd ⟨#[a0, a1, a2, a3, a4, a5, a6, a7, a8, a9, a10, a11, a12, a13, a14, a15]⟩ 128 ln 0 (lb % 1048576) rfl
    go_enter Tryd.func5, Tryd.ntmps5
    go_wp2_with fail
    refine Calls.mono KS.out ?_
    rintro e w1 ⟨rfl, rfl⟩
    go_wp2
    clear hcv KS
    generalize (((w.alloc (.cells #[.int .u64 rd, .int .u8 a0.toNat, .int .u8 a1.toNat, .int .u8 a2.toNat, .int .u8 a3.toNat, .int .u8 a4.toNat, .int .u8 a5.toNat, .int .u8 a6.toNat, .int .u8 a7.toNat, .int .u8 a8.toNat, .int .u8 a9.toNat, .int .u8 a10.toNat, .int .u8 a11.toNat, .int .u8 a12.toNat, .int .u8 a13.toNat, .int .u8 a14.toNat, .int .u8 a15.toNat, .int .u8 ln, .int .u32 id, .int .u32 lb] 33)).alloc (.cells #[.int .i64 0, .int .u64 0, .string ⟨#[]⟩, .int .i64 0, .int .u32 0, .int .u32 0] 29)).alloc (.cells #[.int .i64 5, .int .u64 rd, .string ⟨#[a0, a1, a2, a3, a4, a5, a6, a7, a8, a9, a10, a11, a12, a13, a14, a15]⟩, .int .i64 128] 26)).alloc (.cells #[.int .i64 0, .int .u64 0, .string ⟨#[]⟩, .int .i64 0, .int .u32 0, .int .u32 (lb % 1048576)] 29) = wx at *
    have H1 : Hid (MdAt w wx.drew 5 rd ⟨#[a0, a1, a2, a3, a4, a5, a6, a7, a8, a9, a10, a11, a12, a13, a14, a15]⟩ 128 ln 0 (lb % 1048576)) := H0.out.below (Below.refl _ _).drew
    have c0 : wx.cell? ⟨w.heap.size + 1 + 1, 0, none⟩ = some (.int .i64 5) := H0.out.p0
    have c1 : wx.cell? ⟨w.heap.size + 1 + 1, 1, none⟩ = some (.int .u64 rd) := H0.out.p1
    have c2 : wx.cell? ⟨w.heap.size + 1 + 1, 2, none⟩ = some (.string ⟨#[a0, a1, a2, a3, a4, a5, a6, a7, a8, a9, a10, a11, a12, a13, a14, a15]⟩) := H0.out.p2
    have c3 : wx.cell? ⟨w.heap.size + 1 + 1, 3, none⟩ = some (.int .i64 128) := H0.out.p3
    have c4 := H0.out.q
    have KC : Hid (Calls Tryd.prog 12 #[.agg #[.int .i64 5, .int .u64 rd, .string ⟨#[a0, a1, a2, a3, a4, a5, a6, a7, a8, a9, a10, a11, a12, a13, a14, a15]⟩, .int .i64 128], .int .i64 (ln % 129)] wx.drew fun e w' => e = .returned (.tuple #[.agg #[.int .i64 5, .int .u64 rd, .string ⟨(msk [a0, a1, a2, a3, a4, a5, a6, a7, a8, a9, a10, a11, a12, a13, a14, a15] (ln % 129)).toArray⟩, .int .i64 (ln % 129)], .int .i64 0]) ∧ Below wx.drew.heap.size wx.drew w') :=
      cut_yes 5 rd ⟨#[a0, a1, a2, a3, a4, a5, a6, a7, a8, a9, a10, a11, a12, a13, a14, a15]⟩ 128 (ln % 129) wx.drew (HG.out.below H1.out.bel) (HR.out.below H1.out.bel) (chk_full 5 rd ⟨#[a0, a1, a2, a3, a4, a5, a6, a7, a8, a9, a10, a11, a12, a13, a14, a15]⟩ (by decide) rfl (by first | exact Or.inl rfl | exact Or.inr (by decide))) (by omega) (by omega)
    have x1 : ¬ (w.heap.size + 1 + 1 + 1 = w.heap.size + 1 + 1) := by omega
    have x2 : ¬ (w.heap.size + 1 + 1 = w.heap.size + 1 + 1 + 1) := by omega
    have x3 : ¬ (w.heap.size + 1 + 1 + 1 = w.heap.size) := by omega
    have x4 : ¬ (w.heap.size = w.heap.size + 1 + 1 + 1) := by omega
    have x5 : ¬ (w.heap.size + 1 = w.heap.size + 1 + 1 + 1) := by omega
    have x6 : ¬ (w.heap.size + 1 + 1 + 1 = w.heap.size + 1) := by omega
    generalize e3 : w.heap.size + 1 + 1 + 1 = b3 at *
    generalize e2 : w.heap.size + 1 + 1 = b2 at *
    generalize e1 : w.heap.size + 1 = b1 at *
    generalize e0 : w.heap.size = b0 at *
    have EB3 : Hid (w.heap.size + 3 = b3) := by unfold Hid; omega
    have EB2 : Hid (w.heap.size + 2 = b2) := by unfold Hid; omega
    have EB1 : Hid (w.heap.size + 1 = b1) := by unfold Hid; omega
    have EB0 : Hid (w.heap.size = b0) := by unfold Hid; omega
    clear e0 e1 e2 e3
    go_region_held (fun w' => w'.cell? ⟨b2, 0, none⟩ = some (.int .i64 5) ∧ w'.cell? ⟨b2, 1, none⟩ = some (.int .u64 rd) ∧ w'.cell? ⟨b2, 2, none⟩ = some (.string ⟨#[a0, a1, a2, a3, a4, a5, a6, a7, a8, a9, a10, a11, a12, a13, a14, a15]⟩) ∧ w'.cell? ⟨b2, 3, none⟩ = some (.int .i64 128) ∧ w'.cell? ⟨b0, 17, none⟩ = some (.int .u8 ln)) (go_keep)
      (first | (go_at_call 12; refine Calls.mono KC.out ?_; rintro e w2 ⟨rfl, hb2⟩; have h2 := MdAt.below H1.out hb2; have d0 : w2.cell? ⟨b2, 0, none⟩ = some (.int .i64 5) := EB2.out ▸ h2.p0; have d1 : w2.cell? ⟨b2, 1, none⟩ = some (.int .u64 rd) := EB2.out ▸ h2.p1; have d2 : w2.cell? ⟨b2, 2, none⟩ = some (.string ⟨#[a0, a1, a2, a3, a4, a5, a6, a7, a8, a9, a10, a11, a12, a13, a14, a15]⟩) := EB2.out ▸ h2.p2; have d3 : w2.cell? ⟨b2, 3, none⟩ = some (.int .i64 128) := EB2.out ▸ h2.p3; have d4 : w2.cell? ⟨b0, 17, none⟩ = some (.int .u8 ln) := EB0.out ▸ h2.q; have n0 : w2.cell? ⟨b3, 0, none⟩ = some (.int .i64 0) := EB3.out ▸ h2.n0; have n1 : w2.cell? ⟨b3, 1, none⟩ = some (.int .u64 0) := EB3.out ▸ h2.n1; have n2 : w2.cell? ⟨b3, 2, none⟩ = some (.string ⟨#[]⟩) := EB3.out ▸ h2.n2; have n3 : w2.cell? ⟨b3, 3, none⟩ = some (.int .i64 0) := EB3.out ▸ h2.n3; have y0 : w2.frozen? ⟨b3, 0, none⟩ = false := EB3.out ▸ h2.nf 0 (by omega); have y1 : w2.frozen? ⟨b3, 1, none⟩ = false := EB3.out ▸ h2.nf 1 (by omega); have y2 : w2.frozen? ⟨b3, 2, none⟩ = false := EB3.out ▸ h2.nf 2 (by omega); have y3 : w2.frozen? ⟨b3, 3, none⟩ = false := EB3.out ▸ h2.nf 3 (by omega)))
    have HB2 : Hid (Below w.heap.size w w2) := h2.bel
    have n4 : w2.cell? ⟨b3, 4, none⟩ = some (.int .u32 0) := EB3.out ▸ h2.n4
    have n5 : w2.cell? ⟨b3, 5, none⟩ = some (.int .u32 (lb % 1048576)) := EB3.out ▸ h2.n5
    have z0 : w2.cell? ⟨b1, 0, none⟩ = some (.int .i64 0) := EB1.out ▸ h2.z0
    have z1 : w2.cell? ⟨b1, 1, none⟩ = some (.int .u64 0) := EB1.out ▸ h2.z1
    have z2 : w2.cell? ⟨b1, 2, none⟩ = some (.string ⟨#[]⟩) := EB1.out ▸ h2.z2
    have z3 : w2.cell? ⟨b1, 3, none⟩ = some (.int .i64 0) := EB1.out ▸ h2.z3
    have z4 : w2.cell? ⟨b1, 4, none⟩ = some (.int .u32 0) := EB1.out ▸ h2.z4
    have z5 : w2.cell? ⟨b1, 5, none⟩ = some (.int .u32 0) := EB1.out ▸ h2.z5
    have u0 : w2.frozen? ⟨b1, 0, none⟩ = false := EB1.out ▸ h2.zf 0 (by omega)
    have u1 : w2.frozen? ⟨b1, 1, none⟩ = false := EB1.out ▸ h2.zf 1 (by omega)
    have u2 : w2.frozen? ⟨b1, 2, none⟩ = false := EB1.out ▸ h2.zf 2 (by omega)
    have u3 : w2.frozen? ⟨b1, 3, none⟩ = false := EB1.out ▸ h2.zf 3 (by omega)
    have u4 : w2.frozen? ⟨b1, 4, none⟩ = false := EB1.out ▸ h2.zf 4 (by omega)
    have u5 : w2.frozen? ⟨b1, 5, none⟩ = false := EB1.out ▸ h2.zf 5 (by omega)
    have L3 : Hid (w.heap.size ≤ b3) := by have := EB3.out; unfold Hid; omega
    have L1 : Hid (w.heap.size ≤ b1) := by have := EB1.out; unfold Hid; omega
    clear h2 hb2 d0 d1 d2 d3 d4 c0 c1 c2 c3 c4 H0 H1 KC
    go_wp2
    refine bodyPost_ret (v := .agg #[.int .i64 5, .int .u64 rd, .string ⟨(msk [a0, a1, a2, a3, a4, a5, a6, a7, a8, a9, a10, a11, a12, a13, a14, a15] (ln % 129)).toArray⟩, .int .i64 (ln % 129), .int .u32 0, .int .u32 (lb % 1048576)]) (by simp [results, Tryd.results5, go_sem, z0, z1, z2, z3, z4, z5]) rfl ⟨rfl, ?_⟩
    exact (((((((((HB2.out.setCell L3.out _).setCell L3.out _).setCell L3.out _).setCell L3.out _).setCell L1.out _).setCell L1.out _).setCell L1.out _).setCell L1.out _).setCell L1.out _).setCell L1.out _
end Go.Proofs.YtfhbgpepkplbaaaDoor
namespace Go.Proofs.YtfhbgpepkplbaaaDoor
open Go.RowKit
/-- A told prefix of that family that may be laid. -/
def Good (f : Int) (add : Bool) (n : Nl) : Prop := NlWf n ∧ nchk n.f n.r n.s n.l n.lb = 0 ∧ (n.id = 0 ∨ add = true) ∧ n.f = f
/-- The cells of a raw one. -/
def rawL (rd ln id lb : Int) (a0 a1 a2 a3 a4 a5 a6 a7 a8 a9 a10 a11 a12 a13 a14 a15 : UInt8) : List Value := [.int .u64 rd, .int .u8 a0.toNat, .int .u8 a1.toNat, .int .u8 a2.toNat, .int .u8 a3.toNat, .int .u8 a4.toNat, .int .u8 a5.toNat, .int .u8 a6.toNat, .int .u8 a7.toNat, .int .u8 a8.toNat, .int .u8 a9.toNat, .int .u8 a10.toNat, .int .u8 a11.toNat, .int .u8 a12.toNat, .int .u8 a13.toNat, .int .u8 a14.toNat, .int .u8 a15.toNat, .int .u8 ln, .int .u32 id, .int .u32 lb]
def RawOk (C : List Value) : Prop := ∃ (rd ln id lb : Int) (a0 a1 a2 a3 a4 a5 a6 a7 a8 a9 a10 a11 a12 a13 a14 a15 : UInt8), C = rawL rd ln id lb a0 a1 a2 a3 a4 a5 a6 a7 a8 a9 a10 a11 a12 a13 a14 a15 ∧ (0 ≤ rd ∧ rd < 18446744073709551616) ∧ (0 ≤ ln ∧ ln ≤ 255) ∧ (0 ≤ id ∧ id < 4294967296) ∧ (0 ≤ lb ∧ lb < 4294967296)
theorem RawOk.len {C : List Value} (h : RawOk C) : C.length = 20 := by
  obtain ⟨rd, ln, id, lb, a0, a1, a2, a3, a4, a5, a6, a7, a8, a9, a10, a11, a12, a13, a14, a15, rfl, _⟩ := h
  rfl
theorem good_of (f r id lb : Int) (l : List UInt8) (m : Int) (add : Bool) (hz : szOf f ≠ 0) (hl : (l.length : Int) = szOf f) (hm0 : 0 ≤ m) (hm1 : m ≤ 8 * szOf f) (hr : (0 ≤ r ∧ r < 18446744073709551616) ∧ (r = 0 ∨ 4 ≤ f)) (hid : (0 ≤ id ∧ id < 4294967296) ∧ (id = 0 ∨ add = true)) (hlb : (0 ≤ lb ∧ lb ≤ 1048575) ∧ (lb = 0 ∨ lab f = true)) :
    Good f add ⟨f, r, ⟨(msk l m).toArray⟩, m, id, lb⟩ := by
  have hb := szOf_bd f
  refine ⟨⟨hr.1.1, hr.1.2, hid.1.1, hid.1.2, hlb.1.1, by show lb < _; omega, ?_⟩, ?_, hid.2, rfl⟩
  · show (⟨(msk l m).toArray⟩ : ByteArray).size ≤ maxLen
    rw [list_size, msk_length]; unfold maxLen; omega
  · show nchk f r ⟨(msk l m).toArray⟩ m lb = 0
    unfold nchk
    rw [if_pos ⟨chk_cut f r l m hz hl hm0 hm1 hr.2, hlb.1.2, hlb.2⟩]
theorem made_any (C : List Value) (hC : RawOk C) (f : Int) (hf : f = 1 ∨ f = 2 ∨ f = 3 ∨ f = 4 ∨ f = 5) (add : Bool) (w : World) (hg : FamSizes w) (hr : FamRds w) :
    Calls Tryd.prog 5 #[.agg C.toArray, .int .i64 f, .bool add] w fun e w' => ∃ n : Nl, e = .returned (.agg #[.int .i64 n.f, .int .u64 n.r, .string n.s, .int .i64 n.l, .int .u32 n.id, .int .u32 n.lb]) ∧ Good f add n ∧ Below w.heap.size w w' := by
  obtain ⟨rd, ln, id, lb, a0, a1, a2, a3, a4, a5, a6, a7, a8, a9, a10, a11, a12, a13, a14, a15, rfl, hrd, hln, hid, hlb⟩ := hC
  have hi : (0 ≤ (if add = true then id else 0) ∧ (if add = true then id else 0) < 4294967296) ∧ ((if add = true then id else 0) = 0 ∨ add = true) := by
    cases add
    · simp
    · simp; omega
  rcases hf with rfl | rfl | rfl | rfl | rfl
  · refine (made_1 rd ln id lb a0 a1 a2 a3 a4 a5 a6 a7 a8 a9 a10 a11 a12 a13 a14 a15 add w hg hr hln.1 hln.2 hlb.1 hlb.2).mono ?_
    rintro e w' ⟨rfl, hb⟩
    exact ⟨⟨1, 0, _, _, _, 0⟩, rfl, good_of 1 0 _ 0 [a0, a1, a2, a3] (ln % 33) add (by decide) (by simp [szOf]) (by omega) (by simp [szOf]; omega) (by omega) hi (by omega), hb⟩
  · refine (made_2 rd ln id lb a0 a1 a2 a3 a4 a5 a6 a7 a8 a9 a10 a11 a12 a13 a14 a15 add w hg hr hln.1 hln.2 hlb.1 hlb.2).mono ?_
    rintro e w' ⟨rfl, hb⟩
    exact ⟨⟨2, 0, _, _, _, 0⟩, rfl, good_of 2 0 _ 0 [a0, a1, a2, a3, a4, a5, a6, a7, a8, a9, a10, a11, a12, a13, a14, a15] (ln % 129) add (by decide) (by simp [szOf]) (by omega) (by simp [szOf]; omega) (by omega) hi (by omega), hb⟩
  · refine (made_3 rd ln id lb a0 a1 a2 a3 a4 a5 a6 a7 a8 a9 a10 a11 a12 a13 a14 a15 add w hg hr hln.1 hln.2 hlb.1 hlb.2).mono ?_
    rintro e w' ⟨rfl, hb⟩
    exact ⟨⟨3, 0, _, _, _, lb % 1048576⟩, rfl, good_of 3 0 _ (lb % 1048576) [a0, a1, a2, a3] (ln % 33) add (by decide) (by simp [szOf]) (by omega) (by simp [szOf]; omega) (by omega) hi ⟨by omega, Or.inr rfl⟩, hb⟩
  · refine (made_4 rd ln id lb a0 a1 a2 a3 a4 a5 a6 a7 a8 a9 a10 a11 a12 a13 a14 a15 add w hg hr hln.1 hln.2 hlb.1 hlb.2).mono ?_
    rintro e w' ⟨rfl, hb⟩
    exact ⟨⟨4, rd, _, _, _, lb % 1048576⟩, rfl, good_of 4 rd _ (lb % 1048576) [a0, a1, a2, a3] (ln % 33) add (by decide) (by simp [szOf]) (by omega) (by simp [szOf]; omega) ⟨hrd, Or.inr (by decide)⟩ hi ⟨by omega, Or.inr rfl⟩, hb⟩
  · refine (made_5 rd ln id lb a0 a1 a2 a3 a4 a5 a6 a7 a8 a9 a10 a11 a12 a13 a14 a15 add w hg hr hln.1 hln.2 hlb.1 hlb.2).mono ?_
    rintro e w' ⟨rfl, hb⟩
    exact ⟨⟨5, rd, _, _, _, lb % 1048576⟩, rfl, good_of 5 rd _ (lb % 1048576) [a0, a1, a2, a3, a4, a5, a6, a7, a8, a9, a10, a11, a12, a13, a14, a15] (ln % 129) add (by decide) (by simp [szOf]) (by omega) (by simp [szOf]; omega) ⟨hrd, Or.inr (by decide)⟩ hi ⟨by omega, Or.inr rfl⟩, hb⟩
/-- The bytes that a good one has. -/
theorem good_size {f : Int} {add : Bool} {n : Nl} (h : Good f add n) : nsz f n.l add = ((n.enc add).length : Int) ∧ (n.enc add).length ≤ 32 ∧ 1 ≤ (n.enc add).length ∧ szAns n.f n.r n.s n.l n.lb add = .returned (.tuple #[.int .i64 (n.enc add).length, .int .i64 0]) := by
  obtain ⟨hw, hc, hi, hf⟩ := h
  obtain ⟨k, _, _⟩ := nchk_zero hc
  obtain ⟨hz, hs, h0, h1, _, _⟩ := chk_zero k
  have hb := szOf_bd n.f
  obtain ⟨m, hm⟩ := Int.eq_ofNat_of_zero_le h0
  have e1 : (n.enc add).length = hdN n.f add + (m + 7) / 8 := by
    rw [enc_length n add (by rw [hm, Int.toNat_natCast]; omega), hm, Int.toNat_natCast]
  have e2 : nsz n.f n.l add = ((n.enc add).length : Int) := by
    rw [e1, hm]
    unfold nsz hdN
    rw [byN_nat]
    omega
  refine ⟨hf ▸ e2, enc_len n add hc, by rw [e1]; unfold hdN; omega, ?_⟩
  unfold szAns
  rw [if_pos hc, e2]
end Go.Proofs.YtfhbgpepkplbaaaDoor
