/-
  Cut.
-/
import Derived.Test.YtfhbgpepkplbaaaDoorB10
import Derived.Test.YtfhbgpepkplbaaaDoorB26
namespace Go.Proofs.YtfhbgpepkplbaaaDoor
open Go.RowKit
set_option maxRecDepth 100000 in
set_option maxHeartbeats 400000 in
theorem cut_yes (f r : Int) (s : ByteArray) (l n : Int) (w : World) (hg : FamSizes w) (hr : FamRds w) (h : chk f r s l = 0) (h0 : 0 ≤ n) (h1 : n ≤ l) :
    Calls Tryd.prog 12 #[.agg #[.int .i64 f, .int .u64 r, .string s, .int .i64 l], .int .i64 n] w fun e w' =>
      e = .returned (.tuple #[.agg #[.int .i64 f, .int .u64 r, .string ⟨(msk s.data.toList n).toArray⟩, .int .i64 n], .int .i64 0]) ∧ Below w.heap.size w w' := by
  have hz := chk_zero h
  have hzb := szOf_bd f
  have hsz : s.size ≤ 16 := by omega
  have hn : n ≤ 128 := by omega
  clear hz hzb
  have H : Hid (chk f r s l = 0) := h
  clear h
  have hg1 : FamSizes ((w.alloc (.cells #[.int .i64 f, .int .u64 r, .string s, .int .i64 l] 26)).alloc (.cells #[.int .i64 0, .int .u64 0, .string ⟨#[]⟩, .int .i64 0] 26)) := hg.below (((Below.refl _ _).alloc (Nat.le_refl _) _).alloc (by simp) _)
  have hr1 : FamRds ((w.alloc (.cells #[.int .i64 f, .int .u64 r, .string s, .int .i64 l] 26)).alloc (.cells #[.int .i64 0, .int .u64 0, .string ⟨#[]⟩, .int .i64 0] 26)) := hr.below (((Below.refl _ _).alloc (Nat.le_refl _) _).alloc (by simp) _)
  have p0 : PfxAt ((w.alloc (.cells #[.int .i64 f, .int .u64 r, .string s, .int .i64 l] 26)).alloc (.cells #[.int .i64 0, .int .u64 0, .string ⟨#[]⟩, .int .i64 0] 26)) w.heap.size f r s l :=
    (PfxAt.of_alloc w _ f r s l rfl).kept (B := w.heap.size + 1) ((Below.refl _ _).alloc (by simp) _) (by simp)
  have p1 : PfxAt ((w.alloc (.cells #[.int .i64 f, .int .u64 r, .string s, .int .i64 l] 26)).alloc (.cells #[.int .i64 0, .int .u64 0, .string ⟨#[]⟩, .int .i64 0] 26)) (w.heap.size + 1) 0 0 ⟨#[]⟩ 0 :=
    PfxAt.of_alloc (w.alloc _) _ 0 0 ⟨#[]⟩ 0 (by simp)
  go_enter Tryd.func12, Tryd.ntmps12
  go_wp2_with fail
  refine (check_any f r s l _ hg1 hr1).mono ?_
  rintro e w1 ⟨rfl, hb1⟩
  rw [H.out]
  have q0 := p0.kept hb1 (by simp; omega)
  have q1 := p1.kept hb1 (by simp)
  have hs1 : w.heap.size + 1 + 1 ≤ w1.heap.size := by have := hb1.size; simpa using this
  obtain ⟨c0, c1, c2, c3, f0, f1, f2, f3⟩ := q0
  clear hg1 hr1 p0 p1
  go_wp2_with fail
  refine (head_any f r s l n _ hsz h0 hn).mono ?_
  rintro e w2 ⟨rfl, hb2⟩
  obtain ⟨d0, d1, d2, d3, g0, g1, g2, g3⟩ := q1.kept hb2 (by omega)
  clear q1 c0 c1 c2 c3 f0 f1 f2 f3
  go_wp2
  refine bodyPost_ret (v := .tuple #[.agg #[.int .i64 f, .int .u64 r, .string ⟨(msk s.data.toList n).toArray⟩, .int .i64 n], .int .i64 0]) (by simp [results, Tryd.results12, go_sem, d0, d1, d2, d3]) rfl ⟨rfl, ?_⟩
  have hb : Below w.heap.size w w2 := ((((Below.refl _ _).alloc (Nat.le_refl _) _).alloc (by simp) _).trans (hb1.mono (by simp; omega))).trans (hb2.mono (by omega))
  exact (((hb.setCell (by simp) _).setCell (by simp) _).setCell (by simp) _).setCell (by simp) _

theorem cut_from (wx : World) (hg : FamSizes wx) (hr : FamRds wx) (f r : Int) (s : ByteArray) (l n : Int) (w : World) (hB : Below wx.heap.size wx w) (h : chk f r s l = 0) (h0 : 0 ≤ n) (h1 : n ≤ l) :
    Calls Tryd.prog 12 #[.agg #[.int .i64 f, .int .u64 r, .string s, .int .i64 l], .int .i64 n] w fun e w' =>
      e = .returned (.tuple #[.agg #[.int .i64 f, .int .u64 r, .string ⟨(msk s.data.toList n).toArray⟩, .int .i64 n], .int .i64 0]) ∧ Below w.heap.size w w' ∧ Below wx.heap.size wx w' :=
  (cut_yes f r s l n w (hg.below hB) (hr.below hB) h h0 h1).mono fun _ _ ⟨h1, h2⟩ => ⟨h1, h2, hB.trans (h2.mono hB.size)⟩
theorem convA4 (w : World) (rd ln id lb : Int) (a0 a1 a2 a3 a4 a5 a6 a7 a8 a9 a10 a11 a12 a13 a14 a15 : UInt8) (o2 : Obj) :
    (convert 46 9 (.slice (some ⟨w.heap.size, 1, none⟩) 4 16)).run Tryd.prog ((w.alloc (.cells #[.int .u64 rd, .int .u8 a0.toNat, .int .u8 a1.toNat, .int .u8 a2.toNat, .int .u8 a3.toNat, .int .u8 a4.toNat, .int .u8 a5.toNat, .int .u8 a6.toNat, .int .u8 a7.toNat, .int .u8 a8.toNat, .int .u8 a9.toNat, .int .u8 a10.toNat, .int .u8 a11.toNat, .int .u8 a12.toNat, .int .u8 a13.toNat, .int .u8 a14.toNat, .int .u8 a15.toNat, .int .u8 ln, .int .u32 id, .int .u32 lb] 33)).alloc o2) = .ok (.string ⟨#[a0, a1, a2, a3]⟩) ((w.alloc (.cells #[.int .u64 rd, .int .u8 a0.toNat, .int .u8 a1.toNat, .int .u8 a2.toNat, .int .u8 a3.toNat, .int .u8 a4.toNat, .int .u8 a5.toNat, .int .u8 a6.toNat, .int .u8 a7.toNat, .int .u8 a8.toNat, .int .u8 a9.toNat, .int .u8 a10.toNat, .int .u8 a11.toNat, .int .u8 a12.toNat, .int .u8 a13.toNat, .int .u8 a14.toNat, .int .u8 a15.toNat, .int .u8 ln, .int .u32 id, .int .u32 lb] 33)).alloc o2) := by
  refine run_convert_bytes_back _ 46 9 5 ⟨w.heap.size, 1, none⟩ 16 [a0, a1, a2, a3] Tryd.underlying46 Tryd.underlying5 Tryd.underlying9 ?_
  intro j hj
  rw [show Addr.add ⟨w.heap.size, 1, none⟩ j = ⟨w.heap.size, 1 + j, none⟩ from by unfold Addr.add; by_cases e : j = 0 <;> simp [e]]
  rw [World.cell?_alloc_past _ _ _ (by simp), World.cell?_alloc_at _ _ _ _ rfl]
  match j, hj with
  | 0, _ => rfl
  | 1, _ => rfl
  | 2, _ => rfl
  | 3, _ => rfl
theorem convA16 (w : World) (rd ln id lb : Int) (a0 a1 a2 a3 a4 a5 a6 a7 a8 a9 a10 a11 a12 a13 a14 a15 : UInt8) (o2 : Obj) :
    (convert 46 9 (.slice (some ⟨w.heap.size, 1, none⟩) 16 16)).run Tryd.prog ((w.alloc (.cells #[.int .u64 rd, .int .u8 a0.toNat, .int .u8 a1.toNat, .int .u8 a2.toNat, .int .u8 a3.toNat, .int .u8 a4.toNat, .int .u8 a5.toNat, .int .u8 a6.toNat, .int .u8 a7.toNat, .int .u8 a8.toNat, .int .u8 a9.toNat, .int .u8 a10.toNat, .int .u8 a11.toNat, .int .u8 a12.toNat, .int .u8 a13.toNat, .int .u8 a14.toNat, .int .u8 a15.toNat, .int .u8 ln, .int .u32 id, .int .u32 lb] 33)).alloc o2) = .ok (.string ⟨#[a0, a1, a2, a3, a4, a5, a6, a7, a8, a9, a10, a11, a12, a13, a14, a15]⟩) ((w.alloc (.cells #[.int .u64 rd, .int .u8 a0.toNat, .int .u8 a1.toNat, .int .u8 a2.toNat, .int .u8 a3.toNat, .int .u8 a4.toNat, .int .u8 a5.toNat, .int .u8 a6.toNat, .int .u8 a7.toNat, .int .u8 a8.toNat, .int .u8 a9.toNat, .int .u8 a10.toNat, .int .u8 a11.toNat, .int .u8 a12.toNat, .int .u8 a13.toNat, .int .u8 a14.toNat, .int .u8 a15.toNat, .int .u8 ln, .int .u32 id, .int .u32 lb] 33)).alloc o2) := by
  refine run_convert_bytes_back _ 46 9 5 ⟨w.heap.size, 1, none⟩ 16 [a0, a1, a2, a3, a4, a5, a6, a7, a8, a9, a10, a11, a12, a13, a14, a15] Tryd.underlying46 Tryd.underlying5 Tryd.underlying9 ?_
  intro j hj
  rw [show Addr.add ⟨w.heap.size, 1, none⟩ j = ⟨w.heap.size, 1 + j, none⟩ from by unfold Addr.add; by_cases e : j = 0 <;> simp [e]]
  rw [World.cell?_alloc_past _ _ _ (by simp), World.cell?_alloc_at _ _ _ _ rfl]
  match j, hj with
  | 0, _ => rfl
  | 1, _ => rfl
  | 2, _ => rfl
  | 3, _ => rfl
  | 4, _ => rfl
  | 5, _ => rfl
  | 6, _ => rfl
  | 7, _ => rfl
  | 8, _ => rfl
  | 9, _ => rfl
  | 10, _ => rfl
  | 11, _ => rfl
  | 12, _ => rfl
  | 13, _ => rfl
  | 14, _ => rfl
  | 15, _ => rfl
  | n + 16, hj => exact absurd hj (by simp)
end Go.Proofs.YtfhbgpepkplbaaaDoor
