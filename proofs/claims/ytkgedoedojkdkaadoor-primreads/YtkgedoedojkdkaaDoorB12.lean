/-
  The contract of the law's own maker of prefixes, family 2: what it makes of any raw data.
-/
import Derived.Test.YtkgedoedojkdkaaDoorB10
namespace Go.Proofs.YtkgedoedojkdkaaDoor
open Go.RowKit
set_option maxRecDepth 100000 in
set_option maxHeartbeats 2000000 in
theorem of_2 (fm rd ln : Int) (a0 a1 a2 a3 a4 a5 a6 a7 a8 a9 a10 a11 a12 a13 a14 a15 : UInt8) (w : World) (hg : FamSizes w) (hr : FamRds w) (hf0 : 0 ≤ fm) (hf1 : fm ≤ 255) (hl0 : 0 ≤ ln) (hl1 : ln ≤ 255) (h5 : fm % 5 = 1) :
    Calls Tryd.prog 30 #[.agg #[.int .u8 fm, .int .u64 rd, .int .u8 a0.toNat, .int .u8 a1.toNat, .int .u8 a2.toNat, .int .u8 a3.toNat, .int .u8 a4.toNat, .int .u8 a5.toNat, .int .u8 a6.toNat, .int .u8 a7.toNat, .int .u8 a8.toNat, .int .u8 a9.toNat, .int .u8 a10.toNat, .int .u8 a11.toNat, .int .u8 a12.toNat, .int .u8 a13.toNat, .int .u8 a14.toNat, .int .u8 a15.toNat, .int .u8 ln]] w fun e w' =>
      e = .returned (.agg #[.int .i64 2, .int .u64 0, .string ⟨(msk [a0, a1, a2, a3, a4, a5, a6, a7, a8, a9, a10, a11, a12, a13, a14, a15] (ln % 129)).toArray⟩, .int .i64 (ln % 129)]) ∧ Below w.heap.size w w' := by
  have hcv := conv16 w (.int .u8 fm) (.int .u64 rd) (.int .u8 ln) a0 a1 a2 a3 a4 a5 a6 a7 a8 a9 a10 a11 a12 a13 a14 a15
  go_enter Tryd.func30, Tryd.ntmps30
  go_wp2_with (go_at_call 15; refine (size_any _ _ ?_).mono ?_; exact hg.below ((((Below.refl _ _).alloc (Nat.le_refl _) _).alloc (by simp) _).alloc (by simp; omega) _); rintro e w' ⟨rfl, rfl⟩; rw [show szOf 2 = 16 from rfl])
  clear hcv
  refine with_world (fun wx => PfxAt wx (w.heap.size + 1 + 1) 2 0 ⟨#[a0, a1, a2, a3, a4, a5, a6, a7, a8, a9, a10, a11, a12, a13, a14, a15]⟩ 128 ∧ PfxAt wx (w.heap.size + 1) 0 0 ⟨#[]⟩ 0 ∧ wx.cell? ⟨w.heap.size, 18, none⟩ = some (.int .u8 ln) ∧ Below w.heap.size w wx ∧ w.heap.size + 1 + 1 < wx.heap.size) ?_ ?_
  · refine ⟨PfxAt.of_alloc _ _ 2 0 ⟨#[a0, a1, a2, a3, a4, a5, a6, a7, a8, a9, a10, a11, a12, a13, a14, a15]⟩ 128 (by simp), (PfxAt.of_alloc (w.alloc _) _ 0 0 ⟨#[]⟩ 0 (by simp)).kept (B := w.heap.size + 1 + 1) ((Below.refl _ _).alloc (by simp) _) (by simp), ?_, (((Below.refl _ _).alloc (by simp) _).alloc (by simp) _).alloc (by simp; omega) _, by simp⟩
    rw [World.cell?_alloc_past _ _ _ (by simp; omega), World.cell?_alloc_past _ _ _ (by simp), World.cell?_alloc_at _ _ _ _ rfl]; rfl
  rintro wx ⟨hp, hz, hl, hb, hsz⟩
  have hgx := hg.below hb
  have hrx := hr.below hb
  have ne1 : wx.heap.size ≠ w.heap.size + 1 + 1 := by omega
  have ne2 : wx.heap.size ≠ w.heap.size := by omega
  have c0 := hp.c0
  have c1 := hp.c1
  have c2 := hp.c2
  have c3 := hp.c3
  have hck : chk 2 0 ⟨#[a0, a1, a2, a3, a4, a5, a6, a7, a8, a9, a10, a11, a12, a13, a14, a15]⟩ 128 = 0 := chk_full 2 0 ⟨#[a0, a1, a2, a3, a4, a5, a6, a7, a8, a9, a10, a11, a12, a13, a14, a15]⟩ (by decide) rfl (Or.inl rfl)
  have hlm : ln % 129 ≤ 128 := by omega
  have hln : 0 ≤ ln % 129 := by omega
  go_region_held (fun w' => w'.cell? ⟨w.heap.size + 1 + 1, 0, none⟩ = some (.int .i64 2) ∧ w'.cell? ⟨w.heap.size + 1 + 1, 1, none⟩ = some (.int .u64 0) ∧ w'.cell? ⟨w.heap.size + 1 + 1, 2, none⟩ = some (.string ⟨#[a0, a1, a2, a3, a4, a5, a6, a7, a8, a9, a10, a11, a12, a13, a14, a15]⟩) ∧ w'.cell? ⟨w.heap.size + 1 + 1, 3, none⟩ = some (.int .i64 128) ∧ w'.cell? ⟨w.heap.size, 18, none⟩ = some (.int .u8 ln)) (go_keep)
    (first | (go_at_call 20; refine (cut_from wx hgx hrx 2 0 ⟨#[a0, a1, a2, a3, a4, a5, a6, a7, a8, a9, a10, a11, a12, a13, a14, a15]⟩ 128 (ln % 129) _ ?_ hck hln hlm).mono ?_; (first | with_reducible exact (Below.refl _ _).drew | with_reducible exact ((Below.refl _ _).alloc (Nat.le_refl _) _).drew); rintro e w2 ⟨rfl, hb2, hb3⟩; have v0 := cellOr hb2 wx.heap.size 0; have v1 := cellOr hb2 wx.heap.size 1; have v2 := cellOr hb2 wx.heap.size 2; have v3 := cellOr hb2 wx.heap.size 3; have x0 := frozenOr hb2 wx.heap.size 0; have x1 := frozenOr hb2 wx.heap.size 1; have x2 := frozenOr hb2 wx.heap.size 2; have x3 := frozenOr hb2 wx.heap.size 3; simp at v0 v1 v2 v3 x0 x1 x2 x3; obtain ⟨q0, q1, q2, q3, _, _, _, _⟩ := hp.kept hb3 (by exact hsz); have ql := (hb3.cell (p := ⟨w.heap.size, 18, none⟩) (show w.heap.size < wx.heap.size by omega)).trans hl; have hz2 := hz.kept hb3 (by omega); have hs2 : wx.heap.size ≤ w2.heap.size := hb3.size; clear hb2))
  all_goals
    have hbw : Below w.heap.size w w2 := hb.trans (hb3.mono hb.size)
    have hss : w.heap.size ≤ w2.heap.size := hbw.size
    have ne3 : wx.heap.size ≠ w.heap.size + 1 := by omega
    obtain ⟨z0, z1, z2, z3, y0, y1, y2, y3⟩ := hz2
    have l1 : w.heap.size + 1 < w2.heap.size := by omega
    clear hp hz hl hgx hrx c0 c1 c2 c3 hck q0 q1 q2 q3 ql
    go_wp2
    refine bodyPost_ret (v := .agg #[.int .i64 2, .int .u64 0, .string ⟨(msk [a0, a1, a2, a3, a4, a5, a6, a7, a8, a9, a10, a11, a12, a13, a14, a15] (ln % 129)).toArray⟩, .int .i64 (ln % 129)]) (by simp [results, Tryd.results30, go_sem, z0, z1, z2, z3, l1]) rfl ⟨rfl, ?_⟩
    have h1 : w.heap.size ≤ w.heap.size + 1 := Nat.le_succ _
    have h2 : w.heap.size ≤ wx.heap.size := by omega
  · exact ((((hbw.setCell h1 _).setCell h1 _).setCell h1 _).setCell h1 _).alloc (by simpa using hss) _
  · exact (((((((hbw.setCell h2 _).setCell h2 _).setCell h2 _).setCell h2 _).setCell h1 _).setCell h1 _).setCell h1 _).setCell h1 _
  · exact (((((((hbw.setCell h2 _).setCell h2 _).setCell h2 _).setCell h2 _).setCell h1 _).setCell h1 _).setCell h1 _).setCell h1 _
end Go.Proofs.YtkgedoedojkdkaaDoor
