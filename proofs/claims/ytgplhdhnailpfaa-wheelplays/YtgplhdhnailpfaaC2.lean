/-
  compare, and the closure that SortFunc is handed.
-/
import Derived.Test.YtgplhdhnailpfaaC1
set_option linter.unusedSimpArgs false
set_option maxRecDepth 100000
namespace Go.Proofs.Ytgplhdhnailpfaa
open Go.RowKit Go.Maps
/-- Two keys in two boxes. -/
structure TwoAt (w wx : World) (a b : Ky) : Prop where
  a0 : wx.cell? ⟨w.heap.size, 0, none⟩ = some (.int .i64 a.kind)
  a1 : wx.cell? ⟨w.heap.size, 1, none⟩ = some (.string a.peer)
  a2 : wx.cell? ⟨w.heap.size, 2, none⟩ = some (.int .i64 a.fam)
  b0 : wx.cell? ⟨w.heap.size + 1, 0, none⟩ = some (.int .i64 b.kind)
  b1 : wx.cell? ⟨w.heap.size + 1, 1, none⟩ = some (.string b.peer)
  b2 : wx.cell? ⟨w.heap.size + 1, 2, none⟩ = some (.int .i64 b.fam)
  grw : Grw w wx
theorem cell2 {w w' : World} (hb : Below w.heap.size w w') {b i : Nat} {v : Value} (h : w.cell? ⟨b, i, none⟩ = some v) : w'.cell? ⟨b, i, none⟩ = some v := (hb.cell (p := ⟨b, i, none⟩) (lt_of_cell h)).trans h
theorem TwoAt.more {w wx w' : World} {a b : Ky} (h : TwoAt w wx a b) (hg : Grw wx w') : TwoAt w w' a b :=
  ⟨cell2 hg.bel h.a0, cell2 hg.bel h.a1, cell2 hg.bel h.a2, cell2 hg.bel h.b0, cell2 hg.bel h.b1, cell2 hg.bel h.b2, h.grw.trans hg⟩
theorem TwoAt.start (w : World) (a b : Ky) : TwoAt w ((w.alloc (.cells #[.int .i64 a.kind, .string a.peer, .int .i64 a.fam] 27)).alloc (.cells #[.int .i64 b.kind, .string b.peer, .int .i64 b.fam] 27)) a b := by
  refine ⟨?_, ?_, ?_, ?_, ?_, ?_, ((Grw.refl _).alloc _).alloc _⟩
  all_goals simp
set_option maxHeartbeats 3200000 in
theorem compare_any (a b : Ky) (w : World) : Calls Try.prog 36 #[.agg #[.int .i64 a.kind, .string a.peer, .int .i64 a.fam], .agg #[.int .i64 b.kind, .string b.peer, .int .i64 b.fam]] w fun e w' => e = .returned (.int .i64 (kcmp a b)) ∧ Grw w w' := by
  have H0 : Hid (TwoAt w ((w.alloc (.cells #[.int .i64 a.kind, .string a.peer, .int .i64 a.fam] 27)).alloc (.cells #[.int .i64 b.kind, .string b.peer, .int .i64 b.fam] 27)) a b) := TwoAt.start w a b
  go_enter Try.func36, Try.ntmps36
  go_wp2
  generalize (w.alloc (.cells #[.int .i64 a.kind, .string a.peer, .int .i64 a.fam] 27)).alloc (.cells #[.int .i64 b.kind, .string b.peer, .int .i64 b.fam] 27) = W at *
  have H1 : Hid (TwoAt w W.drew a b) := H0.out.more (Grw.refl _).drew
  obtain ⟨a0, a1, a2, b0, b1, b2, _⟩ := H0.out
  have HOR : Hid (Calls Try.prog 34 #[.slice (some ⟨W.heap.size, 0, none⟩) 3 3] (W.alloc (.cells #[.int .i64 (ord a.kind b.kind), .int .i64 (ordS a.peer b.peer), .int .i64 (ord a.fam b.fam)] 3)).drew fun e w' => e = .returned (.int .i64 (kcmp a b)) ∧ w' = (W.alloc (.cells #[.int .i64 (ord a.kind b.kind), .int .i64 (ordS a.peer b.peer), .int .i64 (ord a.fam b.fam)] 3)).drew) :=
    or_any W.heap.size 3 [ord a.kind b.kind, ordS a.peer b.peer, ord a.fam b.fam] _ (by simp) (by
      intro j hj
      simp only [List.length_cons, List.length_nil] at hj
      show (W.alloc _).cell? _ = _
      rw [World.cell?_alloc_at _ _ _ _ rfl]
      rcases j with _ | _ | _ | j
      · rfl
      · rfl
      · rfl
      · omega)
  obtain ⟨nc, hnc⟩ : ∃ nc, nc = kcmp a b := ⟨_, rfl⟩
  rw [← hnc] at HOR
  have HNC : Hid (nc = kcmp a b) := hnc
  clear hnc
  go_region_held (fun w' => w'.cell? ⟨w.heap.size, 0, none⟩ = some (.int .i64 a.kind) ∧ w'.cell? ⟨w.heap.size, 1, none⟩ = some (.string a.peer) ∧ w'.cell? ⟨w.heap.size, 2, none⟩ = some (.int .i64 a.fam) ∧ w'.cell? ⟨w.heap.size + 1, 0, none⟩ = some (.int .i64 b.kind) ∧ w'.cell? ⟨w.heap.size + 1, 1, none⟩ = some (.string b.peer) ∧ w'.cell? ⟨w.heap.size + 1, 2, none⟩ = some (.int .i64 b.fam)) (go_keep)
    (first | (go_at_call 46; refine (cmp3 _ _ _).mono ?_; rintro e w3 ⟨rfl, rfl⟩) | (go_at_call 47; refine (cmp9 _ _ _).mono ?_; rintro e w3 ⟨rfl, rfl⟩) | (go_at_call 34; refine Calls.mono HOR.out ?_; rintro e w4 ⟨rfl, rfl⟩))
  have HG : Hid (Grw w (W.alloc (.cells #[.int .i64 (ord a.kind b.kind), .int .i64 (ordS a.peer b.peer), .int .i64 (ord a.fam b.fam)] 3)).drew) := (H0.out.grw.alloc _).drew
  clear HOR H0 H1 a0 a1 a2 b0 b1 b2
  go_wp2
  go_ret
  exact ⟨ret_int HNC.out, HG.out⟩
end Go.Proofs.Ytgplhdhnailpfaa
