/-
  The law's own small functions: key, of.
-/
import Derived.Test.YtgplhdhnailpfaaE3
set_option linter.unusedSimpArgs false
set_option maxRecDepth 100000
namespace Go.Proofs.Ytgplhdhnailpfaa
open Go.RowKit Go.Maps
theorem key_any (a : Int) (s : ByteArray) (c : Int) (w : World) : Calls Try.prog 25 #[.int .i64 a, .string s, .int .i64 c] w fun e w' => e = .returned (.agg #[.int .i64 a, .string s, .int .i64 c]) ∧ Grw w w' := by
  go_enter Try.func25, Try.ntmps25
  go_wp2
  exact bodyPost_ret (v := .agg #[.int .i64 a, .string s, .int .i64 c]) (by simp [results, Try.results25, go_sem]) rfl ⟨rfl, (Grw.refl _).alloc _⟩
/-- A timer by small numbers. -/
structure St where
  kind : Nat
  peer : Nat
  fam : Nat
  tick : Nat
  ok : kind < 256 ∧ peer < 256 ∧ fam < 256 ∧ tick < 256
/-- Its peer. -/
def ofP (n : Nat) : ByteArray := ⟨#[UInt8.ofNat (97 + n % 5)]⟩
/-- Its key. -/
def ofK (x : St) : Ky := ⟨1 + x.kind % 7, ofP x.peer, x.fam % 6, WalkArith.wf_i64 (by omega), (by show (1 : Nat) ≤ maxLen; unfold maxLen; omega), WalkArith.wf_i64 (by omega)⟩
theorem ofP_conv (n : Nat) (w : World) : (convert 56 9 (.slice (some ⟨w.heap.size, 0, none⟩) 1 1)).run Try.prog (w.alloc (.cells #[.int .u8 (97 + (n : Int) % 5)] 5)) = .ok (.string (ofP n)) (w.alloc (.cells #[.int .u8 (97 + (n : Int) % 5)] 5)) := by
  have h := run_convert_bytes_back (P := Try.prog) (w.alloc (.cells #[.int .u8 (97 + (n : Int) % 5)] 5)) 56 9 5 ⟨w.heap.size, 0, none⟩ 1 [UInt8.ofNat (97 + n % 5)] Try.underlying56 Try.underlying5 Try.underlying9 (by
    intro j hj
    have : j = 0 := by simpa using hj
    subst this
    simp [Addr.add]
    omega)
  exact h
theorem mid_cells (w : World) (A C : Obj) : (((w.alloc A).alloc (.cells #[.int .i64 0, .string ⟨#[]⟩, .int .i64 0] 27)).alloc C).cell? ⟨w.heap.size + 1, 0, none⟩ = some (.int .i64 0) ∧ (((w.alloc A).alloc (.cells #[.int .i64 0, .string ⟨#[]⟩, .int .i64 0] 27)).alloc C).cell? ⟨w.heap.size + 1, 1, none⟩ = some (.string ⟨#[]⟩) ∧ (((w.alloc A).alloc (.cells #[.int .i64 0, .string ⟨#[]⟩, .int .i64 0] 27)).alloc C).cell? ⟨w.heap.size + 1, 2, none⟩ = some (.int .i64 0) ∧ ∀ j, (((w.alloc A).alloc (.cells #[.int .i64 0, .string ⟨#[]⟩, .int .i64 0] 27)).alloc C).frozen? ⟨w.heap.size + 1, j, none⟩ = false := by
  have h : (((w.alloc A).alloc (.cells #[.int .i64 0, .string ⟨#[]⟩, .int .i64 0] 27)).alloc C).heap[w.heap.size + 1]? = some (.cells #[.int .i64 0, .string ⟨#[]⟩, .int .i64 0] 27) := by
    have h1 := (MapKept.heap_alloc ((w.alloc A).alloc (.cells #[.int .i64 0, .string ⟨#[]⟩, .int .i64 0] 27)) C).2 (w.heap.size + 1) (by simp)
    have h2 := (MapKept.heap_alloc (w.alloc A) (.cells #[.int .i64 0, .string ⟨#[]⟩, .int .i64 0] 27)).1
    rw [show (w.alloc A).heap.size = w.heap.size + 1 by simp] at h2
    exact h1.trans h2
  refine ⟨?_, ?_, ?_, fun j => ?_⟩
  · simp only [World.cell?, h]; rfl
  · simp only [World.cell?, h]; rfl
  · simp only [World.cell?, h]; rfl
  · simp only [World.frozen?, h]; simp
set_option maxHeartbeats 1000000 in
theorem of_any (x : St) (w : World) : Calls Try.prog 39 #[.agg #[.int .u8 (x.kind : Int), .int .u8 (x.peer : Int), .int .u8 (x.fam : Int), .int .u8 (x.tick : Int)]] w fun e w' => e = .returned (.agg #[.int .i64 (ofK x).kind, .string (ofK x).peer, .int .i64 (ofK x).fam]) ∧ Grw w w' := by
  obtain ⟨h1, h2, h3, h4⟩ := x.ok
  have hconv : (convert 56 9 (.slice (some ⟨w.heap.size + 1 + 1, 0, none⟩) 1 1)).run Try.prog (((w.alloc (.cells #[.int .u8 (x.kind : Int), .int .u8 (x.peer : Int), .int .u8 (x.fam : Int), .int .u8 (x.tick : Int)] 74)).alloc (.cells #[.int .i64 0, .string ⟨#[]⟩, .int .i64 0] 27)).alloc (.cells #[.int .u8 (97 + (x.peer : Int) % 5)] 5)) = .ok (.string (ofP x.peer)) (((w.alloc (.cells #[.int .u8 (x.kind : Int), .int .u8 (x.peer : Int), .int .u8 (x.fam : Int), .int .u8 (x.tick : Int)] 74)).alloc (.cells #[.int .i64 0, .string ⟨#[]⟩, .int .i64 0] 27)).alloc (.cells #[.int .u8 (97 + (x.peer : Int) % 5)] 5)) := by
    have := ofP_conv x.peer ((w.alloc (.cells #[.int .u8 (x.kind : Int), .int .u8 (x.peer : Int), .int .u8 (x.fam : Int), .int .u8 (x.tick : Int)] 74)).alloc (.cells #[.int .i64 0, .string ⟨#[]⟩, .int .i64 0] 27))
    simpa using this
  have HG : Hid (Grw w (((w.alloc (.cells #[.int .u8 (x.kind : Int), .int .u8 (x.peer : Int), .int .u8 (x.fam : Int), .int .u8 (x.tick : Int)] 74)).alloc (.cells #[.int .i64 0, .string ⟨#[]⟩, .int .i64 0] 27)).alloc (.cells #[.int .u8 (97 + (x.peer : Int) % 5)] 5))) := (((Grw.refl _).alloc _).alloc _).alloc _
  go_enter Try.func39, Try.ntmps39
  go_wp2_with fail
  refine (key_any _ _ _ _).mono ?_
  rintro e w2 ⟨rfl, hg2⟩
  have HG2 : Hid (Grw w w2) := HG.out.trans hg2
  have c0 : w2.cell? ⟨w.heap.size + 1, 0, none⟩ = some (.int .i64 0) := cell2 hg2.bel (mid_cells w _ _).1
  have c1 : w2.cell? ⟨w.heap.size + 1, 1, none⟩ = some (.string ⟨#[]⟩) := cell2 hg2.bel (mid_cells w _ _).2.1
  have c2 : w2.cell? ⟨w.heap.size + 1, 2, none⟩ = some (.int .i64 0) := cell2 hg2.bel (mid_cells w _ _).2.2.1
  have f0 : w2.frozen? ⟨w.heap.size + 1, 0, none⟩ = false := (hg2.bel.frozen (p := ⟨w.heap.size + 1, 0, none⟩) (by simp)).trans ((mid_cells w _ _).2.2.2 0)
  have f1 : w2.frozen? ⟨w.heap.size + 1, 1, none⟩ = false := (hg2.bel.frozen (p := ⟨w.heap.size + 1, 1, none⟩) (by simp)).trans ((mid_cells w _ _).2.2.2 1)
  have f2 : w2.frozen? ⟨w.heap.size + 1, 2, none⟩ = false := (hg2.bel.frozen (p := ⟨w.heap.size + 1, 2, none⟩) (by simp)).trans ((mid_cells w _ _).2.2.2 2)
  clear hg2 hconv HG
  go_wp2
  have HB : Hid (Grw w (((w2.setCell ⟨w.heap.size + 1, 0, none⟩ (.int .i64 (1 + (x.kind : Int) % 7))).setCell ⟨w.heap.size + 1, 1, none⟩ (.string (ofP x.peer))).setCell ⟨w.heap.size + 1, 2, none⟩ (.int .i64 ((x.fam : Int) % 6)))) :=
    ⟨((HG2.out.bel.setCell (by simp) _).setCell (by simp) _).setCell (by simp) _, HG2.out.drw⟩
  refine bodyPost_ret (v := .agg #[.int .i64 (ofK x).kind, .string (ofK x).peer, .int .i64 (ofK x).fam]) ?_ rfl ⟨rfl, HB.out⟩
  simp [results, Try.results39, go_sem, c0, c1, c2, ofK]
end Go.Proofs.Ytgplhdhnailpfaa
