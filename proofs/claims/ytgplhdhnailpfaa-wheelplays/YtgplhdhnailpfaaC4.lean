/-
  Which one of two timers is ahead: the law's own function and the reference's.
-/
import Derived.Test.YtgplhdhnailpfaaC2
set_option linter.unusedSimpArgs false
set_option maxRecDepth 100000
namespace Go.Proofs.Ytgplhdhnailpfaa
open Go.RowKit Go.Maps
theorem fltB_dec (x y : Fd) (r : Bool) (h : r = true ↔ flt x y) : fltB x y = r := by
  cases e : fltB x y
  · cases r
    · rfl
    · exact absurd (h.1 rfl) (fltB_no e)
  · exact ((h.2 (fltB_iff.1 e))).symm
theorem ahead_at {x y : Fd} (h : x.at' ≠ y.at') : fltB x y = decide (x.at' < y.at') := by
  refine fltB_dec _ _ _ ?_
  rw [decide_eq_true_iff]
  unfold flt
  omega
theorem ahead_kind {x y : Fd} (h : x.at' = y.at') (h2 : x.key.kind ≠ y.key.kind) : fltB x y = decide (x.key.kind < y.key.kind) := by
  refine fltB_dec _ _ _ ?_
  rw [decide_eq_true_iff]
  unfold flt klt
  constructor
  · intro hl; exact Or.inr ⟨h, Or.inl hl⟩
  · rintro (hl | ⟨_, hl | ⟨e, _⟩⟩)
    · omega
    · exact hl
    · exact absurd e h2
theorem ahead_peer {x y : Fd} (h : x.at' = y.at') (h2 : x.key.kind = y.key.kind) (h3 : x.key.peer ≠ y.key.peer) : fltB x y = Op.bytesLess x.key.peer.toList y.key.peer.toList := by
  refine fltB_dec _ _ _ ?_
  unfold flt klt
  constructor
  · intro hl; exact Or.inr ⟨h, Or.inr ⟨h2, Or.inl hl⟩⟩
  · rintro (hl | ⟨_, hl | ⟨e, hl | ⟨e, _⟩⟩⟩)
    · omega
    · omega
    · exact hl
    · exact absurd e h3
theorem ahead_fam {x y : Fd} (h : x.at' = y.at') (h2 : x.key.kind = y.key.kind) (h3 : x.key.peer = y.key.peer) : fltB x y = decide (x.key.fam < y.key.fam) := by
  refine fltB_dec _ _ _ ?_
  rw [decide_eq_true_iff]
  unfold flt klt
  constructor
  · intro hl; exact Or.inr ⟨h, Or.inr ⟨h2, Or.inr ⟨h3, hl⟩⟩⟩
  · rintro (hl | ⟨_, hl | ⟨e, hl | ⟨e, hl⟩⟩⟩)
    · omega
    · omega
    · rw [h3, str_irrefl] at hl; cases hl
    · exact hl
set_option maxHeartbeats 1000000 in
theorem ahead_any (x y : Fd) (w : World) : Calls Try.prog 24 #[.agg #[.int .u64 (x.at' : Int), .int .i64 x.key.kind, .string x.key.peer, .int .i64 x.key.fam], .agg #[.int .u64 (y.at' : Int), .int .i64 y.key.kind, .string y.key.peer, .int .i64 y.key.fam]] w fun e w' => e = .returned (.bool (fltB x y)) ∧ Grw w w' := by
  obtain ⟨r, hr⟩ : ∃ r, r = fltB x y := ⟨_, rfl⟩
  rw [← hr]
  by_cases h1 : x.at' = y.at'
  · have g1 : (x.at' : Int) = (y.at' : Int) := by omega
    by_cases h2 : x.key.kind = y.key.kind
    · cases h3 : (x.key.peer.toList == y.key.peer.toList)
      · have hp : x.key.peer ≠ y.key.peer := fun e => by rw [e] at h3; simp at h3
        have H : Hid (r = Op.bytesLess x.key.peer.toList y.key.peer.toList) := by rw [hr]; exact ahead_peer h1 h2 hp
        clear hr hp h1
        go_enter Try.func24, Try.ntmps24
        go_wp2
        go_ret
        exact ⟨ret_bool H.out.symm, ((Grw.refl _).alloc _).alloc _⟩
      · have hp : x.key.peer = y.key.peer := by rw [beq_toList] at h3; simpa using h3
        have H : Hid (r = decide (x.key.fam < y.key.fam)) := by rw [hr]; exact ahead_fam h1 h2 hp
        clear hr hp h1
        go_enter Try.func24, Try.ntmps24
        go_wp2
        go_ret
        exact ⟨ret_bool H.out.symm, ((Grw.refl _).alloc _).alloc _⟩
    · have H : Hid (r = decide (x.key.kind < y.key.kind)) := by rw [hr]; exact ahead_kind h1 h2
      clear hr h1
      go_enter Try.func24, Try.ntmps24
      go_wp2
      go_ret
      exact ⟨ret_bool H.out.symm, ((Grw.refl _).alloc _).alloc _⟩
  · have g1 : ¬ (x.at' : Int) = (y.at' : Int) := by omega
    have H : Hid (r = decide (x.at' < y.at')) := by rw [hr]; exact ahead_at h1
    clear hr h1
    go_enter Try.func24, Try.ntmps24
    go_wp2
    go_ret
    exact ⟨ret_bool H.out.symm, ((Grw.refl _).alloc _).alloc _⟩
set_option maxHeartbeats 1000000 in
theorem rahead_any (x y : Fd) (w : World) : Calls Try.prog 29 #[.agg #[.int .u64 (x.at' : Int), .int .i64 x.key.kind, .string x.key.peer, .int .i64 x.key.fam], .agg #[.int .u64 (y.at' : Int), .int .i64 y.key.kind, .string y.key.peer, .int .i64 y.key.fam]] w fun e w' => e = .returned (.bool (fltB x y)) ∧ Grw w w' := by
  obtain ⟨r, hr⟩ : ∃ r, r = fltB x y := ⟨_, rfl⟩
  rw [← hr]
  by_cases h1 : x.at' = y.at'
  · have g1 : (x.at' : Int) = (y.at' : Int) := by omega
    by_cases h2 : x.key.kind = y.key.kind
    · cases h3 : (x.key.peer.toList == y.key.peer.toList)
      · have hp : x.key.peer ≠ y.key.peer := fun e => by rw [e] at h3; simp at h3
        have H : Hid (r = Op.bytesLess x.key.peer.toList y.key.peer.toList) := by rw [hr]; exact ahead_peer h1 h2 hp
        clear hr hp h1
        go_enter Try.func29, Try.ntmps29
        go_wp2
        go_ret
        exact ⟨ret_bool H.out.symm, ((Grw.refl _).alloc _).alloc _⟩
      · have hp : x.key.peer = y.key.peer := by rw [beq_toList] at h3; simpa using h3
        have H : Hid (r = decide (x.key.fam < y.key.fam)) := by rw [hr]; exact ahead_fam h1 h2 hp
        clear hr hp h1
        go_enter Try.func29, Try.ntmps29
        go_wp2
        go_ret
        exact ⟨ret_bool H.out.symm, ((Grw.refl _).alloc _).alloc _⟩
    · have H : Hid (r = decide (x.key.kind < y.key.kind)) := by rw [hr]; exact ahead_kind h1 h2
      clear hr h1
      go_enter Try.func29, Try.ntmps29
      go_wp2
      go_ret
      exact ⟨ret_bool H.out.symm, ((Grw.refl _).alloc _).alloc _⟩
  · have g1 : ¬ (x.at' : Int) = (y.at' : Int) := by omega
    have H : Hid (r = decide (x.at' < y.at')) := by rw [hr]; exact ahead_at h1
    clear hr h1
    go_enter Try.func29, Try.ntmps29
    go_wp2
    go_ret
    exact ⟨ret_bool H.out.symm, ((Grw.refl _).alloc _).alloc _⟩
end Go.Proofs.Ytgplhdhnailpfaa
