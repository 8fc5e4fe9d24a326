/-
  The closure that SortFunc is handed.
-/
import Derived.Test.YtgplhdhnailpfaaC2
set_option linter.unusedSimpArgs false
set_option maxRecDepth 100000
namespace Go.Proofs.Ytgplhdhnailpfaa
open Go.RowKit Go.Maps
/-- When a key is due, by what a wheel says; 0, if it has none. -/
def tk (L : List Fd) (k : Ky) : Nat := (lookF L k).getD 0
/-- The order of two keys, by what a wheel says. -/
def tcmp (L : List Fd) (x y : Ky) : Int := firstNZ [ord (tk L x) (tk L y), kcmp x y]
/-- What stands in memory while the closure runs. -/
structure ClAt (w wx : World) (p b tb : Nat) (L : List Fd) (x y : Ky) : Prop where
  two : TwoAt w wx x y
  whl : WhAt wx p b L
  box : wx.cell? ⟨tb, 0, none⟩ = some (.func (.func 37) #[.pointer (some ⟨p, 0, none⟩)] #[])
theorem ClAt.more {w wx w' : World} {p b tb : Nat} {L : List Fd} {x y : Ky} (h : ClAt w wx p b tb L x y) (hg : Grw wx w') : ClAt w w' p b tb L x y :=
  ⟨h.two.more hg, h.whl.below hg.bel, cell2 hg.bel h.box⟩
def Held (S : World → Prop) (w : World) : Prop := S w
set_option maxHeartbeats 3200000 in
theorem clos_any {p b : Nat} {L : List Fd} {w : World} (h : WhAt w p b L) (tb : Nat) (hc : w.cell? ⟨tb, 0, none⟩ = some (.func (.func 37) #[.pointer (some ⟨p, 0, none⟩)] #[])) (x y : Ky) :
    Calls Try.prog 33 #[.agg #[.int .i64 x.kind, .string x.peer, .int .i64 x.fam], .agg #[.int .i64 y.kind, .string y.peer, .int .i64 y.fam], .pointer (some ⟨tb, 0, none⟩)] w fun e w' => e = .returned (.int .i64 (tcmp L x y)) ∧ Grw w w' := by
  have H0 : Hid (ClAt w ((w.alloc (.cells #[.int .i64 x.kind, .string x.peer, .int .i64 x.fam] 27)).alloc (.cells #[.int .i64 y.kind, .string y.peer, .int .i64 y.fam] 27)) p b tb L x y) :=
    ⟨TwoAt.start w x y, h.below ((((Grw.refl w).alloc _).alloc _)).bel, cell2 ((((Grw.refl w).alloc _).alloc _)).bel hc⟩
  obtain ⟨S, hS⟩ : ∃ S : World → Prop, S = fun wx => ClAt w wx p b tb L x y := ⟨_, rfl⟩
  have hs0 : Held S ((w.alloc (.cells #[.int .i64 x.kind, .string x.peer, .int .i64 x.fam] 27)).alloc (.cells #[.int .i64 y.kind, .string y.peer, .int .i64 y.fam] 27)).drew := by unfold Held; rw [hS]; exact H0.out.more (Grw.refl _).drew
  have HZZ : Hid (∀ w', Held S w' → Grw w w') := fun w' h => by unfold Held at h; rw [hS] at h; exact h.two.grw
  have HAL : Hid (∀ w' o, Held S w' → Held S (w'.alloc o)) := fun w' o h => by unfold Held at *; rw [hS] at *; exact h.more ((Grw.refl _).alloc _)
  have k0 : ∀ w', Held S w' → w'.cell? ⟨w.heap.size, 0, none⟩ = some (.int .i64 x.kind) := fun w' h => by unfold Held at h; rw [hS] at h; exact h.two.a0
  have k1 : ∀ w', Held S w' → w'.cell? ⟨w.heap.size, 1, none⟩ = some (.string x.peer) := fun w' h => by unfold Held at h; rw [hS] at h; exact h.two.a1
  have k2 : ∀ w', Held S w' → w'.cell? ⟨w.heap.size, 2, none⟩ = some (.int .i64 x.fam) := fun w' h => by unfold Held at h; rw [hS] at h; exact h.two.a2
  have k3 : ∀ w', Held S w' → w'.cell? ⟨w.heap.size + 1, 0, none⟩ = some (.int .i64 y.kind) := fun w' h => by unfold Held at h; rw [hS] at h; exact h.two.b0
  have k4 : ∀ w', Held S w' → w'.cell? ⟨w.heap.size + 1, 1, none⟩ = some (.string y.peer) := fun w' h => by unfold Held at h; rw [hS] at h; exact h.two.b1
  have k5 : ∀ w', Held S w' → w'.cell? ⟨w.heap.size + 1, 2, none⟩ = some (.int .i64 y.fam) := fun w' h => by unfold Held at h; rw [hS] at h; exact h.two.b2
  have k6 : ∀ w', Held S w' → w'.cell? ⟨tb, 0, none⟩ = some (.func (.func 37) #[.pointer (some ⟨p, 0, none⟩)] #[]) := fun w' h => by unfold Held at h; rw [hS] at h; exact h.box
  have M1 : Hid (∀ w', Held S w' → Calls Try.prog 37 #[.pointer (some ⟨p, 0, none⟩), .agg #[.int .i64 x.kind, .string x.peer, .int .i64 x.fam]] w' fun e w2 => e = .returned (.int .u64 (tk L x : Int)) ∧ Held S w2) := fun w' h => by
    unfold Held at *; rw [hS] at *; exact (tick_any h.whl x).mono fun e w2 ⟨he, hg⟩ => ⟨he, h.more hg⟩
  have M2 : Hid (∀ w', Held S w' → Calls Try.prog 37 #[.pointer (some ⟨p, 0, none⟩), .agg #[.int .i64 y.kind, .string y.peer, .int .i64 y.fam]] w' fun e w2 => e = .returned (.int .u64 (tk L y : Int)) ∧ Held S w2) := fun w' h => by
    unfold Held at *; rw [hS] at *; exact (tick_any h.whl y).mono fun e w2 ⟨he, hg⟩ => ⟨he, h.more hg⟩
  have M3 : Hid (∀ w', Held S w' → Calls Try.prog 36 #[.agg #[.int .i64 x.kind, .string x.peer, .int .i64 x.fam], .agg #[.int .i64 y.kind, .string y.peer, .int .i64 y.fam]] w' fun e w2 => e = .returned (.int .i64 (kcmp x y)) ∧ Held S w2) := fun w' h => by
    unfold Held at *; rw [hS] at *; exact (compare_any x y w').mono fun e w2 ⟨he, hg⟩ => ⟨he, h.more hg⟩
  obtain ⟨nc, hnc⟩ : ∃ nc, nc = tcmp L x y := ⟨_, rfl⟩
  have HOR : Hid (∀ wx : World, Calls Try.prog 34 #[.slice (some ⟨wx.heap.size, 0, none⟩) 2 2] (wx.alloc (.cells #[.int .i64 (ord (tk L x) (tk L y)), .int .i64 (kcmp x y)] 3)) fun e w' => e = .returned (.int .i64 nc) ∧ w' = (wx.alloc (.cells #[.int .i64 (ord (tk L x) (tk L y)), .int .i64 (kcmp x y)] 3))) := fun wx => by
    rw [hnc]
    exact or_any wx.heap.size 2 [ord (tk L x) (tk L y), kcmp x y] _ (by simp) (by
      intro j hj
      simp only [List.length_cons, List.length_nil] at hj
      rw [World.cell?_alloc_at _ _ _ _ rfl]
      rcases j with _ | _ | j
      · rfl
      · rfl
      · omega)
  have HNC : Hid (nc = tcmp L x y) := hnc
  clear hnc
  generalize tk L x = tx at *
  generalize tk L y = ty at *
  generalize kcmp x y = kc at *
  clear h hc hS H0
  go_enter Try.func33, Try.ntmps33
  go_wp2
  go_region_held3 (fun w' => Held S w') (first | (with_reducible assumption) | (refine HAL.out _ _ ?_; with_reducible assumption))
    (first | (go_at_call 35; refine (cmp28 _ _ _).mono ?_; rintro e w3 ⟨rfl, rfl⟩) | (go_at_call 36; refine (M3.out _ (by with_reducible assumption)).mono ?_; rintro e w3 ⟨rfl, s3⟩) | (go_at_call 34; refine Calls.mono (HOR.out _) ?_; rintro e w4 ⟨rfl, rfl⟩) | (go_at_call 37; first | (refine (M1.out _ (by with_reducible assumption)).mono ?_; rintro e wa ⟨rfl, sA⟩) | (refine (M2.out _ (by with_reducible assumption)).mono ?_; rintro e wb ⟨rfl, sB⟩)))
  go_wp2
  go_ret
  exact ⟨ret_int HNC.out, HZZ.out _ (by first | (with_reducible assumption) | (refine HAL.out _ _ ?_; with_reducible assumption))⟩
end Go.Proofs.Ytgplhdhnailpfaa
