/-
  Timers in a slice, as the reference keeps them; the reference's At.
-/
import Derived.Test.YtgplhdhnailpfaaG2
set_option linter.unusedSimpArgs false
set_option maxRecDepth 100000
namespace Go.Proofs.Ytgplhdhnailpfaa
open Go.RowKit Go.Maps
/-- A timer's four cells from a cell on. -/
structure FoAt (w : World) (g o : Nat) (x : Fd) : Prop where
  c0 : w.cell? ⟨g, o, none⟩ = some (.int .u64 (x.at' : Int))
  c1 : w.cell? ⟨g, o + 1, none⟩ = some (.int .i64 x.key.kind)
  c2 : w.cell? ⟨g, o + 2, none⟩ = some (.string x.key.peer)
  c3 : w.cell? ⟨g, o + 3, none⟩ = some (.int .i64 x.key.fam)
theorem FoAt.below {w w' : World} {g k : Nat} {x : Fd} (h : FoAt w g k x) (hb : Below w.heap.size w w') : FoAt w' g k x := ⟨cell2 hb h.c0, cell2 hb h.c1, cell2 hb h.c2, cell2 hb h.c3⟩
theorem FoAt.kept {w w' : World} {g k : Nat} {r : Option Nat} {x : Fd} (h : FoAt w g k x) (hg : w.grownBy w' r) (hne : some g ≠ r) : FoAt w' g k x := ⟨hg.cell h.c0 hne, hg.cell h.c1 hne, hg.cell h.c2 hne, hg.cell h.c3 hne⟩
/-- Timers in a slice. -/
structure FsAt (w : World) (v : Value) (L : List Fd) : Prop where
  shape : ∃ ad cap, v = .slice ad L.length cap ∧ L.length ≤ cap
  cell : L ≠ [] → ∃ g off cap, v = .slice (some ⟨g, off, none⟩) L.length cap ∧ L.length ≤ cap ∧ ∀ j (h : j < L.length), FoAt w g (off + j * 4) L[j]
theorem FsAt.below {w w' : World} {v : Value} {L : List Fd} (h : FsAt w v L) (hb : Below w.heap.size w w') : FsAt w' v L :=
  ⟨h.shape, fun hn => by obtain ⟨g, off, cap, e, hc, hs⟩ := h.cell hn; exact ⟨g, off, cap, e, hc, fun j hj => (hs j hj).below hb⟩⟩
theorem FsAt.kept {w w' : World} {v : Value} {L M : List Fd} {b : Nat} (h : FsAt w v L) (hm : MpAt w b M) (hg : w.grownBy w' (some b)) : FsAt w' v L :=
  ⟨h.shape, fun hn => by
    obtain ⟨g, off, cap, e, hc, hs⟩ := h.cell hn
    refine ⟨g, off, cap, e, hc, fun j hj => (hs j hj).kept hg (fun e => ?_)⟩
    injection e with e
    have h1 := hm.nocell (off + j * 4)
    rw [← e, (hs j hj).c0] at h1
    cases h1⟩
theorem FsAt.nil (w : World) : FsAt w (.slice none 0 0) [] := ⟨⟨none, 0, rfl, Nat.le_refl _⟩, fun h => absurd rfl h⟩
theorem FsAt.own {w : World} {base : Nat} {v : Value} {L : List Fd} (h : OwnF w base v L) : FsAt w v L := by
  obtain ⟨ad, c, e, hc⟩ := own_len h
  refine ⟨⟨ad, c, e, hc⟩, fun hn => ?_⟩
  obtain ⟨g, cap, e2⟩ := own_some h hn
  subst e2
  injection e with _ _ e3
  refine ⟨g, 0, cap, rfl, by omega, fun j hj => ?_⟩
  have := own_at h j hj
  rw [Nat.zero_add]
  exact ⟨this.c0, this.c1, this.c2, this.c3⟩
/-- Two keys are one, or part somewhere. -/
theorem key_cases (a b : Ky) : a = b ∨ (a ≠ b ∧ ¬ a.kind = b.kind) ∨ (a ≠ b ∧ a.kind = b.kind ∧ (a.peer.toList == b.peer.toList) = false) ∨ (a ≠ b ∧ a.kind = b.kind ∧ (a.peer.toList == b.peer.toList) = true ∧ ¬ a.fam = b.fam) := by
  by_cases h1 : a.kind = b.kind
  · cases h2 : (a.peer.toList == b.peer.toList)
    · exact Or.inr (Or.inr (Or.inl ⟨fun e => by rw [e] at h2; simp at h2, h1, rfl⟩))
    · by_cases h3 : a.fam = b.fam
      · exact Or.inl (keyB_iff.1 (by unfold keyB; rw [h1, h2, h3]; simp))
      · exact Or.inr (Or.inr (Or.inr ⟨fun e => h3 (by rw [e]), h1, rfl, h3⟩))
  · exact Or.inr (Or.inl ⟨fun e => h1 (by rw [e]), h1⟩)
/-- A key in a box. -/
structure BoxAt (w : World) (b : Nat) (k : Ky) : Prop where
  c0 : w.cell? ⟨b, 0, none⟩ = some (.int .i64 k.kind)
  c1 : w.cell? ⟨b, 1, none⟩ = some (.string k.peer)
  c2 : w.cell? ⟨b, 2, none⟩ = some (.int .i64 k.fam)
theorem BoxAt.below {w w' : World} {b : Nat} {k : Ky} (h : BoxAt w b k) (hb : Below w.heap.size w w') : BoxAt w' b k := ⟨cell2 hb h.c0, cell2 hb h.c1, cell2 hb h.c2⟩
theorem BoxAt.kept {w w' : World} {b : Nat} {r : Option Nat} {k : Ky} (h : BoxAt w b k) (hg : w.grownBy w' r) (hne : some b ≠ r) : BoxAt w' b k := ⟨hg.cell h.c0 hne, hg.cell h.c1 hne, hg.cell h.c2 hne⟩
theorem BoxAt.new (w : World) (k : Ky) : BoxAt (w.alloc (.cells #[.int .i64 k.kind, .string k.peer, .int .i64 k.fam] 27)) w.heap.size k := ⟨by simp, by simp, by simp⟩
theorem lookF_cons (x : Fd) (l : List Fd) (k : Ky) : lookF (x :: l) k = if keyB x.key k then some x.at' else lookF l k := by
  unfold lookF
  rw [List.find?_cons]
  cases keyB x.key k <;> simp
theorem look_dropS {L : List Fd} {k : Ky} (j : Nat) (hj : j < L.length) : lookF (L.drop j) k = if keyB L[j].key k then some L[j].at' else lookF (L.drop (j + 1)) k := by
  rw [List.drop_eq_getElem_cons hj, lookF_cons]
theorem tup_eq {r : Option Nat} {t : Nat} (h : r = some t) : Ending.returned (.tuple #[.int .u64 (t : Int), .bool true]) = .returned (.tuple #[.int .u64 ((r.getD 0 : Nat) : Int), .bool r.isSome]) := by subst h; rfl
theorem tup_eq0 {r : Option Nat} (h : r = none) : Ending.returned (.tuple #[.int .u64 0, .bool false]) = .returned (.tuple #[.int .u64 ((r.getD 0 : Nat) : Int), .bool r.isSome]) := by subst h; rfl
set_option maxHeartbeats 1000000 in
theorem rat_any {w : World} {v : Value} {L : List Fd} (h : FsAt w v L) (k : Ky) (hl : L.length ≤ 50000) :
    Calls Try.prog 9 #[v, .agg #[.int .i64 k.kind, .string k.peer, .int .i64 k.fam]] w fun e w' => e = .returned (.tuple #[.int .u64 (((lookF L k).getD 0 : Nat) : Int), .bool (lookF L k).isSome]) ∧ Below w.heap.size w w' := by
  have HB1 : Hid (Below w.heap.size w (w.alloc (.cells #[.int .i64 k.kind, .string k.peer, .int .i64 k.fam] 27))) := (Below.refl _ _).alloc (Nat.le_refl _) _
  by_cases hn : L = []
  · subst hn
    obtain ⟨ad, cap, rfl, _⟩ := h.shape
    clear h hl
    go_enter Try.func9, Try.ntmps9
    go_wp2
    refine wp_loop_rounds 1 ?_
    rw [rounds_succ]
    go_wp2
    go_ret2
    exact ⟨rfl, HB1.out⟩
  · obtain ⟨g, off, cap, rfl, _, hs⟩ := h.cell hn
    have HS : Hid (∀ W, Below w.heap.size w W → ∀ j (h : j < L.length), FoAt W g (off + j * 4) L[j]) := fun W hb j hj => (hs j hj).below hb
    have hlI : (L.length : Int) ≤ 50000 := by omega
    clear hs h hn hl
    obtain ⟨r, hr⟩ : ∃ r, r = lookF L k := ⟨_, rfl⟩
    rw [← hr]
    have HR : Hid (lookF (L.drop 0) k = r) := by rw [hr]; rfl
    clear hr
    go_enter Try.func9, Try.ntmps9
    go_wp2
    refine with_world (fun W => Below w.heap.size w W ∧ BoxAt W w.heap.size k) ⟨HB1.out, BoxAt.new w k⟩ ?_
    rintro w1 ⟨hb1, hx1⟩
    have HW1 : Hid (Below w.heap.size w w1 ∧ BoxAt w1 w.heap.size k) := ⟨hb1, hx1⟩
    clear hb1 hx1 HB1
    go_loopw [6] (fun i wr => ∃ j : Nat, j ≤ L.length ∧ i = .int .i64 j ∧ Below w1.heap.size w1 wr ∧ lookF (L.drop j) k = r) (fun i _ => L.length - (intOf i).toNat)
    case atStart => exact ⟨0, Nat.zero_le _, rfl, Below.refl _ _, HR.out⟩
    case round =>
      obtain ⟨j, hj, rfl, hbel, hlk⟩ := hrel
      have HB : Hid (Below w.heap.size w wr) := HW1.out.1.trans (hbel.mono HW1.out.1.size)
      have HBW : Hid (Below w1.heap.size w1 wr) := hbel
      have HK : Hid (lookF (L.drop j) k = r) := hlk
      obtain ⟨b0, b1, b2⟩ := HW1.out.2.below hbel
      clear hlk hbel
      by_cases hlt : j < L.length
      · have hlt' : (j : Int) < (L.length : Int) := by omega
        obtain ⟨c0, c1, c2, c3⟩ := HS.out wr HB.out j hlt
        have HD : Hid (_ = _) := look_dropS (k := k) j hlt
        generalize L[j] = x at *
        rcases key_cases x.key k with he | ⟨he, q1⟩ | ⟨he, q1, q2⟩ | ⟨he, q1, q2, q3⟩
        · have HA : Hid (r = some x.at') := by
            unfold Hid; rw [← HK.out, HD.out, if_pos (keyB_iff.2 he)]
          rw [← he] at b0 b1 b2
          clear he
          go_wp2
          go_quiet (fail)
          go_wp2
          go_ret2
          exact ⟨tup_eq HA.out, below_drewN HB.out _⟩
        all_goals
          have HA : Hid (lookF (L.drop (j + 1)) k = r) := by
            unfold Hid; rw [← HK.out, HD.out, keyB_ne he]; rfl
          clear he
          go_wp2
          go_quiet (fail)
          go_wp2
          go_roundw
          case rel => exact ⟨j + 1, by omega, by go_num, below_drewN HBW.out _, HA.out⟩
          case measure => simp [intOf]; omega
      · have HA : Hid (r = none) := by
          unfold Hid; rw [← HK.out, List.drop_of_length_le (by omega)]; rfl
        have hlt' : ¬ (j : Int) < (L.length : Int) := by omega
        go_wp2
        go_ret2
        exact ⟨tup_eq0 HA.out, HB.out⟩
end Go.Proofs.Ytgplhdhnailpfaa
