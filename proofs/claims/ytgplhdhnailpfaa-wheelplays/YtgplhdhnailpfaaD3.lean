/-
  The keys that are due, in any order.
-/
import Derived.Test.YtgplhdhnailpfaaD2
set_option linter.unusedSimpArgs false
set_option maxRecDepth 100000
namespace Go.Proofs.Ytgplhdhnailpfaa
open Go.RowKit Go.Maps
/-- The cells of a key. -/
def encK (k : Ky) : List Value := [.int .i64 k.kind, .string k.peer, .int .i64 k.fam]
def cellsK (l : List Ky) : List Value := l.flatMap encK
theorem cellsK_snoc (l : List Ky) (k : Ky) : cellsK (l ++ [k]) = cellsK l ++ [.int .i64 k.kind, .string k.peer, .int .i64 k.fam] := by simp [cellsK, encK]
/-- Keys in a row of their own. -/
def OwnK (w : World) (base : Nat) (v : Value) (l : List Ky) : Prop := w.ownsRow base 27 3 v l.length (cellsK l)
theorem info27 : (Try.prog.info? 27).map (fun i => (i.zero, i.size, i.bytes)) = some (some (.agg #[.int .i64 0, .string ⟨#[]⟩, .int .i64 0]), 3, 32) := by kernel_rfl
theorem three_k (k : Ky) : ∀ u ∈ ([.int .i64 k.kind, .string k.peer, .int .i64 k.fam] : List Value), u.oneCell' = true := by
  intro u hu
  simp at hu
  rcases hu with h | h | h <;> subst h <;> rfl
theorem news3 (w : World) (a b c : Value) (t : TypeId) : ∀ (j : Nat) (u : Value), [a, b, c][j]? = some u → (w.alloc (.cells #[a, b, c] t)).cell? (Addr.add ⟨w.heap.size, 0, none⟩ j) = some u := by
  intro j u hj
  rcases j with _ | _ | _ | j
  · simp at hj; subst hj; simp [Addr.add]
  · simp at hj; subst hj; simp [Addr.add]
  · simp at hj; subst hj; simp [Addr.add]
  · simp at hj
/-- The keys that have come so far and are due. -/
structure Col (L : List Fd) (now : Nat) (left : Lit → Bool) (ss : List Ky) : Prop where
  once : ss.Nodup
  mem : ∀ k, k ∈ ss ↔ (∃ x ∈ L, x.key = k ∧ x.at' ≤ now) ∧ left (klit k) = false
theorem Col.start {D : DataW Unit} {L : List Fd} (hw : Whl L) (hr : Reads D L) (now : Nat) : Col L now (Maps.has D) [] := by
  refine ⟨List.nodup_nil, fun k => ⟨fun h => (by cases h), ?_⟩⟩
  rintro ⟨⟨x, hx, rfl, _⟩, hl⟩
  rw [hr.has, hw.look (t := x.at') (k := x.key) hx] at hl
  cases hl
theorem Col.due {L : List Fd} {now : Nat} {left : Lit → Bool} {ss : List Ky} (h : Col L now left ss) {x : Fd} (hx : x ∈ L) (hl : left (klit x.key) = true) (ht : x.at' ≤ now) :
    Col L now (fun z => left z && !z.sameKey (klit x.key)) (ss ++ [x.key]) := by
  refine ⟨?_, fun k => ?_⟩
  · refine List.nodup_append.2 ⟨h.once, by simp, fun a ha b hb e => ?_⟩
    simp at hb
    subst hb
    subst e
    have := ((h.mem _).1 ha).2
    rw [hl] at this
    cases this
  · rw [List.mem_append, h.mem k]
    by_cases e : k = x.key
    · subst e
      simp only [List.mem_singleton, or_true, true_iff, same_self, Bool.not_true, Bool.and_false, and_true]
      exact ⟨x, hx, rfl, ht⟩
    · simp only [List.mem_singleton, e, or_false, same_ne e, Bool.not_false, Bool.and_true]
theorem Col.later {L : List Fd} {now : Nat} {left : Lit → Bool} {ss : List Ky} (hw : Whl L) (h : Col L now left ss) {x : Fd} (hx : x ∈ L) (ht : now < x.at') :
    Col L now (fun z => left z && !z.sameKey (klit x.key)) ss := by
  refine ⟨h.once, fun k => ?_⟩
  rw [h.mem k]
  by_cases e : k = x.key
  · subst e
    constructor
    · rintro ⟨⟨y, hy, e, hl⟩, _⟩
      have := hw.one hy hx e
      subst this
      omega
    · rintro ⟨⟨y, hy, e, hl⟩, _⟩
      have := hw.one hy hx e
      subst this
      omega
  · simp only [same_ne e, Bool.not_false, Bool.and_true]
set_option maxHeartbeats 1000000 in
theorem keysTo_any {p b : Nat} {L : List Fd} {w : World} (h : WhAt w p b L) (now : Nat) (hl : L.length ≤ 50000) :
    Calls Try.prog 30 #[.pointer (some ⟨p, 0, none⟩), .int .u64 (now : Int)] w fun e w' => ∃ v ss, e = .returned v ∧ OwnK w' w.heap.size v ss ∧ Col L now (fun _ => false) ss ∧ ss.length ≤ L.length ∧ Below w.heap.size w w' := by
  obtain ⟨i0, hi, hz0, hz1, hz2⟩ := info_parts info27
  obtain ⟨hw, D, hown, hr⟩ := h.m
  have HH : Hid (_ : Prop) := h
  have HW : Hid (Whl L) := hw
  have HR : Hid (Reads D L) := hr
  have HO : Hid (w.ownsMap Try.prog 27 (plainElem Try.prog 28) b L.length D) := hown
  have HLE : Hid (L.length ≤ 50000) := hl
  clear h hw hr hown hl
  go_enter Try.func30, Try.ntmps30
  go_wp2_with (first | (go_at_call 26; refine (timers_yes HH.out).mono ?_; rintro e w' ⟨rfl, hww⟩; subst w') | (at_range; refine wpList_range_own _ rfl _ 60 rfl 27 28 law Try.underlying60 _ b L.length D rfl HO.out ?_; intro w0 hrg0 hg0 hs0) | go_in)
  go_frame
  have HB0 : Hid (Below w.heap.size w w0) := (Below.refl _ _).grown hg0 (Nat.le_refl _) (fun k e => by cases e)
  have HS0 : Hid (w.heap.size + 1 ≤ w0.heap.size) := by unfold Hid; omega
  clear hg0 hs0
  go_loopw [5] (fun v wr => ∃ (ss : List Ky) (left : Lit → Bool) (cnt : Nat), RgAt wr b w.heap.size L.length D left cnt ∧ OwnK wr (w.heap.size + 1) v ss ∧ Col L now left ss ∧ ss.length + cnt ≤ L.length ∧ Below w.heap.size w wr ∧ w.heap.size + 1 ≤ wr.heap.size) (fun _ wr => wr.rangeLeft b w.heap.size)
  case atStart => exact ⟨[], _, _, hrg0, World.ownsRow_nil _ _ _ _, Col.start HW.out HR.out now, by rw [HR.out.size]; simp, HB0.out, HS0.out⟩
  case round =>
    obtain ⟨ss, left, cnt, hrg, hos, hcol, hcnt, hbel, hsz⟩ := hrel
    obtain ⟨ad, c, rfl⟩ := slice_of_owns hos
    have HRG : Hid (RgAt wr b w.heap.size L.length D left cnt) := hrg
    have HOS : Hid (OwnK wr (w.heap.size + 1) _ ss) := hos
    have HC : Hid (Col L now left ss) := hcol
    have HN : Hid (ss.length + cnt ≤ L.length) := hcnt
    have HB : Hid (Below w.heap.size w wr) := hbel
    have HS : Hid (w.heap.size + 1 ≤ wr.heap.size) := hsz
    clear hos hcol hcnt hbel hsz hrg0
    go_wp2_with (first | (at_next; refine wpList_next_keys _ rfl _ rfl b w.heap.size L.length D left cnt L HR.out rfl hrg ?_ ?_) | go_in)
    · intro _ hl0
      have hfun : left = fun _ => false := funext hl0
      have HC2 : Hid (Col L now (fun _ => false) ss) := hfun ▸ HC.out
      clear hl0 hrg hfun
      go_wp2
      go_ret
      exact ⟨_, ss, rfl, owns_mono HOS.out (by omega), HC2.out, by have := HN.out; omega, HB.out⟩
    · intro x w2 cnt2 hx hlx hrg2 hlt hg2 hs2 hen
      have HM : Hid (w2.rangeLeft b w.heap.size < wr.rangeLeft b w.heap.size) := by unfold Hid; rw [World.ranges.left_eq hrg2, World.ranges.left_eq HRG.out]; exact hlt
      have HB2 : Hid (Below w.heap.size w w2) := HB.out.grown hg2 HB.out.size (fun k e => by cases e; exact Nat.le_refl _)
      have HRG2 : Hid (RgAt w2 b w.heap.size L.length D (fun z => left z && !z.sameKey (klit x.key)) cnt2) := hrg2
      have HO2 : Hid (OwnK w2 (w.heap.size + 1) _ ss) := owns_far HOS.out hg2 (by omega)
      have HS2 : Hid (w.heap.size + 1 ≤ w2.heap.size) := by unfold Hid; rw [hs2]; exact HS.out
      have HL2 : Hid (cnt2 < cnt) := hlt
      clear hrg hrg2 hlt hg2 hs2
      have HO3 : Hid (OwnK (w2.alloc (.cells #[.int .i64 x.key.kind, .string x.key.peer, .int .i64 x.key.fam] 27)) (w.heap.size + 1) _ ss) := owns_below HO2.out ((Below.refl _ _).alloc (Nat.le_refl _) _)
      have HB3 : Hid (Below w.heap.size w (w2.alloc (.cells #[.int .i64 x.key.kind, .string x.key.peer, .int .i64 x.key.fam] 27))) := HB2.out.alloc HB2.out.size _
      have HRG3 : Hid (RgAt (w2.alloc (.cells #[.int .i64 x.key.kind, .string x.key.peer, .int .i64 x.key.fam] 27)) b w.heap.size L.length D (fun z => left z && !z.sameKey (klit x.key)) cnt2) := HRG2.out.alloc _
      have HM3 : Hid ((w2.alloc (.cells #[.int .i64 x.key.kind, .string x.key.peer, .int .i64 x.key.fam] 27)).rangeLeft b w.heap.size < wr.rangeLeft b w.heap.size) := by
        unfold Hid; rw [World.ranges.left_eq HRG3.out, World.ranges.left_eq HRG.out]; exact HL2.out
      by_cases ht : x.at' ≤ now
      · have HC2 : Hid (Col L now (fun z => left z && !z.sameKey (klit x.key)) (ss ++ [x.key])) := HC.out.due hx hlx ht
        have ht' : (x.at' : Int) ≤ (now : Int) := by omega
        have HNW : Hid (∀ (j : Nat) (u : Value), ([.int .i64 x.key.kind, .string x.key.peer, .int .i64 x.key.fam] : List Value)[j]? = some u → ((w2.alloc (.cells #[.int .i64 x.key.kind, .string x.key.peer, .int .i64 x.key.fam] 27)).alloc (.cells #[.int .i64 x.key.kind, .string x.key.peer, .int .i64 x.key.fam] 27)).cell? (Addr.add ⟨w2.heap.size + 1, 0, none⟩ j) = some u) := by
          have h := news3 (w2.alloc (.cells #[.int .i64 x.key.kind, .string x.key.peer, .int .i64 x.key.fam] 27)) (.int .i64 x.key.kind) (.string x.key.peer) (.int .i64 x.key.fam) 27
          rw [show (w2.alloc (.cells #[.int .i64 x.key.kind, .string x.key.peer, .int .i64 x.key.fam] 27)).heap.size = w2.heap.size + 1 by simp] at h
          exact h
        have hlen : ss.length + 1 ≤ 60000 := by have h1 := HN.out; have h2 := HL2.out; have h3 := HLE.out; omega
        clear ht hx hlx
        go_wp2_with (at_builtin; refine wpList_append_own _ rfl _ _ 59 rfl (w.heap.size + 1) 27 i0 (.agg #[.int .i64 0, .string ⟨#[]⟩, .int .i64 0]) 3 32 Try.underlying59 hi hz0 hz1 hz2 rfl (by decide) _ _ _ rfl (World.ownsRow.alloc HO3.out _) ⟨w2.heap.size + 1, 0, none⟩ 1 1 [.int .i64 x.key.kind, .string x.key.peer, .int .i64 x.key.fam] rfl rfl HNW.out (three_k _) (by unfold maxLen; omega) (by omega) (Nat.le_trans HS2.out (by simp; omega)) ?_; intro v6 w6 hown6 hgrow6 _)
        have HO6 : Hid (OwnK w6 (w.heap.size + 1) v6 (ss ++ [x.key])) := by
          unfold Hid OwnK; rw [cellsK_snoc, List.length_append]; exact hown6
        have hgr : (w2.alloc (.cells #[.int .i64 x.key.kind, .string x.key.peer, .int .i64 x.key.fam] 27)).grownBy w6 (Value.ownBlock (.slice ad ss.length c)) := (World.grownBy_alloc _ _ _).trans hgrow6
        have hne1 : some b ≠ Value.ownBlock (.slice ad ss.length c) := fun e => by
          have h1 := (owns_lt HO3.out b e.symm).1
          have h2 := HO.out.lt
          omega
        have hne2 : some w.heap.size ≠ Value.ownBlock (.slice ad ss.length c) := fun e => by
          have h1 := (owns_lt HO3.out _ e.symm).1
          omega
        have HRG6 : Hid (RgAt w6 b w.heap.size L.length D (fun z => left z && !z.sameKey (klit x.key)) cnt2) := HRG3.out.kept hgr hne1 hne2
        have HB6 : Hid (Below w.heap.size w w6) := HB3.out.grown hgr HB3.out.size (fun k e => by have := (owns_lt HO3.out k e).1; omega)
        have HM6 : Hid (w6.rangeLeft b w.heap.size < wr.rangeLeft b w.heap.size) := by
          unfold Hid; rw [World.ranges.left_eq HRG6.out, World.ranges.left_eq HRG.out]; exact HL2.out
        have HS6 : Hid (w.heap.size + 1 ≤ w6.heap.size) := Nat.le_trans HS2.out (Nat.le_trans (by simp) hgr.size)
        clear hown6 hgrow6 hgr hne1 hne2
        go_roundw
        case rel => exact ⟨_, _, _, HRG6.out, HO6.out, HC2.out, by have h1 := HN.out; have h2 := HL2.out; rw [List.length_append]; simp; omega, HB6.out, HS6.out⟩
        case measure => exact HM6.out
      · have HC2 : Hid (Col L now (fun z => left z && !z.sameKey (klit x.key)) ss) := HC.out.later HW.out hx (by omega)
        have ht' : ¬ (x.at' : Int) ≤ (now : Int) := by omega
        clear ht hx hlx
        go_wp2
        go_roundw
        case rel => exact ⟨_, _, _, HRG3.out, HO3.out, HC2.out, by have h1 := HN.out; have h2 := HL2.out; omega, HB3.out, by have := HS2.out; simp; omega⟩
        case measure => exact HM3.out
end Go.Proofs.Ytgplhdhnailpfaa
