/-
  A copy of draws; Jitter, the program's and the reference's; works.
-/
import Derived.Test.YtjgnnbbimkhjjaaA1
set_option linter.unusedSimpArgs false
set_option maxRecDepth 100000
namespace Go.Proofs.Ytjgnnbbimkhjjaa
open Go.RowKit
theorem info42 : (Try.prog.info? 42).map (·.size) = some 67 := by kernel_rfl
theorem under42 : ∃ d, Try.prog.underlying 42 = some d ∧ d.isRow = true := ⟨_, Try.underlying42, rfl⟩
theorem cellA_new (w : World) (A : Array Value) (j : Nat) : (w.alloc (.cells A 42)).cell? ⟨w.heap.size, j, none⟩ = A[j]? := by
  simp only [World.cell?, heap_alloc_new]
  simp
theorem frozenA_new (w : World) (A : Array Value) (j : Nat) : (w.alloc (.cells A 42)).frozen? ⟨w.heap.size, j, none⟩ = false := by
  simp only [World.frozen?, heap_alloc_new]
  simp
theorem below_setCells {B b : Nat} (hB : B ≤ b) : ∀ (vs : List Value) (o : Nat) (w : World), Below B w (w.setCells b o vs)
  | [], _, _ => Below.refl _ _
  | v :: vs, o, w => ((Below.refl B w).setCell (p := ⟨b, o, none⟩) hB v).trans (below_setCells hB vs (o + 1) _)
theorem copy_ok {w : World} {p : Nat} {L : List Nat} (h : DAt w p L) : Calls Try.prog 12 #[.pointer (some ⟨p, 0, none⟩)] w fun e w' => e = .returned (.pointer (some ⟨w.heap.size, 0, none⟩)) ∧ DAt w' w.heap.size L ∧ Below w.heap.size w w' := by
  have HT : Hid (_ : Prop) := there_yes h
  obtain ⟨⟨cs, f, hR, hr⟩, hh⟩ := h
  obtain ⟨d, hu, hd⟩ := under42
  obtain ⟨Z, hZ⟩ : ∃ Z, Z = zer.toArray := ⟨_, rfl⟩
  have hz := zero42 w
  have hzs : Z.size = 67 := by rw [hZ]; rfl
  rw [← hZ] at hz
  have hth : (w.alloc (.cells Z 42)).there w.heap.size 0 cs.length := fun j hj => by
    have hj' : 0 + j < Z.size := by have := hR.len; omega
    refine ⟨?_, frozenA_new _ _ _⟩
    rw [cellA_new, Array.getElem?_eq_getElem hj']
    rfl
  have HL : Hid (w.rangeAt p 0 cs ∧ Try.prog.underlying 42 = some d ∧ d.isRow = true ∧ (Try.prog.info? 42).map (·.size) = some cs.length) := ⟨hr, hu, hd, by rw [hR.len]; exact info42⟩
  have HS : Hid ((w.alloc (.cells Z 42)).there w.heap.size 0 cs.toArray.size ∧ (Try.prog.info? 42).map (·.size) = some cs.toArray.size ∧ cs.toArray.all (·.oneCell') = true) :=
    ⟨by simpa using hth, by simp [hR.len]; simpa using info42, all_oneCell_toArray hR.one⟩
  have HH : Hid (DAt ((w.alloc (.cells Z 42)).setCells w.heap.size 0 cs) w.heap.size L) := ⟨⟨cs, f, hR, World.rangeAt_setCells_same _ _ _ _ hth⟩, fun i => by rw [World.frozen?_setCells]; exact frozenA_new _ _ _⟩
  clear hR hr hu hd hth hh hzs hZ
  go_enter Try.func12, Try.ntmps12
  go_wp2_with (first
    | (go_at_call 17; refine Calls.mono HT.out ?_; rintro e w1 ⟨rfl, hw1⟩; subst w1)
    | (refine wpList_load_mid rfl 42 _ rfl p 0 rfl cs d HL.out.1 HL.out.2.1 HL.out.2.2.1 HL.out.2.2.2 ?_)
    | (refine wpList_store_mid rfl 42 _ _ rfl w.heap.size 0 cs.toArray rfl rfl HS.out.1 HS.out.2.1 HS.out.2.2 ?_))
  go_ret
  exact ⟨rfl, HH.out, ((Below.refl _ _).alloc (Nat.le_refl _) _).trans (below_setCells (Nat.le_refl _) _ _ _)⟩
/-- What Jitter answers, and what waits then. -/
def jitI (L : List Nat) (b : Int) : Int := if b ≤ 0 then 0 else match L with | [] => b | x :: _ => ofI b x
def jitL (L : List Nat) (b : Int) : List Nat := if b ≤ 0 then L else L.tail
theorem jitI_no {b : Int} (h : b ≤ 0) (L : List Nat) : jitI L b = 0 := by unfold jitI; rw [if_pos h]
theorem jitL_no {b : Int} (h : b ≤ 0) (L : List Nat) : jitL L b = L := by unfold jitL; rw [if_pos h]
theorem jitI_nil {b : Int} (h : ¬ b ≤ 0) : jitI [] b = b := by unfold jitI; rw [if_neg h]
theorem jitI_cons {b : Int} (h : ¬ b ≤ 0) (x : Nat) (L : List Nat) : jitI (x :: L) b = ofI b x := by unfold jitI; rw [if_neg h]
theorem jitL_pos {b : Int} (h : ¬ b ≤ 0) (L : List Nat) : jitL L b = L.tail := by unfold jitL; rw [if_neg h]
theorem jit_low {b : Int} (h : b ≤ 0) (g : Value) (w : World) : Calls Try.prog 18 #[.int .i64 b, g] w fun e w' => e = .returned (.int .i64 0) ∧ w' = w := by
  go_enter Try.func18, Try.ntmps18
  go_wp2
  go_ret
  exact ⟨rfl, rfl⟩
/-- jitter over a method value, where nothing is taken. -/
theorem jit_none {b : Int} (h : ¬ b ≤ 0) (a : Option Addr) {w : World} (ht : Calls Try.prog 19 #[.pointer a] w fun e w' => e = .returned (.tuple #[.int .u32 0, .bool false]) ∧ w' = w) :
    Calls Try.prog 18 #[.int .i64 b, .func (.func 19) #[.pointer a] #[]] w fun e w' => e = .returned (.int .i64 b) ∧ w' = w := by
  have HT : Hid (_ : Prop) := ht
  clear ht
  go_enter Try.func18, Try.ntmps18
  go_wp2_with (go_at_call 19; refine Calls.mono HT.out ?_; rintro e w' ⟨rfl, rfl⟩)
  go_ret
  exact ⟨rfl, rfl⟩
theorem jit_some {b : Int} (h : ¬ b ≤ 0) (hb2 : b < 9223372036854775808) {p x : Nat} {L : List Nat} {w : World} (hd : DAt w p (x :: L)) :
    Calls Try.prog 18 #[.int .i64 b, .func (.func 19) #[.pointer (some ⟨p, 0, none⟩)] #[]] w fun e w' => e = .returned (.int .i64 (ofI b x)) ∧ DAt w' p L ∧ w.grownBy w' (some p) := by
  have hx : x < 4294967296 := by obtain ⟨⟨cs, f, hR, hr⟩, _⟩ := hd; exact hR.small x (by simp)
  have HT : Hid (_ : Prop) := take_cons hd
  have HO : Hid (_ : Prop) := fun w' => of_any (b := b) hb2 hx w'
  clear hd
  go_enter Try.func18, Try.ntmps18
  go_wp2_with fail
  refine Calls.mono HT.out ?_
  rintro e w1 ⟨rfl, h1, hg⟩
  go_wp2_with (go_at_call 15; refine Calls.mono (HO.out _) ?_; rintro e w2 ⟨rfl, hw2⟩; subst w2)
  go_ret
  exact ⟨rfl, h1, hg⟩
theorem jitter_no {b : Int} {a : Option Addr} {w : World} (hn : NoD w a) : Calls Try.prog 11 #[.pointer a, .int .i64 b] w fun e w' => e = .returned (.int .i64 (jitI [] b)) ∧ w' = w := by
  by_cases h : b ≤ 0
  · rw [jitI_no h]
    have HJ : Hid (_ : Prop) := fun g w => jit_low h g w
    clear h
    go_enter Try.func11, Try.ntmps11
    go_wp2_with (go_at_call 18; refine Calls.mono (HJ.out _ _) ?_; rintro e w1 ⟨rfl, hw1⟩; subst w1)
    go_ret
    exact ⟨rfl, rfl⟩
  · rw [jitI_nil h]
    have HJ : Hid (_ : Prop) := jit_none h a (take_no hn)
    clear h hn
    go_enter Try.func11, Try.ntmps11
    go_wp2_with (go_at_call 18; refine Calls.mono HJ.out ?_; rintro e w1 ⟨rfl, hw1⟩; subst w1)
    go_ret
    exact ⟨rfl, rfl⟩
theorem jitter_any {b : Int} (hb2 : b < 9223372036854775808) {p : Nat} {L : List Nat} {w : World} (hd : DAt w p L) :
    Calls Try.prog 11 #[.pointer (some ⟨p, 0, none⟩), .int .i64 b] w fun e w' => e = .returned (.int .i64 (jitI L b)) ∧ DAt w' p (jitL L b) ∧ w.grownBy w' (some p) := by
  by_cases h : b ≤ 0
  · rw [jitI_no h, jitL_no h]
    have HJ : Hid (_ : Prop) := fun g w => jit_low h g w
    clear h
    go_enter Try.func11, Try.ntmps11
    go_wp2_with (go_at_call 18; refine Calls.mono (HJ.out _ _) ?_; rintro e w1 ⟨rfl, hw1⟩; subst w1)
    go_ret
    exact ⟨rfl, hd, grown_refl _ _⟩
  · rw [jitL_pos h]
    cases L with
    | nil =>
      rw [jitI_nil h]
      have HJ : Hid (_ : Prop) := jit_none h (some ⟨p, 0, none⟩) (take_nil hd)
      clear h
      go_enter Try.func11, Try.ntmps11
      go_wp2_with (go_at_call 18; refine Calls.mono HJ.out ?_; rintro e w1 ⟨rfl, hw1⟩; subst w1)
      go_ret
      exact ⟨rfl, hd, grown_refl _ _⟩
    | cons x L =>
      rw [jitI_cons h, List.tail_cons]
      have HJ : Hid (_ : Prop) := jit_some h hb2 hd
      clear h hd
      go_enter Try.func11, Try.ntmps11
      go_wp2_with fail
      refine Calls.mono HJ.out ?_
      rintro e w1 ⟨rfl, h1, hg⟩
      go_wp2
      go_ret
      exact ⟨rfl, h1, hg⟩
set_option maxHeartbeats 2000000 in
theorem works_any (w : World) : Calls Try.prog 14 #[] w fun e w' => e = .returned (.bool true) ∧ Below w.heap.size w w' := by
  have HP0 : Hid (∀ p W, DAt W p [] → Calls Try.prog 9 #[.pointer (some ⟨p, 0, none⟩), .int .u32 0] W fun e w' => e = .returned (.int .i64 0) ∧ DAt w' p [0] ∧ W.grownBy w' (some p)) := fun p W h => push_ok h (by decide) (n := 0) (by decide)
  have HP1 : Hid (∀ p W, DAt W p [0] → Calls Try.prog 9 #[.pointer (some ⟨p, 0, none⟩), .int .u32 25] W fun e w' => e = .returned (.int .i64 0) ∧ DAt w' p [0, 25] ∧ W.grownBy w' (some p)) := fun p W h => push_ok h (by decide) (n := 25) (by decide)
  have HJ0 : Hid (∀ p W, DAt W p [0, 25] → Calls Try.prog 11 #[.pointer (some ⟨p, 0, none⟩), .int .i64 100] W fun e w' => e = .returned (.int .i64 75) ∧ DAt w' p [25] ∧ W.grownBy w' (some p)) := fun p W h => jitter_any (b := 100) (by decide) h
  have HJ1 : Hid (∀ p W, DAt W p [25] → Calls Try.prog 11 #[.pointer (some ⟨p, 0, none⟩), .int .i64 100] W fun e w' => e = .returned (.int .i64 100) ∧ DAt w' p [] ∧ W.grownBy w' (some p)) := fun p W h => jitter_any (b := 100) (by decide) h
  have HJ2 : Hid (∀ p W, DAt W p [] → Calls Try.prog 11 #[.pointer (some ⟨p, 0, none⟩), .int .i64 100] W fun e w' => e = .returned (.int .i64 100) ∧ DAt w' p [] ∧ W.grownBy w' (some p)) := fun p W h => jitter_any (b := 100) (by decide) h
  have HLF : Hid (∀ p W, DAt W p [25] → Calls Try.prog 13 #[.pointer (some ⟨p, 0, none⟩)] W fun e w' => e = .returned (.int .i64 1) ∧ w' = W) := fun p W h => left_any h
  go_enter Try.func14, Try.ntmps14
  go_wp2_with fail
  refine (new_any _).mono ?_
  rintro e w1 ⟨rfl, h1, hb1⟩
  have HB1 : Hid (Below w.heap.size w w1) := hb1
  have HPP : Hid (w.heap.size ≤ w.heap.size) := Nat.le_refl _
  generalize hp : w.heap.size = p at h1 ⊢
  have HQ : Hid (w.heap.size ≤ p) := by unfold Hid; omega
  clear hp hb1
  go_wp2_with fail
  refine Calls.mono (HP0.out p _ h1) ?_
  rintro e w2 ⟨rfl, h2, hg2⟩
  have HB2 : Hid (Below w.heap.size w w2) := HB1.out.grown hg2 HB1.out.size (fun k e => by cases e; exact HQ.out)
  clear hg2 h1
  go_wp2_with fail
  refine Calls.mono (HP1.out p _ h2) ?_
  rintro e w3 ⟨rfl, h3, hg3⟩
  have HB3 : Hid (Below w.heap.size w w3) := HB2.out.grown hg3 HB2.out.size (fun k e => by cases e; exact HQ.out)
  clear hg3 h2
  go_wp2_with fail
  refine Calls.mono (HJ0.out p _ h3) ?_
  rintro e w4 ⟨rfl, h4, hg4⟩
  have HB4 : Hid (Below w.heap.size w w4) := HB3.out.grown hg4 HB3.out.size (fun k e => by cases e; exact HQ.out)
  clear hg4 h3
  go_wp2_with fail
  refine Calls.mono (HLF.out p _ h4) ?_
  rintro e w5 ⟨rfl, hw5⟩
  subst w5
  go_wp2_with fail
  refine Calls.mono (HJ1.out p _ h4) ?_
  rintro e w5 ⟨rfl, h5, hg5⟩
  have HB5 : Hid (Below w.heap.size w w5) := HB4.out.grown hg5 HB4.out.size (fun k e => by cases e; exact HQ.out)
  clear hg5 h4
  go_wp2_with fail
  refine Calls.mono (HJ2.out p _ h5) ?_
  rintro e w6 ⟨rfl, h6, hg6⟩
  have HB6 : Hid (Below w.heap.size w w6) := HB5.out.grown hg6 HB5.out.size (fun k e => by cases e; exact HQ.out)
  clear hg6 h5
  go_wp2
  go_ret
  exact ⟨rfl, HB6.out⟩
end Go.Proofs.Ytjgnnbbimkhjjaa
