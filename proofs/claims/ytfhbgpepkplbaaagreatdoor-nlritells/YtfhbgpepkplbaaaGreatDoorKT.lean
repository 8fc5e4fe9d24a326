/-
  NlriTells answers true for every two told prefixes, wherever the tables lie as they are laid.
-/
import Derived.Test.YtfhbgpepkplbaaaGreatDoorProg
import Derived.WalkKit
import Derived.WalkSpells
import Derived.WalkLawsBesides
import Derived.Below
import Derived.Deep.RegionHeld3
import Derived.Test.YtfhbgpepkplbaaaGreatDoorHA
import Derived.Test.YtfhbgpepkplbaaaGreatDoorF1
namespace Go.Proofs.YtfhbgpepkplbaaaGreatDoor
open Go.RowKit
/-- What holds of the world all along. -/
def Held (S : World → Prop) (w : World) : Prop := S w
set_option maxRecDepth 100000 in
set_option maxHeartbeats 3200000 in
theorem tells_core (S : World → Prop) (A0 A1 A2 A3 A4 A5 B0 B1 B2 B3 B4 B5 : Value) (c d m1 m2 z : Int) (add : Bool) (w : World)
    (hS : Held S ((w.alloc (.cells #[A0, A1, A2, A3, A4, A5] 27)).alloc (.cells #[B0, B1, B2, B3, B4, B5] 27)))
    (hd : ∀ w', Held S w' → Held S w'.drew)
    (a0 : ∀ w', Held S w' → w'.cell? ⟨w.heap.size, 0, none⟩ = some A0) (b0 : ∀ w', Held S w' → w'.cell? ⟨w.heap.size + 1, 0, none⟩ = some B0)
    (a1 : ∀ w', Held S w' → w'.cell? ⟨w.heap.size, 1, none⟩ = some A1) (b1 : ∀ w', Held S w' → w'.cell? ⟨w.heap.size + 1, 1, none⟩ = some B1)
    (a2 : ∀ w', Held S w' → w'.cell? ⟨w.heap.size, 2, none⟩ = some A2) (b2 : ∀ w', Held S w' → w'.cell? ⟨w.heap.size + 1, 2, none⟩ = some B2)
    (a3 : ∀ w', Held S w' → w'.cell? ⟨w.heap.size, 3, none⟩ = some A3) (b3 : ∀ w', Held S w' → w'.cell? ⟨w.heap.size + 1, 3, none⟩ = some B3)
    (a4 : ∀ w', Held S w' → w'.cell? ⟨w.heap.size, 4, none⟩ = some A4) (b4 : ∀ w', Held S w' → w'.cell? ⟨w.heap.size + 1, 4, none⟩ = some B4)
    (a5 : ∀ w', Held S w' → w'.cell? ⟨w.heap.size, 5, none⟩ = some A5) (b5 : ∀ w', Held S w' → w'.cell? ⟨w.heap.size + 1, 5, none⟩ = some B5)
    (k7 : ∀ w', Held S w' → Calls Tryz.prog 7 #[.agg #[A0, A1, A2, A3, A4, A5], .bool add] w' fun e w2 => e = .returned (.tuple #[.int .i64 z, .int .i64 c]) ∧ Held S w2)
    (k8 : ∀ w', Held S w' → Calls Tryz.prog 8 #[.agg #[A0, A1, A2, A3, A4, A5], .bool add] w' fun e w2 => e = .returned (.tuple #[.int .i64 z, .int .i64 c]) ∧ Held S w2)
    (k9 : ∀ w', Held S w' → Calls Tryz.prog 9 #[.agg #[A0, A1, A2, A3, A4, A5]] w' fun e w2 => e = .returned (.int .i64 d) ∧ Held S w2)
    (k10 : ∀ w', Held S w' → Calls Tryz.prog 10 #[.agg #[A0, A1, A2, A3, A4, A5]] w' fun e w2 => e = .returned (.int .i64 d) ∧ Held S w2)
    (k11 : ∀ w', Held S w' → Calls Tryz.prog 11 #[.agg #[A0, A1, A2, A3, A4, A5], .agg #[B0, B1, B2, B3, B4, B5]] w' fun e w2 => e = .returned (.int .i64 m1) ∧ Held S w2)
    (k12 : ∀ w', Held S w' → Calls Tryz.prog 12 #[.agg #[A0, A1, A2, A3, A4, A5], .agg #[B0, B1, B2, B3, B4, B5]] w' fun e w2 => e = .returned (.int .i64 m1) ∧ Held S w2)
    (l11 : ∀ w', Held S w' → Calls Tryz.prog 11 #[.agg #[B0, B1, B2, B3, B4, B5], .agg #[A0, A1, A2, A3, A4, A5]] w' fun e w2 => e = .returned (.int .i64 m2) ∧ Held S w2)
    (l12 : ∀ w', Held S w' → Calls Tryz.prog 12 #[.agg #[B0, B1, B2, B3, B4, B5], .agg #[A0, A1, A2, A3, A4, A5]] w' fun e w2 => e = .returned (.int .i64 m2) ∧ Held S w2)
    (k13 : ∀ w', Held S w' → Calls Tryz.prog 13 #[] w' fun e w2 => e = .returned (.bool true) ∧ Held S w2) :
    Calls Tryz.prog 3 #[.agg #[A0, A1, A2, A3, A4, A5], .agg #[B0, B1, B2, B3, B4, B5], .bool add] w fun e w' => e = .returned (.bool true) ∧ Held S w' := by
  have K7 : Hid (_ : Prop) := k7
  have K8 : Hid (_ : Prop) := k8
  have K9 : Hid (_ : Prop) := k9
  have K10 : Hid (_ : Prop) := k10
  have K11 : Hid (_ : Prop) := k11
  have K12 : Hid (_ : Prop) := k12
  have L11 : Hid (_ : Prop) := l11
  have L12 : Hid (_ : Prop) := l12
  have K13 : Hid (_ : Prop) := k13
  have HD : Hid (∀ w', Held S w' → Held S w'.drew) := hd
  clear k7 k8 k9 k10 k11 k12 l11 l12 k13 hd
  go_enter Tryz.func3, Tryz.ntmps3
  go_wp2_with fail
  refine Calls.mono (K7.out _ hS) ?_
  rintro e w1 ⟨rfl, s1⟩
  clear hS K7
  go_wp2_with fail
  refine Calls.mono (K8.out _ s1) ?_
  rintro e w2 ⟨rfl, s2⟩
  clear s1 K8
  have hS1 := HD.out _ s2
  go_wp2_with fail
  go_region_held3 (fun w' => Held S w') (with_reducible assumption)
    (first
      | (go_at_call 9; refine (K9.out _ (by with_reducible assumption)).mono ?_; rintro e w9 ⟨rfl, s9⟩)
      | (go_at_call 10; refine (K10.out _ (by with_reducible assumption)).mono ?_; rintro e w10 ⟨rfl, s10⟩)
      | (go_at_call_of 11 ([Value.agg #[A0, A1, A2, A3, A4, A5], Value.agg #[B0, B1, B2, B3, B4, B5]]); refine (K11.out _ (by with_reducible assumption)).mono ?_; rintro e w11 ⟨rfl, s11⟩)
      | (go_at_call_of 12 ([Value.agg #[A0, A1, A2, A3, A4, A5], Value.agg #[B0, B1, B2, B3, B4, B5]]); refine (K12.out _ (by with_reducible assumption)).mono ?_; rintro e w12 ⟨rfl, s12⟩)
      | (go_at_call_of 11 ([Value.agg #[B0, B1, B2, B3, B4, B5], Value.agg #[A0, A1, A2, A3, A4, A5]]); refine (L11.out _ (by with_reducible assumption)).mono ?_; rintro e w13 ⟨rfl, s13⟩)
      | (go_at_call_of 12 ([Value.agg #[B0, B1, B2, B3, B4, B5], Value.agg #[A0, A1, A2, A3, A4, A5]]); refine (L12.out _ (by with_reducible assumption)).mono ?_; rintro e w14 ⟨rfl, s14⟩)
      | (go_at_call 13; refine (K13.out _ (by with_reducible assumption)).mono ?_; rintro e v15 ⟨rfl, t15⟩))
  go_wp2
  go_ret
  exact ⟨rfl, t15⟩
end Go.Proofs.YtfhbgpepkplbaaaGreatDoor
namespace Go.Proofs.YtfhbgpepkplbaaaGreatDoor
open Go.RowKit
/-- What holds of memory all along. -/
def TellsAt (w : World) (a b : Nl) (w' : World) : Prop := TwoAt w w' a.f a.r a.s a.l a.id a.lb b.f b.r b.s b.l b.id b.lb ∧ Tabs w'
theorem TellsAt.below {w w' w2 : World} {a b : Nl} (h : Held (TellsAt w a b) w') (hb : Below w'.heap.size w' w2) : Held (TellsAt w a b) w2 :=
  And.intro ((show TellsAt w a b w' from h).1.below hb) ((show TellsAt w a b w' from h).2.below hb)
theorem TellsAt.two {w w' : World} {a b : Nl} (h : Held (TellsAt w a b) w') : TwoAt w w' a.f a.r a.s a.l a.id a.lb b.f b.r b.s b.l b.id b.lb := (show TellsAt w a b w' from h).1
theorem TellsAt.tabs {w w' : World} {a b : Nl} (h : Held (TellsAt w a b) w') : Tabs w' := (show TellsAt w a b w' from h).2
theorem szAns_eq (f r : Int) (s : ByteArray) (l lb : Int) (add : Bool) : ∃ z c : Int, szAns f r s l lb add = .returned (.tuple #[.int .i64 z, .int .i64 c]) := by
  unfold szAns
  split
  · exact ⟨_, _, rfl⟩
  · exact ⟨_, _, rfl⟩
theorem tells_walk (a b : Nl) (add : Bool) (w : World) (ht : Tabs w) (ha : NlWf a) (hb : NlWf b) :
    Calls Tryz.prog 3 #[.agg #[.int .i64 a.f, .int .u64 a.r, .string a.s, .int .i64 a.l, .int .u32 a.id, .int .u32 a.lb], .agg #[.int .i64 b.f, .int .u64 b.r, .string b.s, .int .i64 b.l, .int .u32 b.id, .int .u32 b.lb], .bool add] w fun e w' => e = .returned (.bool true) ∧ Below w.heap.size w w' := by
  obtain ⟨z, c, hz⟩ := szAns_eq a.f a.r a.s a.l a.lb add
  have h2 := TwoAt.start w a.f a.r a.s a.l a.id a.lb b.f b.r b.s b.l b.id b.lb
  refine (tells_core (TellsAt w a b) (.int .i64 a.f) (.int .u64 a.r) (.string a.s) (.int .i64 a.l) (.int .u32 a.id) (.int .u32 a.lb) (.int .i64 b.f) (.int .u64 b.r) (.string b.s) (.int .i64 b.l) (.int .u32 b.id) (.int .u32 b.lb)
    c (nchk a.f a.r a.s a.l a.lb) (ncmp a.f a.r a.s a.l a.id a.lb b.f b.r b.s b.l b.id b.lb) (ncmp b.f b.r b.s b.l b.id b.lb a.f a.r a.s a.l a.id a.lb) z add w
    (And.intro h2 (ht.below h2.bel))
    (fun w' h => TellsAt.below h (Below.refl _ _).drew)
    (fun w' h => (TellsAt.two h).a0) (fun w' h => (TellsAt.two h).b0) (fun w' h => (TellsAt.two h).a1) (fun w' h => (TellsAt.two h).b1) (fun w' h => (TellsAt.two h).a2) (fun w' h => (TellsAt.two h).b2) (fun w' h => (TellsAt.two h).a3) (fun w' h => (TellsAt.two h).b3) (fun w' h => (TellsAt.two h).a4) (fun w' h => (TellsAt.two h).b4) (fun w' h => (TellsAt.two h).a5) (fun w' h => (TellsAt.two h).b5)
    (fun w' h => (nsize_any a.f a.r a.s a.l a.id a.lb add w' (TellsAt.tabs h).sizes (TellsAt.tabs h).rds).mono fun _ _ ⟨h1, h3⟩ => ⟨h1.trans hz, TellsAt.below h h3⟩)
    (fun w' h => (rsize_any a.f a.r a.s a.l a.id a.lb add w' ha.z ha.r0 ha.r1 ha.i0 ha.i1 ha.b0).mono fun _ _ ⟨h1, h3⟩ => ⟨h1.trans hz, TellsAt.below h h3⟩)
    (fun w' h => (ncheck_any a.f a.r a.s a.l a.id a.lb w' (TellsAt.tabs h).sizes (TellsAt.tabs h).rds).mono fun _ _ ⟨h1, h3⟩ => ⟨h1, TellsAt.below h h3⟩)
    (fun w' h => (rncheck_any a.f a.r a.s a.l a.id a.lb w' ha.z).mono fun _ _ ⟨h1, h3⟩ => ⟨h1, TellsAt.below h h3⟩)
    (fun w' h => (ncmp_any a.f a.r a.s a.l a.id a.lb b.f b.r b.s b.l b.id b.lb w').mono fun _ _ ⟨h1, h3⟩ => ⟨h1, TellsAt.below h h3⟩)
    (fun w' h => (rncmp_any a.f a.r a.s a.l a.id a.lb b.f b.r b.s b.l b.id b.lb w' ha.z hb.z).mono fun _ _ ⟨h1, h3⟩ => ⟨h1, TellsAt.below h h3⟩)
    (fun w' h => (ncmp_any b.f b.r b.s b.l b.id b.lb a.f a.r a.s a.l a.id a.lb w').mono fun _ _ ⟨h1, h3⟩ => ⟨h1, TellsAt.below h h3⟩)
    (fun w' h => (rncmp_any b.f b.r b.s b.l b.id b.lb a.f a.r a.s a.l a.id a.lb w' hb.z ha.z).mono fun _ _ ⟨h1, h3⟩ => ⟨h1, TellsAt.below h h3⟩)
    (fun w' h => (works_any w' (TellsAt.tabs h)).mono fun _ _ ⟨h1, h3⟩ => ⟨h1, TellsAt.below h h3⟩)).mono fun _ _ ⟨h1, h3⟩ => ⟨h1, (TellsAt.two h3).bel⟩
end Go.Proofs.YtfhbgpepkplbaaaGreatDoor
