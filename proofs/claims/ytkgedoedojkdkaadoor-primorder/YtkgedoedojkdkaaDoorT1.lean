/-
  PrimTells, over whatever its callees answer: where both sides answer the same it answers true.
-/
import Derived.Test.YtkgedoedojkdkaaDoorProg
import Derived.WalkKit
import Derived.WalkSpells
import Derived.WalkLawsBesides
import Derived.Below
import Derived.Deep.RegionHeld3
namespace Go.Proofs.YtkgedoedojkdkaaDoor
open Go.RowKit
/-- What holds of the world all along. -/
def Held (S : World → Prop) (w : World) : Prop := S w
set_option maxRecDepth 100000 in
set_option maxHeartbeats 1600000 in
theorem tells_core (S : World → Prop) (A0 A1 A2 A3 B0 B1 B2 B3 N : Value) (c m1 m2 z1 z2 t : Int) (d1 d2 : Bool) (w : World)
    (hS : Held S ((w.alloc (.cells #[A0, A1, A2, A3] 24)).alloc (.cells #[B0, B1, B2, B3] 24)))
    (hd : ∀ w', Held S w' → Held S w'.drew)
    (a0 : ∀ w', Held S w' → w'.cell? ⟨w.heap.size, 0, none⟩ = some A0) (a1 : ∀ w', Held S w' → w'.cell? ⟨w.heap.size, 1, none⟩ = some A1) (a2 : ∀ w', Held S w' → w'.cell? ⟨w.heap.size, 2, none⟩ = some A2) (a3 : ∀ w', Held S w' → w'.cell? ⟨w.heap.size, 3, none⟩ = some A3)
    (b0 : ∀ w', Held S w' → w'.cell? ⟨w.heap.size + 1, 0, none⟩ = some B0) (b1 : ∀ w', Held S w' → w'.cell? ⟨w.heap.size + 1, 1, none⟩ = some B1) (b2 : ∀ w', Held S w' → w'.cell? ⟨w.heap.size + 1, 2, none⟩ = some B2) (b3 : ∀ w', Held S w' → w'.cell? ⟨w.heap.size + 1, 3, none⟩ = some B3)
    (k9 : ∀ w', Held S w' → Calls Tryd.prog 9 #[.agg #[A0, A1, A2, A3]] w' fun e w2 => e = .returned (.int .i64 c) ∧ Held S w2)
    (k10 : ∀ w', Held S w' → Calls Tryd.prog 10 #[.agg #[A0, A1, A2, A3]] w' fun e w2 => e = .returned (.int .i64 c) ∧ Held S w2)
    (k11 : ∀ w', Held S w' → Calls Tryd.prog 11 #[.agg #[A0, A1, A2, A3], .agg #[B0, B1, B2, B3]] w' fun e w2 => e = .returned (.int .i64 m1) ∧ Held S w2)
    (k12 : ∀ w', Held S w' → Calls Tryd.prog 12 #[.agg #[A0, A1, A2, A3], .agg #[B0, B1, B2, B3]] w' fun e w2 => e = .returned (.int .i64 m1) ∧ Held S w2)
    (l11 : ∀ w', Held S w' → Calls Tryd.prog 11 #[.agg #[B0, B1, B2, B3], .agg #[A0, A1, A2, A3]] w' fun e w2 => e = .returned (.int .i64 m2) ∧ Held S w2)
    (l12 : ∀ w', Held S w' → Calls Tryd.prog 12 #[.agg #[B0, B1, B2, B3], .agg #[A0, A1, A2, A3]] w' fun e w2 => e = .returned (.int .i64 m2) ∧ Held S w2)
    (k13 : ∀ w', Held S w' → Calls Tryd.prog 13 #[.agg #[A0, A1, A2, A3], .agg #[B0, B1, B2, B3]] w' fun e w2 => e = .returned (.bool d1) ∧ Held S w2)
    (k14 : ∀ w', Held S w' → Calls Tryd.prog 14 #[.agg #[A0, A1, A2, A3], .agg #[B0, B1, B2, B3]] w' fun e w2 => e = .returned (.bool d1) ∧ Held S w2)
    (l13 : ∀ w', Held S w' → Calls Tryd.prog 13 #[.agg #[B0, B1, B2, B3], .agg #[A0, A1, A2, A3]] w' fun e w2 => e = .returned (.bool d2) ∧ Held S w2)
    (l14 : ∀ w', Held S w' → Calls Tryd.prog 14 #[.agg #[B0, B1, B2, B3], .agg #[A0, A1, A2, A3]] w' fun e w2 => e = .returned (.bool d2) ∧ Held S w2)
    (k15 : ∀ w', Held S w' → Calls Tryd.prog 15 #[N] w' fun e w2 => e = .returned (.int .i64 z1) ∧ Held S w2)
    (k16 : ∀ w', Held S w' → Calls Tryd.prog 16 #[N] w' fun e w2 => e = .returned (.int .i64 z1) ∧ Held S w2)
    (l15 : ∀ w', Held S w' → Calls Tryd.prog 15 #[A0] w' fun e w2 => e = .returned (.int .i64 z2) ∧ Held S w2)
    (l16 : ∀ w', Held S w' → Calls Tryd.prog 16 #[A0] w' fun e w2 => e = .returned (.int .i64 z2) ∧ Held S w2)
    (k17 : ∀ w', Held S w' → Calls Tryd.prog 17 #[A2, N] w' fun e w2 => e = .returned (.int .i64 t) ∧ Held S w2)
    (k18 : ∀ w', Held S w' → Calls Tryd.prog 18 #[A2, N] w' fun e w2 => e = .returned (.int .i64 t) ∧ Held S w2)
    (k19 : ∀ w', Held S w' → Calls Tryd.prog 19 #[] w' fun e w2 => e = .returned (.bool true) ∧ Held S w2) :
    Calls Tryd.prog 3 #[.agg #[A0, A1, A2, A3], .agg #[B0, B1, B2, B3], N] w fun e w' => e = .returned (.bool true) ∧ Held S w' := by
  have K9 : Hid (_ : Prop) := k9
  have K10 : Hid (_ : Prop) := k10
  have K11 : Hid (_ : Prop) := k11
  have K12 : Hid (_ : Prop) := k12
  have K13 : Hid (_ : Prop) := k13
  have K14 : Hid (_ : Prop) := k14
  have L11 : Hid (_ : Prop) := l11
  have L12 : Hid (_ : Prop) := l12
  have L13 : Hid (_ : Prop) := l13
  have L14 : Hid (_ : Prop) := l14
  have K15 : Hid (_ : Prop) := k15
  have K16 : Hid (_ : Prop) := k16
  have L15 : Hid (_ : Prop) := l15
  have L16 : Hid (_ : Prop) := l16
  have K17 : Hid (_ : Prop) := k17
  have K18 : Hid (_ : Prop) := k18
  have K19 : Hid (_ : Prop) := k19
  have HD : Hid (∀ w', Held S w' → Held S w'.drew) := hd
  clear k9 k10 k11 k12 k13 k14 l11 l12 l13 l14 k15 k16 l15 l16 k17 k18 k19 hd
  go_enter Tryd.func3, Tryd.ntmps3
  go_wp2_with fail
  generalize (w.alloc (.cells #[A0, A1, A2, A3] 24)).alloc (.cells #[B0, B1, B2, B3] 24) = wx at *
  have hS1 := HD.out wx hS
  go_region_held3 (fun w' => Held S w') (with_reducible assumption)
    (first
      | (go_at_call 9; refine (K9.out _ (by with_reducible assumption)).mono ?_; rintro e w9 ⟨rfl, s9⟩)
      | (go_at_call 10; refine (K10.out _ (by with_reducible assumption)).mono ?_; rintro e w10 ⟨rfl, s10⟩)
      | (go_at_call_of 11 ([Value.agg #[A0, A1, A2, A3], Value.agg #[B0, B1, B2, B3]]); refine (K11.out _ (by with_reducible assumption)).mono ?_; rintro e w11 ⟨rfl, s11⟩)
      | (go_at_call_of 12 ([Value.agg #[A0, A1, A2, A3], Value.agg #[B0, B1, B2, B3]]); refine (K12.out _ (by with_reducible assumption)).mono ?_; rintro e w12 ⟨rfl, s12⟩)
      | (go_at_call_of 11 ([Value.agg #[B0, B1, B2, B3], Value.agg #[A0, A1, A2, A3]]); refine (L11.out _ (by with_reducible assumption)).mono ?_; rintro e w13 ⟨rfl, s13⟩)
      | (go_at_call_of 12 ([Value.agg #[B0, B1, B2, B3], Value.agg #[A0, A1, A2, A3]]); refine (L12.out _ (by with_reducible assumption)).mono ?_; rintro e w14 ⟨rfl, s14⟩)
      | (go_at_call_of 13 ([Value.agg #[A0, A1, A2, A3], Value.agg #[B0, B1, B2, B3]]); refine (K13.out _ (by with_reducible assumption)).mono ?_; rintro e w15 ⟨rfl, s15⟩)
      | (go_at_call_of 14 ([Value.agg #[A0, A1, A2, A3], Value.agg #[B0, B1, B2, B3]]); refine (K14.out _ (by with_reducible assumption)).mono ?_; rintro e w16 ⟨rfl, s16⟩)
      | (go_at_call_of 13 ([Value.agg #[B0, B1, B2, B3], Value.agg #[A0, A1, A2, A3]]); refine (L13.out _ (by with_reducible assumption)).mono ?_; rintro e w17 ⟨rfl, s17⟩)
      | (go_at_call_of 14 ([Value.agg #[B0, B1, B2, B3], Value.agg #[A0, A1, A2, A3]]); refine (L14.out _ (by with_reducible assumption)).mono ?_; rintro e w18 ⟨rfl, s18⟩))
  clear K9 K10 K11 K12 K13 K14 L11 L12 L13 L14 s9 s10 s11 s12 s13 s14 s15 s16 s17 hS1 hS
  have hS2 := HD.out _ s18
  go_wp2_with fail
  go_region_held3 (fun w' => Held S w') (with_reducible assumption)
    (first
      | (go_at_call_of 15 (N); refine (K15.out _ (by with_reducible assumption)).mono ?_; rintro e v9 ⟨rfl, t9⟩)
      | (go_at_call_of 16 (N); refine (K16.out _ (by with_reducible assumption)).mono ?_; rintro e v10 ⟨rfl, t10⟩)
      | (go_at_call_of 15 (A0); refine (L15.out _ (by with_reducible assumption)).mono ?_; rintro e v11 ⟨rfl, t11⟩)
      | (go_at_call_of 16 (A0); refine (L16.out _ (by with_reducible assumption)).mono ?_; rintro e v12 ⟨rfl, t12⟩)
      | (go_at_call 17; refine (K17.out _ (by with_reducible assumption)).mono ?_; rintro e v13 ⟨rfl, t13⟩)
      | (go_at_call 18; refine (K18.out _ (by with_reducible assumption)).mono ?_; rintro e v14 ⟨rfl, t14⟩)
      | (go_at_call 19; refine (K19.out _ (by with_reducible assumption)).mono ?_; rintro e v15 ⟨rfl, t15⟩))
  go_wp2
  go_ret
  exact ⟨rfl, t15⟩
end Go.Proofs.YtkgedoedojkdkaaDoor
