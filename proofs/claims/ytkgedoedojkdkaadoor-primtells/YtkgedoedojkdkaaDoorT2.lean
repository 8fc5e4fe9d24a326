/-
  PrimTells answers true for every two prefixes and every number, wherever the tables lie as they are laid.
-/
import Derived.Test.YtkgedoedojkdkaaDoorT1
import Derived.Test.YtkgedoedojkdkaaDoorR4
import Derived.Test.YtkgedoedojkdkaaDoorR5
import Derived.Test.YtkgedoedojkdkaaDoorB25
import Derived.Test.YtkgedoedojkdkaaDoorB9
namespace Go.Proofs.YtkgedoedojkdkaaDoor
open Go.RowKit
/-- What holds of memory all along PrimTells. -/
structure TellsAt (w : World) (fa ra : Int) (sa : ByteArray) (la fb rb : Int) (sb : ByteArray) (lb : Int) (w' : World) : Prop where
  a : PfxAt w' w.heap.size fa ra sa la
  b : PfxAt w' (w.heap.size + 1) fb rb sb lb
  t : Tabs w'
  z : Below w.heap.size w w'
theorem TellsAt.below {w w' w2 : World} {fa ra : Int} {sa : ByteArray} {la fb rb : Int} {sb : ByteArray} {lb : Int} (h : Held (TellsAt w fa ra sa la fb rb sb lb) w') (hb : Below w'.heap.size w' w2) : Held (TellsAt w fa ra sa la fb rb sb lb) w2 :=
  ⟨TellsAt.a h |>.kept hb (lt_of_cell (TellsAt.a h).c0), TellsAt.b h |>.kept hb (lt_of_cell (TellsAt.b h).c0), (TellsAt.t h).below hb, (TellsAt.z h).trans (hb.mono (TellsAt.z h).size)⟩
theorem below_of_eq {w w2 : World} (h : w2 = w) : Below w.heap.size w w2 := by subst h; exact Below.refl _ _
theorem tells_walk (fa ra : Int) (sa : ByteArray) (la : Int) (fb rb : Int) (sb : ByteArray) (lb n : Int) (w : World) (ht : Tabs w) (hsa : sa.size ≤ maxLen) (hsb : sb.size ≤ maxLen) (hn : n ≤ 9223372036854775807) (hm : -9223372036854775808 ≤ n) :
    Calls Tryd.prog 3 #[.agg #[.int .i64 fa, .int .u64 ra, .string sa, .int .i64 la], .agg #[.int .i64 fb, .int .u64 rb, .string sb, .int .i64 lb], .int .i64 n] w fun e w' => e = .returned (.bool true) ∧ Below w.heap.size w w' := by
  have hal : Below (w.heap.size + 1) (w.alloc (.cells #[.int .i64 fa, .int .u64 ra, .string sa, .int .i64 la] 24)) ((w.alloc (.cells #[.int .i64 fa, .int .u64 ra, .string sa, .int .i64 la] 24)).alloc (.cells #[.int .i64 fb, .int .u64 rb, .string sb, .int .i64 lb] 24)) := (Below.refl _ _).alloc (by simp) _
  have hB0 : Below w.heap.size w ((w.alloc (.cells #[.int .i64 fa, .int .u64 ra, .string sa, .int .i64 la] 24)).alloc (.cells #[.int .i64 fb, .int .u64 rb, .string sb, .int .i64 lb] 24)) := ((Below.refl _ _).alloc (Nat.le_refl _) _).alloc (by simp) _
  refine (tells_core (TellsAt w fa ra sa la fb rb sb lb) (.int .i64 fa) (.int .u64 ra) (.string sa) (.int .i64 la) (.int .i64 fb) (.int .u64 rb) (.string sb) (.int .i64 lb) (.int .i64 n)
    (chk fa ra sa la) (pcmp fa ra sa la fb rb sb lb) (pcmp fb rb sb lb fa ra sa la) (szOf n) (szOf fa) (bitI sa n) (covB fa ra sa la fb rb sb lb) (covB fb rb sb lb fa ra sa la) w
    ⟨(PfxAt.of_alloc w _ fa ra sa la rfl).kept hal (by omega), PfxAt.of_alloc (w.alloc (.cells #[.int .i64 fa, .int .u64 ra, .string sa, .int .i64 la] 24)) (w.heap.size + 1) fb rb sb lb (by simp), ht.below hB0, hB0⟩
    (fun w' h => TellsAt.below h (Below.refl _ _).drew)
    (fun w' h => (TellsAt.a h).c0) (fun w' h => (TellsAt.a h).c1) (fun w' h => (TellsAt.a h).c2) (fun w' h => (TellsAt.a h).c3)
    (fun w' h => (TellsAt.b h).c0) (fun w' h => (TellsAt.b h).c1) (fun w' h => (TellsAt.b h).c2) (fun w' h => (TellsAt.b h).c3)
    (fun w' h => (check_any fa ra sa la w' (TellsAt.t h).sizes (TellsAt.t h).rds).mono fun _ _ ⟨h1, h2⟩ => ⟨h1, TellsAt.below h h2⟩)
    (fun w' h => (rcheck_any fa ra sa la w' hsa).mono fun _ _ ⟨h1, h2⟩ => ⟨h1, TellsAt.below h h2⟩)
    (fun w' h => (cmp_any fa ra sa la fb rb sb lb w').mono fun _ _ ⟨h1, h2⟩ => ⟨h1, TellsAt.below h h2⟩)
    (fun w' h => (rcmp_any fa ra sa la fb rb sb lb w' hsa hsb).mono fun _ _ ⟨h1, h2⟩ => ⟨h1, TellsAt.below h h2⟩)
    (fun w' h => (cmp_any fb rb sb lb fa ra sa la w').mono fun _ _ ⟨h1, h2⟩ => ⟨h1, TellsAt.below h h2⟩)
    (fun w' h => (rcmp_any fb rb sb lb fa ra sa la w' hsb hsa).mono fun _ _ ⟨h1, h2⟩ => ⟨h1, TellsAt.below h h2⟩)
    (fun w' h => (covers_any fa ra sa la fb rb sb lb w' (TellsAt.t h).sizes (TellsAt.t h).rds).mono fun _ _ ⟨h1, h2⟩ => ⟨h1, TellsAt.below h h2⟩)
    (fun w' h => (rcov_any fa ra sa la fb rb sb lb w' hsa hsb).mono fun _ _ ⟨h1, h2⟩ => ⟨h1, TellsAt.below h h2⟩)
    (fun w' h => (covers_any fb rb sb lb fa ra sa la w' (TellsAt.t h).sizes (TellsAt.t h).rds).mono fun _ _ ⟨h1, h2⟩ => ⟨h1, TellsAt.below h h2⟩)
    (fun w' h => (rcov_any fb rb sb lb fa ra sa la w' hsb hsa).mono fun _ _ ⟨h1, h2⟩ => ⟨h1, TellsAt.below h h2⟩)
    (fun w' h => (size_any n w' (TellsAt.t h).sizes).mono fun _ _ ⟨h1, h2⟩ => ⟨h1, TellsAt.below h (below_of_eq h2)⟩)
    (fun w' h => (refsize_any n w').mono fun _ _ ⟨h1, h2⟩ => ⟨h1, TellsAt.below h (below_of_eq h2)⟩)
    (fun w' h => (size_any fa w' (TellsAt.t h).sizes).mono fun _ _ ⟨h1, h2⟩ => ⟨h1, TellsAt.below h (below_of_eq h2)⟩)
    (fun w' h => (refsize_any fa w').mono fun _ _ ⟨h1, h2⟩ => ⟨h1, TellsAt.below h (below_of_eq h2)⟩)
    (fun w' h => (bit_any sa n w' hsa hn hm).mono fun _ _ ⟨h1, h2⟩ => ⟨h1, TellsAt.below h (below_of_eq h2)⟩)
    (fun w' h => (refbit_any sa n w' hsa hn hm).mono fun _ _ ⟨h1, h2⟩ => ⟨h1, TellsAt.below h (below_of_eq h2)⟩)
    (fun w' h => (works_any w' (TellsAt.t h)).mono fun _ _ ⟨h1, h2⟩ => ⟨h1, TellsAt.below h h2⟩)).mono fun _ _ ⟨h1, h2⟩ => ⟨h1, TellsAt.z h2⟩
end Go.Proofs.YtkgedoedojkdkaaDoor
