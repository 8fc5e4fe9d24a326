/-
  Decode.
-/
import Derived.Test.YtfhapjhkjdifjaaGreatDoorM5
import Derived.Test.YtfhapjhkjdifjaaGreatDoorM6
import Derived.BigRegion
set_option linter.unusedVariables false
set_option linter.unusedSimpArgs false
namespace Go.Proofs.YtfhapjhkjdifjaaGreatDoor
open Go.RowKit
/-- The open of a body, or what is wrong with it. -/
def decI (l : List UInt8) : Except Nat Opn :=
  match headI l with
  | .error n => .error n
  | .ok o => match runL (stepO stepC) (l.drop 10) o with
    | .error n => .error n
    | .ok o' => .ok (if o'.fams.length = 0 then { o' with fams := [1] } else o')
/-- What Decode answers; the lists of an open lie in rows of their own at base and above. -/
def DecOk (base : Nat) (r : Except Nat Opn) (e : Ending) (w' : World) : Prop :=
  match r with
  | .ok o => ∃ vf va vk, e = .returned (.tuple #[opV o vf va vk, vdt 0 0 0]) ∧ w'.ownsRow base 3 1 vf o.fams.length (intsC o.fams) ∧ w'.ownsRow base 108 3 va o.adds.length (addsC o.adds) ∧ w'.ownsRow base 129 2 vk o.kept.length (keptC o.kept) ∧ OpOk o
  | .error n => e = .returned (.tuple #[opV zO nilS nilS nilS, vdt 3 2 (n : Int)])
theorem row_step {W : World} {z : Nat} {old : Array Value} {t : TypeId} (h : W.heap[z]? = some (.cells old t (0, 0))) (C : Array Value) (i : Nat) (v : Value) : (W.setRow z C).setCell ⟨z, i, none⟩ v = W.setRow z (C.setIfInBounds i v) := by
  rw [setCell_eq_setRow (W.setRow z C) z i C t (0, 0) v (row_same W z old C h), setRow_setRow]
theorem chain11 {W : World} {z : Nat} {t : TypeId} {o0 o1 o2 o3 o4 o5 o6 o7 o8 o9 o10 : Value} (h : W.heap[z]? = some (.cells #[o0, o1, o2, o3, o4, o5, o6, o7, o8, o9, o10] t (0, 0))) (a0 a1 a2 a3 a4 a5 a6 a7 a8 a9 a10 : Value) : (((((((((((W.setCell ⟨z, 0, none⟩ a0).setCell ⟨z, 1, none⟩ a1).setCell ⟨z, 2, none⟩ a2).setCell ⟨z, 3, none⟩ a3).setCell ⟨z, 4, none⟩ a4).setCell ⟨z, 5, none⟩ a5).setCell ⟨z, 6, none⟩ a6).setCell ⟨z, 7, none⟩ a7).setCell ⟨z, 8, none⟩ a8).setCell ⟨z, 9, none⟩ a9).setCell ⟨z, 10, none⟩ a10) = W.setRow z #[a0, a1, a2, a3, a4, a5, a6, a7, a8, a9, a10] := by
  rw [setCell_eq_setRow W z 0 _ t (0, 0) a0 h, row_step h, row_step h, row_step h, row_step h, row_step h, row_step h, row_step h, row_step h, row_step h, row_step h]
  simp
theorem chain3 {W : World} {z : Nat} {t : TypeId} {o0 o1 o2 : Value} (h : W.heap[z]? = some (.cells #[o0, o1, o2] t (0, 0))) (a0 a1 a2 : Value) : ((W.setCell ⟨z, 0, none⟩ a0).setCell ⟨z, 1, none⟩ a1).setCell ⟨z, 2, none⟩ a2 = W.setRow z #[a0, a1, a2] := by
  rw [setCell_eq_setRow W z 0 _ t (0, 0) a0 h, row_step h, row_step h]
  simp
set_option maxHeartbeats 6400000 in
set_option maxRecDepth 100000 in
theorem decode_head (l : List UInt8) (n : Nat) (w : World) (hh : headI l = .error n) : Calls Tryz.prog 12 #[.string ⟨l.toArray⟩] w fun e w' => e = .returned (.tuple #[opV zO nilS nilS nilS, vdt 3 2 (n : Int)]) ∧ Below w.heap.size w w' := by
  have hb1 : Below w.heap.size w ((w.alloc (.cells #[.int .u32 0, .int .i64 0, .int .u32 0, .slice none 0 0, .bool false, .bool false, .slice none 0 0, .bool false, .bool false, .int .i64 0, .slice none 0 0] 50)).alloc (.cells #[.int .i64 0, .int .u8 0, .int .u8 0] 37)) := ((Below.refl _ _).alloc (Nat.le_refl _) _).alloc (by simp) _
  have hz1 : ((w.alloc (.cells #[.int .u32 0, .int .i64 0, .int .u32 0, .slice none 0 0, .bool false, .bool false, .slice none 0 0, .bool false, .bool false, .int .i64 0, .slice none 0 0] 50)).alloc (.cells #[.int .i64 0, .int .u8 0, .int .u8 0] 37)).heap[w.heap.size]? = some (.cells #[.int .u32 0, .int .i64 0, .int .u32 0, .slice none 0 0, .bool false, .bool false, .slice none 0 0, .bool false, .bool false, .int .i64 0, .slice none 0 0] 50 (0, 0)) := hp_up (hp_new rfl)
  have hz2 : ((w.alloc (.cells #[.int .u32 0, .int .i64 0, .int .u32 0, .slice none 0 0, .bool false, .bool false, .slice none 0 0, .bool false, .bool false, .int .i64 0, .slice none 0 0] 50)).alloc (.cells #[.int .i64 0, .int .u8 0, .int .u8 0] 37)).heap[w.heap.size + 1]? = some (.cells #[.int .i64 0, .int .u8 0, .int .u8 0] 37 (0, 0)) := hp_new (by simp)
  have HB1 : Hid (Below _ _ _) := hb1
  have HZ1 : Hid (_ = _) := hz1
  have HZ2 : Hid (_ = _) := hz2
  have KH : Hid (∀ X, Calls Tryz.prog 30 #[.string ⟨l.toArray⟩] X fun e w' => e = .returned (.tuple #[opV zO nilS nilS nilS, vdt 3 2 (n : Int)]) ∧ Below X.heap.size X w') := fun X => by have := takeHead_any l X; rw [hh] at this; exact this
  clear hb1 hz1 hz2 hh
  unfold opV opC zO nilS vdt at KH
  unfold opV opC zO nilS vdt
  dsimp only at KH ⊢
  go_enter Tryz.func12, Tryz.ntmps12
  go_wp2_with fail
  generalize ((w.alloc (.cells #[.int .u32 0, .int .i64 0, .int .u32 0, .slice none 0 0, .bool false, .bool false, .slice none 0 0, .bool false, .bool false, .int .i64 0, .slice none 0 0] 50)).alloc (.cells #[.int .i64 0, .int .u8 0, .int .u8 0] 37)) = W1 at *
  refine Calls.mono (KH.out W1) ?_
  rintro e W2 ⟨rfl, hb2⟩
  have HB2 : Hid (Below w.heap.size w W2) := HB1.out.trans (hb2.mono HB1.out.size)
  have HY1 : Hid (W2.heap[w.heap.size]? = _) := (hb2.block _ (lt_of_heap HZ1.out)).trans HZ1.out
  have HY2 : Hid (W2.heap[w.heap.size + 1]? = _) := (hb2.block _ (lt_of_heap HZ2.out)).trans HZ2.out
  clear hb2 HB1 HZ1 HZ2
  have hlt : w.heap.size + 1 < W2.heap.size := lt_of_heap HY2.out
  have hlt0 : w.heap.size < W2.heap.size := by omega
  have c0 := cl_row (i := 0) HY1.out rfl
  have f0 := fz_row (i := 0) HY1.out
  have c1 := cl_row (i := 1) HY1.out rfl
  have f1 := fz_row (i := 1) HY1.out
  have c2 := cl_row (i := 2) HY1.out rfl
  have f2 := fz_row (i := 2) HY1.out
  have c3 := cl_row (i := 3) HY1.out rfl
  have f3 := fz_row (i := 3) HY1.out
  have c4 := cl_row (i := 4) HY1.out rfl
  have f4 := fz_row (i := 4) HY1.out
  have c5 := cl_row (i := 5) HY1.out rfl
  have f5 := fz_row (i := 5) HY1.out
  have c6 := cl_row (i := 6) HY1.out rfl
  have f6 := fz_row (i := 6) HY1.out
  have c7 := cl_row (i := 7) HY1.out rfl
  have f7 := fz_row (i := 7) HY1.out
  have c8 := cl_row (i := 8) HY1.out rfl
  have f8 := fz_row (i := 8) HY1.out
  have c9 := cl_row (i := 9) HY1.out rfl
  have f9 := fz_row (i := 9) HY1.out
  have c10 := cl_row (i := 10) HY1.out rfl
  have f10 := fz_row (i := 10) HY1.out
  have d0 := cl_row (i := 0) HY2.out rfl
  have g0 := fz_row (i := 0) HY2.out
  have d1 := cl_row (i := 1) HY2.out rfl
  have g1 := fz_row (i := 1) HY2.out
  have d2 := cl_row (i := 2) HY2.out rfl
  have g2 := fz_row (i := 2) HY2.out
  go_wp2
  go_region
  rw [chain11 HY1.out, chain3 (W := W2.setRow w.heap.size #[.int .u32 0, .int .i64 0, .int .u32 0, .slice none 0 0, .bool false, .bool false, .slice none 0 0, .bool false, .bool false, .int .i64 0, .slice none 0 0]) ((row_other W2 w.heap.size (w.heap.size + 1) #[.int .u32 0, .int .i64 0, .int .u32 0, .slice none 0 0, .bool false, .bool false, .slice none 0 0, .bool false, .bool false, .int .i64 0, .slice none 0 0] (by omega)).trans HY2.out)]
  have HW5 : Hid ((((((W2.setRow w.heap.size #[.int .u32 0, .int .i64 0, .int .u32 0, .slice none 0 0, .bool false, .bool false, .slice none 0 0, .bool false, .bool false, .int .i64 0, .slice none 0 0]).setRow (w.heap.size + 1) #[.int .i64 3, .int .u8 2, .int .u8 (n : Int)]).alloc (.cells #[.int .u32 0, .int .i64 0, .int .u32 0, .slice none 0 0, .bool false, .bool false, .slice none 0 0, .bool false, .bool false, .int .i64 0, .slice none 0 0] 50)).alloc (.cells #[.int .i64 3, .int .u8 2, .int .u8 (n : Int)] 37)).drew).heap[w.heap.size]? = some (.cells #[.int .u32 0, .int .i64 0, .int .u32 0, .slice none 0 0, .bool false, .bool false, .slice none 0 0, .bool false, .bool false, .int .i64 0, .slice none 0 0] 50 (0, 0)) ∧ (((((W2.setRow w.heap.size #[.int .u32 0, .int .i64 0, .int .u32 0, .slice none 0 0, .bool false, .bool false, .slice none 0 0, .bool false, .bool false, .int .i64 0, .slice none 0 0]).setRow (w.heap.size + 1) #[.int .i64 3, .int .u8 2, .int .u8 (n : Int)]).alloc (.cells #[.int .u32 0, .int .i64 0, .int .u32 0, .slice none 0 0, .bool false, .bool false, .slice none 0 0, .bool false, .bool false, .int .i64 0, .slice none 0 0] 50)).alloc (.cells #[.int .i64 3, .int .u8 2, .int .u8 (n : Int)] 37)).drew).heap[w.heap.size + 1]? = some (.cells #[.int .i64 3, .int .u8 2, .int .u8 (n : Int)] 37 (0, 0)) ∧ Below w.heap.size w (((((W2.setRow w.heap.size #[.int .u32 0, .int .i64 0, .int .u32 0, .slice none 0 0, .bool false, .bool false, .slice none 0 0, .bool false, .bool false, .int .i64 0, .slice none 0 0]).setRow (w.heap.size + 1) #[.int .i64 3, .int .u8 2, .int .u8 (n : Int)]).alloc (.cells #[.int .u32 0, .int .i64 0, .int .u32 0, .slice none 0 0, .bool false, .bool false, .slice none 0 0, .bool false, .bool false, .int .i64 0, .slice none 0 0] 50)).alloc (.cells #[.int .i64 3, .int .u8 2, .int .u8 (n : Int)] 37)).drew)) := by
    have h1 := (row_other (W2.setRow w.heap.size #[.int .u32 0, .int .i64 0, .int .u32 0, .slice none 0 0, .bool false, .bool false, .slice none 0 0, .bool false, .bool false, .int .i64 0, .slice none 0 0]) (w.heap.size + 1) w.heap.size #[.int .i64 3, .int .u8 2, .int .u8 (n : Int)] (by omega)).trans (row_same W2 w.heap.size _ #[.int .u32 0, .int .i64 0, .int .u32 0, .slice none 0 0, .bool false, .bool false, .slice none 0 0, .bool false, .bool false, .int .i64 0, .slice none 0 0] HY1.out)
    have h2 := row_same (W2.setRow w.heap.size #[.int .u32 0, .int .i64 0, .int .u32 0, .slice none 0 0, .bool false, .bool false, .slice none 0 0, .bool false, .bool false, .int .i64 0, .slice none 0 0]) (w.heap.size + 1) _ #[.int .i64 3, .int .u8 2, .int .u8 (n : Int)] ((row_other W2 w.heap.size (w.heap.size + 1) #[.int .u32 0, .int .i64 0, .int .u32 0, .slice none 0 0, .bool false, .bool false, .slice none 0 0, .bool false, .bool false, .int .i64 0, .slice none 0 0] (by omega)).trans HY2.out)
    have hbb : Below w.heap.size w ((W2.setRow w.heap.size #[.int .u32 0, .int .i64 0, .int .u32 0, .slice none 0 0, .bool false, .bool false, .slice none 0 0, .bool false, .bool false, .int .i64 0, .slice none 0 0]).setRow (w.heap.size + 1) #[.int .i64 3, .int .u8 2, .int .u8 (n : Int)]) := below_setRow (below_setRow HB2.out (Nat.le_refl _) _) (by omega) _
    exact ⟨hp_up (hp_up h1), hp_up (hp_up h2), ((hbb.alloc hbb.size _).alloc (by have := hbb.size; simp at this ⊢; omega) _).drew⟩
  clear c0 f0 c1 f1 c2 f2 c3 f3 c4 f4 c5 f5 c6 f6 c7 f7 c8 f8 c9 f9 c10 f10 d0 g0 d1 g1 d2 g2
  generalize ((((W2.setRow w.heap.size #[.int .u32 0, .int .i64 0, .int .u32 0, .slice none 0 0, .bool false, .bool false, .slice none 0 0, .bool false, .bool false, .int .i64 0, .slice none 0 0]).setRow (w.heap.size + 1) #[.int .i64 3, .int .u8 2, .int .u8 (n : Int)]).alloc (.cells #[.int .u32 0, .int .i64 0, .int .u32 0, .slice none 0 0, .bool false, .bool false, .slice none 0 0, .bool false, .bool false, .int .i64 0, .slice none 0 0] 50)).alloc (.cells #[.int .i64 3, .int .u8 2, .int .u8 (n : Int)] 37)).drew = W5 at *
  have p0 := cl_row (i := 0) HW5.out.1 rfl
  have p1 := cl_row (i := 1) HW5.out.1 rfl
  have p2 := cl_row (i := 2) HW5.out.1 rfl
  have p3 := cl_row (i := 3) HW5.out.1 rfl
  have p4 := cl_row (i := 4) HW5.out.1 rfl
  have p5 := cl_row (i := 5) HW5.out.1 rfl
  have p6 := cl_row (i := 6) HW5.out.1 rfl
  have p7 := cl_row (i := 7) HW5.out.1 rfl
  have p8 := cl_row (i := 8) HW5.out.1 rfl
  have p9 := cl_row (i := 9) HW5.out.1 rfl
  have p10 := cl_row (i := 10) HW5.out.1 rfl
  have r0 := cl_row (i := 0) HW5.out.2.1 rfl
  have r1 := cl_row (i := 1) HW5.out.2.1 rfl
  have r2 := cl_row (i := 2) HW5.out.2.1 rfl
  go_wp2
  refine bodyPost_ret (v := .tuple #[.agg #[.int .u32 0, .int .i64 0, .int .u32 0, .slice none 0 0, .bool false, .bool false, .slice none 0 0, .bool false, .bool false, .int .i64 0, .slice none 0 0], .agg #[.int .i64 3, .int .u8 2, .int .u8 (n : Int)]]) (by simp [results, Tryz.results12, go_sem, p0, p1, p2, p3, p4, p5, p6, p7, p8, p9, p10, r0, r1, r2]) rfl ⟨rfl, HW5.out.2.2⟩
end Go.Proofs.YtfhapjhkjdifjaaGreatDoor
