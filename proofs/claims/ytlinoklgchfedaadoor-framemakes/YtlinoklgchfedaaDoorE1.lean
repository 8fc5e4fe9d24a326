/-
  FrameMakes: the walk.
-/
import Derived.Test.YtlinoklgchfedaaDoorD1
import Derived.Test.YtlinoklgchfedaaDoorC4
namespace Go.Proofs.YtlinoklgchfedaaDoor
open Go.RowKit
theorem ext_take' (c : List UInt8) (n : Nat) : (⟨c.toArray⟩ : ByteArray).extract 0 n = ⟨(c.take n).toArray⟩ := by
  apply ByteArray.ext
  rw [ByteArray.data_extract]
  apply Array.toList_inj.1
  simp
set_option maxRecDepth 100000 in
set_option maxHeartbeats 800000 in
theorem makes_walk (k : Int) (s : ByteArray) (w : World) (hT : SzAt w) (hs : s.size ≤ maxLen) : Calls Tryd.prog 4 #[.agg #[.int .i64 k, .string s]] w fun e w' => e = .returned (.bool true) ∧ Below w.heap.size w w' := by
  have hb1 : Below w.heap.size w (w.alloc (.cells #[.int .i64 k, .string s] 37)) := (Below.refl _ _).alloc (Nat.le_refl _) _
  have hr : (w.alloc (.cells #[.int .i64 k, .string s] 37)).heap[w.heap.size]? = some (.cells #[.int .i64 k, .string s] 37 (0, 0)) := hp_new rfl
  unfold maxLen at hs
  have hmin : min (s.size : Int) 5000 = ((min s.size 5000 : Nat) : Int) := by omega
  have hm1 : min s.size 5000 ≤ s.size := by omega
  have hm2 : min s.size 5000 ≤ 5000 := by omega
  have hex : s.extract 0 (min s.size 5000) = ⟨(s.data.toList.take (min s.size 5000)).toArray⟩ := ext_take' s.data.toList _
  have hlen : (s.data.toList.take (min s.size 5000)).length ≤ 1000000 := by rw [List.length_take]; omega
  generalize min s.size 5000 = n at *
  generalize s.data.toList.take n = l at *
  clear hb1 hr
  have HB1 : Hid (Below w.heap.size w (w.alloc (.cells #[.int .i64 k, .string ⟨l.toArray⟩] 37))) := (Below.refl _ _).alloc (Nat.le_refl _) _
  have hr : (w.alloc (.cells #[.int .i64 k, .string ⟨l.toArray⟩] 37)).heap[w.heap.size]? = some (.cells #[.int .i64 k, .string ⟨l.toArray⟩] 37 (0, 0)) := hp_new rfl
  have HR1 : Hid ((w.alloc (.cells #[.int .i64 k, .string ⟨l.toArray⟩] 37)).heap[w.heap.size]? = some (.cells #[.int .i64 k, .string ⟨l.toArray⟩] 37 (0, 0))) := hr
  have KM : Hid (∀ W, SzAt W → Calls Tryd.prog 14 #[.agg #[.int .i64 k, .string ⟨l.toArray⟩]] W fun e w' => e = .returned (.tuple #[.string ⟨(makeI k l).1.toArray⟩, .int .i64 (makeI k l).2]) ∧ Below W.heap.size W w') := fun W hW => make_any k l W hW hlen
  have KR : Hid (∀ W, Calls Tryd.prog 15 #[.agg #[.int .i64 k, .string ⟨l.toArray⟩]] W fun e w' => e = .returned (.tuple #[.string ⟨(makeI k l).1.toArray⟩, .int .i64 (makeI k l).2]) ∧ Below W.heap.size W w') := fun W => rmake_any k l W hlen
  generalize (⟨(makeI k l).1.toArray⟩ : ByteArray) = S at *
  generalize (makeI k l).2 = E at *
  have HZ : Hid (SzAt w) := hT
  clear hT hr
  go_enter Tryd.func4, Tryd.ntmps4
  go_wp2_with fail
  generalize w.alloc (.cells #[.int .i64 k, .string ⟨l.toArray⟩] 37) = W at *
  refine Calls.mono (KM.out W (HZ.out.below HB1.out)) ?_
  rintro e w2 ⟨rfl, hb2⟩
  have HB2 : Hid (Below w.heap.size w w2) := HB1.out.trans (hb2.mono HB1.out.size)
  have HR2 : Hid (w2.heap[w.heap.size]? = some (.cells #[.int .i64 k, .string ⟨l.toArray⟩] 37 (0, 0))) := (hb2.block _ (Array.getElem?_eq_some_iff.mp HR1.out).1).trans HR1.out
  have c0 : w2.cell? ⟨w.heap.size, 0, none⟩ = some (.int .i64 k) := cl_row HR2.out rfl
  have c1 : w2.cell? ⟨w.heap.size, 1, none⟩ = some (.string ⟨l.toArray⟩) := cl_row HR2.out rfl
  clear hb2 HR1 HB1 KM
  go_wp2_with fail
  refine Calls.mono (KR.out w2) ?_
  rintro e w3 ⟨rfl, hb3⟩
  have HB3 : Hid (Below w.heap.size w w3) := HB2.out.trans (hb3.mono HB2.out.size)
  clear hb3 HB2 HR2 c0 c1 KR
  go_wp2_with fail
  refine (works_any w3 (HZ.out.below HB3.out)).mono ?_
  rintro e w4 ⟨rfl, hb4⟩
  go_wp2
  go_ret
  exact ⟨rfl, HB3.out.trans (hb4.mono HB3.out.size)⟩
end Go.Proofs.YtlinoklgchfedaaDoor
