/-
  take: bytes of a piece are kept up to the goal.
-/
import Derived.Test.YtlinoklgchfedaaDoorB2
import Derived.Lib.SlBuf
namespace Go.Proofs.YtlinoklgchfedaaDoor
open Go.RowKit
theorem cut_str (c : List UInt8) (n : Nat) : (⟨c.toArray⟩ : ByteArray).extract n c.length = ⟨(c.drop n).toArray⟩ := by
  apply ByteArray.ext
  rw [ByteArray.data_extract]
  apply Array.toList_inj.1
  simp
  rw [List.take_of_length_le (by simp)]
/-- What lies in memory when a has grown to x, before it is looked at. -/
structure WtAt (w : World) (p b : Nat) (x : List UInt8) : Prop where
  row : w.heap[p]? = some (.cells #[.bool true, .slice (some ⟨b, 0, none⟩) x.length 4096, .int .i64 0, .int .u8 0, .int .u8 0] 50 (0, 0))
  buf : BufAt w b x
  ne : p ≠ b
set_option maxHeartbeats 800000 in
theorem take_any (p b : Nat) (a c : List UInt8) (w : World) (h : FrAt w p b ⟨a, 0⟩) :
    Calls Tryd.prog 20 #[.pointer (some ⟨p, 0, none⟩), .string ⟨c.toArray⟩] w fun e w' => e = .returned (.string ⟨(c.drop (goalI a - a.length)).toArray⟩) ∧ WtAt w' p b (a ++ c.take (goalI a - a.length)) ∧ Beside p b w w' := by
  have hg := goal_le h.ok rfl
  have hg1 : a.length < goalI a := hg.1
  have hg2 : goalI a ≤ 4096 := hg.2
  have c1 := h.w1
  have KG : Hid (∀ q, Calls Tryd.prog 30 #[.pointer (some ⟨p, 0, none⟩)] (w.drewN q) fun e w' => e = .returned (.int .i64 (goalI a : Int)) ∧ ∃ m, w' = (w.drewN q).drewN m) := fun q => goal_any p b a (w.drewN q) ⟨h.row, ⟨h.buf.row⟩, h.ne, h.ok⟩
  have HH : Hid (FrAt w p b ⟨a, 0⟩) := h
  clear hg h
  generalize goalI a = g at *
  have hn1 : (c.take (g - a.length)).length ≤ g - a.length := by rw [List.length_take]; omega
  have hn2 : (c.take (g - a.length)).length ≤ c.length := by rw [List.length_take]; omega
  have HD : Hid (c.drop (g - a.length) = c.drop (c.take (g - a.length)).length) := by
    unfold Hid
    rw [List.length_take]
    by_cases z : g - a.length ≤ c.length
    · rw [Nat.min_eq_left z]
    · rw [Nat.min_eq_right (by omega), List.drop_eq_nil_of_le (by omega), List.drop_eq_nil_of_le (Nat.le_refl _)]
  have HA : Hid ((a ++ c.take (g - a.length)).length = a.length + (c.take (g - a.length)).length) := List.length_append
  have KC : Hid (∀ q, ∃ w2, (Builtin.copy_ #[43, 9] 3 #[.slice (some ⟨b, a.length, none⟩) (g - a.length) (g - a.length), .string ⟨c.toArray⟩]).run Tryd.prog (w.drewN q) = .ok (.int .i64 ((c.take (g - a.length)).length : Int)) w2 ∧ BufAt w2 b (a ++ c.take (g - a.length)) ∧ Beside p b w w2 ∧ w2.heap[p]? = some (.cells #[.bool true, .slice (some ⟨b, 0, none⟩) a.length 4096, .int .i64 0, .int .u8 0, .int .u8 0] 50 (0, 0))) := fun q => by
    obtain ⟨w2, hr, hb2, hbs, hsm⟩ := BufAt.copy (⟨HH.out.buf.row⟩ : BufAt (w.drewN q) b a) c (g - a.length) (g - a.length) (by omega)
    exact ⟨w2, hr, hb2, Beside.trans (Beside.of_below (below_drewN (Below.refl w.heap.size w) q) (Nat.le_refl _)) (hbs p), (hsm p HH.out.ne).trans HH.out.row⟩
  have HNE : Hid (p ≠ b) := HH.out.ne
  rw [HD.out]
  generalize hx : a ++ c.take (g - a.length) = x at *
  generalize (c.take (g - a.length)).length = n at *
  clear hx HD HH
  have hn3 : (a.length : Int) + n ≤ 4096 := by omega
  have hn4 : (n : Int) ≤ c.length := by omega
  have hs : (⟨c.toArray⟩ : ByteArray).size = c.length := list_size c
  have hg3 : (a.length : Int) < g := by omega
  have hg4 : (g : Int) ≤ 4096 := by omega
  go_enter Tryd.func20, Tryd.ntmps20
  go_wp2
  go_quiet ((go_at_call 30; refine Calls.quiet_of (KG.out _)))
  obtain ⟨w2, hr, hb2, hbs, hrow⟩ := KC.out nq
  have HB : Hid (_ ∧ _ ∧ _) := ⟨hb2, hbs, hrow⟩
  have q1 : w2.cell? ⟨p, 1, none⟩ = some (.slice (some ⟨b, 0, none⟩) a.length 4096) := cl_row hrow rfl
  have q2 : w2.frozen? ⟨p, 1, none⟩ = false := fz_row hrow
  clear KC hb2 hbs hrow KG
  go_wp2
  go_ret
  obtain ⟨hb2, hbs, hrow⟩ := HB.out
  refine ⟨by rw [← cut_str]; rfl, ⟨?_, ?_, HNE.out⟩, hbs.trans (Beside.setp w2 1 _)⟩
  · rw [HA.out]
    exact heap_setCell_same w2 p 1 _ 50 _ hrow
  · exact hb2.same (Below.heap_setCell w2 ⟨p, 1, none⟩ _ b (fun e => HNE.out e.symm))
end Go.Proofs.YtlinoklgchfedaaDoor
