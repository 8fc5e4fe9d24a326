/-
  The contracts of number, Number and Rest.
-/
import Derived.Test.YtbdfigfjoiefiaaDoorW6
namespace Go.Proofs.YtbdfigfjoiefiaaDoor
open Go.RowKit
theorem ret2 {a b : Int} {x : Value} {k : IntKind} (h : a = b) : Ending.returned (.tuple #[.int k a, x]) = .returned (.tuple #[.int k b, x]) := by rw [h]
theorem size_extract (s : ByteArray) (n : Nat) (h : n ≤ s.size) : (s.extract 0 n).size = n := by simp; omega
set_option maxRecDepth 100000 in
set_option maxHeartbeats 400000 in
theorem number_yes (p : Nat) (s : ByteArray) (n : Nat) (w : World) (h : RdrAt w p s) (h1 : n ≤ 8) (hn : n ≤ s.size) :
    Calls Tryd.prog 87 #[.func (.func 88) #[.pointer (some ⟨p, 0, none⟩)] #[], .int .i64 (n : Int)] w fun e w' =>
      e = .returned (.tuple #[.int .u64 (worth (s.data.toList.take n) : Int), .bool true]) ∧ RdrAt w' p (s.extract n s.size) ∧ Beside p w w' := by
  have hp := h.lt
  have hb : Below w.heap.size w (w.alloc (.cells #[.int .u64 0] 61)) := (Below.refl _ _).alloc (by simp) _
  have h' := h.kept hb hp
  generalize hW : w.alloc (.cells #[.int .u64 0] 61) = W at *
  have cv : W.cell? ⟨w.heap.size, 0, none⟩ = some (.int .u64 0) := by subst hW; simp
  have fv : W.frozen? ⟨w.heap.size, 0, none⟩ = false := by subst hW; simp
  have HW : Hid (w.alloc (.cells #[.int .u64 0] 61) = W) := hW
  have hx := size_extract s n hn
  clear hW
  have hb8 : ∀ k, k < n → worth ((s.extract 0 n).data.toList.take k) < 72057594037927936 := by
    intro k hk
    have := worth_lt ((s.extract 0 n).data.toList.take k)
    have hl : ((s.extract 0 n).data.toList.take k).length ≤ 7 := by simp; omega
    exact Nat.lt_of_lt_of_le this (Nat.le_trans (Nat.pow_le_pow_right (by omega) hl) (by decide))
  have HX : Hid (worth ((s.extract 0 n).data.toList.take n) = worth (s.data.toList.take n)) := by unfold Hid; congr 1; simp [List.take_take]
  go_enter Tryd.func87, Tryd.ntmps87
  go_wp2_with fail
  rw [HW.out]
  refine (take_yes p s n W h' hn).mono ?_
  rintro e w' ⟨rfl, rfl⟩
  generalize s.extract 0 n = b at *
  generalize hrest : s.extract n s.size = rest at *
  have HR : Hid (s.extract n s.size = rest) := hrest
  clear hrest
  have HB : Hid (∀ k, k < n → worth (b.data.toList.take k) < 72057594037927936) := hb8
  clear hb8 hn
  go_wp2_with fail
  go_loopw [20] (fun i wr => ∃ k : Nat, k ≤ n ∧ i = .int .i64 k ∧ NumAt w wr p b rest k) (fun i _ => n - (intOf i).toNat)
  case atStart =>
    refine ⟨0, Nat.zero_le _, rfl, ?_, ?_, ?_, ?_⟩
    · rw [World.cell?_setCell_other _ _ _ _ (by simp)]; simpa [worth] using cv
    · rw [World.frozen?_setCell]; exact fv
    · exact h'.set _
    · exact (Beside.of_below hb (Nat.le_refl _)).trans (Beside.set _ _ _)
  case round =>
    obtain ⟨k, hk, rfl, hq⟩ := hrel
    clear cv fv hb h' h
    by_cases hlt : k < n
    · have hc := hq.cv
      have hf := hq.fv
      have hs : k < b.size := by omega
      have HQ : Hid (NumAt _ _ _ _ _ _) := hq.next hp hs
      have hbk := HB.out k hlt
      clear hq
      go_wp2_with fail
      refine (push_any w.heap.size _ b[k] _ hc hf hbk).mono ?_
      rintro e w' ⟨rfl, rfl⟩
      clear hc hf
      go_wp2
      go_roundw
      case rel => exact ⟨k + 1, by omega, by go_num, HQ.out⟩
      case measure => simp [intOf]; omega
    · obtain rfl : k = n := by omega
      have hc := hq.cv
      go_wp2
      go_ret2
      exact ⟨ret2 (by rw [HX.out]), by rw [HR.out]; exact hq.rdr, hq.bes⟩
theorem number_no (p : Nat) (s : ByteArray) (n : Nat) (w : World) (h : RdrAt w p s) (hn : s.size < n) :
    Calls Tryd.prog 87 #[.func (.func 88) #[.pointer (some ⟨p, 0, none⟩)] #[], .int .i64 (n : Int)] w fun e w' =>
      e = .returned (.tuple #[.int .u64 0, .bool false]) ∧ RdrAt w' p s ∧ Beside p w w' := by
  have hp := h.lt
  have hb : Below w.heap.size w (w.alloc (.cells #[.int .u64 0] 61)) := (Below.refl _ _).alloc (by simp) _
  have h' := h.kept hb hp
  go_enter Tryd.func87, Tryd.ntmps87
  go_wp2_with (go_at_call 88; refine (take_no p s n _ h' (by omega)).mono ?_; rintro e w' ⟨rfl, rfl⟩)
  refine wp_loop_rounds 1 ?_
  rw [rounds_succ]
  go_wp2
  go_ret2
  exact ⟨rfl, h', Beside.of_below hb (Nat.le_refl _)⟩
theorem num_bad (p : Nat) (n : Int) (w : World) (h : n < 1 ∨ 8 < n) :
    Calls Tryd.prog 77 #[.pointer (some ⟨p, 0, none⟩), .int .i64 n] w fun e w' => e = .returned (.tuple #[.int .u64 0, .bool false]) ∧ w' = w := by
  go_enter Tryd.func77, Tryd.ntmps77
  go_wp2_with (go_at_call 70; refine (isSize_no _ h _).mono ?_; rintro e w' ⟨rfl, rfl⟩)
  go_ret2
  exact ⟨rfl, rfl⟩
theorem num_no (p : Nat) (s : ByteArray) (n : Nat) (w : World) (h : RdrAt w p s) (h0 : 1 ≤ n) (h1 : n ≤ 8) (hn : s.size < n) :
    Calls Tryd.prog 77 #[.pointer (some ⟨p, 0, none⟩), .int .i64 (n : Int)] w fun e w' => e = .returned (.tuple #[.int .u64 0, .bool false]) ∧ RdrAt w' p s ∧ Beside p w w' := by
  go_enter Tryd.func77, Tryd.ntmps77
  go_wp2_with (first | (go_at_call 70; refine (isSize_yes _ (by omega) (by omega) _).mono ?_; rintro e w' ⟨rfl, rfl⟩) | (go_at_call 87; refine (number_no p s n _ h hn).mono ?_; rintro e w' ⟨rfl, h2, h3⟩))
  go_ret2
  exact ⟨rfl, h2, h3⟩
theorem num_yes (p : Nat) (s : ByteArray) (n : Nat) (w : World) (h : RdrAt w p s) (h0 : 1 ≤ n) (h1 : n ≤ 8) (hn : n ≤ s.size) :
    Calls Tryd.prog 77 #[.pointer (some ⟨p, 0, none⟩), .int .i64 (n : Int)] w fun e w' =>
      e = .returned (.tuple #[.int .u64 (worth (s.data.toList.take n) : Int), .bool true]) ∧ RdrAt w' p (s.extract n s.size) ∧ Beside p w w' := by
  go_enter Tryd.func77, Tryd.ntmps77
  go_wp2_with (first | (go_at_call 70; refine (isSize_yes _ (by omega) (by omega) _).mono ?_; rintro e w' ⟨rfl, rfl⟩) | (go_at_call 87; refine (number_yes p s n _ h h1 hn).mono ?_; rintro e w' ⟨rfl, h2, h3⟩))
  go_ret2
  exact ⟨rfl, h2, h3⟩
end Go.Proofs.YtbdfigfjoiefiaaDoor
