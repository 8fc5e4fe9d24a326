/-
  What is wrong with a header, as the program tells it.
-/
import Derived.Test.YtlinoklgchfedaaDoorB3
namespace Go.Proofs.YtlinoklgchfedaaDoor
open Go.RowKit
/-- string(head[:n]). -/
theorem conv_buf {w : World} {b : Nat} {x : List UInt8} (h : BufAt w b x) (n c : Nat) (hn : n ≤ x.length) : (convert 43 9 (.slice (some ⟨b, 0, none⟩) n c)).run Tryd.prog w = .ok (.string ⟨(x.take n).toArray⟩) w := by
  have e := run_convert_bytes_back (P := Tryd.prog) w 43 9 5 ⟨b, 0, none⟩ c (x.take n) Tryd.underlying43 Tryd.underlying5 Tryd.underlying9 (fun j hj => by
    have hj2 : j < n := by rw [List.length_take] at hj; omega
    have hj3 : j < x.length := by omega
    have := h.cell j hj3
    rw [List.getD_eq_getElem?_getD, List.getElem?_eq_getElem hj3] at this
    have ha : (⟨b, 0, none⟩ : Addr).add j = ⟨b, j, none⟩ := by unfold Addr.add; split <;> simp_all
    rw [List.getElem_take, ha]
    exact this)
  rw [List.length_take, Nat.min_eq_left hn] at e
  exact e
/-- string(wait[19:n:n]). -/
theorem conv_tail {w : World} {b : Nat} {x : List UInt8} (h : BufAt w b x) (c : Nat) : (convert 43 9 (.slice (some ⟨b, 19, none⟩) (x.length - 19) c)).run Tryd.prog w = .ok (.string ⟨(x.drop 19).toArray⟩) w := by
  have e := run_convert_bytes_back (P := Tryd.prog) w 43 9 5 ⟨b, 19, none⟩ c (x.drop 19) Tryd.underlying43 Tryd.underlying5 Tryd.underlying9 (fun j hj => by
    have hj3 : 19 + j < x.length := by rw [List.length_drop] at hj; omega
    have := h.cell (19 + j) hj3
    rw [List.getD_eq_getElem?_getD, List.getElem?_eq_getElem hj3] at this
    have ha : (⟨b, 19, none⟩ : Addr).add j = ⟨b, 19 + j, none⟩ := by unfold Addr.add; split <;> simp_all
    rw [List.getElem_drop, ha]
    exact this)
  rw [List.length_drop] at e
  exact e
theorem BufAt.cut {w : World} {b : Nat} {x : List UInt8} (h : BufAt w b x) (n : Nat) : BufAt w b (x.take n) := by
  obtain ⟨cs, h1, h2, h3⟩ := h.row
  refine ⟨cs, h1, h2, fun j y hy => ?_⟩
  rw [List.getElem?_take] at hy
  split at hy
  · exact h3 j y hy
  · simp at hy
/-- What the walk asks of memory, whatever world it stands in. -/
structure Hd (w : World) (b : Nat) (s : ByteArray) (n k : Nat) : Prop where
  len : Calls Tryd.prog 32 #[.slice (some ⟨b, 0, none⟩) 19 19] w fun e w' => e = .returned (.int .i64 (n : Int)) ∧ ∃ q, w' = w.drewN q
  cv : (convert 43 9 (.slice (some ⟨b, 0, none⟩) 16 19)).run Tryd.prog w = .ok (.string s) w
  c18 : w.cell? ⟨b, 18, none⟩ = some (.int .u8 (k : Int))
  sz : SzAt w
theorem hd_of {w : World} {b : Nat} {x : List UInt8} (h : BufAt w b x) (hl : 19 ≤ x.length) (hs : SzAt w) : Hd w b ⟨(x.take 16).toArray⟩ (lenI x) (kindI x) :=
  ⟨lengthOf_buf b 19 x w h 19 (by omega) hl, conv_buf h 16 19 (by omega), h.cell 18 (by omega), hs⟩
set_option maxRecDepth 100000 in
set_option maxHeartbeats 800000 in
theorem wrong_mark (b : Nat) (s : ByteArray) (n k : Nat) (w : World) (h : ∀ w', Below w.heap.size w w' → Hd w' b s n k) (hm : (s.toList == [255, 255, 255, 255, 255, 255, 255, 255, 255, 255, 255, 255, 255, 255, 255, 255]) = false) (hk : (k : Int) < 256) :
    Calls Tryd.prog 31 #[.slice (some ⟨b, 0, none⟩) 19 19] w fun e w' => e = .returned (verV 1) ∧ Below w.heap.size w w' := by
  have HB : Hid (Below w.heap.size w (w.alloc (.cells #[.int .i64 0, .int .u8 0, .int .u8 0] 27))) := (Below.refl _ _).alloc (Nat.le_refl _) _
  have HH : Hid (∀ w', Below w.heap.size w w' → Hd w' b s n k) := h
  have KL : Hid (∀ q, Calls Tryd.prog 32 #[.slice (some ⟨b, 0, none⟩) 19 19] ((w.alloc (.cells #[.int .i64 0, .int .u8 0, .int .u8 0] 27)).drewN q) fun e w' => e = .returned (.int .i64 (n : Int)) ∧ ∃ m, w' = ((w.alloc (.cells #[.int .i64 0, .int .u8 0, .int .u8 0] 27)).drewN q).drewN m) := fun q => (h _ (below_drewN HB.out q)).len
  have c18 := (h _ HB.out).c18
  have r0 : (w.alloc (.cells #[.int .i64 0, .int .u8 0, .int .u8 0] 27)).heap[w.heap.size]? = some (.cells #[.int .i64 0, .int .u8 0, .int .u8 0] 27 (0, 0)) := hp_new rfl
  clear h
  go_enter Tryd.func31, Tryd.ntmps31
  go_wp2_with fail
  generalize hW : w.alloc (.cells #[.int .i64 0, .int .u8 0, .int .u8 0] 27) = W at *
  have HR : Hid (W.heap[w.heap.size]? = _) := r0
  have HW : Hid (W = _) := hW.symm
  clear r0 hW
  go_quiet ((go_at_call 32; refine Calls.quiet_of (KL.out _)))
  have HB2 : Hid (Below w.heap.size w (W.drewN nq)) := below_drewN HB.out nq
  have hcv := (HH.out _ HB2.out).cv
  have HR2 : Hid ((W.drewN nq).heap[w.heap.size]? = _) := HR.out
  generalize W.drewN nq = V at *
  clear KL HB HR HW c18
  go_wp2_with fail
  refine (reset_any 1 V).mono ?_
  rintro e w5 ⟨rfl, hb5⟩
  have HB5 : Hid (Below w.heap.size w w5) := HB2.out.trans (hb5.mono HB2.out.size)
  have HR5 : Hid (w5.heap[w.heap.size]? = some (.cells #[.int .i64 0, .int .u8 0, .int .u8 0] 27 (0, 0))) := (hb5.block _ (Array.getElem?_eq_some_iff.mp HR2.out).1).trans HR2.out
  have q0 : w5.cell? ⟨w.heap.size, 0, none⟩ = some (.int .i64 0) := cl_row HR5.out rfl
  have q1 : w5.cell? ⟨w.heap.size, 1, none⟩ = some (.int .u8 0) := cl_row HR5.out rfl
  have q2 : w5.cell? ⟨w.heap.size, 2, none⟩ = some (.int .u8 0) := cl_row HR5.out rfl
  have f0 : w5.frozen? ⟨w.heap.size, 0, none⟩ = false := fz_row HR5.out
  have f1 : w5.frozen? ⟨w.heap.size, 1, none⟩ = false := fz_row HR5.out
  have f2 : w5.frozen? ⟨w.heap.size, 2, none⟩ = false := fz_row HR5.out
  clear hb5 HB2 HR2
  go_wp2
  refine bodyPost_ret (v := verV 1) (by simp [results, Tryd.results31, go_sem, verV, vaI, vcI, q0, q1, q2]) rfl ⟨rfl, ?_⟩
  exact ((HB5.out.setCell (p := ⟨w.heap.size, 0, none⟩) (Nat.le_refl _) _).setCell (p := ⟨w.heap.size, 1, none⟩) (Nat.le_refl _) _).setCell (p := ⟨w.heap.size, 2, none⟩) (Nat.le_refl _) _
set_option maxRecDepth 100000 in
set_option maxHeartbeats 800000 in
theorem wrong_low (b : Nat) (s : ByteArray) (n k : Nat) (w : World) (h : ∀ w', Below w.heap.size w w' → Hd w' b s n k) (hm : (s.toList == [255, 255, 255, 255, 255, 255, 255, 255, 255, 255, 255, 255, 255, 255, 255, 255]) = true) (hk : (k : Int) < 256) (hn : (n : Int) < 19) :
    Calls Tryd.prog 31 #[.slice (some ⟨b, 0, none⟩) 19 19] w fun e w' => e = .returned (verV 2) ∧ Below w.heap.size w w' := by
  have HB : Hid (Below w.heap.size w (w.alloc (.cells #[.int .i64 0, .int .u8 0, .int .u8 0] 27))) := (Below.refl _ _).alloc (Nat.le_refl _) _
  have HH : Hid (∀ w', Below w.heap.size w w' → Hd w' b s n k) := h
  have KL : Hid (∀ q, Calls Tryd.prog 32 #[.slice (some ⟨b, 0, none⟩) 19 19] ((w.alloc (.cells #[.int .i64 0, .int .u8 0, .int .u8 0] 27)).drewN q) fun e w' => e = .returned (.int .i64 (n : Int)) ∧ ∃ m, w' = ((w.alloc (.cells #[.int .i64 0, .int .u8 0, .int .u8 0] 27)).drewN q).drewN m) := fun q => (h _ (below_drewN HB.out q)).len
  have c18 := (h _ HB.out).c18
  have r0 : (w.alloc (.cells #[.int .i64 0, .int .u8 0, .int .u8 0] 27)).heap[w.heap.size]? = some (.cells #[.int .i64 0, .int .u8 0, .int .u8 0] 27 (0, 0)) := hp_new rfl
  clear h
  go_enter Tryd.func31, Tryd.ntmps31
  go_wp2_with fail
  generalize hW : w.alloc (.cells #[.int .i64 0, .int .u8 0, .int .u8 0] 27) = W at *
  have HR : Hid (W.heap[w.heap.size]? = _) := r0
  have HW : Hid (W = _) := hW.symm
  clear r0 hW
  go_quiet ((go_at_call 32; refine Calls.quiet_of (KL.out _)))
  have HB2 : Hid (Below w.heap.size w (W.drewN nq)) := below_drewN HB.out nq
  have hcv := (HH.out _ HB2.out).cv
  have HR2 : Hid ((W.drewN nq).heap[w.heap.size]? = _) := HR.out
  generalize W.drewN nq = V at *
  clear KL HB HR HW c18
  go_wp2_with fail
  refine (reset_any 2 V).mono ?_
  rintro e w5 ⟨rfl, hb5⟩
  have HB5 : Hid (Below w.heap.size w w5) := HB2.out.trans (hb5.mono HB2.out.size)
  have HR5 : Hid (w5.heap[w.heap.size]? = some (.cells #[.int .i64 0, .int .u8 0, .int .u8 0] 27 (0, 0))) := (hb5.block _ (Array.getElem?_eq_some_iff.mp HR2.out).1).trans HR2.out
  have q0 : w5.cell? ⟨w.heap.size, 0, none⟩ = some (.int .i64 0) := cl_row HR5.out rfl
  have q1 : w5.cell? ⟨w.heap.size, 1, none⟩ = some (.int .u8 0) := cl_row HR5.out rfl
  have q2 : w5.cell? ⟨w.heap.size, 2, none⟩ = some (.int .u8 0) := cl_row HR5.out rfl
  have f0 : w5.frozen? ⟨w.heap.size, 0, none⟩ = false := fz_row HR5.out
  have f1 : w5.frozen? ⟨w.heap.size, 1, none⟩ = false := fz_row HR5.out
  have f2 : w5.frozen? ⟨w.heap.size, 2, none⟩ = false := fz_row HR5.out
  clear hb5 HB2 HR2
  go_wp2
  refine bodyPost_ret (v := verV 2) (by simp [results, Tryd.results31, go_sem, verV, vaI, vcI, q0, q1, q2]) rfl ⟨rfl, ?_⟩
  exact ((HB5.out.setCell (p := ⟨w.heap.size, 0, none⟩) (Nat.le_refl _) _).setCell (p := ⟨w.heap.size, 1, none⟩) (Nat.le_refl _) _).setCell (p := ⟨w.heap.size, 2, none⟩) (Nat.le_refl _) _
set_option maxRecDepth 100000 in
set_option maxHeartbeats 800000 in
theorem wrong_high (b : Nat) (s : ByteArray) (n k : Nat) (w : World) (h : ∀ w', Below w.heap.size w w' → Hd w' b s n k) (hm : (s.toList == [255, 255, 255, 255, 255, 255, 255, 255, 255, 255, 255, 255, 255, 255, 255, 255]) = true) (hk : (k : Int) < 256) (hn : (4096 : Int) < n) :
    Calls Tryd.prog 31 #[.slice (some ⟨b, 0, none⟩) 19 19] w fun e w' => e = .returned (verV 2) ∧ Below w.heap.size w w' := by
  have HB : Hid (Below w.heap.size w (w.alloc (.cells #[.int .i64 0, .int .u8 0, .int .u8 0] 27))) := (Below.refl _ _).alloc (Nat.le_refl _) _
  have HH : Hid (∀ w', Below w.heap.size w w' → Hd w' b s n k) := h
  have KL : Hid (∀ q, Calls Tryd.prog 32 #[.slice (some ⟨b, 0, none⟩) 19 19] ((w.alloc (.cells #[.int .i64 0, .int .u8 0, .int .u8 0] 27)).drewN q) fun e w' => e = .returned (.int .i64 (n : Int)) ∧ ∃ m, w' = ((w.alloc (.cells #[.int .i64 0, .int .u8 0, .int .u8 0] 27)).drewN q).drewN m) := fun q => (h _ (below_drewN HB.out q)).len
  have c18 := (h _ HB.out).c18
  have r0 : (w.alloc (.cells #[.int .i64 0, .int .u8 0, .int .u8 0] 27)).heap[w.heap.size]? = some (.cells #[.int .i64 0, .int .u8 0, .int .u8 0] 27 (0, 0)) := hp_new rfl
  clear h
  go_enter Tryd.func31, Tryd.ntmps31
  go_wp2_with fail
  generalize hW : w.alloc (.cells #[.int .i64 0, .int .u8 0, .int .u8 0] 27) = W at *
  have HR : Hid (W.heap[w.heap.size]? = _) := r0
  have HW : Hid (W = _) := hW.symm
  clear r0 hW
  go_quiet ((go_at_call 32; refine Calls.quiet_of (KL.out _)))
  have HB2 : Hid (Below w.heap.size w (W.drewN nq)) := below_drewN HB.out nq
  have hcv := (HH.out _ HB2.out).cv
  have HR2 : Hid ((W.drewN nq).heap[w.heap.size]? = _) := HR.out
  generalize W.drewN nq = V at *
  clear KL HB HR HW c18
  go_wp2_with fail
  refine (reset_any 2 V).mono ?_
  rintro e w5 ⟨rfl, hb5⟩
  have HB5 : Hid (Below w.heap.size w w5) := HB2.out.trans (hb5.mono HB2.out.size)
  have HR5 : Hid (w5.heap[w.heap.size]? = some (.cells #[.int .i64 0, .int .u8 0, .int .u8 0] 27 (0, 0))) := (hb5.block _ (Array.getElem?_eq_some_iff.mp HR2.out).1).trans HR2.out
  have q0 : w5.cell? ⟨w.heap.size, 0, none⟩ = some (.int .i64 0) := cl_row HR5.out rfl
  have q1 : w5.cell? ⟨w.heap.size, 1, none⟩ = some (.int .u8 0) := cl_row HR5.out rfl
  have q2 : w5.cell? ⟨w.heap.size, 2, none⟩ = some (.int .u8 0) := cl_row HR5.out rfl
  have f0 : w5.frozen? ⟨w.heap.size, 0, none⟩ = false := fz_row HR5.out
  have f1 : w5.frozen? ⟨w.heap.size, 1, none⟩ = false := fz_row HR5.out
  have f2 : w5.frozen? ⟨w.heap.size, 2, none⟩ = false := fz_row HR5.out
  clear hb5 HB2 HR2
  go_wp2
  refine bodyPost_ret (v := verV 2) (by simp [results, Tryd.results31, go_sem, verV, vaI, vcI, q0, q1, q2]) rfl ⟨rfl, ?_⟩
  exact ((HB5.out.setCell (p := ⟨w.heap.size, 0, none⟩) (Nat.le_refl _) _).setCell (p := ⟨w.heap.size, 1, none⟩) (Nat.le_refl _) _).setCell (p := ⟨w.heap.size, 2, none⟩) (Nat.le_refl _) _
set_option maxRecDepth 100000 in
set_option maxHeartbeats 800000 in
theorem wrong_kind (b : Nat) (s : ByteArray) (n k : Nat) (w : World) (h : ∀ w', Below w.heap.size w w' → Hd w' b s n k) (hm : (s.toList == [255, 255, 255, 255, 255, 255, 255, 255, 255, 255, 255, 255, 255, 255, 255, 255]) = true) (hk : (k : Int) < 256) (hn : (19 : Int) ≤ n) (hn2 : (n : Int) ≤ 4096) (hkk : (decide (1 ≤ (k : Int)) && decide ((k : Int) ≤ 5)) = false) :
    Calls Tryd.prog 31 #[.slice (some ⟨b, 0, none⟩) 19 19] w fun e w' => e = .returned (verV 3) ∧ Below w.heap.size w w' := by
  have HB : Hid (Below w.heap.size w (w.alloc (.cells #[.int .i64 0, .int .u8 0, .int .u8 0] 27))) := (Below.refl _ _).alloc (Nat.le_refl _) _
  have HH : Hid (∀ w', Below w.heap.size w w' → Hd w' b s n k) := h
  have KL : Hid (∀ q, Calls Tryd.prog 32 #[.slice (some ⟨b, 0, none⟩) 19 19] ((w.alloc (.cells #[.int .i64 0, .int .u8 0, .int .u8 0] 27)).drewN q) fun e w' => e = .returned (.int .i64 (n : Int)) ∧ ∃ m, w' = ((w.alloc (.cells #[.int .i64 0, .int .u8 0, .int .u8 0] 27)).drewN q).drewN m) := fun q => (h _ (below_drewN HB.out q)).len
  have c18 := (h _ HB.out).c18
  have r0 : (w.alloc (.cells #[.int .i64 0, .int .u8 0, .int .u8 0] 27)).heap[w.heap.size]? = some (.cells #[.int .i64 0, .int .u8 0, .int .u8 0] 27 (0, 0)) := hp_new rfl
  clear h
  go_enter Tryd.func31, Tryd.ntmps31
  go_wp2_with fail
  generalize hW : w.alloc (.cells #[.int .i64 0, .int .u8 0, .int .u8 0] 27) = W at *
  have HR : Hid (W.heap[w.heap.size]? = _) := r0
  have HW : Hid (W = _) := hW.symm
  clear r0 hW
  go_quiet ((go_at_call 32; refine Calls.quiet_of (KL.out _)))
  have HB2 : Hid (Below w.heap.size w (W.drewN nq)) := below_drewN HB.out nq
  have hcv := (HH.out _ HB2.out).cv
  have HR2 : Hid ((W.drewN nq).heap[w.heap.size]? = _) := HR.out
  generalize W.drewN nq = V at *
  clear KL HB HR HW c18
  go_wp2_with fail
  refine (isKind_any (k : Int) V).mono ?_
  rintro e w6 ⟨rfl, hw6⟩
  obtain rfl : V = w6 := hw6.symm
  clear hw6
  simp only [hkk]
  go_wp2_with fail
  refine (reset_any 3 V).mono ?_
  rintro e w5 ⟨rfl, hb5⟩
  have HB5 : Hid (Below w.heap.size w w5) := HB2.out.trans (hb5.mono HB2.out.size)
  have HR5 : Hid (w5.heap[w.heap.size]? = some (.cells #[.int .i64 0, .int .u8 0, .int .u8 0] 27 (0, 0))) := (hb5.block _ (Array.getElem?_eq_some_iff.mp HR2.out).1).trans HR2.out
  have q0 : w5.cell? ⟨w.heap.size, 0, none⟩ = some (.int .i64 0) := cl_row HR5.out rfl
  have q1 : w5.cell? ⟨w.heap.size, 1, none⟩ = some (.int .u8 0) := cl_row HR5.out rfl
  have q2 : w5.cell? ⟨w.heap.size, 2, none⟩ = some (.int .u8 0) := cl_row HR5.out rfl
  have f0 : w5.frozen? ⟨w.heap.size, 0, none⟩ = false := fz_row HR5.out
  have f1 : w5.frozen? ⟨w.heap.size, 1, none⟩ = false := fz_row HR5.out
  have f2 : w5.frozen? ⟨w.heap.size, 2, none⟩ = false := fz_row HR5.out
  clear hb5 HB2 HR2
  go_wp2
  refine bodyPost_ret (v := verV 3) (by simp [results, Tryd.results31, go_sem, verV, vaI, vcI, q0, q1, q2]) rfl ⟨rfl, ?_⟩
  exact ((HB5.out.setCell (p := ⟨w.heap.size, 0, none⟩) (Nat.le_refl _) _).setCell (p := ⟨w.heap.size, 1, none⟩) (Nat.le_refl _) _).setCell (p := ⟨w.heap.size, 2, none⟩) (Nat.le_refl _) _
set_option maxRecDepth 100000 in
set_option maxHeartbeats 800000 in
theorem wrong_fits (b : Nat) (s : ByteArray) (n k : Nat) (w : World) (h : ∀ w', Below w.heap.size w w' → Hd w' b s n k) (hm : (s.toList == [255, 255, 255, 255, 255, 255, 255, 255, 255, 255, 255, 255, 255, 255, 255, 255]) = true) (hk : (k : Int) < 256) (hn : (19 : Int) ≤ n) (hn2 : (n : Int) ≤ 4096) (h1 : 1 ≤ (k : Int)) (h5 : (k : Int) ≤ 5) (hf : fitI k n = false) :
    Calls Tryd.prog 31 #[.slice (some ⟨b, 0, none⟩) 19 19] w fun e w' => e = .returned (verV 2) ∧ Below w.heap.size w w' := by
  have HB : Hid (Below w.heap.size w (w.alloc (.cells #[.int .i64 0, .int .u8 0, .int .u8 0] 27))) := (Below.refl _ _).alloc (Nat.le_refl _) _
  have HH : Hid (∀ w', Below w.heap.size w w' → Hd w' b s n k) := h
  have KL : Hid (∀ q, Calls Tryd.prog 32 #[.slice (some ⟨b, 0, none⟩) 19 19] ((w.alloc (.cells #[.int .i64 0, .int .u8 0, .int .u8 0] 27)).drewN q) fun e w' => e = .returned (.int .i64 (n : Int)) ∧ ∃ m, w' = ((w.alloc (.cells #[.int .i64 0, .int .u8 0, .int .u8 0] 27)).drewN q).drewN m) := fun q => (h _ (below_drewN HB.out q)).len
  have c18 := (h _ HB.out).c18
  have r0 : (w.alloc (.cells #[.int .i64 0, .int .u8 0, .int .u8 0] 27)).heap[w.heap.size]? = some (.cells #[.int .i64 0, .int .u8 0, .int .u8 0] 27 (0, 0)) := hp_new rfl
  have hkk : (decide (1 ≤ (k : Int)) && decide ((k : Int) ≤ 5)) = true := by simp [h1, h5]
  clear h
  go_enter Tryd.func31, Tryd.ntmps31
  go_wp2_with fail
  generalize hW : w.alloc (.cells #[.int .i64 0, .int .u8 0, .int .u8 0] 27) = W at *
  have HR : Hid (W.heap[w.heap.size]? = _) := r0
  have HW : Hid (W = _) := hW.symm
  clear r0 hW
  go_quiet ((go_at_call 32; refine Calls.quiet_of (KL.out _)))
  have HB2 : Hid (Below w.heap.size w (W.drewN nq)) := below_drewN HB.out nq
  have hcv := (HH.out _ HB2.out).cv
  have HR2 : Hid ((W.drewN nq).heap[w.heap.size]? = _) := HR.out
  generalize W.drewN nq = V at *
  clear KL HB HR HW c18
  go_wp2_with fail
  refine (isKind_any (k : Int) V).mono ?_
  rintro e w6 ⟨rfl, hw6⟩
  obtain rfl : V = w6 := hw6.symm
  clear hw6
  simp only [hkk]
  go_wp2_with fail
  refine (fits_any (k : Int) (n : Int) V (HH.out _ HB2.out).sz h1 h5).mono ?_
  rintro e w6 ⟨rfl, hw6⟩
  obtain rfl : V = w6 := hw6.symm
  clear hw6
  simp only [hf]
  go_wp2_with fail
  refine (reset_any 2 V).mono ?_
  rintro e w5 ⟨rfl, hb5⟩
  have HB5 : Hid (Below w.heap.size w w5) := HB2.out.trans (hb5.mono HB2.out.size)
  have HR5 : Hid (w5.heap[w.heap.size]? = some (.cells #[.int .i64 0, .int .u8 0, .int .u8 0] 27 (0, 0))) := (hb5.block _ (Array.getElem?_eq_some_iff.mp HR2.out).1).trans HR2.out
  have q0 : w5.cell? ⟨w.heap.size, 0, none⟩ = some (.int .i64 0) := cl_row HR5.out rfl
  have q1 : w5.cell? ⟨w.heap.size, 1, none⟩ = some (.int .u8 0) := cl_row HR5.out rfl
  have q2 : w5.cell? ⟨w.heap.size, 2, none⟩ = some (.int .u8 0) := cl_row HR5.out rfl
  have f0 : w5.frozen? ⟨w.heap.size, 0, none⟩ = false := fz_row HR5.out
  have f1 : w5.frozen? ⟨w.heap.size, 1, none⟩ = false := fz_row HR5.out
  have f2 : w5.frozen? ⟨w.heap.size, 2, none⟩ = false := fz_row HR5.out
  clear hb5 HB2 HR2
  go_wp2
  refine bodyPost_ret (v := verV 2) (by simp [results, Tryd.results31, go_sem, verV, vaI, vcI, q0, q1, q2]) rfl ⟨rfl, ?_⟩
  exact ((HB5.out.setCell (p := ⟨w.heap.size, 0, none⟩) (Nat.le_refl _) _).setCell (p := ⟨w.heap.size, 1, none⟩) (Nat.le_refl _) _).setCell (p := ⟨w.heap.size, 2, none⟩) (Nat.le_refl _) _
set_option maxRecDepth 100000 in
set_option maxHeartbeats 800000 in
theorem wrong_none (b : Nat) (s : ByteArray) (n k : Nat) (w : World) (h : ∀ w', Below w.heap.size w w' → Hd w' b s n k) (hm : (s.toList == [255, 255, 255, 255, 255, 255, 255, 255, 255, 255, 255, 255, 255, 255, 255, 255]) = true) (hk : (k : Int) < 256) (hn : (19 : Int) ≤ n) (hn2 : (n : Int) ≤ 4096) (h1 : 1 ≤ (k : Int)) (h5 : (k : Int) ≤ 5) (hf : fitI k n = true) :
    Calls Tryd.prog 31 #[.slice (some ⟨b, 0, none⟩) 19 19] w fun e w' => e = .returned (verV 0) ∧ Below w.heap.size w w' := by
  have HB : Hid (Below w.heap.size w (w.alloc (.cells #[.int .i64 0, .int .u8 0, .int .u8 0] 27))) := (Below.refl _ _).alloc (Nat.le_refl _) _
  have HH : Hid (∀ w', Below w.heap.size w w' → Hd w' b s n k) := h
  have KL : Hid (∀ q, Calls Tryd.prog 32 #[.slice (some ⟨b, 0, none⟩) 19 19] ((w.alloc (.cells #[.int .i64 0, .int .u8 0, .int .u8 0] 27)).drewN q) fun e w' => e = .returned (.int .i64 (n : Int)) ∧ ∃ m, w' = ((w.alloc (.cells #[.int .i64 0, .int .u8 0, .int .u8 0] 27)).drewN q).drewN m) := fun q => (h _ (below_drewN HB.out q)).len
  have c18 := (h _ HB.out).c18
  have r0 : (w.alloc (.cells #[.int .i64 0, .int .u8 0, .int .u8 0] 27)).heap[w.heap.size]? = some (.cells #[.int .i64 0, .int .u8 0, .int .u8 0] 27 (0, 0)) := hp_new rfl
  have hkk : (decide (1 ≤ (k : Int)) && decide ((k : Int) ≤ 5)) = true := by simp [h1, h5]
  clear h
  go_enter Tryd.func31, Tryd.ntmps31
  go_wp2_with fail
  generalize hW : w.alloc (.cells #[.int .i64 0, .int .u8 0, .int .u8 0] 27) = W at *
  have HR : Hid (W.heap[w.heap.size]? = _) := r0
  have HW : Hid (W = _) := hW.symm
  clear r0 hW
  go_quiet ((go_at_call 32; refine Calls.quiet_of (KL.out _)))
  have HB2 : Hid (Below w.heap.size w (W.drewN nq)) := below_drewN HB.out nq
  have hcv := (HH.out _ HB2.out).cv
  have HR2 : Hid ((W.drewN nq).heap[w.heap.size]? = _) := HR.out
  generalize W.drewN nq = V at *
  clear KL HB HR HW c18
  go_wp2_with fail
  refine (isKind_any (k : Int) V).mono ?_
  rintro e w6 ⟨rfl, hw6⟩
  obtain rfl : V = w6 := hw6.symm
  clear hw6
  simp only [hkk]
  go_wp2_with fail
  refine (fits_any (k : Int) (n : Int) V (HH.out _ HB2.out).sz h1 h5).mono ?_
  rintro e w6 ⟨rfl, hw6⟩
  obtain rfl : V = w6 := hw6.symm
  clear hw6
  simp only [hf]
  have q0 : V.cell? ⟨w.heap.size, 0, none⟩ = some (.int .i64 0) := cl_row HR2.out rfl
  have q1 : V.cell? ⟨w.heap.size, 1, none⟩ = some (.int .u8 0) := cl_row HR2.out rfl
  have q2 : V.cell? ⟨w.heap.size, 2, none⟩ = some (.int .u8 0) := cl_row HR2.out rfl
  have f0 : V.frozen? ⟨w.heap.size, 0, none⟩ = false := fz_row HR2.out
  have f1 : V.frozen? ⟨w.heap.size, 1, none⟩ = false := fz_row HR2.out
  have f2 : V.frozen? ⟨w.heap.size, 2, none⟩ = false := fz_row HR2.out
  clear HR2
  go_wp2
  refine bodyPost_ret (v := verV 0) (by simp [results, Tryd.results31, go_sem, verV, vaI, vcI, q0, q1, q2]) rfl ⟨rfl, ?_⟩
  exact ((HB2.out.setCell (p := ⟨w.heap.size, 0, none⟩) (Nat.le_refl _) _).setCell (p := ⟨w.heap.size, 1, none⟩) (Nat.le_refl _) _).setCell (p := ⟨w.heap.size, 2, none⟩) (Nat.le_refl _) _
theorem mark_beq (x : List UInt8) : ((⟨(x.take 16).toArray⟩ : ByteArray).toList == [255, 255, 255, 255, 255, 255, 255, 255, 255, 255, 255, 255, 255, 255, 255, 255]) = decide (x.take 16 = mark) := by
  have e : (⟨(x.take 16).toArray⟩ : ByteArray).toList = x.take 16 := by simp
  rw [e, Bool.eq_iff_iff, beq_iff_eq, decide_eq_true_iff]
  exact Iff.rfl
theorem wrongWith_any (b : Nat) (x : List UInt8) (w : World) (h : BufAt w b x) (hl : 19 ≤ x.length) (hs : SzAt w) :
    Calls Tryd.prog 31 #[.slice (some ⟨b, 0, none⟩) 19 19] w fun e w' => e = .returned (verV (wrongI x)) ∧ Below w.heap.size w w' := by
  have HH : ∀ w', Below w.heap.size w w' → Hd w' b ⟨(x.take 16).toArray⟩ (lenI x) (kindI x) := fun w' hb => hd_of (h.same (hb.block b h.lt)) hl (hs.below hb)
  have hm := mark_beq x
  have hk : (kindI x : Int) < 256 := by have := UInt8.toNat_lt (x.getD 18 0); unfold kindI; omega
  by_cases e0 : x.take 16 = mark
  · rw [decide_eq_true e0] at hm
    by_cases e1 : lenI x < 19
    · have e : wrongI x = 2 := by unfold wrongI; rw [if_pos e0, if_pos (Or.inl e1)]
      rw [e]; exact wrong_low b _ _ _ w HH hm hk (by omega)
    · by_cases e2 : 4096 < lenI x
      · have e : wrongI x = 2 := by unfold wrongI; rw [if_pos e0, if_pos (Or.inr e2)]
        rw [e]; exact wrong_high b _ _ _ w HH hm hk (by omega)
      · by_cases e3 : kindI x < 1 ∨ 5 < kindI x
        · have e : wrongI x = 3 := by unfold wrongI; rw [if_pos e0, if_neg (by omega), if_pos e3]
          rw [e]; exact wrong_kind b _ _ _ w HH hm hk (by omega) (by omega) (by rw [Bool.and_eq_false_iff, decide_eq_false_iff_not, decide_eq_false_iff_not]; omega)
        · by_cases e4 : fitI (kindI x) (lenI x) = true
          · have e : wrongI x = 0 := by unfold wrongI; rw [if_pos e0, if_neg (by omega), if_neg e3, if_pos e4]
            rw [e]; exact wrong_none b _ _ _ w HH hm hk (by omega) (by omega) (by omega) (by omega) e4
          · have e : wrongI x = 2 := by unfold wrongI; rw [if_pos e0, if_neg (by omega), if_neg e3, if_neg e4]
            rw [e]; exact wrong_fits b _ _ _ w HH hm hk (by omega) (by omega) (by omega) (by omega) (by simpa using e4)
  · rw [decide_eq_false e0] at hm
    have e : wrongI x = 1 := by unfold wrongI; rw [if_neg e0]
    rw [e]; exact wrong_mark b _ _ _ w HH hm hk
end Go.Proofs.YtlinoklgchfedaaDoor
