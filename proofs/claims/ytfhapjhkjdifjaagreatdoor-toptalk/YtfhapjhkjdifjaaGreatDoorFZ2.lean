/-
  The example that closes every statement: works.
-/
import Derived.Test.YtfhapjhkjdifjaaGreatDoorFZ1
import Derived.Deep.RegionLaw
namespace Go.Proofs.YtfhapjhkjdifjaaGreatDoor.Fr
open Go.RowKit
/-- string(head[:n]). -/
theorem conv_buf {w : World} {b : Nat} {x : List UInt8} (h : BufAt w b x) (n c : Nat) (hn : n ≤ x.length) : (convert 25 9 (.slice (some ⟨b, 0, none⟩) n c)).run Tryz.prog w = .ok (.string ⟨(x.take n).toArray⟩) w := by
  have e := run_convert_bytes_back (P := Tryz.prog) w 25 9 5 ⟨b, 0, none⟩ c (x.take n) Tryz.underlying25 Tryz.underlying5 Tryz.underlying9 (fun j hj => by
    have hj2 : j < n := by rw [List.length_take] at hj; omega
    have hj3 : j < x.length := by omega
    have := h.cell j hj3
    rw [List.getD_eq_getElem?_getD, List.getElem?_eq_getElem hj3] at this
    have ha : (⟨b, 0, none⟩ : Addr).add j = ⟨b, j, none⟩ := by unfold Addr.add; split <;> simp_all
    rw [List.getElem_take, ha]
    exact this)
  rw [List.length_take, Nat.min_eq_left hn] at e
  exact e
/-- string(wait[19:n:n]). -/
theorem conv_tail {w : World} {b : Nat} {x : List UInt8} (h : BufAt w b x) (c : Nat) : (convert 25 9 (.slice (some ⟨b, 19, none⟩) (x.length - 19) c)).run Tryz.prog w = .ok (.string ⟨(x.drop 19).toArray⟩) w := by
  have e := run_convert_bytes_back (P := Tryz.prog) w 25 9 5 ⟨b, 19, none⟩ c (x.drop 19) Tryz.underlying25 Tryz.underlying5 Tryz.underlying9 (fun j hj => by
    have hj3 : 19 + j < x.length := by rw [List.length_drop] at hj; omega
    have := h.cell (19 + j) hj3
    rw [List.getD_eq_getElem?_getD, List.getElem?_eq_getElem hj3] at this
    have ha : (⟨b, 19, none⟩ : Addr).add j = ⟨b, 19 + j, none⟩ := by unfold Addr.add; split <;> simp_all
    rw [List.getElem_drop, ha]
    exact this)
  rw [List.length_drop] at e
  exact e
theorem BufAt.cut {w : World} {b : Nat} {x : List UInt8} (h : BufAt w b x) (n : Nat) : BufAt w b (x.take n) := by
  obtain ⟨cs, h1, h2, h3⟩ := h.row
  refine ⟨cs, h1, h2, fun j y hy => ?_⟩
  rw [List.getElem?_take] at hy
  split at hy
  · exact h3 j y hy
  · simp at hy
/-- What the walk asks of memory, whatever world it stands in. -/
structure Hd (w : World) (b : Nat) (s : ByteArray) (n k : Nat) : Prop where
  len : Calls Tryz.prog 48 #[.slice (some ⟨b, 0, none⟩) 19 19] w fun e w' => e = .returned (.int .i64 (n : Int)) ∧ ∃ q, w' = w.drewN q
  cv : (convert 25 9 (.slice (some ⟨b, 0, none⟩) 16 19)).run Tryz.prog w = .ok (.string s) w
  c18 : w.cell? ⟨b, 18, none⟩ = some (.int .u8 (k : Int))
  sz : SzAt w
theorem hd_of {w : World} {b : Nat} {x : List UInt8} (h : BufAt w b x) (hl : 19 ≤ x.length) (hs : SzAt w) : Hd w b ⟨(x.take 16).toArray⟩ (lenI x) (kindI x) :=
  ⟨lengthOf_buf b 19 x w h 19 (by omega) hl, conv_buf h 16 19 (by omega), h.cell 18 (by omega), hs⟩
set_option maxRecDepth 100000 in
set_option maxHeartbeats 800000 in
theorem wrong_mark (b : Nat) (s : ByteArray) (n k : Nat) (w : World) (h : ∀ w', Below w.heap.size w w' → Hd w' b s n k) (hm : (s.toList == [255, 255, 255, 255, 255, 255, 255, 255, 255, 255, 255, 255, 255, 255, 255, 255]) = false) (hk : (k : Int) < 256) :
    Calls Tryz.prog 47 #[.slice (some ⟨b, 0, none⟩) 19 19] w fun e w' => e = .returned (verV 1) ∧ Below w.heap.size w w' := by
  have HB : Hid (Below w.heap.size w (w.alloc (.cells #[.int .i64 0, .int .u8 0, .int .u8 0] 37))) := (Below.refl _ _).alloc (Nat.le_refl _) _
  have HH : Hid (∀ w', Below w.heap.size w w' → Hd w' b s n k) := h
  have KL : Hid (∀ q, Calls Tryz.prog 48 #[.slice (some ⟨b, 0, none⟩) 19 19] ((w.alloc (.cells #[.int .i64 0, .int .u8 0, .int .u8 0] 37)).drewN q) fun e w' => e = .returned (.int .i64 (n : Int)) ∧ ∃ m, w' = ((w.alloc (.cells #[.int .i64 0, .int .u8 0, .int .u8 0] 37)).drewN q).drewN m) := fun q => (h _ (below_drewN HB.out q)).len
  have c18 := (h _ HB.out).c18
  have r0 : (w.alloc (.cells #[.int .i64 0, .int .u8 0, .int .u8 0] 37)).heap[w.heap.size]? = some (.cells #[.int .i64 0, .int .u8 0, .int .u8 0] 37 (0, 0)) := hp_new rfl
  clear h
  go_enter Tryz.func47, Tryz.ntmps47
  go_wp2_with fail
  generalize hW : w.alloc (.cells #[.int .i64 0, .int .u8 0, .int .u8 0] 37) = W at *
  have HR : Hid (W.heap[w.heap.size]? = _) := r0
  have HW : Hid (W = _) := hW.symm
  clear r0 hW
  go_quiet ((go_at_call 48; refine Calls.quiet_of (KL.out _)))
  have HB2 : Hid (Below w.heap.size w (W.drewN nq)) := below_drewN HB.out nq
  have hcv := (HH.out _ HB2.out).cv
  have HR2 : Hid ((W.drewN nq).heap[w.heap.size]? = _) := HR.out
  generalize W.drewN nq = V at *
  clear KL HB HR HW c18
  go_wp2_with fail
  refine (reset_any 1 V).mono ?_
  rintro e w5 ⟨rfl, hb5⟩
  have HB5 : Hid (Below w.heap.size w w5) := HB2.out.trans (hb5.mono HB2.out.size)
  have HR5 : Hid (w5.heap[w.heap.size]? = some (.cells #[.int .i64 0, .int .u8 0, .int .u8 0] 37 (0, 0))) := (hb5.block _ (Array.getElem?_eq_some_iff.mp HR2.out).1).trans HR2.out
  have q0 : w5.cell? ⟨w.heap.size, 0, none⟩ = some (.int .i64 0) := cl_row HR5.out rfl
  have q1 : w5.cell? ⟨w.heap.size, 1, none⟩ = some (.int .u8 0) := cl_row HR5.out rfl
  have q2 : w5.cell? ⟨w.heap.size, 2, none⟩ = some (.int .u8 0) := cl_row HR5.out rfl
  have f0 : w5.frozen? ⟨w.heap.size, 0, none⟩ = false := fz_row HR5.out
  have f1 : w5.frozen? ⟨w.heap.size, 1, none⟩ = false := fz_row HR5.out
  have f2 : w5.frozen? ⟨w.heap.size, 2, none⟩ = false := fz_row HR5.out
  clear hb5 HB2 HR2
  go_wp2
  refine bodyPost_ret (v := verV 1) (by simp [results, Tryz.results47, go_sem, verV, vaI, vcI, q0, q1, q2]) rfl ⟨rfl, ?_⟩
  exact ((HB5.out.setCell (p := ⟨w.heap.size, 0, none⟩) (Nat.le_refl _) _).setCell (p := ⟨w.heap.size, 1, none⟩) (Nat.le_refl _) _).setCell (p := ⟨w.heap.size, 2, none⟩) (Nat.le_refl _) _
set_option maxRecDepth 100000 in
set_option maxHeartbeats 800000 in
theorem wrong_low (b : Nat) (s : ByteArray) (n k : Nat) (w : World) (h : ∀ w', Below w.heap.size w w' → Hd w' b s n k) (hm : (s.toList == [255, 255, 255, 255, 255, 255, 255, 255, 255, 255, 255, 255, 255, 255, 255, 255]) = true) (hk : (k : Int) < 256) (hn : (n : Int) < 19) :
    Calls Tryz.prog 47 #[.slice (some ⟨b, 0, none⟩) 19 19] w fun e w' => e = .returned (verV 2) ∧ Below w.heap.size w w' := by
  have HB : Hid (Below w.heap.size w (w.alloc (.cells #[.int .i64 0, .int .u8 0, .int .u8 0] 37))) := (Below.refl _ _).alloc (Nat.le_refl _) _
  have HH : Hid (∀ w', Below w.heap.size w w' → Hd w' b s n k) := h
  have KL : Hid (∀ q, Calls Tryz.prog 48 #[.slice (some ⟨b, 0, none⟩) 19 19] ((w.alloc (.cells #[.int .i64 0, .int .u8 0, .int .u8 0] 37)).drewN q) fun e w' => e = .returned (.int .i64 (n : Int)) ∧ ∃ m, w' = ((w.alloc (.cells #[.int .i64 0, .int .u8 0, .int .u8 0] 37)).drewN q).drewN m) := fun q => (h _ (below_drewN HB.out q)).len
  have c18 := (h _ HB.out).c18
  have r0 : (w.alloc (.cells #[.int .i64 0, .int .u8 0, .int .u8 0] 37)).heap[w.heap.size]? = some (.cells #[.int .i64 0, .int .u8 0, .int .u8 0] 37 (0, 0)) := hp_new rfl
  clear h
  go_enter Tryz.func47, Tryz.ntmps47
  go_wp2_with fail
  generalize hW : w.alloc (.cells #[.int .i64 0, .int .u8 0, .int .u8 0] 37) = W at *
  have HR : Hid (W.heap[w.heap.size]? = _) := r0
  have HW : Hid (W = _) := hW.symm
  clear r0 hW
  go_quiet ((go_at_call 48; refine Calls.quiet_of (KL.out _)))
  have HB2 : Hid (Below w.heap.size w (W.drewN nq)) := below_drewN HB.out nq
  have hcv := (HH.out _ HB2.out).cv
  have HR2 : Hid ((W.drewN nq).heap[w.heap.size]? = _) := HR.out
  generalize W.drewN nq = V at *
  clear KL HB HR HW c18
  go_wp2_with fail
  refine (reset_any 2 V).mono ?_
  rintro e w5 ⟨rfl, hb5⟩
  have HB5 : Hid (Below w.heap.size w w5) := HB2.out.trans (hb5.mono HB2.out.size)
  have HR5 : Hid (w5.heap[w.heap.size]? = some (.cells #[.int .i64 0, .int .u8 0, .int .u8 0] 37 (0, 0))) := (hb5.block _ (Array.getElem?_eq_some_iff.mp HR2.out).1).trans HR2.out
  have q0 : w5.cell? ⟨w.heap.size, 0, none⟩ = some (.int .i64 0) := cl_row HR5.out rfl
  have q1 : w5.cell? ⟨w.heap.size, 1, none⟩ = some (.int .u8 0) := cl_row HR5.out rfl
  have q2 : w5.cell? ⟨w.heap.size, 2, none⟩ = some (.int .u8 0) := cl_row HR5.out rfl
  have f0 : w5.frozen? ⟨w.heap.size, 0, none⟩ = false := fz_row HR5.out
  have f1 : w5.frozen? ⟨w.heap.size, 1, none⟩ = false := fz_row HR5.out
  have f2 : w5.frozen? ⟨w.heap.size, 2, none⟩ = false := fz_row HR5.out
  clear hb5 HB2 HR2
  go_wp2
  refine bodyPost_ret (v := verV 2) (by simp [results, Tryz.results47, go_sem, verV, vaI, vcI, q0, q1, q2]) rfl ⟨rfl, ?_⟩
  exact ((HB5.out.setCell (p := ⟨w.heap.size, 0, none⟩) (Nat.le_refl _) _).setCell (p := ⟨w.heap.size, 1, none⟩) (Nat.le_refl _) _).setCell (p := ⟨w.heap.size, 2, none⟩) (Nat.le_refl _) _
set_option maxRecDepth 100000 in
set_option maxHeartbeats 800000 in
theorem wrong_high (b : Nat) (s : ByteArray) (n k : Nat) (w : World) (h : ∀ w', Below w.heap.size w w' → Hd w' b s n k) (hm : (s.toList == [255, 255, 255, 255, 255, 255, 255, 255, 255, 255, 255, 255, 255, 255, 255, 255]) = true) (hk : (k : Int) < 256) (hn : (4096 : Int) < n) :
    Calls Tryz.prog 47 #[.slice (some ⟨b, 0, none⟩) 19 19] w fun e w' => e = .returned (verV 2) ∧ Below w.heap.size w w' := by
  have HB : Hid (Below w.heap.size w (w.alloc (.cells #[.int .i64 0, .int .u8 0, .int .u8 0] 37))) := (Below.refl _ _).alloc (Nat.le_refl _) _
  have HH : Hid (∀ w', Below w.heap.size w w' → Hd w' b s n k) := h
  have KL : Hid (∀ q, Calls Tryz.prog 48 #[.slice (some ⟨b, 0, none⟩) 19 19] ((w.alloc (.cells #[.int .i64 0, .int .u8 0, .int .u8 0] 37)).drewN q) fun e w' => e = .returned (.int .i64 (n : Int)) ∧ ∃ m, w' = ((w.alloc (.cells #[.int .i64 0, .int .u8 0, .int .u8 0] 37)).drewN q).drewN m) := fun q => (h _ (below_drewN HB.out q)).len
  have c18 := (h _ HB.out).c18
  have r0 : (w.alloc (.cells #[.int .i64 0, .int .u8 0, .int .u8 0] 37)).heap[w.heap.size]? = some (.cells #[.int .i64 0, .int .u8 0, .int .u8 0] 37 (0, 0)) := hp_new rfl
  clear h
  go_enter Tryz.func47, Tryz.ntmps47
  go_wp2_with fail
  generalize hW : w.alloc (.cells #[.int .i64 0, .int .u8 0, .int .u8 0] 37) = W at *
  have HR : Hid (W.heap[w.heap.size]? = _) := r0
  have HW : Hid (W = _) := hW.symm
  clear r0 hW
  go_quiet ((go_at_call 48; refine Calls.quiet_of (KL.out _)))
  have HB2 : Hid (Below w.heap.size w (W.drewN nq)) := below_drewN HB.out nq
  have hcv := (HH.out _ HB2.out).cv
  have HR2 : Hid ((W.drewN nq).heap[w.heap.size]? = _) := HR.out
  generalize W.drewN nq = V at *
  clear KL HB HR HW c18
  go_wp2_with fail
  refine (reset_any 2 V).mono ?_
  rintro e w5 ⟨rfl, hb5⟩
  have HB5 : Hid (Below w.heap.size w w5) := HB2.out.trans (hb5.mono HB2.out.size)
  have HR5 : Hid (w5.heap[w.heap.size]? = some (.cells #[.int .i64 0, .int .u8 0, .int .u8 0] 37 (0, 0))) := (hb5.block _ (Array.getElem?_eq_some_iff.mp HR2.out).1).trans HR2.out
  have q0 : w5.cell? ⟨w.heap.size, 0, none⟩ = some (.int .i64 0) := cl_row HR5.out rfl
  have q1 : w5.cell? ⟨w.heap.size, 1, none⟩ = some (.int .u8 0) := cl_row HR5.out rfl
  have q2 : w5.cell? ⟨w.heap.size, 2, none⟩ = some (.int .u8 0) := cl_row HR5.out rfl
  have f0 : w5.frozen? ⟨w.heap.size, 0, none⟩ = false := fz_row HR5.out
  have f1 : w5.frozen? ⟨w.heap.size, 1, none⟩ = false := fz_row HR5.out
  have f2 : w5.frozen? ⟨w.heap.size, 2, none⟩ = false := fz_row HR5.out
  clear hb5 HB2 HR2
  go_wp2
  refine bodyPost_ret (v := verV 2) (by simp [results, Tryz.results47, go_sem, verV, vaI, vcI, q0, q1, q2]) rfl ⟨rfl, ?_⟩
  exact ((HB5.out.setCell (p := ⟨w.heap.size, 0, none⟩) (Nat.le_refl _) _).setCell (p := ⟨w.heap.size, 1, none⟩) (Nat.le_refl _) _).setCell (p := ⟨w.heap.size, 2, none⟩) (Nat.le_refl _) _
set_option maxRecDepth 100000 in
set_option maxHeartbeats 800000 in
theorem wrong_kind (b : Nat) (s : ByteArray) (n k : Nat) (w : World) (h : ∀ w', Below w.heap.size w w' → Hd w' b s n k) (hm : (s.toList == [255, 255, 255, 255, 255, 255, 255, 255, 255, 255, 255, 255, 255, 255, 255, 255]) = true) (hk : (k : Int) < 256) (hn : (19 : Int) ≤ n) (hn2 : (n : Int) ≤ 4096) (hkk : (decide (1 ≤ (k : Int)) && decide ((k : Int) ≤ 5)) = false) :
    Calls Tryz.prog 47 #[.slice (some ⟨b, 0, none⟩) 19 19] w fun e w' => e = .returned (verV 3) ∧ Below w.heap.size w w' := by
  have HB : Hid (Below w.heap.size w (w.alloc (.cells #[.int .i64 0, .int .u8 0, .int .u8 0] 37))) := (Below.refl _ _).alloc (Nat.le_refl _) _
  have HH : Hid (∀ w', Below w.heap.size w w' → Hd w' b s n k) := h
  have KL : Hid (∀ q, Calls Tryz.prog 48 #[.slice (some ⟨b, 0, none⟩) 19 19] ((w.alloc (.cells #[.int .i64 0, .int .u8 0, .int .u8 0] 37)).drewN q) fun e w' => e = .returned (.int .i64 (n : Int)) ∧ ∃ m, w' = ((w.alloc (.cells #[.int .i64 0, .int .u8 0, .int .u8 0] 37)).drewN q).drewN m) := fun q => (h _ (below_drewN HB.out q)).len
  have c18 := (h _ HB.out).c18
  have r0 : (w.alloc (.cells #[.int .i64 0, .int .u8 0, .int .u8 0] 37)).heap[w.heap.size]? = some (.cells #[.int .i64 0, .int .u8 0, .int .u8 0] 37 (0, 0)) := hp_new rfl
  clear h
  go_enter Tryz.func47, Tryz.ntmps47
  go_wp2_with fail
  generalize hW : w.alloc (.cells #[.int .i64 0, .int .u8 0, .int .u8 0] 37) = W at *
  have HR : Hid (W.heap[w.heap.size]? = _) := r0
  have HW : Hid (W = _) := hW.symm
  clear r0 hW
  go_quiet ((go_at_call 48; refine Calls.quiet_of (KL.out _)))
  have HB2 : Hid (Below w.heap.size w (W.drewN nq)) := below_drewN HB.out nq
  have hcv := (HH.out _ HB2.out).cv
  have HR2 : Hid ((W.drewN nq).heap[w.heap.size]? = _) := HR.out
  generalize W.drewN nq = V at *
  clear KL HB HR HW c18
  go_wp2_with fail
  refine (isKind_any (k : Int) V).mono ?_
  rintro e w6 ⟨rfl, hw6⟩
  obtain rfl : V = w6 := hw6.symm
  clear hw6
  simp only [hkk]
  go_wp2_with fail
  refine (reset_any 3 V).mono ?_
  rintro e w5 ⟨rfl, hb5⟩
  have HB5 : Hid (Below w.heap.size w w5) := HB2.out.trans (hb5.mono HB2.out.size)
  have HR5 : Hid (w5.heap[w.heap.size]? = some (.cells #[.int .i64 0, .int .u8 0, .int .u8 0] 37 (0, 0))) := (hb5.block _ (Array.getElem?_eq_some_iff.mp HR2.out).1).trans HR2.out
  have q0 : w5.cell? ⟨w.heap.size, 0, none⟩ = some (.int .i64 0) := cl_row HR5.out rfl
  have q1 : w5.cell? ⟨w.heap.size, 1, none⟩ = some (.int .u8 0) := cl_row HR5.out rfl
  have q2 : w5.cell? ⟨w.heap.size, 2, none⟩ = some (.int .u8 0) := cl_row HR5.out rfl
  have f0 : w5.frozen? ⟨w.heap.size, 0, none⟩ = false := fz_row HR5.out
  have f1 : w5.frozen? ⟨w.heap.size, 1, none⟩ = false := fz_row HR5.out
  have f2 : w5.frozen? ⟨w.heap.size, 2, none⟩ = false := fz_row HR5.out
  clear hb5 HB2 HR2
  go_wp2
  refine bodyPost_ret (v := verV 3) (by simp [results, Tryz.results47, go_sem, verV, vaI, vcI, q0, q1, q2]) rfl ⟨rfl, ?_⟩
  exact ((HB5.out.setCell (p := ⟨w.heap.size, 0, none⟩) (Nat.le_refl _) _).setCell (p := ⟨w.heap.size, 1, none⟩) (Nat.le_refl _) _).setCell (p := ⟨w.heap.size, 2, none⟩) (Nat.le_refl _) _
set_option maxRecDepth 100000 in
set_option maxHeartbeats 800000 in
theorem wrong_fits (b : Nat) (s : ByteArray) (n k : Nat) (w : World) (h : ∀ w', Below w.heap.size w w' → Hd w' b s n k) (hm : (s.toList == [255, 255, 255, 255, 255, 255, 255, 255, 255, 255, 255, 255, 255, 255, 255, 255]) = true) (hk : (k : Int) < 256) (hn : (19 : Int) ≤ n) (hn2 : (n : Int) ≤ 4096) (h1 : 1 ≤ (k : Int)) (h5 : (k : Int) ≤ 5) (hf : fitI k n = false) :
    Calls Tryz.prog 47 #[.slice (some ⟨b, 0, none⟩) 19 19] w fun e w' => e = .returned (verV 2) ∧ Below w.heap.size w w' := by
  have HB : Hid (Below w.heap.size w (w.alloc (.cells #[.int .i64 0, .int .u8 0, .int .u8 0] 37))) := (Below.refl _ _).alloc (Nat.le_refl _) _
  have HH : Hid (∀ w', Below w.heap.size w w' → Hd w' b s n k) := h
  have KL : Hid (∀ q, Calls Tryz.prog 48 #[.slice (some ⟨b, 0, none⟩) 19 19] ((w.alloc (.cells #[.int .i64 0, .int .u8 0, .int .u8 0] 37)).drewN q) fun e w' => e = .returned (.int .i64 (n : Int)) ∧ ∃ m, w' = ((w.alloc (.cells #[.int .i64 0, .int .u8 0, .int .u8 0] 37)).drewN q).drewN m) := fun q => (h _ (below_drewN HB.out q)).len
  have c18 := (h _ HB.out).c18
  have r0 : (w.alloc (.cells #[.int .i64 0, .int .u8 0, .int .u8 0] 37)).heap[w.heap.size]? = some (.cells #[.int .i64 0, .int .u8 0, .int .u8 0] 37 (0, 0)) := hp_new rfl
  have hkk : (decide (1 ≤ (k : Int)) && decide ((k : Int) ≤ 5)) = true := by simp [h1, h5]
  clear h
  go_enter Tryz.func47, Tryz.ntmps47
  go_wp2_with fail
  generalize hW : w.alloc (.cells #[.int .i64 0, .int .u8 0, .int .u8 0] 37) = W at *
  have HR : Hid (W.heap[w.heap.size]? = _) := r0
  have HW : Hid (W = _) := hW.symm
  clear r0 hW
  go_quiet ((go_at_call 48; refine Calls.quiet_of (KL.out _)))
  have HB2 : Hid (Below w.heap.size w (W.drewN nq)) := below_drewN HB.out nq
  have hcv := (HH.out _ HB2.out).cv
  have HR2 : Hid ((W.drewN nq).heap[w.heap.size]? = _) := HR.out
  generalize W.drewN nq = V at *
  clear KL HB HR HW c18
  go_wp2_with fail
  refine (isKind_any (k : Int) V).mono ?_
  rintro e w6 ⟨rfl, hw6⟩
  obtain rfl : V = w6 := hw6.symm
  clear hw6
  simp only [hkk]
  go_wp2_with fail
  refine (fits_any (k : Int) (n : Int) V (HH.out _ HB2.out).sz h1 h5).mono ?_
  rintro e w6 ⟨rfl, hw6⟩
  obtain rfl : V = w6 := hw6.symm
  clear hw6
  simp only [hf]
  go_wp2_with fail
  refine (reset_any 2 V).mono ?_
  rintro e w5 ⟨rfl, hb5⟩
  have HB5 : Hid (Below w.heap.size w w5) := HB2.out.trans (hb5.mono HB2.out.size)
  have HR5 : Hid (w5.heap[w.heap.size]? = some (.cells #[.int .i64 0, .int .u8 0, .int .u8 0] 37 (0, 0))) := (hb5.block _ (Array.getElem?_eq_some_iff.mp HR2.out).1).trans HR2.out
  have q0 : w5.cell? ⟨w.heap.size, 0, none⟩ = some (.int .i64 0) := cl_row HR5.out rfl
  have q1 : w5.cell? ⟨w.heap.size, 1, none⟩ = some (.int .u8 0) := cl_row HR5.out rfl
  have q2 : w5.cell? ⟨w.heap.size, 2, none⟩ = some (.int .u8 0) := cl_row HR5.out rfl
  have f0 : w5.frozen? ⟨w.heap.size, 0, none⟩ = false := fz_row HR5.out
  have f1 : w5.frozen? ⟨w.heap.size, 1, none⟩ = false := fz_row HR5.out
  have f2 : w5.frozen? ⟨w.heap.size, 2, none⟩ = false := fz_row HR5.out
  clear hb5 HB2 HR2
  go_wp2
  refine bodyPost_ret (v := verV 2) (by simp [results, Tryz.results47, go_sem, verV, vaI, vcI, q0, q1, q2]) rfl ⟨rfl, ?_⟩
  exact ((HB5.out.setCell (p := ⟨w.heap.size, 0, none⟩) (Nat.le_refl _) _).setCell (p := ⟨w.heap.size, 1, none⟩) (Nat.le_refl _) _).setCell (p := ⟨w.heap.size, 2, none⟩) (Nat.le_refl _) _
set_option maxRecDepth 100000 in
set_option maxHeartbeats 800000 in
theorem wrong_none (b : Nat) (s : ByteArray) (n k : Nat) (w : World) (h : ∀ w', Below w.heap.size w w' → Hd w' b s n k) (hm : (s.toList == [255, 255, 255, 255, 255, 255, 255, 255, 255, 255, 255, 255, 255, 255, 255, 255]) = true) (hk : (k : Int) < 256) (hn : (19 : Int) ≤ n) (hn2 : (n : Int) ≤ 4096) (h1 : 1 ≤ (k : Int)) (h5 : (k : Int) ≤ 5) (hf : fitI k n = true) :
    Calls Tryz.prog 47 #[.slice (some ⟨b, 0, none⟩) 19 19] w fun e w' => e = .returned (verV 0) ∧ Below w.heap.size w w' := by
  have HB : Hid (Below w.heap.size w (w.alloc (.cells #[.int .i64 0, .int .u8 0, .int .u8 0] 37))) := (Below.refl _ _).alloc (Nat.le_refl _) _
  have HH : Hid (∀ w', Below w.heap.size w w' → Hd w' b s n k) := h
  have KL : Hid (∀ q, Calls Tryz.prog 48 #[.slice (some ⟨b, 0, none⟩) 19 19] ((w.alloc (.cells #[.int .i64 0, .int .u8 0, .int .u8 0] 37)).drewN q) fun e w' => e = .returned (.int .i64 (n : Int)) ∧ ∃ m, w' = ((w.alloc (.cells #[.int .i64 0, .int .u8 0, .int .u8 0] 37)).drewN q).drewN m) := fun q => (h _ (below_drewN HB.out q)).len
  have c18 := (h _ HB.out).c18
  have r0 : (w.alloc (.cells #[.int .i64 0, .int .u8 0, .int .u8 0] 37)).heap[w.heap.size]? = some (.cells #[.int .i64 0, .int .u8 0, .int .u8 0] 37 (0, 0)) := hp_new rfl
  have hkk : (decide (1 ≤ (k : Int)) && decide ((k : Int) ≤ 5)) = true := by simp [h1, h5]
  clear h
  go_enter Tryz.func47, Tryz.ntmps47
  go_wp2_with fail
  generalize hW : w.alloc (.cells #[.int .i64 0, .int .u8 0, .int .u8 0] 37) = W at *
  have HR : Hid (W.heap[w.heap.size]? = _) := r0
  have HW : Hid (W = _) := hW.symm
  clear r0 hW
  go_quiet ((go_at_call 48; refine Calls.quiet_of (KL.out _)))
  have HB2 : Hid (Below w.heap.size w (W.drewN nq)) := below_drewN HB.out nq
  have hcv := (HH.out _ HB2.out).cv
  have HR2 : Hid ((W.drewN nq).heap[w.heap.size]? = _) := HR.out
  generalize W.drewN nq = V at *
  clear KL HB HR HW c18
  go_wp2_with fail
  refine (isKind_any (k : Int) V).mono ?_
  rintro e w6 ⟨rfl, hw6⟩
  obtain rfl : V = w6 := hw6.symm
  clear hw6
  simp only [hkk]
  go_wp2_with fail
  refine (fits_any (k : Int) (n : Int) V (HH.out _ HB2.out).sz h1 h5).mono ?_
  rintro e w6 ⟨rfl, hw6⟩
  obtain rfl : V = w6 := hw6.symm
  clear hw6
  simp only [hf]
  have q0 : V.cell? ⟨w.heap.size, 0, none⟩ = some (.int .i64 0) := cl_row HR2.out rfl
  have q1 : V.cell? ⟨w.heap.size, 1, none⟩ = some (.int .u8 0) := cl_row HR2.out rfl
  have q2 : V.cell? ⟨w.heap.size, 2, none⟩ = some (.int .u8 0) := cl_row HR2.out rfl
  have f0 : V.frozen? ⟨w.heap.size, 0, none⟩ = false := fz_row HR2.out
  have f1 : V.frozen? ⟨w.heap.size, 1, none⟩ = false := fz_row HR2.out
  have f2 : V.frozen? ⟨w.heap.size, 2, none⟩ = false := fz_row HR2.out
  clear HR2
  go_wp2
  refine bodyPost_ret (v := verV 0) (by simp [results, Tryz.results47, go_sem, verV, vaI, vcI, q0, q1, q2]) rfl ⟨rfl, ?_⟩
  exact ((HB2.out.setCell (p := ⟨w.heap.size, 0, none⟩) (Nat.le_refl _) _).setCell (p := ⟨w.heap.size, 1, none⟩) (Nat.le_refl _) _).setCell (p := ⟨w.heap.size, 2, none⟩) (Nat.le_refl _) _
theorem mark_beq (x : List UInt8) : ((⟨(x.take 16).toArray⟩ : ByteArray).toList == [255, 255, 255, 255, 255, 255, 255, 255, 255, 255, 255, 255, 255, 255, 255, 255]) = decide (x.take 16 = mark) := by
  have e : (⟨(x.take 16).toArray⟩ : ByteArray).toList = x.take 16 := by simp
  rw [e, Bool.eq_iff_iff, beq_iff_eq, decide_eq_true_iff]
  exact Iff.rfl
theorem wrongWith_any (b : Nat) (x : List UInt8) (w : World) (h : BufAt w b x) (hl : 19 ≤ x.length) (hs : SzAt w) :
    Calls Tryz.prog 47 #[.slice (some ⟨b, 0, none⟩) 19 19] w fun e w' => e = .returned (verV (wrongI x)) ∧ Below w.heap.size w w' := by
  have HH : ∀ w', Below w.heap.size w w' → Hd w' b ⟨(x.take 16).toArray⟩ (lenI x) (kindI x) := fun w' hb => hd_of (h.same (hb.block b h.lt)) hl (hs.below hb)
  have hm := mark_beq x
  have hk : (kindI x : Int) < 256 := by have := UInt8.toNat_lt (x.getD 18 0); unfold kindI; omega
  by_cases e0 : x.take 16 = mark
  · rw [decide_eq_true e0] at hm
    by_cases e1 : lenI x < 19
    · have e : wrongI x = 2 := by unfold wrongI; rw [if_pos e0, if_pos (Or.inl e1)]
      rw [e]; exact wrong_low b _ _ _ w HH hm hk (by omega)
    · by_cases e2 : 4096 < lenI x
      · have e : wrongI x = 2 := by unfold wrongI; rw [if_pos e0, if_pos (Or.inr e2)]
        rw [e]; exact wrong_high b _ _ _ w HH hm hk (by omega)
      · by_cases e3 : kindI x < 1 ∨ 5 < kindI x
        · have e : wrongI x = 3 := by unfold wrongI; rw [if_pos e0, if_neg (by omega), if_pos e3]
          rw [e]; exact wrong_kind b _ _ _ w HH hm hk (by omega) (by omega) (by rw [Bool.and_eq_false_iff, decide_eq_false_iff_not, decide_eq_false_iff_not]; omega)
        · by_cases e4 : fitI (kindI x) (lenI x) = true
          · have e : wrongI x = 0 := by unfold wrongI; rw [if_pos e0, if_neg (by omega), if_neg e3, if_pos e4]
            rw [e]; exact wrong_none b _ _ _ w HH hm hk (by omega) (by omega) (by omega) (by omega) e4
          · have e : wrongI x = 2 := by unfold wrongI; rw [if_pos e0, if_neg (by omega), if_neg e3, if_neg e4]
            rw [e]; exact wrong_fits b _ _ _ w HH hm hk (by omega) (by omega) (by omega) (by omega) (by simpa using e4)
  · rw [decide_eq_false e0] at hm
    have e : wrongI x = 1 := by unfold wrongI; rw [if_neg e0]
    rw [e]; exact wrong_mark b _ _ _ w HH hm hk
end Go.Proofs.YtfhapjhkjdifjaaGreatDoor.Fr
namespace Go.Proofs.YtfhapjhkjdifjaaGreatDoor.Fr
open Go.RowKit
theorem WtAt.below {w w' : World} {p b B : Nat} {x : List UInt8} (h : WtAt w p b x) (hb : Below B w w') (hp : p < B) (hq : b < B) : WtAt w' p b x :=
  ⟨(hb.block p hp).trans h.row, h.buf.same (hb.block b hq), h.ne⟩
theorem WtAt.lt {w : World} {p b : Nat} {x : List UInt8} (h : WtAt w p b x) : p < w.heap.size := (Array.getElem?_eq_some_iff.mp h.row).1
theorem WtAt.c1 {w : World} {p b : Nat} {x : List UInt8} (h : WtAt w p b x) : w.cell? ⟨p, 1, none⟩ = some (.slice (some ⟨b, 0, none⟩) x.length 4096) := cl_row h.row rfl
/-- A broken stream. -/
structure BrAt (w : World) (p b : Nat) (s : Nat) : Prop where
  row : w.heap[p]? = some (.cells #[.bool true, .slice none 0 0, .int .i64 3, .int .u8 1, .int .u8 (s : Int)] 70 (0, 0))
  buf : BufAt w b []
  ne : p ≠ b
theorem set3 {w : World} {p : Nat} {v0 v1 v2 v3 v4 a b c : Value} {t : TypeId} (h : w.heap[p]? = some (.cells #[v0, v1, v2, v3, v4] t (0, 0))) : (((w.setCell ⟨p, 2, none⟩ a).setCell ⟨p, 3, none⟩ b).setCell ⟨p, 4, none⟩ c).heap[p]? = some (.cells #[v0, v1, a, b, c] t (0, 0)) :=
  heap_setCell_same _ p 4 _ t c (heap_setCell_same _ p 3 _ t b (heap_setCell_same w p 2 _ t a h))
theorem Beside.set3 {p b : Nat} (w : World) (x y z : Value) : Beside p b w (((w.setCell ⟨p, 2, none⟩ x).setCell ⟨p, 3, none⟩ y).setCell ⟨p, 4, none⟩ z) :=
  ((Beside.setp w 2 x).trans (Beside.setp _ 3 y)).trans (Beside.setp _ 4 z)
theorem buf_set3 {w : World} {p b : Nat} {l : List UInt8} (h : BufAt w b l) (hn : p ≠ b) (x y z : Value) : BufAt (((w.setCell ⟨p, 2, none⟩ x).setCell ⟨p, 3, none⟩ y).setCell ⟨p, 4, none⟩ z) b l := by
  have e (W : World) (i : Nat) (v : Value) : (W.setCell ⟨p, i, none⟩ v).heap[b]? = W.heap[b]? := Below.heap_setCell W ⟨p, i, none⟩ v b (fun e => hn e.symm)
  exact h.same (by rw [e, e, e])
set_option maxHeartbeats 800000 in
theorem judge_fine (p b : Nat) (x : List UInt8) (w : World) (h : WtAt w p b x) (hl : 19 ≤ x.length) (hs : SzAt w) (hw : wrongI x = 0) :
    Calls Tryz.prog 27 #[.pointer (some ⟨p, 0, none⟩)] w fun e w' => e = .returned (.tuple #[]) ∧ WtAt w' p b x ∧ Beside p b w w' := by
  have c1 := h.c1
  have KW : Hid (Calls Tryz.prog 47 #[.slice (some ⟨b, 0, none⟩) 19 19] w fun e w' => e = .returned (.agg #[.int .i64 0, .int .u8 0, .int .u8 0]) ∧ Below w.heap.size w w') := by
    have k := wrongWith_any b x w h.buf hl hs
    rw [hw] at k
    exact k
  have HH : Hid (WtAt w p b x) := h
  have hl2 : (19 : Int) ≤ x.length := by omega
  clear h hs hw
  go_enter Tryz.func27, Tryz.ntmps27
  go_wp2_with fail
  refine Calls.mono KW.out ?_
  rintro e w1 ⟨rfl, hb1⟩
  have H1 : Hid (WtAt w1 p b x) := HH.out.below hb1 HH.out.lt HH.out.buf.lt
  have HB1 : Hid (Beside p b w w1) := Beside.of_below hb1 (Nat.le_refl _)
  have q2 : w1.cell? ⟨p, 2, none⟩ = some (.int .i64 0) := cl_row H1.out.row rfl
  have q3 : w1.cell? ⟨p, 3, none⟩ = some (.int .u8 0) := cl_row H1.out.row rfl
  have q4 : w1.cell? ⟨p, 4, none⟩ = some (.int .u8 0) := cl_row H1.out.row rfl
  have f2 : w1.frozen? ⟨p, 2, none⟩ = false := fz_row H1.out.row
  have f3 : w1.frozen? ⟨p, 3, none⟩ = false := fz_row H1.out.row
  have f4 : w1.frozen? ⟨p, 4, none⟩ = false := fz_row H1.out.row
  clear hb1 KW HH c1
  have HW : Hid ((((w1.setCell ⟨p, 2, none⟩ (.int .i64 0)).setCell ⟨p, 3, none⟩ (.int .u8 0)).setCell ⟨p, 4, none⟩ (.int .u8 0)).heap[p]? = _) := set3 H1.out.row
  have HU : Hid (BufAt (((w1.setCell ⟨p, 2, none⟩ (.int .i64 0)).setCell ⟨p, 3, none⟩ (.int .u8 0)).setCell ⟨p, 4, none⟩ (.int .u8 0)) b x) := buf_set3 H1.out.buf H1.out.ne _ _ _
  have HNE : Hid (p ≠ b) := H1.out.ne
  have HB2 : Hid (Beside p b w (((w1.setCell ⟨p, 2, none⟩ (.int .i64 0)).setCell ⟨p, 3, none⟩ (.int .u8 0)).setCell ⟨p, 4, none⟩ (.int .u8 0))) := HB1.out.trans (Beside.set3 w1 _ _ _)
  go_wp2_with fail
  generalize ((w1.setCell ⟨p, 2, none⟩ (.int .i64 0)).setCell ⟨p, 3, none⟩ (.int .u8 0)).setCell ⟨p, 4, none⟩ (.int .u8 0) = W at *
  clear q2 q3 q4 f2 f3 f4 H1 HB1
  refine (broken_any p _ W (cl_row HW.out rfl)).mono ?_
  rintro e w2 ⟨rfl, hw2⟩
  obtain rfl : W = w2 := hw2.symm
  clear hw2
  go_wp2
  go_end0
  exact ⟨rfl, ⟨HW.out, HU.out, HNE.out⟩, HB2.out⟩
set_option maxHeartbeats 800000 in
theorem judge_wrong (p b : Nat) (x : List UInt8) (w : World) (h : WtAt w p b x) (hl : 19 ≤ x.length) (hs : SzAt w) (s : Nat) (hw : wrongI x = s) (h0 : s ≠ 0) :
    Calls Tryz.prog 27 #[.pointer (some ⟨p, 0, none⟩)] w fun e w' => e = .returned (.tuple #[]) ∧ BrAt w' p b s ∧ Beside p b w w' := by
  have c1 := h.c1
  have KW : Hid (Calls Tryz.prog 47 #[.slice (some ⟨b, 0, none⟩) 19 19] w fun e w' => e = .returned (.agg #[.int .i64 3, .int .u8 1, .int .u8 (s : Int)]) ∧ Below w.heap.size w w') := by
    have k := wrongWith_any b x w h.buf hl hs
    rw [hw] at k
    simp only [verV, vaI, vcI, if_neg h0] at k
    exact k
  have HH : Hid (WtAt w p b x) := h
  have hl2 : (19 : Int) ≤ x.length := by omega
  clear h hs hw
  go_enter Tryz.func27, Tryz.ntmps27
  go_wp2_with fail
  refine Calls.mono KW.out ?_
  rintro e w1 ⟨rfl, hb1⟩
  have H1 : Hid (WtAt w1 p b x) := HH.out.below hb1 HH.out.lt HH.out.buf.lt
  have HB1 : Hid (Beside p b w w1) := Beside.of_below hb1 (Nat.le_refl _)
  have q2 : w1.cell? ⟨p, 2, none⟩ = some (.int .i64 0) := cl_row H1.out.row rfl
  have q3 : w1.cell? ⟨p, 3, none⟩ = some (.int .u8 0) := cl_row H1.out.row rfl
  have q4 : w1.cell? ⟨p, 4, none⟩ = some (.int .u8 0) := cl_row H1.out.row rfl
  have f2 : w1.frozen? ⟨p, 2, none⟩ = false := fz_row H1.out.row
  have f3 : w1.frozen? ⟨p, 3, none⟩ = false := fz_row H1.out.row
  have f4 : w1.frozen? ⟨p, 4, none⟩ = false := fz_row H1.out.row
  clear hb1 KW HH c1
  have HW : Hid ((((w1.setCell ⟨p, 2, none⟩ (.int .i64 3)).setCell ⟨p, 3, none⟩ (.int .u8 1)).setCell ⟨p, 4, none⟩ (.int .u8 (s : Int))).heap[p]? = _) := set3 H1.out.row
  have HU : Hid (BufAt (((w1.setCell ⟨p, 2, none⟩ (.int .i64 3)).setCell ⟨p, 3, none⟩ (.int .u8 1)).setCell ⟨p, 4, none⟩ (.int .u8 (s : Int))) b x) := buf_set3 H1.out.buf H1.out.ne _ _ _
  have HNE : Hid (p ≠ b) := H1.out.ne
  have HB2 : Hid (Beside p b w (((w1.setCell ⟨p, 2, none⟩ (.int .i64 3)).setCell ⟨p, 3, none⟩ (.int .u8 1)).setCell ⟨p, 4, none⟩ (.int .u8 (s : Int)))) := HB1.out.trans (Beside.set3 w1 _ _ _)
  go_wp2_with fail
  generalize ((w1.setCell ⟨p, 2, none⟩ (.int .i64 3)).setCell ⟨p, 3, none⟩ (.int .u8 1)).setCell ⟨p, 4, none⟩ (.int .u8 (s : Int)) = W at *
  clear q2 q3 q4 f2 f3 f4 H1 HB1
  refine (broken_any p _ W (cl_row HW.out rfl)).mono ?_
  rintro e w2 ⟨rfl, hw2⟩
  obtain rfl : W = w2 := hw2.symm
  clear hw2
  have q1 : W.cell? ⟨p, 1, none⟩ = some (.slice (some ⟨b, 0, none⟩) x.length 4096) := cl_row HW.out rfl
  have f1 : W.frozen? ⟨p, 1, none⟩ = false := fz_row HW.out
  go_wp2
  go_end0
  exact ⟨rfl, ⟨heap_setCell_same W p 1 _ 70 _ HW.out, (HU.out.cut 0).same (Below.heap_setCell W ⟨p, 1, none⟩ _ b (fun e => HNE.out e.symm)), HNE.out⟩, HB2.out.trans (Beside.setp W 1 _)⟩
theorem whole_no (p n c : Nat) (ad : Option Addr) (w : World) (h : w.cell? ⟨p, 1, none⟩ = some (.slice ad n c)) (hn : n < 19) :
    Calls Tryz.prog 28 #[.pointer (some ⟨p, 0, none⟩)] w fun e w' => e = .returned (.bool false) ∧ ∃ q, w' = w.drewN q := by
  have hn2 : decide ((19 : Int) ≤ n) = false := by simp; omega
  go_enter Tryz.func28, Tryz.ntmps28
  go_wp2
  go_quiet (fail)
  go_wp2
  go_ret
  exact ⟨rfl, _, rfl⟩
theorem whole_any (p b : Nat) (x : List UInt8) (w : World) (h : WtAt w p b x) (hl : 19 ≤ x.length) :
    Calls Tryz.prog 28 #[.pointer (some ⟨p, 0, none⟩)] w fun e w' => e = .returned (.bool ((x.length : Int) == lenI x)) ∧ ∃ q, w' = w.drewN q := by
  have c1 := h.c1
  have KL : Hid (∀ q, Calls Tryz.prog 48 #[.slice (some ⟨b, 0, none⟩) x.length 4096] (w.drewN q) fun e w' => e = .returned (.int .i64 (lenI x : Int)) ∧ ∃ m, w' = (w.drewN q).drewN m) := fun q => lengthOf_buf b 4096 x (w.drewN q) ⟨h.buf.row⟩ x.length (by omega) (Nat.le_refl _)
  have hl2 : (19 : Int) ≤ x.length := by omega
  clear h
  go_enter Tryz.func28, Tryz.ntmps28
  go_wp2
  go_quiet ((go_at_call 48; refine Calls.quiet_of (KL.out _)))
  go_wp2
  go_ret
  exact ⟨rfl, _, rfl⟩
set_option maxRecDepth 100000 in
set_option maxHeartbeats 800000 in
theorem cut_more (p b : Nat) (x : List UInt8) (w : World) (h : WtAt w p b x) (hl : 19 < x.length) (hm : x.length ≤ 4096) :
    Calls Tryz.prog 29 #[.pointer (some ⟨p, 0, none⟩)] w fun e w' => e = .returned (.agg #[.int .i64 (kindI x : Int), .string ⟨(x.drop 19).toArray⟩]) ∧ WtAt w' p b [] ∧ Beside p b w w' := by
  have HB : Hid (Below w.heap.size w (w.alloc (.cells #[.int .i64 0, .string ⟨#[]⟩] 35))) := (Below.refl _ _).alloc (Nat.le_refl _) _
  have HH : Hid (WtAt (w.alloc (.cells #[.int .i64 0, .string ⟨#[]⟩] 35)) p b x) := h.below HB.out h.lt h.buf.lt
  have HP : Hid (p < w.heap.size ∧ b < w.heap.size) := ⟨h.lt, h.buf.lt⟩
  have hr : (w.alloc (.cells #[.int .i64 0, .string ⟨#[]⟩] 35)).heap[w.heap.size]? = some (.cells #[.int .i64 0, .string ⟨#[]⟩] 35 (0, 0)) := hp_new rfl
  have hsz : (w.alloc (.cells #[.int .i64 0, .string ⟨#[]⟩] 35)).heap.size = w.heap.size + 1 := by simp
  generalize hW : w.alloc (.cells #[.int .i64 0, .string ⟨#[]⟩] 35) = W at *
  have hW' : w.alloc (.cells #[.int .i64 0, .string ⟨#[]⟩] 35) = W := hW
  have HR : Hid (_ ∧ _) := ⟨hr, hsz⟩
  have c1 := HH.out.c1
  have c18 : W.cell? ⟨b, 18, none⟩ = some (.int .u8 (kindI x : Int)) := HH.out.buf.cell 18 (by omega)
  have hl2 : (19 : Int) ≤ x.length := by omega
  have hl3 : (18 : Int) < x.length := by omega
  have hl4 : (19 : Int) < x.length := by omega
  have hl5 : ¬ x.length = 19 := by omega
  have hm2 : (x.length : Int) ≤ 4096 := by omega
  have v1 : (convert 25 9 (.slice (some ⟨b, 19, none⟩) (x.length - 19) (x.length - 19))).run Tryz.prog W.drew = .ok (.string ⟨(x.drop 19).toArray⟩) W.drew := conv_tail (⟨HH.out.buf.row⟩ : BufAt W.drew b x) _
  have v2 : ∀ o, (convert 25 9 (.slice (some ⟨b, 19, none⟩) (x.length - 19) (x.length - 19))).run Tryz.prog (W.alloc o).drew = .ok (.string ⟨(x.drop 19).toArray⟩) (W.alloc o).drew := fun o => conv_tail ((HH.out.buf).same (w' := (W.alloc o).drew) (Below.heap_alloc W o b HH.out.buf.lt)) _
  have hkw : IntKind.i64.wrap (kindI x : Int) = (kindI x : Int) := by have := UInt8.toNat_lt (x.getD 18 0); rw [IntKind.wrap_i64]; unfold kindI; omega
  have n1 := World.new_ne W _ c1
  have n2 := World.new_ne W _ c18
  clear h hW hr hsz
  go_enter Tryz.func29, Tryz.ntmps29
  go_wp2
  go_region_held (fun w' => w'.cell? ⟨p, 1, none⟩ = some (.slice (some ⟨b, 0, none⟩) x.length 4096) ∧ w'.cell? ⟨b, 18, none⟩ = some (.int .u8 (kindI x : Int)) ∧ (convert 25 9 (.slice (some ⟨b, 19, none⟩) (x.length - 19) (x.length - 19))).run Tryz.prog w' = .ok (.string ⟨(x.drop 19).toArray⟩) w') (first | (refine ⟨?_, ?_, ?_⟩ <;> first | exact v1 | exact v2 _ | go_keep)) (fail)
  all_goals try (exfalso; omega)
  rename_i hHeld
  have HE : Hid (((W.alloc (.cells #[.int .i64 (kindI x : Int), .string ⟨(x.drop 19).toArray⟩] 35)).drew).heap[W.heap.size]? = some (.cells #[.int .i64 (kindI x : Int), .string ⟨(x.drop 19).toArray⟩] 35 (0, 0))) := hp_new (W := W) rfl
  have HF : Hid (((W.alloc (.cells #[.int .i64 (kindI x : Int), .string ⟨(x.drop 19).toArray⟩] 35)).drew).heap[w.heap.size]? = some (.cells #[.int .i64 0, .string ⟨#[]⟩] 35 (0, 0))) := hp_up (W := W) HR.out.1
  have HV : Hid (Below w.heap.size w (W.alloc (.cells #[.int .i64 (kindI x : Int), .string ⟨(x.drop 19).toArray⟩] 35)).drew) := below_drewN (HB.out.alloc HB.out.size _) 1
  have HM : Hid (WtAt (W.alloc (.cells #[.int .i64 (kindI x : Int), .string ⟨(x.drop 19).toArray⟩] 35)).drew p b x) := HH.out.below (B := W.heap.size) (below_drewN ((Below.refl _ _).alloc (Nat.le_refl _) _) 1) HH.out.lt HH.out.buf.lt
  have HS : Hid (W.heap.size = w.heap.size + 1) := HR.out.2
  clear hHeld v1 v2 n1 n2 hW' HB HH HR c1 c18
  generalize (W.alloc (.cells #[.int .i64 (kindI x : Int), .string ⟨(x.drop 19).toArray⟩] 35)).drew = V at *
  generalize hq : W.heap.size = q at *
  have g1 : V.cell? ⟨p, 1, none⟩ = some (.slice (some ⟨b, 0, none⟩) x.length 4096) := HM.out.c1
  have f1 : V.frozen? ⟨p, 1, none⟩ = false := fz_row HM.out.row
  have HU : Hid (WtAt (V.setCell ⟨p, 1, none⟩ (.slice (some ⟨b, 0, none⟩) 0 4096)) p b []) := ⟨heap_setCell_same V p 1 _ 70 _ HM.out.row, (HM.out.buf.cut 0).same (Below.heap_setCell V ⟨p, 1, none⟩ _ b (fun e => HM.out.ne e.symm)), HM.out.ne⟩
  have HX : Hid (Beside p b w (V.setCell ⟨p, 1, none⟩ (.slice (some ⟨b, 0, none⟩) 0 4096))) := (Beside.of_below HV.out (Nat.le_refl _)).trans (Beside.setp V 1 _)
  have HE2 : Hid ((V.setCell ⟨p, 1, none⟩ (.slice (some ⟨b, 0, none⟩) 0 4096)).heap[q]? = _) := (Below.heap_setCell V ⟨p, 1, none⟩ _ q (by have := HP.out.1; have := HS.out; simp; omega)).trans HE.out
  have HF2 : Hid ((V.setCell ⟨p, 1, none⟩ (.slice (some ⟨b, 0, none⟩) 0 4096)).heap[w.heap.size]? = _) := (Below.heap_setCell V ⟨p, 1, none⟩ _ w.heap.size (by have := HP.out.1; simp; omega)).trans HF.out
  generalize hV : V.setCell ⟨p, 1, none⟩ (.slice (some ⟨b, 0, none⟩) 0 4096) = U at *
  have e0 : U.cell? ⟨q, 0, none⟩ = some (.int .i64 (kindI x : Int)) := cl_row HE2.out rfl
  have e1 : U.cell? ⟨q, 1, none⟩ = some (.string ⟨(x.drop 19).toArray⟩) := cl_row HE2.out rfl
  have r0 : U.cell? ⟨w.heap.size, 0, none⟩ = some (.int .i64 0) := cl_row HF2.out rfl
  have r1 : U.cell? ⟨w.heap.size, 1, none⟩ = some (.string ⟨#[]⟩) := cl_row HF2.out rfl
  have z0 : U.frozen? ⟨w.heap.size, 0, none⟩ = false := fz_row HF2.out
  have z1 : U.frozen? ⟨w.heap.size, 1, none⟩ = false := fz_row HF2.out
  clear HE HF HV HM HE2 HF2 hq HS
  go_wp2
  have ha : Below w.heap.size U ((U.setCell ⟨w.heap.size, 0, none⟩ (.int .i64 (kindI x : Int))).setCell ⟨w.heap.size, 1, none⟩ (.string ⟨(x.drop 19).toArray⟩)) := ((Below.refl _ _).setCell (p := ⟨w.heap.size, 0, none⟩) (Nat.le_refl _) _).setCell (p := ⟨w.heap.size, 1, none⟩) (Nat.le_refl _) _
  refine bodyPost_ret (v := .agg #[.int .i64 (kindI x : Int), .string ⟨(x.drop 19).toArray⟩]) (by simp [results, Tryz.results29, go_sem, r0, r1]) rfl ⟨rfl, HU.out.below ha HP.out.1 HP.out.2, HX.out.over ha (Nat.le_refl _)⟩
theorem conv_none (a : Addr) (w : World) : (convert 25 9 (.slice (some a) 0 0)).run Tryz.prog w = .ok (.string ⟨#[]⟩) w :=
  run_convert_bytes_back (P := Tryz.prog) w 25 9 5 a 0 [] Tryz.underlying25 Tryz.underlying5 Tryz.underlying9 (fun j hj => absurd hj (by simp))
set_option maxRecDepth 100000 in
set_option maxHeartbeats 800000 in
theorem cut_bare (p b : Nat) (x : List UInt8) (w : World) (h : WtAt w p b x) (hl : x.length = 19) :
    Calls Tryz.prog 29 #[.pointer (some ⟨p, 0, none⟩)] w fun e w' => e = .returned (.agg #[.int .i64 (kindI x : Int), .string ⟨#[]⟩]) ∧ WtAt w' p b [] ∧ Beside p b w w' := by
  have HB : Hid (Below w.heap.size w (w.alloc (.cells #[.int .i64 0, .string ⟨#[]⟩] 35))) := (Below.refl _ _).alloc (Nat.le_refl _) _
  have HH : Hid (WtAt (w.alloc (.cells #[.int .i64 0, .string ⟨#[]⟩] 35)) p b x) := h.below HB.out h.lt h.buf.lt
  have HP : Hid (p < w.heap.size ∧ b < w.heap.size) := ⟨h.lt, h.buf.lt⟩
  have hr : (w.alloc (.cells #[.int .i64 0, .string ⟨#[]⟩] 35)).heap[w.heap.size]? = some (.cells #[.int .i64 0, .string ⟨#[]⟩] 35 (0, 0)) := hp_new rfl
  have hsz : (w.alloc (.cells #[.int .i64 0, .string ⟨#[]⟩] 35)).heap.size = w.heap.size + 1 := by simp
  generalize hW : w.alloc (.cells #[.int .i64 0, .string ⟨#[]⟩] 35) = W at *
  have hW' : w.alloc (.cells #[.int .i64 0, .string ⟨#[]⟩] 35) = W := hW
  have HR : Hid (_ ∧ _) := ⟨hr, hsz⟩
  have c1 := HH.out.c1
  rw [hl] at c1
  have c18 : W.cell? ⟨b, 18, none⟩ = some (.int .u8 (kindI x : Int)) := HH.out.buf.cell 18 (by omega)
  have v1 : (convert 25 9 (.slice (some ⟨b, 0, none⟩) 0 0)).run Tryz.prog W.drew = .ok (.string ⟨#[]⟩) W.drew := conv_none _ _
  have v2 : ∀ o, (convert 25 9 (.slice (some ⟨b, 0, none⟩) 0 0)).run Tryz.prog (W.alloc o).drew = .ok (.string ⟨#[]⟩) (W.alloc o).drew := fun o => conv_none _ _
  have hkw : IntKind.i64.wrap (kindI x : Int) = (kindI x : Int) := by have := UInt8.toNat_lt (x.getD 18 0); rw [IntKind.wrap_i64]; unfold kindI; omega
  have n1 := World.new_ne W _ c1
  have n2 := World.new_ne W _ c18
  have HL : Hid (x.length = 19) := hl
  clear h hW hr hsz hl
  go_enter Tryz.func29, Tryz.ntmps29
  go_wp2
  go_region_held (fun w' => w'.cell? ⟨p, 1, none⟩ = some (.slice (some ⟨b, 0, none⟩) 19 4096) ∧ w'.cell? ⟨b, 18, none⟩ = some (.int .u8 (kindI x : Int)) ∧ (convert 25 9 (.slice (some ⟨b, 0, none⟩) 0 0)).run Tryz.prog w' = .ok (.string ⟨#[]⟩) w') (first | (refine ⟨?_, ?_, ?_⟩ <;> first | exact v1 | exact v2 _ | go_keep)) (fail)
  rename_i hHeld
  have HE : Hid (((W.alloc (.cells #[.int .i64 (kindI x : Int), .string ⟨#[]⟩] 35)).drew).heap[W.heap.size]? = some (.cells #[.int .i64 (kindI x : Int), .string ⟨#[]⟩] 35 (0, 0))) := hp_new (W := W) rfl
  have HF : Hid (((W.alloc (.cells #[.int .i64 (kindI x : Int), .string ⟨#[]⟩] 35)).drew).heap[w.heap.size]? = some (.cells #[.int .i64 0, .string ⟨#[]⟩] 35 (0, 0))) := hp_up (W := W) HR.out.1
  have HV : Hid (Below w.heap.size w (W.alloc (.cells #[.int .i64 (kindI x : Int), .string ⟨#[]⟩] 35)).drew) := below_drewN (HB.out.alloc HB.out.size _) 1
  have HM : Hid (WtAt (W.alloc (.cells #[.int .i64 (kindI x : Int), .string ⟨#[]⟩] 35)).drew p b x) := HH.out.below (B := W.heap.size) (below_drewN ((Below.refl _ _).alloc (Nat.le_refl _) _) 1) HH.out.lt HH.out.buf.lt
  have HS : Hid (W.heap.size = w.heap.size + 1) := HR.out.2
  clear hHeld v1 v2 n1 n2 hW' HB HH HR c1 c18
  generalize (W.alloc (.cells #[.int .i64 (kindI x : Int), .string ⟨#[]⟩] 35)).drew = V at *
  generalize hq : W.heap.size = q at *
  have g1 : V.cell? ⟨p, 1, none⟩ = some (.slice (some ⟨b, 0, none⟩) 19 4096) := by rw [← HL.out]; exact HM.out.c1
  have f1 : V.frozen? ⟨p, 1, none⟩ = false := fz_row HM.out.row
  have HU : Hid (WtAt (V.setCell ⟨p, 1, none⟩ (.slice (some ⟨b, 0, none⟩) 0 4096)) p b []) := ⟨heap_setCell_same V p 1 _ 70 _ HM.out.row, (HM.out.buf.cut 0).same (Below.heap_setCell V ⟨p, 1, none⟩ _ b (fun e => HM.out.ne e.symm)), HM.out.ne⟩
  have HX : Hid (Beside p b w (V.setCell ⟨p, 1, none⟩ (.slice (some ⟨b, 0, none⟩) 0 4096))) := (Beside.of_below HV.out (Nat.le_refl _)).trans (Beside.setp V 1 _)
  have HE2 : Hid ((V.setCell ⟨p, 1, none⟩ (.slice (some ⟨b, 0, none⟩) 0 4096)).heap[q]? = _) := (Below.heap_setCell V ⟨p, 1, none⟩ _ q (by have := HP.out.1; have := HS.out; simp; omega)).trans HE.out
  have HF2 : Hid ((V.setCell ⟨p, 1, none⟩ (.slice (some ⟨b, 0, none⟩) 0 4096)).heap[w.heap.size]? = _) := (Below.heap_setCell V ⟨p, 1, none⟩ _ w.heap.size (by have := HP.out.1; simp; omega)).trans HF.out
  generalize hV : V.setCell ⟨p, 1, none⟩ (.slice (some ⟨b, 0, none⟩) 0 4096) = U at *
  have e0 : U.cell? ⟨q, 0, none⟩ = some (.int .i64 (kindI x : Int)) := cl_row HE2.out rfl
  have e1 : U.cell? ⟨q, 1, none⟩ = some (.string ⟨#[]⟩) := cl_row HE2.out rfl
  have r0 : U.cell? ⟨w.heap.size, 0, none⟩ = some (.int .i64 0) := cl_row HF2.out rfl
  have r1 : U.cell? ⟨w.heap.size, 1, none⟩ = some (.string ⟨#[]⟩) := cl_row HF2.out rfl
  have z0 : U.frozen? ⟨w.heap.size, 0, none⟩ = false := fz_row HF2.out
  have z1 : U.frozen? ⟨w.heap.size, 1, none⟩ = false := fz_row HF2.out
  clear HE HF HV HM HE2 HF2 hq HS
  go_wp2
  have ha : Below w.heap.size U ((U.setCell ⟨w.heap.size, 0, none⟩ (.int .i64 (kindI x : Int))).setCell ⟨w.heap.size, 1, none⟩ (.string ⟨#[]⟩)) := ((Below.refl _ _).setCell (p := ⟨w.heap.size, 0, none⟩) (Nat.le_refl _) _).setCell (p := ⟨w.heap.size, 1, none⟩) (Nat.le_refl _) _
  refine bodyPost_ret (v := .agg #[.int .i64 (kindI x : Int), .string ⟨#[]⟩]) (by simp [results, Tryz.results29, go_sem, r0, r1]) rfl ⟨rfl, HU.out.below ha HP.out.1 HP.out.2, HX.out.over ha (Nat.le_refl _)⟩
theorem cut_any (p b : Nat) (x : List UInt8) (w : World) (h : WtAt w p b x) (hl : 19 ≤ x.length) (hm : x.length ≤ 4096) :
    Calls Tryz.prog 29 #[.pointer (some ⟨p, 0, none⟩)] w fun e w' => e = .returned (.agg #[.int .i64 (kindI x : Int), .string ⟨(x.drop 19).toArray⟩]) ∧ WtAt w' p b [] ∧ Beside p b w w' := by
  by_cases e : x.length = 19
  · rw [List.drop_eq_nil_of_le (by omega)]
    exact cut_bare p b x w h e
  · exact cut_more p b x w h (by omega) hm
end Go.Proofs.YtfhapjhkjdifjaaGreatDoor.Fr
namespace Go.Proofs.YtfhapjhkjdifjaaGreatDoor.Fr
open Go.RowKit
theorem slice_of_owns {w : World} {base : Nat} {e : TypeId} {size : Nat} {v : Value} {n : Nat} {xs : List Value} (h : w.ownsRow base e size v n xs) : ∃ ad c, v = .slice ad n c := by
  obtain ⟨_, h | ⟨g, cap, cur, h, _⟩⟩ := h
  · exact ⟨none, 0, by rw [h.1, h.2]⟩
  · exact ⟨_, _, h⟩
theorem owns_mono {w : World} {base base' : Nat} {e : TypeId} {size : Nat} {v : Value} {n : Nat} {xs : List Value} (h : w.ownsRow base e size v n xs) (hb : base' ≤ base) : w.ownsRow base' e size v n xs := by
  obtain ⟨h0, h | ⟨g, cap, cur, h, hg, k⟩⟩ := h
  · exact ⟨h0, Or.inl h⟩
  · exact ⟨h0, Or.inr ⟨g, cap, cur, h, Nat.le_trans hb hg, k⟩⟩
theorem owns_heap' {w w' : World} {base : Nat} {e : TypeId} {size : Nat} {v : Value} {n : Nat} {xs : List Value} (h : w.ownsRow base e size v n xs) (hh : ∀ g, v.ownBlock = some g → w'.heap[g]? = w.heap[g]?) : w'.ownsRow base e size v n xs := by
  obtain ⟨h0, h | ⟨g, cap, cur, rfl, hg, hk, r⟩⟩ := h
  · exact ⟨h0, Or.inl h⟩
  · exact ⟨h0, Or.inr ⟨g, cap, cur, rfl, hg, (hh g rfl).trans hk, r⟩⟩
theorem owns_lt {w : World} {base : Nat} {e : TypeId} {size : Nat} {v : Value} {n : Nat} {xs : List Value} (h : w.ownsRow base e size v n xs) (g : Nat) (hg : v.ownBlock = some g) : base ≤ g ∧ g < w.heap.size := by
  obtain ⟨h0, h | ⟨g', cap, cur, rfl, hg', hk, r⟩⟩ := h
  · rw [h.1] at hg; exact absurd hg (by simp [Value.ownBlock])
  · have : g' = g := by simpa [Value.ownBlock] using hg
    subst this
    exact ⟨hg', (Array.getElem?_eq_some_iff.mp hk).1⟩
theorem owns_below {w w' : World} {base : Nat} {e : TypeId} {size : Nat} {v : Value} {n : Nat} {xs : List Value} (h : w.ownsRow base e size v n xs) (hb : Below w.heap.size w w') : w'.ownsRow base e size v n xs :=
  owns_heap' h fun g hg => hb.block g (owns_lt h g hg).2
theorem owns_beside {w w' : World} {base p b : Nat} {e : TypeId} {size : Nat} {v : Value} {n : Nat} {xs : List Value} (h : w.ownsRow base e size v n xs) (hb : Beside p b w w') (hp : p < base) (hq : b < base) : w'.ownsRow base e size v n xs :=
  owns_heap' h fun g hg => hb.block g (owns_lt h g hg).2 (by have := (owns_lt h g hg).1; omega) (by have := (owns_lt h g hg).1; omega)
def Fm.cs (f : Fm) : List Value := [.int .i64 (f.k : Int), .string ⟨f.b.toArray⟩]
def cellsF (R : List Fm) : List Value := R.flatMap Fm.cs
theorem cellsF_snoc (R : List Fm) (f : Fm) : cellsF (R ++ [f]) = cellsF R ++ [.int .i64 (f.k : Int), .string ⟨f.b.toArray⟩] := by simp [cellsF, Fm.cs]
/-- Frames in a row of their own. -/
def OwnF (w : World) (base : Nat) (v : Value) (R : List Fm) : Prop := w.ownsRow base 35 2 v R.length (cellsF R)
theorem info37 : (Tryz.prog.info? 35).map (fun i => (i.zero, i.size, i.bytes)) = some (some (.agg #[.int .i64 0, .string ⟨#[]⟩]), 2, 24) := by kernel_rfl
theorem two_f (a : Int) (s : ByteArray) : ∀ u ∈ [Value.int .i64 a, .string s], u.oneCell' = true := by
  intro u hu
  simp at hu
  rcases hu with h | h <;> subst h <;> rfl
theorem news2 (w : World) (a b : Value) (t : TypeId) : ∀ (j : Nat) (u : Value), [a, b][j]? = some u → (w.alloc (.cells #[a, b] t)).cell? (Addr.add ⟨w.heap.size, 0, none⟩ j) = some u := by
  intro j u hj
  rcases j with _ | _ | j
  · simp at hj; subst hj; simp [Addr.add]
  · simp at hj; subst hj; simp [Addr.add]
  · simp at hj
/-- What Put answers. -/
def PutOk (r : St × List Fm) (p b : Nat) (w : World) (e : Ending) (w' : World) : Prop :=
  ∃ v, e = .returned (.tuple #[v, verV r.1.sub]) ∧ OwnF w' w.heap.size v r.2 ∧ FrAt w' p b r.1 ∧ Beside p b w w'
def strLen : Value → Nat
  | .string s => s.size
  | _ => 0
theorem put_end {p b : Nat} {s' : St} {R : List Fm} {w W wr w' : World} {v : Value} (ho : OwnF wr W.heap.size v R) (hf : FrAt wr p b s') (hbs : Beside p b W wr) (hb : Below w.heap.size w W) (hs : W.heap.size = w.heap.size + 1) (hp : p < w.heap.size ∧ b < w.heap.size) (hk : Beside w.heap.size w.heap.size wr w') :
    PutOk (s', R) p b w (.returned (.tuple #[v, .agg #[.int .i64 (vaI s'.sub), .int .u8 (vcI s'.sub), .int .u8 (s'.sub : Int)]])) w' := by
  have h1 := hbs.size
  refine ⟨v, rfl, ?_, ?_, ?_⟩
  · exact owns_mono (owns_heap' ho fun g hg => hk.block g (owns_lt ho g hg).2 (by have := (owns_lt ho g hg).1; omega) (by have := (owns_lt ho g hg).1; omega)) (by omega)
  · exact ⟨(hk.block p hf.ltp (by omega) (by omega)).trans hf.row, hf.buf.same (hk.block b hf.buf.lt (by omega) (by omega)), hf.ne, hf.ok⟩
  · have k1 : Beside p b w wr := Beside.trans (Beside.of_below hb (Nat.le_refl _)) hbs
    exact ⟨hk.os.trans k1.os, hk.tape.trans k1.tape, hk.output.trans k1.output, Nat.le_trans k1.size hk.size, fun j hj hjp hjb => (hk.block j (by omega) (by omega) (by omega)).trans (k1.block j hj hjp hjb)⟩
theorem beside_res (h : Nat) (w : World) (n : Nat) (x y z : Value) : Beside h h w ((((w.drewN n).setCell ⟨h, 0, none⟩ x).setCell ⟨h, 1, none⟩ y).setCell ⟨h, 2, none⟩ z) :=
  (((Beside.of_below (below_drewN (Below.refl w.heap.size w) n) (Nat.le_refl _)).trans (Beside.setp _ 0 x)).trans (Beside.setp _ 1 y)).trans (Beside.setp _ 2 z)
set_option maxRecDepth 100000 in
set_option maxHeartbeats 3200000 in
theorem put_any (p b : Nat) (s : St) (c : List UInt8) (w : World) (h : FrAt w p b s) (hs : SzAt w) (hp0 : 0 < p) (hb0 : 0 < b) (hl : c.length ≤ 1000000) :
    Calls Tryz.prog 10 #[.pointer (some ⟨p, 0, none⟩), .string ⟨c.toArray⟩] w fun e w' => PutOk (runI s c) p b w e w' := by
  obtain ⟨i0, hi, hz0, hz1, hz2⟩ := info_parts info37
  obtain ⟨X, hX⟩ : ∃ X, X = runI s c := ⟨_, rfl⟩
  have HX : Hid (_ = _) := hX
  rw [← hX]
  clear hX
  have hb1 : Below w.heap.size w (w.alloc (.cells #[.int .i64 0, .int .u8 0, .int .u8 0] 37)) := (Below.refl _ _).alloc (Nat.le_refl _) _
  have hF : FrAt (w.alloc (.cells #[.int .i64 0, .int .u8 0, .int .u8 0] 37)) p b s := h.below hb1 h.ltp h.buf.lt
  have hr : (w.alloc (.cells #[.int .i64 0, .int .u8 0, .int .u8 0] 37)).heap[w.heap.size]? = some (.cells #[.int .i64 0, .int .u8 0, .int .u8 0] 37 (0, 0)) := hp_new rfl
  have HB1 : Hid (Below w.heap.size w (w.alloc (.cells #[.int .i64 0, .int .u8 0, .int .u8 0] 37))) := hb1
  have HF : Hid (FrAt (w.alloc (.cells #[.int .i64 0, .int .u8 0, .int .u8 0] 37)) p b s) := hF
  have HR : Hid ((w.alloc (.cells #[.int .i64 0, .int .u8 0, .int .u8 0] 37)).heap[w.heap.size]? = some (.cells #[.int .i64 0, .int .u8 0, .int .u8 0] 37 (0, 0))) := hr
  have HZ : Hid (SzAt (w.alloc (.cells #[.int .i64 0, .int .u8 0, .int .u8 0] 37))) := hs.below hb1
  have HP : Hid (p < w.heap.size ∧ b < w.heap.size) := ⟨h.ltp, h.buf.lt⟩
  have HS : Hid ((w.alloc (.cells #[.int .i64 0, .int .u8 0, .int .u8 0] 37)).heap.size = w.heap.size + 1) := by unfold Hid; simp
  have HP0 : Hid (0 < p ∧ 0 < b) := ⟨hp0, hb0⟩
  clear hs h hb1 hF hr hp0 hb0
  go_enter Tryz.func10, Tryz.ntmps10
  go_wp2_with fail
  generalize w.alloc (.cells #[.int .i64 0, .int .u8 0, .int .u8 0] 37) = W at *
  refine (there_yes p W HF.out.c0).mono ?_
  rintro e w1 ⟨rfl, hw1⟩
  obtain rfl : W = w1 := hw1.symm
  clear hw1
  go_wp2
  go_loopw [1, 6] (fun t u wr => ∃ (s' : St) (c' : List UInt8) (R : List Fm), t = .string ⟨c'.toArray⟩ ∧ OwnF wr W.heap.size u R ∧ FrAt wr p b s' ∧ Beside p b W wr ∧ R.length + c'.length ≤ c.length ∧ X = ((runI s' c').1, R ++ (runI s' c').2)) (fun t _ _ => strLen t)
  case atStart => exact ⟨s, c, [], rfl, World.ownsRow_nil _ _ _ _, HF.out, Beside.refl W, by simp, by rw [HX.out]; simp⟩
  case round =>
    obtain ⟨s', c', R, rfl, ho, hfr, hbs, hlen, hx⟩ := hrel
    obtain ⟨ad, cp, rfl⟩ := slice_of_owns ho
    have HO : Hid (OwnF wr W.heap.size _ R) := ho
    have HFR : Hid (FrAt wr p b s') := hfr
    have HBS : Hid (Beside p b W wr) := hbs
    have HXX : Hid (X = _) := hx
    have HLEN : Hid (_ ≤ _) := hlen
    have hlen2 : R.length ≤ 1000000 := by omega
    have hl' : (⟨c'.toArray⟩ : ByteArray).toList = c' := by simp
    clear ho hfr hbs hx hlen
    by_cases hnil : c' = []
    · have HXN : Hid (X = (s', R)) := by unfold Hid; rw [HXX.out, hnil]; simp [runI]
      subst hnil
      clear HXX
      go_wp2
      have HRW : Hid (wr.heap[w.heap.size]? = some (.cells #[.int .i64 0, .int .u8 0, .int .u8 0] 37 (0, 0))) := (HBS.out.block _ (by have := HS.out; omega) (by have := HP.out; omega) (by have := HP.out; omega)).trans HR.out
      have q2 := HFR.out.c2
      have q3 := HFR.out.c3
      have q4 := HFR.out.c4
      have r0 : wr.cell? ⟨w.heap.size, 0, none⟩ = some (.int .i64 0) := cl_row HRW.out rfl
      have r1 : wr.cell? ⟨w.heap.size, 1, none⟩ = some (.int .u8 0) := cl_row HRW.out rfl
      have r2 : wr.cell? ⟨w.heap.size, 2, none⟩ = some (.int .u8 0) := cl_row HRW.out rfl
      have z0 : wr.frozen? ⟨w.heap.size, 0, none⟩ = false := fz_row HRW.out
      have z1 : wr.frozen? ⟨w.heap.size, 1, none⟩ = false := fz_row HRW.out
      have z2 : wr.frozen? ⟨w.heap.size, 2, none⟩ = false := fz_row HRW.out
      generalize hx2 : vaI s'.sub = x2 at *
      generalize hx3 : vcI s'.sub = x3 at *
      have HX2 : Hid (_ = _) := hx2
      have HX3 : Hid (_ = _) := hx3
      have HKE : Hid (∀ w', Beside w.heap.size w.heap.size wr w' → PutOk X p b w (.returned (.tuple #[.slice ad R.length cp, .agg #[.int .i64 x2, .int .u8 x3, .int .u8 (s'.sub : Int)]])) w') := fun w' hw => by
        rw [HXN.out, ← HX2.out, ← HX3.out]
        exact put_end HO.out HFR.out HBS.out HB1.out HS.out HP.out hw
      clear hx2 hx3
      go_region
      all_goals go_wp2
      all_goals refine bodyPost_ret (v := .tuple #[.slice ad R.length cp, .agg #[.int .i64 x2, .int .u8 x3, .int .u8 (s'.sub : Int)]]) (by simp [results, Tryz.results10, go_sem, r0, r1, r2]) rfl ?_
      all_goals exact HKE.out _ (beside_res w.heap.size wr 1 _ _ _)
    · have hne : ((⟨c'.toArray⟩ : ByteArray).toList == []) = false := by rw [hl']; cases c' with | nil => exact absurd rfl hnil | cons => rfl
      have HNE : Hid (c' ≠ []) := hnil
      clear hnil hl'
      by_cases hsub : s'.sub = 0
      · obtain ⟨a, n0⟩ := s'
        simp only at hsub
        subst hsub
        have KB : Hid (Calls Tryz.prog 25 #[.pointer (some ⟨p, 0, none⟩)] wr fun e w' => e = .returned (.bool false) ∧ w' = wr) := broken_any p _ wr HFR.out.c2
        have KT : Hid (_ : Prop) := take_any p b a c' wr HFR.out
        have HPC : Hid (_ : Prop) := run_piece a c' HFR.out.ok HNE.out
        have hgl := goal_le HFR.out.ok rfl
        have hg1 : a.length < goalI a := hgl.1
        have hg2 : goalI a ≤ 4096 := hgl.2
        have hc1 : 1 ≤ c'.length := by have := HNE.out; cases c' with | nil => exact absurd rfl this | cons => simp
        have hxl : (a ++ c'.take (goalI a - a.length)).length ≤ 4096 := by rw [List.length_append, List.length_take]; omega
        have HOK : Hid (OkS (endI (a ++ c'.take (goalI a - a.length))).1) := end_ok a _ HFR.out.ok (by intro z; have t := congrArg List.length z; rw [List.length_take, List.length_nil] at t; omega) (by rw [List.length_take]; omega)
        have HRL : Hid ((c'.drop (goalI a - a.length)).length + 1 ≤ c'.length) := by unfold Hid; rw [List.length_drop]; omega
        rw [HPC.out] at HXX
        generalize a ++ c'.take (goalI a - a.length) = x at *
        generalize c'.drop (goalI a - a.length) = c'' at *
        have HST : Hid ((⟨c'.toArray⟩ : ByteArray).size = c'.length) := list_size c'
        generalize (⟨c'.toArray⟩ : ByteArray) = t at *
        clear hgl hg1 hg2 hc1 HPC HNE
        go_wp2_with fail
        refine Calls.mono KB.out ?_
        rintro e w2 ⟨rfl, hw2⟩
        obtain rfl : wr = w2 := hw2.symm
        clear hw2 KB
        go_wp2_with fail
        refine Calls.mono KT.out ?_
        rintro e w3 ⟨rfl, hw3, hbs3⟩
        have HB3 : Hid (Beside p b W w3) := HBS.out.trans hbs3
        have HO3 : Hid (OwnF w3 W.heap.size (.slice ad R.length cp) R) := owns_beside HO.out hbs3 (by have := HP.out; have := HS.out; omega) (by have := HP.out; have := HS.out; omega)
        have HZ3 : Hid (SzAt w3) := HZ.out.beside HB3.out HP0.out.1 HP0.out.2
        have HW3 : Hid (WtAt w3 p b x) := hw3
        have c1 := hw3.c1
        clear hw3 hbs3 KT HFR HBS HO
        by_cases e19 : x.length = 19
        · by_cases ew : wrongI x = 0
          · by_cases el : x.length = lenI x
            · have HEND : Hid (endI x = (⟨[], 0⟩, [⟨kindI x, x.drop 19⟩])) := by
                unfold Hid endI
                rw [if_neg (by omega), if_pos ⟨by omega, by omega⟩]
              have KJ : Hid (_ : Prop) := judge_fine p b x w3 HW3.out (by omega) HZ3.out ew
              rw [e19] at c1
              go_wp2_with fail
              refine Calls.mono KJ.out ?_
              rintro e w4 ⟨rfl, hw4, hbs4⟩
              have HW4 : Hid (WtAt w4 p b x) := hw4
              have HB4 : Hid (Beside p b W w4) := HB3.out.trans hbs4
              have HO4 : Hid (OwnF w4 W.heap.size (.slice ad R.length cp) R) := owns_beside HO3.out hbs4 (by have := HP.out; have := HS.out; omega) (by have := HP.out; have := HS.out; omega)
              clear hw4 hbs4 KJ HW3 HB3 HO3 HZ3 c1
              have KW : Hid (Calls Tryz.prog 28 #[.pointer (some ⟨p, 0, none⟩)] w4 fun e w' => e = .returned (.bool true) ∧ ∃ q, w' = w4.drewN q) := by
                have k := whole_any p b x w4 HW4.out (by omega)
                rw [show ((x.length : Int) == lenI x) = true by rw [beq_iff_eq]; omega] at k
                exact k
              go_wp2_with fail
              refine Calls.mono KW.out ?_
              rintro e w5 ⟨rfl, q5, rfl⟩
              have HW5 : Hid (WtAt (w4.drewN q5) p b x) := ⟨HW4.out.row, ⟨HW4.out.buf.row⟩, HW4.out.ne⟩
              have HB5 : Hid (Beside p b W (w4.drewN q5)) := HB4.out.then (below_drewN (Below.refl _ _) q5)
              have HO5 : Hid (OwnF (w4.drewN q5) W.heap.size (.slice ad R.length cp) R) := HO4.out
              generalize w4.drewN q5 = w5 at *
              clear KW HW4 HB4 HO4
              have KC : Hid (_ : Prop) := cut_any p b x w5 HW5.out (by omega) hxl
              have HN : Hid (X = ((runI ⟨[], 0⟩ c'').1, (R ++ [⟨kindI x, x.drop 19⟩]) ++ (runI ⟨[], 0⟩ c'').2)) := by unfold Hid; rw [HXX.out, HEND.out]; simp
              generalize kindI x = kk at *
              generalize x.drop 19 = bd at *
              clear HXX HEND HOK
              go_wp2_with fail
              refine Calls.mono KC.out ?_
              rintro e w6 ⟨rfl, hw6, hbs6⟩
              have HW6 : Hid (WtAt w6 p b []) := hw6
              have HB6 : Hid (Beside p b W w6) := HB5.out.trans hbs6
              have HO6 : Hid (OwnF w6 W.heap.size (.slice ad R.length cp) R) := owns_beside HO5.out hbs6 (by have := HP.out; have := HS.out; omega) (by have := HP.out; have := HS.out; omega)
              have h6 := HB6.out.size
              have HNW : Hid (∀ (j : Nat) (u : Value), ([.int .i64 (kk : Int), .string ⟨bd.toArray⟩] : List Value)[j]? = some u → (w6.alloc (.cells #[.int .i64 (kk : Int), .string ⟨bd.toArray⟩] 35)).cell? (Addr.add ⟨w6.heap.size, 0, none⟩ j) = some u) := news2 w6 _ _ 35
              clear hw6 hbs6 KC HW5 HB5 HO5
              go_wp2_with (at_builtin; refine wpList_append_own _ rfl _ _ 29 rfl W.heap.size 35 i0 (.agg #[.int .i64 0, .string ⟨#[]⟩]) 2 24 Tryz.underlying29 hi hz0 hz1 hz2 rfl (by decide) _ _ _ rfl (World.ownsRow.alloc HO6.out _) ⟨w6.heap.size, 0, none⟩ 1 1 [.int .i64 (kk : Int), .string ⟨bd.toArray⟩] rfl rfl HNW.out (two_f _ _) (by unfold maxLen; omega) (by omega) (Nat.le_trans HB6.out.size (by simp)) ?_; intro v7 w7 hown7 hgrow7 _)
              have hos : OwnF w7 W.heap.size v7 (R ++ [⟨kk, bd⟩]) := by
                unfold OwnF; rw [cellsF_snoc, List.length_append]; exact hown7
              obtain ⟨ad7, c7, rfl⟩ := slice_of_owns hown7
              have hbw : Below W.heap.size w6 w7 := ((Below.refl _ _).alloc h6 _).grown hgrow7 (Nat.le_trans h6 (by simp)) (fun k e => (owns_lt HO6.out k e).1)
              have HB7 : Hid (Beside p b W w7) := HB6.out.over hbw (Nat.le_refl _)
              have HFO : Hid (FrAt w7 p b st0) := ⟨(hbw.block p (by have := HP.out; have := HS.out; omega)).trans HW6.out.row, HW6.out.buf.same (hbw.block b (by have := HP.out; have := HS.out; omega)), HW6.out.ne, ok0⟩
              have HOS : Hid (OwnF w7 W.heap.size _ (R ++ [⟨kk, bd⟩])) := hos
              clear hown7 hgrow7 hbw hos HW6 HB6 HO6 HNW
              go_roundw
              case rel => exact ⟨st0, c'', _, rfl, HOS.out, HFO.out, HB7.out, by have := HLEN.out; have := HRL.out; rw [List.length_append]; simp only [List.length_cons, List.length_nil]; omega, HN.out⟩
              case measure => have := HRL.out; have := HST.out; simp only [strLen, list_size]; omega
            · have HEND : Hid (endI x = (⟨x, 0⟩, [])) := by
                unfold Hid endI
                rw [if_neg (by omega), if_neg (by omega)]
              have KJ : Hid (_ : Prop) := judge_fine p b x w3 HW3.out (by omega) HZ3.out ew
              rw [e19] at c1
              go_wp2_with fail
              refine Calls.mono KJ.out ?_
              rintro e w4 ⟨rfl, hw4, hbs4⟩
              have HW4 : Hid (WtAt w4 p b x) := hw4
              have HB4 : Hid (Beside p b W w4) := HB3.out.trans hbs4
              have HO4 : Hid (OwnF w4 W.heap.size (.slice ad R.length cp) R) := owns_beside HO3.out hbs4 (by have := HP.out; have := HS.out; omega) (by have := HP.out; have := HS.out; omega)
              clear hw4 hbs4 KJ HW3 HB3 HO3 HZ3 c1
              have KW : Hid (Calls Tryz.prog 28 #[.pointer (some ⟨p, 0, none⟩)] w4 fun e w' => e = .returned (.bool false) ∧ ∃ q, w' = w4.drewN q) := by
                have k := whole_any p b x w4 HW4.out (by omega)
                rw [show ((x.length : Int) == lenI x) = false by rw [beq_eq_false_iff_ne]; omega] at k
                exact k
              go_wp2_with fail
              refine Calls.mono KW.out ?_
              rintro e w5 ⟨rfl, q5, rfl⟩
              have HW5 : Hid (WtAt (w4.drewN q5) p b x) := ⟨HW4.out.row, ⟨HW4.out.buf.row⟩, HW4.out.ne⟩
              have HB5 : Hid (Beside p b W (w4.drewN q5)) := HB4.out.then (below_drewN (Below.refl _ _) q5)
              have HO5 : Hid (OwnF (w4.drewN q5) W.heap.size (.slice ad R.length cp) R) := HO4.out
              generalize w4.drewN q5 = w5 at *
              clear KW HW4 HB4 HO4
              have HN : Hid (X = ((runI ⟨x, 0⟩ c'').1, R ++ (runI ⟨x, 0⟩ c'').2)) := by unfold Hid; rw [HXX.out, HEND.out]; simp
              have HFO : Hid (FrAt w5 p b ⟨x, 0⟩) := ⟨HW5.out.row, HW5.out.buf, HW5.out.ne, by have := HOK.out; rw [HEND.out] at this; exact this⟩
              go_wp2
              go_roundw
              case rel => exact ⟨⟨x, 0⟩, c'', R, rfl, HO5.out, HFO.out, HB5.out, by have := HLEN.out; have := HRL.out; omega, HN.out⟩
              case measure => have := HRL.out; have := HST.out; simp only [strLen, list_size]; omega
          · have HEND : Hid (endI x = (⟨[], wrongI x⟩, [])) := by
              unfold Hid endI
              rw [if_pos ⟨e19, ew⟩]
            have KJ : Hid (_ : Prop) := judge_wrong p b x w3 HW3.out (by omega) HZ3.out (wrongI x) rfl ew
            have HEW : Hid (wrongI x ≠ 0) := ew
            rw [e19] at c1
            clear ew
            generalize wrongI x = m at *
            go_wp2_with fail
            refine Calls.mono KJ.out ?_
            rintro e w4 ⟨rfl, hw4, hbs4⟩
            have HW4 : Hid (BrAt w4 p b m) := hw4
            have HB4 : Hid (Beside p b W w4) := HB3.out.trans hbs4
            have HO4 : Hid (OwnF w4 W.heap.size (.slice ad R.length cp) R) := owns_beside HO3.out hbs4 (by have := HP.out; have := HS.out; omega) (by have := HP.out; have := HS.out; omega)
            clear hw4 hbs4 KJ HW3 HB3 HO3 HZ3 c1
            have KW : Hid (_ : Prop) := whole_no p 0 0 none w4 (cl_row HW4.out.row rfl) (by decide)
            go_wp2_with fail
            refine Calls.mono KW.out ?_
            rintro e w5 ⟨rfl, q5, rfl⟩
            have HB5 : Hid (Beside p b W (w4.drewN q5)) := HB4.out.then (below_drewN (Below.refl _ _) q5)
            have HO5 : Hid (OwnF (w4.drewN q5) W.heap.size (.slice ad R.length cp) R) := HO4.out
            have HFO : Hid (FrAt (w4.drewN q5) p b ⟨[], m⟩) := ⟨by
              have e := HW4.out.row
              simp only [wv, vaI, vcI, if_neg HEW.out]
              exact e, ⟨HW4.out.buf.row⟩, HW4.out.ne, by have := HOK.out; rw [HEND.out] at this; exact this⟩
            generalize w4.drewN q5 = w5 at *
            have HN : Hid (X = ((runI ⟨[], m⟩ c'').1, R ++ (runI ⟨[], m⟩ c'').2)) := by unfold Hid; rw [HXX.out, HEND.out]; simp
            clear KW HW4 HB4 HO4
            go_wp2
            go_roundw
            case rel => exact ⟨⟨[], m⟩, c'', R, rfl, HO5.out, HFO.out, HB5.out, by have := HLEN.out; have := HRL.out; omega, HN.out⟩
            case measure => have := HRL.out; have := HST.out; simp only [strLen, list_size]; omega
        · by_cases es : x.length < 19
          · have HEND : Hid (endI x = (⟨x, 0⟩, [])) := by
              unfold Hid endI
              rw [if_neg (by omega), if_neg (by omega)]
            have x19 : ((x.length : Int) == 19) = false := by rw [beq_eq_false_iff_ne]; omega
            have KW : Hid (_ : Prop) := whole_no p x.length 4096 (some ⟨b, 0, none⟩) w3 c1 es
            go_wp2_with fail
            refine Calls.mono KW.out ?_
            rintro e w5 ⟨rfl, q5, rfl⟩
            have HW5 : Hid (WtAt (w3.drewN q5) p b x) := ⟨HW3.out.row, ⟨HW3.out.buf.row⟩, HW3.out.ne⟩
            have HB5 : Hid (Beside p b W (w3.drewN q5)) := HB3.out.then (below_drewN (Below.refl _ _) q5)
            have HO5 : Hid (OwnF (w3.drewN q5) W.heap.size (.slice ad R.length cp) R) := HO3.out
            generalize w3.drewN q5 = w5 at *
            clear KW HW3 HB3 HO3
            have HN : Hid (X = ((runI ⟨x, 0⟩ c'').1, R ++ (runI ⟨x, 0⟩ c'').2)) := by unfold Hid; rw [HXX.out, HEND.out]; simp
            have HFO : Hid (FrAt w5 p b ⟨x, 0⟩) := ⟨HW5.out.row, HW5.out.buf, HW5.out.ne, by have := HOK.out; rw [HEND.out] at this; exact this⟩
            go_wp2
            go_roundw
            case rel => exact ⟨⟨x, 0⟩, c'', R, rfl, HO5.out, HFO.out, HB5.out, by have := HLEN.out; have := HRL.out; omega, HN.out⟩
            case measure => have := HRL.out; have := HST.out; simp only [strLen, list_size]; omega
          · by_cases el : x.length = lenI x
            · have HEND : Hid (endI x = (⟨[], 0⟩, [⟨kindI x, x.drop 19⟩])) := by
                unfold Hid endI
                rw [if_neg (by omega), if_pos ⟨by omega, by omega⟩]
              have x19 : ((x.length : Int) == 19) = false := by rw [beq_eq_false_iff_ne]; omega
              have KW : Hid (Calls Tryz.prog 28 #[.pointer (some ⟨p, 0, none⟩)] w3 fun e w' => e = .returned (.bool true) ∧ ∃ q, w' = w3.drewN q) := by
                have k := whole_any p b x w3 HW3.out (by omega)
                rw [show ((x.length : Int) == lenI x) = true by rw [beq_iff_eq]; omega] at k
                exact k
              go_wp2_with fail
              refine Calls.mono KW.out ?_
              rintro e w5 ⟨rfl, q5, rfl⟩
              have HW5 : Hid (WtAt (w3.drewN q5) p b x) := ⟨HW3.out.row, ⟨HW3.out.buf.row⟩, HW3.out.ne⟩
              have HB5 : Hid (Beside p b W (w3.drewN q5)) := HB3.out.then (below_drewN (Below.refl _ _) q5)
              have HO5 : Hid (OwnF (w3.drewN q5) W.heap.size (.slice ad R.length cp) R) := HO3.out
              generalize w3.drewN q5 = w5 at *
              clear KW HW3 HB3 HO3
              have KC : Hid (_ : Prop) := cut_any p b x w5 HW5.out (by omega) hxl
              have HN : Hid (X = ((runI ⟨[], 0⟩ c'').1, (R ++ [⟨kindI x, x.drop 19⟩]) ++ (runI ⟨[], 0⟩ c'').2)) := by unfold Hid; rw [HXX.out, HEND.out]; simp
              generalize kindI x = kk at *
              generalize x.drop 19 = bd at *
              clear HXX HEND HOK
              go_wp2_with fail
              refine Calls.mono KC.out ?_
              rintro e w6 ⟨rfl, hw6, hbs6⟩
              have HW6 : Hid (WtAt w6 p b []) := hw6
              have HB6 : Hid (Beside p b W w6) := HB5.out.trans hbs6
              have HO6 : Hid (OwnF w6 W.heap.size (.slice ad R.length cp) R) := owns_beside HO5.out hbs6 (by have := HP.out; have := HS.out; omega) (by have := HP.out; have := HS.out; omega)
              have h6 := HB6.out.size
              have HNW : Hid (∀ (j : Nat) (u : Value), ([.int .i64 (kk : Int), .string ⟨bd.toArray⟩] : List Value)[j]? = some u → (w6.alloc (.cells #[.int .i64 (kk : Int), .string ⟨bd.toArray⟩] 35)).cell? (Addr.add ⟨w6.heap.size, 0, none⟩ j) = some u) := news2 w6 _ _ 35
              clear hw6 hbs6 KC HW5 HB5 HO5
              go_wp2_with (at_builtin; refine wpList_append_own _ rfl _ _ 29 rfl W.heap.size 35 i0 (.agg #[.int .i64 0, .string ⟨#[]⟩]) 2 24 Tryz.underlying29 hi hz0 hz1 hz2 rfl (by decide) _ _ _ rfl (World.ownsRow.alloc HO6.out _) ⟨w6.heap.size, 0, none⟩ 1 1 [.int .i64 (kk : Int), .string ⟨bd.toArray⟩] rfl rfl HNW.out (two_f _ _) (by unfold maxLen; omega) (by omega) (Nat.le_trans HB6.out.size (by simp)) ?_; intro v7 w7 hown7 hgrow7 _)
              have hos : OwnF w7 W.heap.size v7 (R ++ [⟨kk, bd⟩]) := by
                unfold OwnF; rw [cellsF_snoc, List.length_append]; exact hown7
              obtain ⟨ad7, c7, rfl⟩ := slice_of_owns hown7
              have hbw : Below W.heap.size w6 w7 := ((Below.refl _ _).alloc h6 _).grown hgrow7 (Nat.le_trans h6 (by simp)) (fun k e => (owns_lt HO6.out k e).1)
              have HB7 : Hid (Beside p b W w7) := HB6.out.over hbw (Nat.le_refl _)
              have HFO : Hid (FrAt w7 p b st0) := ⟨(hbw.block p (by have := HP.out; have := HS.out; omega)).trans HW6.out.row, HW6.out.buf.same (hbw.block b (by have := HP.out; have := HS.out; omega)), HW6.out.ne, ok0⟩
              have HOS : Hid (OwnF w7 W.heap.size _ (R ++ [⟨kk, bd⟩])) := hos
              clear hown7 hgrow7 hbw hos HW6 HB6 HO6 HNW
              go_roundw
              case rel => exact ⟨st0, c'', _, rfl, HOS.out, HFO.out, HB7.out, by have := HLEN.out; have := HRL.out; rw [List.length_append]; simp only [List.length_cons, List.length_nil]; omega, HN.out⟩
              case measure => have := HRL.out; have := HST.out; simp only [strLen, list_size]; omega
            · have HEND : Hid (endI x = (⟨x, 0⟩, [])) := by
                unfold Hid endI
                rw [if_neg (by omega), if_neg (by omega)]
              have x19 : ((x.length : Int) == 19) = false := by rw [beq_eq_false_iff_ne]; omega
              have KW : Hid (Calls Tryz.prog 28 #[.pointer (some ⟨p, 0, none⟩)] w3 fun e w' => e = .returned (.bool false) ∧ ∃ q, w' = w3.drewN q) := by
                have k := whole_any p b x w3 HW3.out (by omega)
                rw [show ((x.length : Int) == lenI x) = false by rw [beq_eq_false_iff_ne]; omega] at k
                exact k
              go_wp2_with fail
              refine Calls.mono KW.out ?_
              rintro e w5 ⟨rfl, q5, rfl⟩
              have HW5 : Hid (WtAt (w3.drewN q5) p b x) := ⟨HW3.out.row, ⟨HW3.out.buf.row⟩, HW3.out.ne⟩
              have HB5 : Hid (Beside p b W (w3.drewN q5)) := HB3.out.then (below_drewN (Below.refl _ _) q5)
              have HO5 : Hid (OwnF (w3.drewN q5) W.heap.size (.slice ad R.length cp) R) := HO3.out
              generalize w3.drewN q5 = w5 at *
              clear KW HW3 HB3 HO3
              have HN : Hid (X = ((runI ⟨x, 0⟩ c'').1, R ++ (runI ⟨x, 0⟩ c'').2)) := by unfold Hid; rw [HXX.out, HEND.out]; simp
              have HFO : Hid (FrAt w5 p b ⟨x, 0⟩) := ⟨HW5.out.row, HW5.out.buf, HW5.out.ne, by have := HOK.out; rw [HEND.out] at this; exact this⟩
              go_wp2
              go_roundw
              case rel => exact ⟨⟨x, 0⟩, c'', R, rfl, HO5.out, HFO.out, HB5.out, by have := HLEN.out; have := HRL.out; omega, HN.out⟩
              case measure => have := HRL.out; have := HST.out; simp only [strLen, list_size]; omega
      · have HXN : Hid (X = (s', R)) := by unfold Hid; rw [HXX.out, run_broken _ _ hsub]; simp
        have KB : Hid (Calls Tryz.prog 25 #[.pointer (some ⟨p, 0, none⟩)] wr fun e w' => e = .returned (.bool true) ∧ w' = wr) := by
          have k := broken_any p _ wr HFR.out.c2
          rw [va_ne, decide_eq_false hsub] at k
          exact k
        generalize (⟨c'.toArray⟩ : ByteArray) = t at *
        clear HXX hsub
        go_wp2_with fail
        refine Calls.mono KB.out ?_
        rintro e w2 ⟨rfl, hw2⟩
        obtain rfl : wr = w2 := hw2.symm
        clear hw2 KB
        go_wp2
        have HRW : Hid (wr.heap[w.heap.size]? = some (.cells #[.int .i64 0, .int .u8 0, .int .u8 0] 37 (0, 0))) := (HBS.out.block _ (by have := HS.out; omega) (by have := HP.out; omega) (by have := HP.out; omega)).trans HR.out
        have q2 := HFR.out.c2
        have q3 := HFR.out.c3
        have q4 := HFR.out.c4
        have r0 : wr.cell? ⟨w.heap.size, 0, none⟩ = some (.int .i64 0) := cl_row HRW.out rfl
        have r1 : wr.cell? ⟨w.heap.size, 1, none⟩ = some (.int .u8 0) := cl_row HRW.out rfl
        have r2 : wr.cell? ⟨w.heap.size, 2, none⟩ = some (.int .u8 0) := cl_row HRW.out rfl
        have z0 : wr.frozen? ⟨w.heap.size, 0, none⟩ = false := fz_row HRW.out
        have z1 : wr.frozen? ⟨w.heap.size, 1, none⟩ = false := fz_row HRW.out
        have z2 : wr.frozen? ⟨w.heap.size, 2, none⟩ = false := fz_row HRW.out
        generalize hx2 : vaI s'.sub = x2 at *
        generalize hx3 : vcI s'.sub = x3 at *
        have HX2 : Hid (_ = _) := hx2
        have HX3 : Hid (_ = _) := hx3
        have HKE : Hid (∀ w', Beside w.heap.size w.heap.size wr w' → PutOk X p b w (.returned (.tuple #[.slice ad R.length cp, .agg #[.int .i64 x2, .int .u8 x3, .int .u8 (s'.sub : Int)]])) w') := fun w' hw => by
          rw [HXN.out, ← HX2.out, ← HX3.out]
          exact put_end HO.out HFR.out HBS.out HB1.out HS.out HP.out hw
        clear hx2 hx3
        go_region
        all_goals go_wp2
        all_goals refine bodyPost_ret (v := .tuple #[.slice ad R.length cp, .agg #[.int .i64 x2, .int .u8 x3, .int .u8 (s'.sub : Int)]]) (by simp [results, Tryz.results10, go_sem, r0, r1, r2]) rfl ?_
        all_goals exact HKE.out _ (beside_res w.heap.size wr 1 _ _ _)
end Go.Proofs.YtfhapjhkjdifjaaGreatDoor.Fr
namespace Go.Proofs.YtfhapjhkjdifjaaGreatDoor.Fr
open Go.RowKit
theorem left_any (p b : Nat) (s : St) (w : World) (h : FrAt w p b s) : Calls Tryz.prog 11 #[.pointer (some ⟨p, 0, none⟩)] w fun e w' => e = .returned (.int .i64 (s.wait.length : Int)) ∧ w' = w := by
  have KT : Hid (_ : Prop) := there_yes p w h.c0
  by_cases hz : s.sub = 0
  · have c1 : w.cell? ⟨p, 1, none⟩ = some (.slice (some ⟨b, 0, none⟩) s.wait.length 4096) := by have := h.c1; unfold wv at this; rw [if_pos hz] at this; exact this
    clear h hz
    go_enter Tryz.func11, Tryz.ntmps11
    go_wp2_with fail
    refine Calls.mono KT.out ?_
    rintro e w1 ⟨rfl, rfl⟩
    go_wp2
    go_ret
    exact ⟨rfl, rfl⟩
  · have c1 : w.cell? ⟨p, 1, none⟩ = some (.slice none 0 0) := by have := h.c1; unfold wv at this; rw [if_neg hz] at this; exact this
    have hw : s.wait = [] := by have := h.ok; unfold OkS at this; rw [if_neg hz] at this; exact this
    rw [hw]
    clear h hz hw
    go_enter Tryz.func11, Tryz.ntmps11
    go_wp2_with fail
    refine Calls.mono KT.out ?_
    rintro e w1 ⟨rfl, rfl⟩
    go_wp2
    go_ret
    exact ⟨rfl, rfl⟩
theorem left_nil (w : World) : Calls Tryz.prog 11 #[.pointer none] w fun e w' => e = .returned (.int .i64 0) ∧ w' = w := by
  go_enter Tryz.func11, Tryz.ntmps11
  go_wp2_with fail
  refine (there_nil w).mono ?_
  rintro e w1 ⟨rfl, rfl⟩
  go_wp2
  go_ret
  exact ⟨rfl, rfl⟩
theorem put_none (pv : Value) (c : ByteArray) (w : World) (h : ∀ w', Below w.heap.size w w' → Calls Tryz.prog 24 #[pv] w' fun e w'' => e = .returned (.bool false) ∧ w'' = w') : Calls Tryz.prog 10 #[pv, .string c] w fun e w' => e = .returned (.tuple #[.slice none 0 0, verV 0]) ∧ Below w.heap.size w w' := by
  have HB : Hid (Below w.heap.size w (w.alloc (.cells #[.int .i64 0, .int .u8 0, .int .u8 0] 37))) := (Below.refl _ _).alloc (Nat.le_refl _) _
  have KT : Hid (_ : Prop) := h _ HB.out
  have hr : (w.alloc (.cells #[.int .i64 0, .int .u8 0, .int .u8 0] 37)).heap[w.heap.size]? = some (.cells #[.int .i64 0, .int .u8 0, .int .u8 0] 37 (0, 0)) := hp_new rfl
  have HR : Hid ((w.alloc (.cells #[.int .i64 0, .int .u8 0, .int .u8 0] 37)).heap[w.heap.size]? = some (.cells #[.int .i64 0, .int .u8 0, .int .u8 0] 37 (0, 0))) := hr
  clear hr h
  go_enter Tryz.func10, Tryz.ntmps10
  go_wp2_with fail
  generalize w.alloc (.cells #[.int .i64 0, .int .u8 0, .int .u8 0] 37) = W at *
  refine Calls.mono KT.out ?_
  rintro e w1 ⟨rfl, hw1⟩
  obtain rfl : W = w1 := hw1.symm
  clear hw1 KT
  have r0 : W.cell? ⟨w.heap.size, 0, none⟩ = some (.int .i64 0) := cl_row HR.out rfl
  have r1 : W.cell? ⟨w.heap.size, 1, none⟩ = some (.int .u8 0) := cl_row HR.out rfl
  have r2 : W.cell? ⟨w.heap.size, 2, none⟩ = some (.int .u8 0) := cl_row HR.out rfl
  have z0 : W.frozen? ⟨w.heap.size, 0, none⟩ = false := fz_row HR.out
  have z1 : W.frozen? ⟨w.heap.size, 1, none⟩ = false := fz_row HR.out
  have z2 : W.frozen? ⟨w.heap.size, 2, none⟩ = false := fz_row HR.out
  go_wp2
  refine bodyPost_ret (v := .tuple #[.slice none 0 0, verV 0]) (by simp [results, Tryz.results10, go_sem, r0, r1, r2, verV, vaI, vcI]) rfl ⟨rfl, ?_⟩
  exact ((HB.out.setCell (p := ⟨w.heap.size, 0, none⟩) (Nat.le_refl _) _).setCell (p := ⟨w.heap.size, 1, none⟩) (Nat.le_refl _) _).setCell (p := ⟨w.heap.size, 2, none⟩) (Nat.le_refl _) _
/-- A message's header. -/
def headI (k n : Nat) : List UInt8 := mark ++ [UInt8.ofNat (n / 256), UInt8.ofNat (n % 256), UInt8.ofNat k]
theorem conv3 (w : World) (x y z : UInt8) (X Y Z : Int) (hx : X = (x.toNat : Int)) (hy : Y = (y.toNat : Int)) (hz : Z = (z.toNat : Int)) : (convert 25 9 (.slice (some ⟨w.heap.size, 0, none⟩) 3 3)).run Tryz.prog (w.alloc (.cells #[.int .u8 X, .int .u8 Y, .int .u8 Z] 5)) = .ok (.string ⟨[x, y, z].toArray⟩) (w.alloc (.cells #[.int .u8 X, .int .u8 Y, .int .u8 Z] 5)) := by
  subst hx hy hz
  refine run_convert_bytes_back (P := Tryz.prog) _ 25 9 5 ⟨w.heap.size, 0, none⟩ 3 [x, y, z] Tryz.underlying25 Tryz.underlying5 Tryz.underlying9 (fun j hj => ?_)
  rcases j with _ | _ | _ | j
  · simp [Addr.add]
  · simp [Addr.add]
  · simp [Addr.add]
  · exact absurd hj (by simp)
theorem app_bytes (a b : List UInt8) : (⟨a.toArray⟩ : ByteArray) ++ (⟨b.toArray⟩ : ByteArray) = ⟨(a ++ b).toArray⟩ := by
  apply ByteArray.ext
  rw [ByteArray.data_append]
  simp
theorem head_any (k n : Nat) (w : World) (hk : k ≤ 5) (hn : n ≤ 4096) : Calls Tryz.prog 20 #[.int .i64 (k : Int), .int .i64 (n : Int)] w fun e w' => e = .returned (.string ⟨(headI k n).toArray⟩) ∧ Below w.heap.size w w' := by
  have h1 : (n : Int) ≤ 4096 := by omega
  have h2 : (k : Int) ≤ 5 := by omega
  have hc := conv3 w (UInt8.ofNat (n / 256)) (UInt8.ofNat (n % 256)) (UInt8.ofNat k) ((n : Int) / 256) ((n : Int) % 256) (k : Int) (by rw [UInt8.toNat_ofNat']; omega) (by rw [UInt8.toNat_ofNat']; omega) (by rw [UInt8.toNat_ofNat']; omega)
  have HA : Hid ((⟨mark.toArray⟩ : ByteArray) ++ (⟨[UInt8.ofNat (n / 256), UInt8.ofNat (n % 256), UInt8.ofNat k].toArray⟩ : ByteArray) = ⟨(headI k n).toArray⟩) := app_bytes _ _
  have ht : (⟨[UInt8.ofNat (n / 256), UInt8.ofNat (n % 256), UInt8.ofNat k].toArray⟩ : ByteArray).size = 3 := list_size _
  generalize (⟨(headI k n).toArray⟩ : ByteArray) = r at *
  generalize (⟨[UInt8.ofNat (n / 256), UInt8.ofNat (n % 256), UInt8.ofNat k].toArray⟩ : ByteArray) = t at *
  go_enter Tryz.func20, Tryz.ntmps20
  go_wp2
  go_ret
  exact ⟨by rw [← HA.out]; rfl, (Below.refl _ _).alloc (Nat.le_refl _) _⟩
theorem run_app0 (b : Nat) (w : World) : (Builtin.append_ #[25, 25] 25 #[.slice (some ⟨b, 0, none⟩) 0 4096, .slice none 0 0]).run Tryz.prog w = .ok (.slice (some ⟨b, 0, none⟩) 0 4096) w := by
  obtain ⟨i0, hi, hz0, hz1, hz2⟩ := info_parts info5
  simp [Builtin.append_, run_underlying Tryz.underlying25, Builtin.lenOf, Builtin.firstCells, sizeOf, typeInfo, hi]
  rfl
theorem step_append_run {P : Program} {ops : Array Oper} {o : Oper} {a : Act} {w : World} {K : Act → World → Prop} {Q : Exit → Act → World → Prop} {E : Prop}
    (hg : o.guard = none) (s x : Operand) (t : TypeId) (hop : o.op = Op.call { callee := Callee.builtin Builtin.append, args := #[s, x], argTypes := #[t, t] })
    {v u r : Value} {w' : World} (hs : a.eval s = v) (hx : a.eval x = u) (hr : (Builtin.append_ #[t, t] o.type #[v, u]).run P w = .ok r w') (hK : K (a.put o.dst r) w') :
    if Region.wanted o (yielded ops a.tmps) = true then Oper.wp P o a w K Q else E := by
  have hw : Region.wanted o (yielded ops a.tmps) = true := by simp [Region.wanted, hg]
  rw [if_pos hw]
  unfold Oper.wp
  simp [execOp, hop, resolve, invoke, builtin, hs, hx, hr, Result.andThen]
  exact hK
/-- A broken stream, whatever slice of nothing it keeps. -/
structure BkAt (w : World) (p : Nat) (ad : Option Addr) (cp m : Nat) : Prop where
  row : w.heap[p]? = some (.cells #[.bool true, .slice ad 0 cp, .int .i64 3, .int .u8 1, .int .u8 (m : Int)] 70 (0, 0))
theorem FrAt.bk {w : World} {p b m : Nat} (h : FrAt w p b ⟨[], m⟩) (hm : m ≠ 0) : BkAt w p none 0 m := ⟨by
  have e := h.row
  simp only [wv, vaI, vcI, if_neg hm] at e
  exact e⟩
end Go.Proofs.YtfhapjhkjdifjaaGreatDoor.Fr
namespace Go.Proofs.YtfhapjhkjdifjaaGreatDoor.Fr
open Go.RowKit
set_option maxRecDepth 100000 in
set_option maxHeartbeats 800000 in
theorem put_broken (p m cp : Nat) (ad : Option Addr) (c : ByteArray) (w : World) (h : BkAt w p ad cp m) :
    Calls Tryz.prog 10 #[.pointer (some ⟨p, 0, none⟩), .string c] w fun e w' => e = .returned (.tuple #[.slice none 0 0, .agg #[.int .i64 3, .int .u8 1, .int .u8 (m : Int)]]) ∧ Below w.heap.size w w' := by
  have hpl : p < w.heap.size := (Array.getElem?_eq_some_iff.mp h.row).1
  have hb1 : Below w.heap.size w (w.alloc (.cells #[.int .i64 0, .int .u8 0, .int .u8 0] 37)) := (Below.refl _ _).alloc (Nat.le_refl _) _
  have HB1 : Hid (Below w.heap.size w (w.alloc (.cells #[.int .i64 0, .int .u8 0, .int .u8 0] 37))) := hb1
  have HF : Hid ((w.alloc (.cells #[.int .i64 0, .int .u8 0, .int .u8 0] 37)).heap[p]? = _) := (hb1.block p hpl).trans h.row
  have hr : (w.alloc (.cells #[.int .i64 0, .int .u8 0, .int .u8 0] 37)).heap[w.heap.size]? = some (.cells #[.int .i64 0, .int .u8 0, .int .u8 0] 37 (0, 0)) := hp_new rfl
  have HR : Hid ((w.alloc (.cells #[.int .i64 0, .int .u8 0, .int .u8 0] 37)).heap[w.heap.size]? = some (.cells #[.int .i64 0, .int .u8 0, .int .u8 0] 37 (0, 0))) := hr
  clear h hb1 hr
  go_enter Tryz.func10, Tryz.ntmps10
  go_wp2_with fail
  generalize w.alloc (.cells #[.int .i64 0, .int .u8 0, .int .u8 0] 37) = W at *
  refine (there_yes p W (cl_row HF.out rfl)).mono ?_
  rintro e w1 ⟨rfl, hw1⟩
  obtain rfl : W = w1 := hw1.symm
  clear hw1
  go_wp2
  go_loopw [1, 6] (fun t u wr => t = .string c ∧ u = .slice none 0 0 ∧ W = wr) (fun _ _ _ => 0)
  case atStart => exact ⟨rfl, rfl, rfl⟩
  case round =>
    obtain ⟨rfl, rfl, rfl⟩ := hrel
    cases hne : (c.toList == [])
    · go_wp2_with fail
      refine (broken_any p _ W (cl_row HF.out rfl)).mono ?_
      rintro e w2 ⟨rfl, hw2⟩
      obtain rfl : W = w2 := hw2.symm
      clear hw2
      go_wp2
      have q2 : W.cell? ⟨p, 2, none⟩ = some (.int .i64 3) := cl_row HF.out rfl
      have q3 : W.cell? ⟨p, 3, none⟩ = some (.int .u8 1) := cl_row HF.out rfl
      have q4 : W.cell? ⟨p, 4, none⟩ = some (.int .u8 (m : Int)) := cl_row HF.out rfl
      have r0 : W.cell? ⟨w.heap.size, 0, none⟩ = some (.int .i64 0) := cl_row HR.out rfl
      have r1 : W.cell? ⟨w.heap.size, 1, none⟩ = some (.int .u8 0) := cl_row HR.out rfl
      have r2 : W.cell? ⟨w.heap.size, 2, none⟩ = some (.int .u8 0) := cl_row HR.out rfl
      have z0 : W.frozen? ⟨w.heap.size, 0, none⟩ = false := fz_row HR.out
      have z1 : W.frozen? ⟨w.heap.size, 1, none⟩ = false := fz_row HR.out
      have z2 : W.frozen? ⟨w.heap.size, 2, none⟩ = false := fz_row HR.out
      go_region
      all_goals go_wp2
      all_goals refine bodyPost_ret (v := .tuple #[.slice none 0 0, .agg #[.int .i64 3, .int .u8 1, .int .u8 (m : Int)]]) (by simp [results, Tryz.results10, go_sem, r0, r1, r2]) rfl ?_
      all_goals exact ⟨rfl, (((below_drewN HB1.out 1).setCell (p := ⟨w.heap.size, 0, none⟩) (Nat.le_refl _) _).setCell (p := ⟨w.heap.size, 1, none⟩) (Nat.le_refl _) _).setCell (p := ⟨w.heap.size, 2, none⟩) (Nat.le_refl _) _⟩
    · go_wp2
      have q2 : W.cell? ⟨p, 2, none⟩ = some (.int .i64 3) := cl_row HF.out rfl
      have q3 : W.cell? ⟨p, 3, none⟩ = some (.int .u8 1) := cl_row HF.out rfl
      have q4 : W.cell? ⟨p, 4, none⟩ = some (.int .u8 (m : Int)) := cl_row HF.out rfl
      have r0 : W.cell? ⟨w.heap.size, 0, none⟩ = some (.int .i64 0) := cl_row HR.out rfl
      have r1 : W.cell? ⟨w.heap.size, 1, none⟩ = some (.int .u8 0) := cl_row HR.out rfl
      have r2 : W.cell? ⟨w.heap.size, 2, none⟩ = some (.int .u8 0) := cl_row HR.out rfl
      have z0 : W.frozen? ⟨w.heap.size, 0, none⟩ = false := fz_row HR.out
      have z1 : W.frozen? ⟨w.heap.size, 1, none⟩ = false := fz_row HR.out
      have z2 : W.frozen? ⟨w.heap.size, 2, none⟩ = false := fz_row HR.out
      go_region
      all_goals go_wp2
      all_goals refine bodyPost_ret (v := .tuple #[.slice none 0 0, .agg #[.int .i64 3, .int .u8 1, .int .u8 (m : Int)]]) (by simp [results, Tryz.results10, go_sem, r0, r1, r2]) rfl ?_
      all_goals exact ⟨rfl, (((below_drewN HB1.out 1).setCell (p := ⟨w.heap.size, 0, none⟩) (Nat.le_refl _) _).setCell (p := ⟨w.heap.size, 1, none⟩) (Nat.le_refl _) _).setCell (p := ⟨w.heap.size, 2, none⟩) (Nat.le_refl _) _⟩

/-- What Make answers. -/
def makeI (k : Int) (bd : List UInt8) : List UInt8 × Int :=
  if 1 ≤ k ∧ k ≤ 5 then (if 4096 < 19 + bd.length then ([], 3) else if fitI k ((19 + bd.length : Nat) : Int) = true then (headI k.toNat (19 + bd.length) ++ bd, 0) else ([], 2)) else ([], 2)
def mkAns (k : Int) (bd : List UInt8) : Ending := .returned (.tuple #[.string ⟨(makeI k bd).1.toArray⟩, .int .i64 (makeI k bd).2])
set_option maxRecDepth 100000 in
set_option maxHeartbeats 800000 in
theorem make_any (k : Int) (bd : List UInt8) (w : World) (hs : SzAt w) (hl : bd.length ≤ 1000000) :
    Calls Tryz.prog 6 #[.agg #[.int .i64 k, .string ⟨bd.toArray⟩]] w fun e w' => e = mkAns k bd ∧ Below w.heap.size w w' := by
  have hb1 : Below w.heap.size w (w.alloc (.cells #[.int .i64 k, .string ⟨bd.toArray⟩] 35)) := (Below.refl _ _).alloc (Nat.le_refl _) _
  have HZ : Hid (SzAt (w.alloc (.cells #[.int .i64 k, .string ⟨bd.toArray⟩] 35))) := hs.below hb1
  have HB : Hid (Below w.heap.size w (w.alloc (.cells #[.int .i64 k, .string ⟨bd.toArray⟩] 35))) := hb1
  have hr : (w.alloc (.cells #[.int .i64 k, .string ⟨bd.toArray⟩] 35)).heap[w.heap.size]? = some (.cells #[.int .i64 k, .string ⟨bd.toArray⟩] 35 (0, 0)) := hp_new rfl
  have c0 : (w.alloc (.cells #[.int .i64 k, .string ⟨bd.toArray⟩] 35)).cell? ⟨w.heap.size, 0, none⟩ = some (.int .i64 k) := cl_row hr rfl
  have c1 : (w.alloc (.cells #[.int .i64 k, .string ⟨bd.toArray⟩] 35)).cell? ⟨w.heap.size, 1, none⟩ = some (.string ⟨bd.toArray⟩) := cl_row hr rfl
  have hsz : (⟨bd.toArray⟩ : ByteArray).size = bd.length := list_size bd
  have hq : w.heap.size < (w.alloc (.cells #[.int .i64 k, .string ⟨bd.toArray⟩] 35)).heap.size := by simp
  generalize hW : w.alloc (.cells #[.int .i64 k, .string ⟨bd.toArray⟩] 35) = W at *
  generalize hR : mkAns k bd = r at *
  unfold mkAns makeI at hR
  have hl2 : (bd.length : Int) ≤ 1000000 := by omega
  clear hs hb1 hr
  by_cases hk : 1 ≤ k ∧ k ≤ 5
  · rw [if_pos hk] at hR
    have hkk : (decide (1 ≤ k) && decide (k ≤ 5)) = true := by simp [hk.1, hk.2]
    by_cases hm : 4096 < 19 + bd.length
    · rw [if_pos hm] at hR
      have hm2 : (4096 : Int) < 19 + bd.length := by omega
      have HR : Hid (_ = r) := hR
      clear hR
      go_enter Tryz.func6, Tryz.ntmps6
      go_wp2_with fail
      refine (isKind_any k W).mono ?_
      rintro e w1 ⟨rfl, hw1⟩
      obtain rfl : W = w1 := hw1.symm
      clear hw1
      simp only [hkk]
      go_wp2
      go_ret2
      exact ⟨HR.out, HB.out⟩
    · rw [if_neg hm] at hR
      have hm2 : (19 : Int) + bd.length ≤ 4096 := by omega
      have KF : Hid (_ : Prop) := fits_any k ((19 + bd.length : Nat) : Int) W HZ.out hk.1 hk.2
      cases hf : fitI k ((19 + bd.length : Nat) : Int)
      · rw [hf] at KF
        rw [if_neg (by rw [hf]; decide)] at hR
        have HR : Hid (_ = r) := hR
        clear hR
        go_enter Tryz.func6, Tryz.ntmps6
        go_wp2_with fail
        refine (isKind_any k W).mono ?_
        rintro e w1 ⟨rfl, hw1⟩
        obtain rfl : W = w1 := hw1.symm
        clear hw1
        simp only [hkk]
        go_wp2_with fail
        refine Calls.mono KF.out ?_
        rintro e w1 ⟨rfl, hw1⟩
        obtain rfl : W = w1 := hw1.symm
        clear hw1
        go_wp2
        go_ret2
        exact ⟨HR.out, HB.out⟩
      · rw [hf] at KF
        rw [if_pos hf] at hR
        obtain ⟨kn, rfl⟩ := Int.eq_ofNat_of_zero_le (show 0 ≤ k by omega)
        have KH : Hid (∀ w', Calls Tryz.prog 20 #[.int .i64 (kn : Int), .int .i64 ((19 + bd.length : Nat) : Int)] w' fun e w'' => e = .returned (.string ⟨(headI kn (19 + bd.length)).toArray⟩) ∧ Below w'.heap.size w' w'') := fun w' => head_any kn (19 + bd.length) w' (by omega) (by omega)
        have hh : (⟨(headI kn (19 + bd.length)).toArray⟩ : ByteArray).size = 19 := by rw [list_size]; rfl
        have ha := app_bytes (headI kn (19 + bd.length)) bd
        have HR : Hid (_ = r) := hR
        rw [Int.toNat_natCast] at HR
        generalize (⟨(headI kn (19 + bd.length)).toArray⟩ : ByteArray) = hd at *
        clear hR hf
        go_enter Tryz.func6, Tryz.ntmps6
        go_wp2_with fail
        refine (isKind_any kn W).mono ?_
        rintro e w1 ⟨rfl, hw1⟩
        obtain rfl : W = w1 := hw1.symm
        clear hw1
        simp only [hkk]
        go_wp2_with fail
        refine Calls.mono KF.out ?_
        rintro e w1 ⟨rfl, hw1⟩
        obtain rfl : W = w1 := hw1.symm
        clear hw1
        go_wp2
        go_region_held (fun w' => w'.cell? ⟨w.heap.size, 0, none⟩ = some (.int .i64 (kn : Int)) ∧ w'.cell? ⟨w.heap.size, 1, none⟩ = some (.string ⟨bd.toArray⟩)) (go_keep)
          (first | (go_at_call 20; refine Calls.mono (KH.out _) ?_; rintro e w5 ⟨rfl, hb5⟩; have q0 := (hb5.cell (p := ⟨w.heap.size, 0, none⟩) hq).trans c0; have q1 := (hb5.cell (p := ⟨w.heap.size, 1, none⟩) hq).trans c1))
        all_goals go_wp2
        all_goals go_ret2
        all_goals exact ⟨HR.out, (below_drewN HB.out 1).trans (hb5.mono HB.out.size)⟩
  · rw [if_neg hk] at hR
    have hkk : (decide (1 ≤ k) && decide (k ≤ 5)) = false := by rw [Bool.and_eq_false_iff, decide_eq_false_iff_not, decide_eq_false_iff_not]; omega
    have HR : Hid (_ = r) := hR
    clear hR
    go_enter Tryz.func6, Tryz.ntmps6
    go_wp2_with fail
    refine (isKind_any k W).mono ?_
    rintro e w1 ⟨rfl, hw1⟩
    obtain rfl : W = w1 := hw1.symm
    clear hw1
    simp only [hkk]
    go_wp2
    go_ret2
    exact ⟨HR.out, HB.out⟩
end Go.Proofs.YtfhapjhkjdifjaaGreatDoor.Fr
namespace Go.Proofs.YtfhapjhkjdifjaaGreatDoor.Fr
open Go.RowKit
def k5 : List UInt8 := [255, 255, 255, 255, 255]
def k14 : List UInt8 := [255, 255, 255, 255, 255, 255, 255, 255, 255, 255, 255, 0, 19, 4]
def keepL : List UInt8 := [255, 255, 255, 255, 255, 255, 255, 255, 255, 255, 255, 255, 255, 255, 255, 255, 0, 19, 4]
theorem run_k5 : runI st0 k5 = (⟨k5, 0⟩, []) := by kernel_rfl
theorem run_k14 : runI ⟨k5, 0⟩ k14 = (st0, [⟨4, []⟩]) := by kernel_rfl
theorem make_keep : mkAns 4 [] = .returned (.tuple #[.string ⟨keepL.toArray⟩, .int .i64 0]) := by kernel_rfl
theorem put_fine (p b : Nat) (s s' : St) (c : List UInt8) (R : List Fm) (w : World) (h : FrAt w p b s) (hs : SzAt w) (hp0 : 0 < p) (hb0 : 0 < b) (hl : c.length ≤ 1000000) (hr : runI s c = (s', R)) (h0 : s'.sub = 0) :
    Calls Tryz.prog 10 #[.pointer (some ⟨p, 0, none⟩), .string ⟨c.toArray⟩] w fun e w' => ∃ ad cp, e = .returned (.tuple #[.slice ad R.length cp, .agg #[.int .i64 0, .int .u8 0, .int .u8 0]]) ∧ OwnF w' w.heap.size (.slice ad R.length cp) R ∧ FrAt w' p b s' ∧ Beside p b w w' := by
  have k := put_any p b s c w h hs hp0 hb0 hl
  rw [hr] at k
  refine k.mono ?_
  rintro e w' ⟨v, rfl, ho, hf, hb⟩
  obtain ⟨ad, cp, rfl⟩ := slice_of_owns ho
  refine ⟨ad, cp, ?_, ho, hf, hb⟩
  show Ending.returned (.tuple #[_, verV s'.sub]) = _
  rw [h0]
  rfl
theorem put_wrong (p b : Nat) (s s' : St) (c : List UInt8) (R : List Fm) (w : World) (h : FrAt w p b s) (hs : SzAt w) (hp0 : 0 < p) (hb0 : 0 < b) (hl : c.length ≤ 1000000) (hr : runI s c = (s', R)) (h0 : s'.sub ≠ 0) :
    Calls Tryz.prog 10 #[.pointer (some ⟨p, 0, none⟩), .string ⟨c.toArray⟩] w fun e w' => ∃ ad cp, e = .returned (.tuple #[.slice ad R.length cp, .agg #[.int .i64 3, .int .u8 1, .int .u8 (s'.sub : Int)]]) ∧ OwnF w' w.heap.size (.slice ad R.length cp) R ∧ FrAt w' p b s' ∧ Beside p b w w' := by
  have k := put_any p b s c w h hs hp0 hb0 hl
  rw [hr] at k
  refine k.mono ?_
  rintro e w' ⟨v, rfl, ho, hf, hb⟩
  obtain ⟨ad, cp, rfl⟩ := slice_of_owns ho
  refine ⟨ad, cp, ?_, ho, hf, hb⟩
  show Ending.returned (.tuple #[_, verV s'.sub]) = _
  simp only [verV, vaI, vcI, if_neg h0]
end Go.Proofs.YtfhapjhkjdifjaaGreatDoor.Fr
