/-
  judge, whole, cut.
-/
import Derived.Test.YtlinoklgchfedaaDoorB4
namespace Go.Proofs.YtlinoklgchfedaaDoor
open Go.RowKit
theorem WtAt.below {w w' : World} {p b B : Nat} {x : List UInt8} (h : WtAt w p b x) (hb : Below B w w') (hp : p < B) (hq : b < B) : WtAt w' p b x :=
  ⟨(hb.block p hp).trans h.row, h.buf.same (hb.block b hq), h.ne⟩
theorem WtAt.lt {w : World} {p b : Nat} {x : List UInt8} (h : WtAt w p b x) : p < w.heap.size := (Array.getElem?_eq_some_iff.mp h.row).1
theorem WtAt.c1 {w : World} {p b : Nat} {x : List UInt8} (h : WtAt w p b x) : w.cell? ⟨p, 1, none⟩ = some (.slice (some ⟨b, 0, none⟩) x.length 4096) := cl_row h.row rfl
/-- A broken stream. -/
structure BrAt (w : World) (p b : Nat) (s : Nat) : Prop where
  row : w.heap[p]? = some (.cells #[.bool true, .slice none 0 0, .int .i64 3, .int .u8 1, .int .u8 (s : Int)] 50 (0, 0))
  buf : BufAt w b []
  ne : p ≠ b
theorem set3 {w : World} {p : Nat} {v0 v1 v2 v3 v4 a b c : Value} {t : TypeId} (h : w.heap[p]? = some (.cells #[v0, v1, v2, v3, v4] t (0, 0))) : (((w.setCell ⟨p, 2, none⟩ a).setCell ⟨p, 3, none⟩ b).setCell ⟨p, 4, none⟩ c).heap[p]? = some (.cells #[v0, v1, a, b, c] t (0, 0)) :=
  heap_setCell_same _ p 4 _ t c (heap_setCell_same _ p 3 _ t b (heap_setCell_same w p 2 _ t a h))
theorem Beside.set3 {p b : Nat} (w : World) (x y z : Value) : Beside p b w (((w.setCell ⟨p, 2, none⟩ x).setCell ⟨p, 3, none⟩ y).setCell ⟨p, 4, none⟩ z) :=
  ((Beside.setp w 2 x).trans (Beside.setp _ 3 y)).trans (Beside.setp _ 4 z)
theorem buf_set3 {w : World} {p b : Nat} {l : List UInt8} (h : BufAt w b l) (hn : p ≠ b) (x y z : Value) : BufAt (((w.setCell ⟨p, 2, none⟩ x).setCell ⟨p, 3, none⟩ y).setCell ⟨p, 4, none⟩ z) b l := by
  have e (W : World) (i : Nat) (v : Value) : (W.setCell ⟨p, i, none⟩ v).heap[b]? = W.heap[b]? := Below.heap_setCell W ⟨p, i, none⟩ v b (fun e => hn e.symm)
  exact h.same (by rw [e, e, e])
set_option maxHeartbeats 800000 in
theorem judge_fine (p b : Nat) (x : List UInt8) (w : World) (h : WtAt w p b x) (hl : 19 ≤ x.length) (hs : SzAt w) (hw : wrongI x = 0) :
    Calls Tryd.prog 21 #[.pointer (some ⟨p, 0, none⟩)] w fun e w' => e = .returned (.tuple #[]) ∧ WtAt w' p b x ∧ Beside p b w w' := by
  have c1 := h.c1
  have KW : Hid (Calls Tryd.prog 31 #[.slice (some ⟨b, 0, none⟩) 19 19] w fun e w' => e = .returned (.agg #[.int .i64 0, .int .u8 0, .int .u8 0]) ∧ Below w.heap.size w w') := by
    have k := wrongWith_any b x w h.buf hl hs
    rw [hw] at k
    exact k
  have HH : Hid (WtAt w p b x) := h
  have hl2 : (19 : Int) ≤ x.length := by omega
  clear h hs hw
  go_enter Tryd.func21, Tryd.ntmps21
  go_wp2_with fail
  refine Calls.mono KW.out ?_
  rintro e w1 ⟨rfl, hb1⟩
  have H1 : Hid (WtAt w1 p b x) := HH.out.below hb1 HH.out.lt HH.out.buf.lt
  have HB1 : Hid (Beside p b w w1) := Beside.of_below hb1 (Nat.le_refl _)
  have q2 : w1.cell? ⟨p, 2, none⟩ = some (.int .i64 0) := cl_row H1.out.row rfl
  have q3 : w1.cell? ⟨p, 3, none⟩ = some (.int .u8 0) := cl_row H1.out.row rfl
  have q4 : w1.cell? ⟨p, 4, none⟩ = some (.int .u8 0) := cl_row H1.out.row rfl
  have f2 : w1.frozen? ⟨p, 2, none⟩ = false := fz_row H1.out.row
  have f3 : w1.frozen? ⟨p, 3, none⟩ = false := fz_row H1.out.row
  have f4 : w1.frozen? ⟨p, 4, none⟩ = false := fz_row H1.out.row
  clear hb1 KW HH c1
  have HW : Hid ((((w1.setCell ⟨p, 2, none⟩ (.int .i64 0)).setCell ⟨p, 3, none⟩ (.int .u8 0)).setCell ⟨p, 4, none⟩ (.int .u8 0)).heap[p]? = _) := set3 H1.out.row
  have HU : Hid (BufAt (((w1.setCell ⟨p, 2, none⟩ (.int .i64 0)).setCell ⟨p, 3, none⟩ (.int .u8 0)).setCell ⟨p, 4, none⟩ (.int .u8 0)) b x) := buf_set3 H1.out.buf H1.out.ne _ _ _
  have HNE : Hid (p ≠ b) := H1.out.ne
  have HB2 : Hid (Beside p b w (((w1.setCell ⟨p, 2, none⟩ (.int .i64 0)).setCell ⟨p, 3, none⟩ (.int .u8 0)).setCell ⟨p, 4, none⟩ (.int .u8 0))) := HB1.out.trans (Beside.set3 w1 _ _ _)
  go_wp2_with fail
  generalize ((w1.setCell ⟨p, 2, none⟩ (.int .i64 0)).setCell ⟨p, 3, none⟩ (.int .u8 0)).setCell ⟨p, 4, none⟩ (.int .u8 0) = W at *
  clear q2 q3 q4 f2 f3 f4 H1 HB1
  refine (broken_any p _ W (cl_row HW.out rfl)).mono ?_
  rintro e w2 ⟨rfl, hw2⟩
  obtain rfl : W = w2 := hw2.symm
  clear hw2
  go_wp2
  go_end0
  exact ⟨rfl, ⟨HW.out, HU.out, HNE.out⟩, HB2.out⟩
set_option maxHeartbeats 800000 in
theorem judge_wrong (p b : Nat) (x : List UInt8) (w : World) (h : WtAt w p b x) (hl : 19 ≤ x.length) (hs : SzAt w) (s : Nat) (hw : wrongI x = s) (h0 : s ≠ 0) :
    Calls Tryd.prog 21 #[.pointer (some ⟨p, 0, none⟩)] w fun e w' => e = .returned (.tuple #[]) ∧ BrAt w' p b s ∧ Beside p b w w' := by
  have c1 := h.c1
  have KW : Hid (Calls Tryd.prog 31 #[.slice (some ⟨b, 0, none⟩) 19 19] w fun e w' => e = .returned (.agg #[.int .i64 3, .int .u8 1, .int .u8 (s : Int)]) ∧ Below w.heap.size w w') := by
    have k := wrongWith_any b x w h.buf hl hs
    rw [hw] at k
    simp only [verV, vaI, vcI, if_neg h0] at k
    exact k
  have HH : Hid (WtAt w p b x) := h
  have hl2 : (19 : Int) ≤ x.length := by omega
  clear h hs hw
  go_enter Tryd.func21, Tryd.ntmps21
  go_wp2_with fail
  refine Calls.mono KW.out ?_
  rintro e w1 ⟨rfl, hb1⟩
  have H1 : Hid (WtAt w1 p b x) := HH.out.below hb1 HH.out.lt HH.out.buf.lt
  have HB1 : Hid (Beside p b w w1) := Beside.of_below hb1 (Nat.le_refl _)
  have q2 : w1.cell? ⟨p, 2, none⟩ = some (.int .i64 0) := cl_row H1.out.row rfl
  have q3 : w1.cell? ⟨p, 3, none⟩ = some (.int .u8 0) := cl_row H1.out.row rfl
  have q4 : w1.cell? ⟨p, 4, none⟩ = some (.int .u8 0) := cl_row H1.out.row rfl
  have f2 : w1.frozen? ⟨p, 2, none⟩ = false := fz_row H1.out.row
  have f3 : w1.frozen? ⟨p, 3, none⟩ = false := fz_row H1.out.row
  have f4 : w1.frozen? ⟨p, 4, none⟩ = false := fz_row H1.out.row
  clear hb1 KW HH c1
  have HW : Hid ((((w1.setCell ⟨p, 2, none⟩ (.int .i64 3)).setCell ⟨p, 3, none⟩ (.int .u8 1)).setCell ⟨p, 4, none⟩ (.int .u8 (s : Int))).heap[p]? = _) := set3 H1.out.row
  have HU : Hid (BufAt (((w1.setCell ⟨p, 2, none⟩ (.int .i64 3)).setCell ⟨p, 3, none⟩ (.int .u8 1)).setCell ⟨p, 4, none⟩ (.int .u8 (s : Int))) b x) := buf_set3 H1.out.buf H1.out.ne _ _ _
  have HNE : Hid (p ≠ b) := H1.out.ne
  have HB2 : Hid (Beside p b w (((w1.setCell ⟨p, 2, none⟩ (.int .i64 3)).setCell ⟨p, 3, none⟩ (.int .u8 1)).setCell ⟨p, 4, none⟩ (.int .u8 (s : Int)))) := HB1.out.trans (Beside.set3 w1 _ _ _)
  go_wp2_with fail
  generalize ((w1.setCell ⟨p, 2, none⟩ (.int .i64 3)).setCell ⟨p, 3, none⟩ (.int .u8 1)).setCell ⟨p, 4, none⟩ (.int .u8 (s : Int)) = W at *
  clear q2 q3 q4 f2 f3 f4 H1 HB1
  refine (broken_any p _ W (cl_row HW.out rfl)).mono ?_
  rintro e w2 ⟨rfl, hw2⟩
  obtain rfl : W = w2 := hw2.symm
  clear hw2
  have q1 : W.cell? ⟨p, 1, none⟩ = some (.slice (some ⟨b, 0, none⟩) x.length 4096) := cl_row HW.out rfl
  have f1 : W.frozen? ⟨p, 1, none⟩ = false := fz_row HW.out
  go_wp2
  go_end0
  exact ⟨rfl, ⟨heap_setCell_same W p 1 _ 50 _ HW.out, (HU.out.cut 0).same (Below.heap_setCell W ⟨p, 1, none⟩ _ b (fun e => HNE.out e.symm)), HNE.out⟩, HB2.out.trans (Beside.setp W 1 _)⟩
theorem whole_no (p n c : Nat) (ad : Option Addr) (w : World) (h : w.cell? ⟨p, 1, none⟩ = some (.slice ad n c)) (hn : n < 19) :
    Calls Tryd.prog 22 #[.pointer (some ⟨p, 0, none⟩)] w fun e w' => e = .returned (.bool false) ∧ ∃ q, w' = w.drewN q := by
  have hn2 : decide ((19 : Int) ≤ n) = false := by simp; omega
  go_enter Tryd.func22, Tryd.ntmps22
  go_wp2
  go_quiet (fail)
  go_wp2
  go_ret
  exact ⟨rfl, _, rfl⟩
theorem whole_any (p b : Nat) (x : List UInt8) (w : World) (h : WtAt w p b x) (hl : 19 ≤ x.length) :
    Calls Tryd.prog 22 #[.pointer (some ⟨p, 0, none⟩)] w fun e w' => e = .returned (.bool ((x.length : Int) == lenI x)) ∧ ∃ q, w' = w.drewN q := by
  have c1 := h.c1
  have KL : Hid (∀ q, Calls Tryd.prog 32 #[.slice (some ⟨b, 0, none⟩) x.length 4096] (w.drewN q) fun e w' => e = .returned (.int .i64 (lenI x : Int)) ∧ ∃ m, w' = (w.drewN q).drewN m) := fun q => lengthOf_buf b 4096 x (w.drewN q) ⟨h.buf.row⟩ x.length (by omega) (Nat.le_refl _)
  have hl2 : (19 : Int) ≤ x.length := by omega
  clear h
  go_enter Tryd.func22, Tryd.ntmps22
  go_wp2
  go_quiet ((go_at_call 32; refine Calls.quiet_of (KL.out _)))
  go_wp2
  go_ret
  exact ⟨rfl, _, rfl⟩
set_option maxRecDepth 100000 in
set_option maxHeartbeats 800000 in
theorem cut_more (p b : Nat) (x : List UInt8) (w : World) (h : WtAt w p b x) (hl : 19 < x.length) (hm : x.length ≤ 4096) :
    Calls Tryd.prog 23 #[.pointer (some ⟨p, 0, none⟩)] w fun e w' => e = .returned (.agg #[.int .i64 (kindI x : Int), .string ⟨(x.drop 19).toArray⟩]) ∧ WtAt w' p b [] ∧ Beside p b w w' := by
  have HB : Hid (Below w.heap.size w (w.alloc (.cells #[.int .i64 0, .string ⟨#[]⟩] 37))) := (Below.refl _ _).alloc (Nat.le_refl _) _
  have HH : Hid (WtAt (w.alloc (.cells #[.int .i64 0, .string ⟨#[]⟩] 37)) p b x) := h.below HB.out h.lt h.buf.lt
  have HP : Hid (p < w.heap.size ∧ b < w.heap.size) := ⟨h.lt, h.buf.lt⟩
  have hr : (w.alloc (.cells #[.int .i64 0, .string ⟨#[]⟩] 37)).heap[w.heap.size]? = some (.cells #[.int .i64 0, .string ⟨#[]⟩] 37 (0, 0)) := hp_new rfl
  have hsz : (w.alloc (.cells #[.int .i64 0, .string ⟨#[]⟩] 37)).heap.size = w.heap.size + 1 := by simp
  generalize hW : w.alloc (.cells #[.int .i64 0, .string ⟨#[]⟩] 37) = W at *
  have hW' : w.alloc (.cells #[.int .i64 0, .string ⟨#[]⟩] 37) = W := hW
  have HR : Hid (_ ∧ _) := ⟨hr, hsz⟩
  have c1 := HH.out.c1
  have c18 : W.cell? ⟨b, 18, none⟩ = some (.int .u8 (kindI x : Int)) := HH.out.buf.cell 18 (by omega)
  have hl2 : (19 : Int) ≤ x.length := by omega
  have hl3 : (18 : Int) < x.length := by omega
  have hl4 : (19 : Int) < x.length := by omega
  have hl5 : ¬ x.length = 19 := by omega
  have hm2 : (x.length : Int) ≤ 4096 := by omega
  have v1 : (convert 43 9 (.slice (some ⟨b, 19, none⟩) (x.length - 19) (x.length - 19))).run Tryd.prog W.drew = .ok (.string ⟨(x.drop 19).toArray⟩) W.drew := conv_tail (⟨HH.out.buf.row⟩ : BufAt W.drew b x) _
  have v2 : ∀ o, (convert 43 9 (.slice (some ⟨b, 19, none⟩) (x.length - 19) (x.length - 19))).run Tryd.prog (W.alloc o).drew = .ok (.string ⟨(x.drop 19).toArray⟩) (W.alloc o).drew := fun o => conv_tail ((HH.out.buf).same (w' := (W.alloc o).drew) (Below.heap_alloc W o b HH.out.buf.lt)) _
  have hkw : IntKind.i64.wrap (kindI x : Int) = (kindI x : Int) := by have := UInt8.toNat_lt (x.getD 18 0); rw [IntKind.wrap_i64]; unfold kindI; omega
  have n1 := World.new_ne W _ c1
  have n2 := World.new_ne W _ c18
  clear h hW hr hsz
  go_enter Tryd.func23, Tryd.ntmps23
  go_wp2
  go_region_held (fun w' => w'.cell? ⟨p, 1, none⟩ = some (.slice (some ⟨b, 0, none⟩) x.length 4096) ∧ w'.cell? ⟨b, 18, none⟩ = some (.int .u8 (kindI x : Int)) ∧ (convert 43 9 (.slice (some ⟨b, 19, none⟩) (x.length - 19) (x.length - 19))).run Tryd.prog w' = .ok (.string ⟨(x.drop 19).toArray⟩) w') (first | (refine ⟨?_, ?_, ?_⟩ <;> first | exact v1 | exact v2 _ | go_keep)) (fail)
  all_goals try (exfalso; omega)
  rename_i hHeld
  have HE : Hid (((W.alloc (.cells #[.int .i64 (kindI x : Int), .string ⟨(x.drop 19).toArray⟩] 37)).drew).heap[W.heap.size]? = some (.cells #[.int .i64 (kindI x : Int), .string ⟨(x.drop 19).toArray⟩] 37 (0, 0))) := hp_new (W := W) rfl
  have HF : Hid (((W.alloc (.cells #[.int .i64 (kindI x : Int), .string ⟨(x.drop 19).toArray⟩] 37)).drew).heap[w.heap.size]? = some (.cells #[.int .i64 0, .string ⟨#[]⟩] 37 (0, 0))) := hp_up (W := W) HR.out.1
  have HV : Hid (Below w.heap.size w (W.alloc (.cells #[.int .i64 (kindI x : Int), .string ⟨(x.drop 19).toArray⟩] 37)).drew) := below_drewN (HB.out.alloc HB.out.size _) 1
  have HM : Hid (WtAt (W.alloc (.cells #[.int .i64 (kindI x : Int), .string ⟨(x.drop 19).toArray⟩] 37)).drew p b x) := HH.out.below (B := W.heap.size) (below_drewN ((Below.refl _ _).alloc (Nat.le_refl _) _) 1) HH.out.lt HH.out.buf.lt
  have HS : Hid (W.heap.size = w.heap.size + 1) := HR.out.2
  clear hHeld v1 v2 n1 n2 hW' HB HH HR c1 c18
  generalize (W.alloc (.cells #[.int .i64 (kindI x : Int), .string ⟨(x.drop 19).toArray⟩] 37)).drew = V at *
  generalize hq : W.heap.size = q at *
  have g1 : V.cell? ⟨p, 1, none⟩ = some (.slice (some ⟨b, 0, none⟩) x.length 4096) := HM.out.c1
  have f1 : V.frozen? ⟨p, 1, none⟩ = false := fz_row HM.out.row
  have HU : Hid (WtAt (V.setCell ⟨p, 1, none⟩ (.slice (some ⟨b, 0, none⟩) 0 4096)) p b []) := ⟨heap_setCell_same V p 1 _ 50 _ HM.out.row, (HM.out.buf.cut 0).same (Below.heap_setCell V ⟨p, 1, none⟩ _ b (fun e => HM.out.ne e.symm)), HM.out.ne⟩
  have HX : Hid (Beside p b w (V.setCell ⟨p, 1, none⟩ (.slice (some ⟨b, 0, none⟩) 0 4096))) := (Beside.of_below HV.out (Nat.le_refl _)).trans (Beside.setp V 1 _)
  have HE2 : Hid ((V.setCell ⟨p, 1, none⟩ (.slice (some ⟨b, 0, none⟩) 0 4096)).heap[q]? = _) := (Below.heap_setCell V ⟨p, 1, none⟩ _ q (by have := HP.out.1; have := HS.out; simp; omega)).trans HE.out
  have HF2 : Hid ((V.setCell ⟨p, 1, none⟩ (.slice (some ⟨b, 0, none⟩) 0 4096)).heap[w.heap.size]? = _) := (Below.heap_setCell V ⟨p, 1, none⟩ _ w.heap.size (by have := HP.out.1; simp; omega)).trans HF.out
  generalize hV : V.setCell ⟨p, 1, none⟩ (.slice (some ⟨b, 0, none⟩) 0 4096) = U at *
  have e0 : U.cell? ⟨q, 0, none⟩ = some (.int .i64 (kindI x : Int)) := cl_row HE2.out rfl
  have e1 : U.cell? ⟨q, 1, none⟩ = some (.string ⟨(x.drop 19).toArray⟩) := cl_row HE2.out rfl
  have r0 : U.cell? ⟨w.heap.size, 0, none⟩ = some (.int .i64 0) := cl_row HF2.out rfl
  have r1 : U.cell? ⟨w.heap.size, 1, none⟩ = some (.string ⟨#[]⟩) := cl_row HF2.out rfl
  have z0 : U.frozen? ⟨w.heap.size, 0, none⟩ = false := fz_row HF2.out
  have z1 : U.frozen? ⟨w.heap.size, 1, none⟩ = false := fz_row HF2.out
  clear HE HF HV HM HE2 HF2 hq HS
  go_wp2
  have ha : Below w.heap.size U ((U.setCell ⟨w.heap.size, 0, none⟩ (.int .i64 (kindI x : Int))).setCell ⟨w.heap.size, 1, none⟩ (.string ⟨(x.drop 19).toArray⟩)) := ((Below.refl _ _).setCell (p := ⟨w.heap.size, 0, none⟩) (Nat.le_refl _) _).setCell (p := ⟨w.heap.size, 1, none⟩) (Nat.le_refl _) _
  refine bodyPost_ret (v := .agg #[.int .i64 (kindI x : Int), .string ⟨(x.drop 19).toArray⟩]) (by simp [results, Tryd.results23, go_sem, r0, r1]) rfl ⟨rfl, HU.out.below ha HP.out.1 HP.out.2, HX.out.over ha (Nat.le_refl _)⟩
theorem conv_none (a : Addr) (w : World) : (convert 43 9 (.slice (some a) 0 0)).run Tryd.prog w = .ok (.string ⟨#[]⟩) w :=
  run_convert_bytes_back (P := Tryd.prog) w 43 9 5 a 0 [] Tryd.underlying43 Tryd.underlying5 Tryd.underlying9 (fun j hj => absurd hj (by simp))
set_option maxRecDepth 100000 in
set_option maxHeartbeats 800000 in
theorem cut_bare (p b : Nat) (x : List UInt8) (w : World) (h : WtAt w p b x) (hl : x.length = 19) :
    Calls Tryd.prog 23 #[.pointer (some ⟨p, 0, none⟩)] w fun e w' => e = .returned (.agg #[.int .i64 (kindI x : Int), .string ⟨#[]⟩]) ∧ WtAt w' p b [] ∧ Beside p b w w' := by
  have HB : Hid (Below w.heap.size w (w.alloc (.cells #[.int .i64 0, .string ⟨#[]⟩] 37))) := (Below.refl _ _).alloc (Nat.le_refl _) _
  have HH : Hid (WtAt (w.alloc (.cells #[.int .i64 0, .string ⟨#[]⟩] 37)) p b x) := h.below HB.out h.lt h.buf.lt
  have HP : Hid (p < w.heap.size ∧ b < w.heap.size) := ⟨h.lt, h.buf.lt⟩
  have hr : (w.alloc (.cells #[.int .i64 0, .string ⟨#[]⟩] 37)).heap[w.heap.size]? = some (.cells #[.int .i64 0, .string ⟨#[]⟩] 37 (0, 0)) := hp_new rfl
  have hsz : (w.alloc (.cells #[.int .i64 0, .string ⟨#[]⟩] 37)).heap.size = w.heap.size + 1 := by simp
  generalize hW : w.alloc (.cells #[.int .i64 0, .string ⟨#[]⟩] 37) = W at *
  have hW' : w.alloc (.cells #[.int .i64 0, .string ⟨#[]⟩] 37) = W := hW
  have HR : Hid (_ ∧ _) := ⟨hr, hsz⟩
  have c1 := HH.out.c1
  rw [hl] at c1
  have c18 : W.cell? ⟨b, 18, none⟩ = some (.int .u8 (kindI x : Int)) := HH.out.buf.cell 18 (by omega)
  have v1 : (convert 43 9 (.slice (some ⟨b, 0, none⟩) 0 0)).run Tryd.prog W.drew = .ok (.string ⟨#[]⟩) W.drew := conv_none _ _
  have v2 : ∀ o, (convert 43 9 (.slice (some ⟨b, 0, none⟩) 0 0)).run Tryd.prog (W.alloc o).drew = .ok (.string ⟨#[]⟩) (W.alloc o).drew := fun o => conv_none _ _
  have hkw : IntKind.i64.wrap (kindI x : Int) = (kindI x : Int) := by have := UInt8.toNat_lt (x.getD 18 0); rw [IntKind.wrap_i64]; unfold kindI; omega
  have n1 := World.new_ne W _ c1
  have n2 := World.new_ne W _ c18
  have HL : Hid (x.length = 19) := hl
  clear h hW hr hsz hl
  go_enter Tryd.func23, Tryd.ntmps23
  go_wp2
  go_region_held (fun w' => w'.cell? ⟨p, 1, none⟩ = some (.slice (some ⟨b, 0, none⟩) 19 4096) ∧ w'.cell? ⟨b, 18, none⟩ = some (.int .u8 (kindI x : Int)) ∧ (convert 43 9 (.slice (some ⟨b, 0, none⟩) 0 0)).run Tryd.prog w' = .ok (.string ⟨#[]⟩) w') (first | (refine ⟨?_, ?_, ?_⟩ <;> first | exact v1 | exact v2 _ | go_keep)) (fail)
  rename_i hHeld
  have HE : Hid (((W.alloc (.cells #[.int .i64 (kindI x : Int), .string ⟨#[]⟩] 37)).drew).heap[W.heap.size]? = some (.cells #[.int .i64 (kindI x : Int), .string ⟨#[]⟩] 37 (0, 0))) := hp_new (W := W) rfl
  have HF : Hid (((W.alloc (.cells #[.int .i64 (kindI x : Int), .string ⟨#[]⟩] 37)).drew).heap[w.heap.size]? = some (.cells #[.int .i64 0, .string ⟨#[]⟩] 37 (0, 0))) := hp_up (W := W) HR.out.1
  have HV : Hid (Below w.heap.size w (W.alloc (.cells #[.int .i64 (kindI x : Int), .string ⟨#[]⟩] 37)).drew) := below_drewN (HB.out.alloc HB.out.size _) 1
  have HM : Hid (WtAt (W.alloc (.cells #[.int .i64 (kindI x : Int), .string ⟨#[]⟩] 37)).drew p b x) := HH.out.below (B := W.heap.size) (below_drewN ((Below.refl _ _).alloc (Nat.le_refl _) _) 1) HH.out.lt HH.out.buf.lt
  have HS : Hid (W.heap.size = w.heap.size + 1) := HR.out.2
  clear hHeld v1 v2 n1 n2 hW' HB HH HR c1 c18
  generalize (W.alloc (.cells #[.int .i64 (kindI x : Int), .string ⟨#[]⟩] 37)).drew = V at *
  generalize hq : W.heap.size = q at *
  have g1 : V.cell? ⟨p, 1, none⟩ = some (.slice (some ⟨b, 0, none⟩) 19 4096) := by rw [← HL.out]; exact HM.out.c1
  have f1 : V.frozen? ⟨p, 1, none⟩ = false := fz_row HM.out.row
  have HU : Hid (WtAt (V.setCell ⟨p, 1, none⟩ (.slice (some ⟨b, 0, none⟩) 0 4096)) p b []) := ⟨heap_setCell_same V p 1 _ 50 _ HM.out.row, (HM.out.buf.cut 0).same (Below.heap_setCell V ⟨p, 1, none⟩ _ b (fun e => HM.out.ne e.symm)), HM.out.ne⟩
  have HX : Hid (Beside p b w (V.setCell ⟨p, 1, none⟩ (.slice (some ⟨b, 0, none⟩) 0 4096))) := (Beside.of_below HV.out (Nat.le_refl _)).trans (Beside.setp V 1 _)
  have HE2 : Hid ((V.setCell ⟨p, 1, none⟩ (.slice (some ⟨b, 0, none⟩) 0 4096)).heap[q]? = _) := (Below.heap_setCell V ⟨p, 1, none⟩ _ q (by have := HP.out.1; have := HS.out; simp; omega)).trans HE.out
  have HF2 : Hid ((V.setCell ⟨p, 1, none⟩ (.slice (some ⟨b, 0, none⟩) 0 4096)).heap[w.heap.size]? = _) := (Below.heap_setCell V ⟨p, 1, none⟩ _ w.heap.size (by have := HP.out.1; simp; omega)).trans HF.out
  generalize hV : V.setCell ⟨p, 1, none⟩ (.slice (some ⟨b, 0, none⟩) 0 4096) = U at *
  have e0 : U.cell? ⟨q, 0, none⟩ = some (.int .i64 (kindI x : Int)) := cl_row HE2.out rfl
  have e1 : U.cell? ⟨q, 1, none⟩ = some (.string ⟨#[]⟩) := cl_row HE2.out rfl
  have r0 : U.cell? ⟨w.heap.size, 0, none⟩ = some (.int .i64 0) := cl_row HF2.out rfl
  have r1 : U.cell? ⟨w.heap.size, 1, none⟩ = some (.string ⟨#[]⟩) := cl_row HF2.out rfl
  have z0 : U.frozen? ⟨w.heap.size, 0, none⟩ = false := fz_row HF2.out
  have z1 : U.frozen? ⟨w.heap.size, 1, none⟩ = false := fz_row HF2.out
  clear HE HF HV HM HE2 HF2 hq HS
  go_wp2
  have ha : Below w.heap.size U ((U.setCell ⟨w.heap.size, 0, none⟩ (.int .i64 (kindI x : Int))).setCell ⟨w.heap.size, 1, none⟩ (.string ⟨#[]⟩)) := ((Below.refl _ _).setCell (p := ⟨w.heap.size, 0, none⟩) (Nat.le_refl _) _).setCell (p := ⟨w.heap.size, 1, none⟩) (Nat.le_refl _) _
  refine bodyPost_ret (v := .agg #[.int .i64 (kindI x : Int), .string ⟨#[]⟩]) (by simp [results, Tryd.results23, go_sem, r0, r1]) rfl ⟨rfl, HU.out.below ha HP.out.1 HP.out.2, HX.out.over ha (Nat.le_refl _)⟩
theorem cut_any (p b : Nat) (x : List UInt8) (w : World) (h : WtAt w p b x) (hl : 19 ≤ x.length) (hm : x.length ≤ 4096) :
    Calls Tryd.prog 23 #[.pointer (some ⟨p, 0, none⟩)] w fun e w' => e = .returned (.agg #[.int .i64 (kindI x : Int), .string ⟨(x.drop 19).toArray⟩]) ∧ WtAt w' p b [] ∧ Beside p b w w' := by
  by_cases e : x.length = 19
  · rw [List.drop_eq_nil_of_le (by omega)]
    exact cut_bare p b x w h e
  · exact cut_more p b x w h (by omega) hm
end Go.Proofs.YtlinoklgchfedaaDoor
