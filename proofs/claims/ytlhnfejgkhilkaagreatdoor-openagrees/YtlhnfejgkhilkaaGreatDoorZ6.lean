/-
  The reference's Agree where one of the two may not be; its SameSession of sessions that are alike.
-/
import Derived.Test.YtlhnfejgkhilkaaGreatDoorZ4
import Derived.Test.YtlhnfejgkhilkaaGreatDoorW4
import Derived.Test.YtlhnfejgkhilkaaGreatDoorWb
set_option linter.unusedVariables false
set_option linter.unusedSimpArgs false
namespace Go.Proofs.YtlhnfejgkhilkaaGreatDoor
open Go.RowKit
set_option maxRecDepth 100000 in
set_option maxHeartbeats 3200000 in
theorem ragree_no1 (a b : Opn) (vfa vaa vka vfb vab vkb : Value) (w : World) (ha : ListsAt w a vfa vaa vka) (wa : OpnWf a) (ma : mayB a = false) :
    Calls Tryz.prog 6 #[opV a vfa vaa vka, opV b vfb vab vkb] w fun e w' => e = .returned (.tuple #[.agg zeroS, .int .i64 2]) ∧ Below w.heap.size w w' := by
  have K1 : Hid (∀ X, Below w.heap.size w X → Calls Tryz.prog 18 #[opV a vfa vaa vka] X fun e w' => e = .returned (.int .i64 2) ∧ Below X.heap.size X w') := fun X hX => by
    have := rcheck_any a vfa vaa vka X (ha.below hX) wa
    rw [ma] at this
    exact this
  clear ha
  unfold opV at K1 ⊢
  unfold opC at K1 ⊢
  go_enter Tryz.func6, Tryz.ntmps6
  go_wp2_with fail
  have h3 : Three w (opC a vfa vaa vka) (opC b vfb vab vkb) zeroS _ := ⟨(three_new w _ _ _).1, (three_new w _ _ _).2.1, (three_new w _ _ _).2.2.1, (three_new w _ _ _).2.2.2⟩
  refine Calls.mono (K1.out _ h3.b) ?_
  rintro e w1 ⟨rfl, hb1⟩
  have H1 : Hid (Three _ _ _ _ _) := h3.below hb1
  clear h3 hb1 K1
  go_wp2_with (refine wpList_store_row rfl 31 _ _ rfl (w.heap.size + 1 + 1) zeroS rfl rfl 31 _ H1.out.r4 info31z rfl zero_one ?_)
  exact bodyPost_ret (results_cell_tmp (P := Tryz.prog) rfl _ _ (w.heap.size + 1 + 1) 31 zeroS (0, 0) _ _ rfl rfl (row_same _ _ _ _ H1.out.r4) Tryz.underlying31 rfl info31z) rfl ⟨rfl, below_setRow H1.out.b (by omega) _⟩
set_option maxRecDepth 100000 in
set_option maxHeartbeats 3200000 in
theorem ragree_no2 (a b : Opn) (vfa vaa vka vfb vab vkb : Value) (w : World) (ha : ListsAt w a vfa vaa vka) (hb : ListsAt w b vfb vab vkb) (wa : OpnWf a) (wb : OpnWf b) (ma : mayB a = true) (mb : mayB b = false) :
    Calls Tryz.prog 6 #[opV a vfa vaa vka, opV b vfb vab vkb] w fun e w' => e = .returned (.tuple #[.agg zeroS, .int .i64 2]) ∧ Below w.heap.size w w' := by
  have K1 : Hid (∀ X, Below w.heap.size w X → Calls Tryz.prog 18 #[opV a vfa vaa vka] X fun e w' => e = .returned (.int .i64 0) ∧ Below X.heap.size X w') := fun X hX => by
    have := rcheck_any a vfa vaa vka X (ha.below hX) wa
    rw [ma] at this
    exact this
  have K2 : Hid (∀ X, Below w.heap.size w X → Calls Tryz.prog 18 #[opV b vfb vab vkb] X fun e w' => e = .returned (.int .i64 2) ∧ Below X.heap.size X w') := fun X hX => by
    have := rcheck_any b vfb vab vkb X (hb.below hX) wb
    rw [mb] at this
    exact this
  clear ha hb
  unfold opV at K1 K2 ⊢
  unfold opC at K1 K2 ⊢
  go_enter Tryz.func6, Tryz.ntmps6
  go_wp2_with fail
  have h3 : Three w (opC a vfa vaa vka) (opC b vfb vab vkb) zeroS _ := ⟨(three_new w _ _ _).1, (three_new w _ _ _).2.1, (three_new w _ _ _).2.2.1, (three_new w _ _ _).2.2.2⟩
  refine Calls.mono (K1.out _ h3.b) ?_
  rintro e w1 ⟨rfl, hb1⟩
  have H1 : Hid (Three _ _ _ _ _) := h3.below hb1
  have c0 := cl_row (i := 0) H1.out.r3 rfl
  have c1 := cl_row (i := 1) H1.out.r3 rfl
  have c2 := cl_row (i := 2) H1.out.r3 rfl
  have c3 := cl_row (i := 3) H1.out.r3 rfl
  have c4 := cl_row (i := 4) H1.out.r3 rfl
  have c5 := cl_row (i := 5) H1.out.r3 rfl
  have c6 := cl_row (i := 6) H1.out.r3 rfl
  have c7 := cl_row (i := 7) H1.out.r3 rfl
  have c8 := cl_row (i := 8) H1.out.r3 rfl
  have c9 := cl_row (i := 9) H1.out.r3 rfl
  have c10 := cl_row (i := 10) H1.out.r3 rfl
  clear h3 hb1 K1
  go_wp2_with fail
  refine Calls.mono (K2.out _ H1.out.b) ?_
  rintro e w2 ⟨rfl, hb2⟩
  have H2 : Hid (Three _ _ _ _ _) := H1.out.below hb2
  clear c0 c1 c2 c3 c4 c5 c6 c7 c8 c9 c10 hb2 H1 K2
  go_wp2_with (refine wpList_store_row rfl 31 _ _ rfl (w.heap.size + 1 + 1) zeroS rfl rfl 31 _ H2.out.r4 info31z rfl zero_one ?_)
  exact bodyPost_ret (results_cell_tmp (P := Tryz.prog) rfl _ _ (w.heap.size + 1 + 1) 31 zeroS (0, 0) _ _ rfl rfl (row_same _ _ _ _ H2.out.r4) Tryz.underlying31 rfl info31z) rfl ⟨rfl, below_setRow H2.out.b (by omega) _⟩
/-- A session's numbers and lists. -/
structure Ses where
  hold : Int
  fams : List Int
  four : Bool
  refr : Bool
  send : List Int
  take : List Int
  gr : Bool
  again : Bool
  time : Int
  kept : List Kp
def sesV (s : Ses) (vf vs vt vk : Value) : Array Value := #[.int .i64 s.hold, vf, .bool s.four, .bool s.refr, vs, vt, .bool s.gr, .bool s.again, .int .i64 s.time, vk]
structure SesAt (w : World) (s : Ses) (vf vs vt vk : Value) : Prop where
  f : IntsAt w vf s.fams
  sd : IntsAt w vs s.send
  tk : IntsAt w vt s.take
  k : KeptsAt w vk s.kept
theorem SesAt.below {w w' : World} {s : Ses} {vf vs vt vk : Value} (h : SesAt w s vf vs vt vk) (hb : Below w.heap.size w w') : SesAt w' s vf vs vt vk := ⟨h.f.below hb, h.sd.below hb, h.tk.below hb, h.k.below hb⟩
structure Ck31 (w wr : World) (C D : Array Value) : Prop where
  row : wr.heap[w.heap.size]? = some (.cells C 31 (0, 0))
  row2 : wr.heap[w.heap.size + 1]? = some (.cells D 31 (0, 0))
  bel : Below w.heap.size w wr
theorem Ck31.drewN {w wr : World} {C D : Array Value} (h : Ck31 w wr C D) (n : Nat) : Ck31 w (wr.drewN n) C D := by
  have hb : Below wr.heap.size wr (wr.drewN n) := below_drewN (Below.refl _ _) n
  exact ⟨(hb.block _ (lt_of_heap h.row)).trans h.row, (hb.block _ (lt_of_heap h.row2)).trans h.row2, h.bel.trans (hb.mono h.bel.size)⟩
set_option maxRecDepth 100000 in
set_option maxHeartbeats 6400000 in
theorem rsameSes (s : Ses) (vf vs vt vk uf us ut uk : Value) (w : World) (h : SesAt w s vf vs vt vk) (h2 : SesAt w s uf us ut uk)
    (lf : (s.fams.length : Int) ≤ 1152921504606846976) (ls : (s.send.length : Int) ≤ 1152921504606846976) (lt : (s.take.length : Int) ≤ 1152921504606846976) (lk : (s.kept.length : Int) ≤ 1152921504606846976) :
    Calls Tryz.prog 7 #[.agg (sesV s vf vs vt vk), .agg (sesV s uf us ut uk)] w fun e w' => e = .returned (.bool true) ∧ Below w.heap.size w w' := by
  have hck : Ck31 w ((w.alloc (.cells (sesV s vf vs vt vk) 31)).alloc (.cells (sesV s uf us ut uk) 31)) (sesV s vf vs vt vk) (sesV s uf us ut uk) :=
    ⟨hp_up (hp_new rfl), hp_new (by simp), ((Below.refl _ _).alloc (Nat.le_refl _) _).alloc (by simp) _⟩
  have HC0 : Hid (Ck31 _ _ _ _) := hck
  have HF : Hid (∀ W, Below w.heap.size w W → Calls Tryz.prog 21 #[vf, uf] W fun e w' => e = .returned (.bool true) ∧ ∃ m, w' = W.drewN m) := fun W hb => same_ints _ _ _ _ (h.f.below hb) (h2.f.below hb) lf
  have HS : Hid (∀ W, Below w.heap.size w W → Calls Tryz.prog 21 #[vs, us] W fun e w' => e = .returned (.bool true) ∧ ∃ m, w' = W.drewN m) := fun W hb => same_ints _ _ _ _ (h.sd.below hb) (h2.sd.below hb) ls
  have HT : Hid (∀ W, Below w.heap.size w W → Calls Tryz.prog 21 #[vt, ut] W fun e w' => e = .returned (.bool true) ∧ ∃ m, w' = W.drewN m) := fun W hb => same_ints _ _ _ _ (h.tk.below hb) (h2.tk.below hb) lt
  have HK : Hid (∀ W, Below w.heap.size w W → Calls Tryz.prog 22 #[vk, uk] W fun e w' => e = .returned (.bool true) ∧ ∃ m, w' = W.drewN m) := fun W hb => same_kepts _ _ _ _ (h.k.below hb) (h2.k.below hb) lk
  clear hck h h2 lf ls lt lk
  obtain ⟨hold, fams, four, refr, send, take, gr, again, time, kept⟩ := s
  unfold sesV at HC0 ⊢
  dsimp only at *
  go_enter Tryz.func7, Tryz.ntmps7
  go_wp2_with (first | (go_at_call 21; first | ((with_reducible refine Calls.mono (HF.out _ (by first | exact HC0.out.bel | exact (HC0.out.drewN _).bel | exact ((HC0.out.drewN _).drewN _).bel | exact (((HC0.out.drewN _).drewN _).drewN _).bel)) ?_); rintro e w' ⟨rfl, m, rfl⟩) | ((with_reducible refine Calls.mono (HS.out _ (by first | exact HC0.out.bel | exact (HC0.out.drewN _).bel | exact ((HC0.out.drewN _).drewN _).bel | exact (((HC0.out.drewN _).drewN _).drewN _).bel)) ?_); rintro e w' ⟨rfl, m2, rfl⟩) | ((with_reducible refine Calls.mono (HT.out _ (by first | exact HC0.out.bel | exact (HC0.out.drewN _).bel | exact ((HC0.out.drewN _).drewN _).bel | exact (((HC0.out.drewN _).drewN _).drewN _).bel)) ?_); rintro e w' ⟨rfl, m3, rfl⟩)) | (go_at_call 22; (with_reducible refine Calls.mono (HK.out _ (by first | exact HC0.out.bel | exact (HC0.out.drewN _).bel | exact ((HC0.out.drewN _).drewN _).bel | exact (((HC0.out.drewN _).drewN _).drewN _).bel)) ?_); rintro e w' ⟨rfl, m4, rfl⟩))
  go_ret
  exact ⟨rfl, by first | exact HC0.out.bel | exact (HC0.out.drewN _).bel | exact ((HC0.out.drewN _).drewN _).bel | exact (((HC0.out.drewN _).drewN _).drewN _).bel | exact ((((HC0.out.drewN _).drewN _).drewN _).drewN _).bel⟩
end Go.Proofs.YtlhnfejgkhilkaaGreatDoor
