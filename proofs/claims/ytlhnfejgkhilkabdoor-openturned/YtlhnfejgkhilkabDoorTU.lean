/-
  OpenTurned: both sides agree upon the same.
-/
import Derived.Test.YtlhnfejgkhilkabDoorAG3
import Derived.Test.YtlhnfejgkhilkabDoorN2
set_option linter.unusedVariables false
set_option linter.unusedSimpArgs false
namespace Go.Proofs.YtlhnfejgkhilkabDoor
open Go.RowKit
set_option maxRecDepth 100000 in
set_option maxHeartbeats 1600000 in
theorem equal_yes (v u : Value) (L : List Int) (w : World) (hv : IntsAt w v L) (hu : IntsAt w u L) (hlen : (L.length : Int) ≤ 1152921504606846976) :
    Calls Tryd.prog 7 #[v, u] w fun e w' => e = .returned (.bool true) ∧ Below w.heap.size w w' := by
  obtain ⟨ad, b, off, cap, rfl, had, hcap, hrow⟩ := hv
  obtain ⟨ad2, b2, off2, cap2, rfl, had2, hcap2, hrow2⟩ := hu
  have HR : Hid (_ : Prop) := hrow
  have HS : Hid (_ : Prop) := hrow2
  clear hrow hrow2
  go_enter Tryd.func7, Tryd.ntmps7
  go_wp2
  go_loopw [5] (fun i wr => ∃ (k : Nat), k ≤ L.length ∧ i = .int .i64 k ∧ Below w.heap.size w wr) (fun i _ => L.length - (intOf i).toNat)
  case atStart => exact ⟨0, Nat.zero_le _, rfl, Below.refl _ _⟩
  case round =>
    obtain ⟨k, hk, rfl, hm⟩ := hrel
    have HB : Hid (Below w.heap.size w wr) := hm
    clear hm
    by_cases hlt : k < L.length
    · obtain rfl : ad = some ⟨b, off, none⟩ := by
        rcases had with h | h
        · exact h
        · omega
      obtain rfl : ad2 = some ⟨b2, off2, none⟩ := by
        rcases had2 with h | h
        · exact h
        · omega
      have c0 := (HB.out.cell (p := ⟨b, off + k, none⟩) (lt_of_cell (HR.out k hlt))).trans (HR.out k hlt)
      have d0 := (HB.out.cell (p := ⟨b2, off2 + k, none⟩) (lt_of_cell (HS.out k hlt))).trans (HS.out k hlt)
      generalize L[k] = f at *
      have i1 : (k : Int) < (L.length : Int) := by omega
      go_wp2
      go_region
      go_wp2
      go_roundw
      case rel => exact ⟨k + 1, by omega, by go_num, below_drewN HB.out 1⟩
      case measure => simp [intOf]; omega
    · have i1 : ¬ ((k : Int) < (L.length : Int)) := by omega
      go_wp2
      go_ret
      exact ⟨rfl, HB.out⟩
theorem risF_pair : ∀ (l : Int) (L : List Int), risF l L = true → L.Pairwise (· < ·) ∧ ∀ x ∈ L, l < x
  | l, [], _ => ⟨List.Pairwise.nil, fun x h => by cases h⟩
  | l, f :: r, h => by
    simp only [risF, Bool.and_eq_true, decide_eq_true_eq] at h
    obtain ⟨h1, h2⟩ := risF_pair f r h.2
    refine ⟨List.Pairwise.cons h2 h1, fun x hx => ?_⟩
    rcases List.mem_cons.1 hx with rfl | hx
    · exact h.1.2
    · have := h2 x hx
      have := h.1.2
      omega
theorem rising_one : ∀ (A B : List Int), A.Pairwise (· < ·) → B.Pairwise (· < ·) → (∀ x, x ∈ A ↔ x ∈ B) → A = B
  | [], [], _, _, _ => rfl
  | [], y :: B, _, _, h => absurd ((h y).2 (by simp)) (by simp)
  | x :: A, [], _, _, h => absurd ((h x).1 (by simp)) (by simp)
  | x :: A, y :: B, ha, hb, h => by
    obtain ⟨a1, a2⟩ := List.pairwise_cons.1 ha
    obtain ⟨b1, b2⟩ := List.pairwise_cons.1 hb
    have e : x = y := by
      rcases List.mem_cons.1 ((h x).1 (by simp)) with e | hx
      · exact e
      · rcases List.mem_cons.1 ((h y).2 (by simp)) with e | hy
        · exact e.symm
        · have := b1 x hx
          have := a1 y hy
          omega
    subst e
    have : A = B := rising_one A B a2 b2 fun z => by
      constructor
      · intro hz
        have hlt := a1 z hz
        rcases List.mem_cons.1 ((h z).1 (List.mem_cons_of_mem _ hz)) with e | hz'
        · omega
        · exact hz'
      · intro hz
        have hlt := b1 z hz
        rcases List.mem_cons.1 ((h z).2 (List.mem_cons_of_mem _ hz)) with e | hz'
        · omega
        · exact hz'
    rw [this]
theorem mem_both {A B : List Int} {x : Int} : x ∈ both A B ↔ x ∈ A ∧ x ∈ B := by
  unfold both
  simp [List.mem_filter]
theorem both_turn {A B : List Int} (ha : A.Pairwise (· < ·)) (hb : B.Pairwise (· < ·)) : both A B = both B A :=
  rising_one _ _ (ha.filter _) (hb.filter _) fun x => by rw [mem_both, mem_both, and_comm]
theorem both_mem {F A B : List Int} (h : ∀ x, x ∈ A ↔ x ∈ B) : both F A = both F B := by
  unfold both
  refine List.filter_congr fun x _ => ?_
  rw [decide_eq_decide]
  exact h x
theorem may_rise {o : Opn} (h : mayB o = true) : o.fams.Pairwise (· < ·) := by
  unfold mayB at h
  simp only [Bool.and_eq_true, decide_eq_true_eq] at h
  exact (risF_pair 0 o.fams h.1.1.1.2).1
theorem fams_turn {a b : Opn} (ma : mayB a = true) (mb : mayB b = true) : famsA a b = famsA b a := both_turn (may_rise ma) (may_rise mb)
theorem send_turn {a b : Opn} (ma : mayB a = true) (mb : mayB b = true) : sendA a b = takeA b a := by
  unfold sendA takeA
  rw [fams_turn ma mb]
  exact both_mem fun x => by rw [mem_both, mem_both, and_comm]
theorem take_turn {a b : Opn} (ma : mayB a = true) (mb : mayB b = true) : takeA a b = sendA b a := (send_turn mb ma).symm
end Go.Proofs.YtlhnfejgkhilkabDoor
set_option linter.unusedVariables false
set_option linter.unusedSimpArgs false
namespace Go.Proofs.YtlhnfejgkhilkabDoor
open Go.RowKit
theorem agree_no (a b : Opn) (vfa vaa vka vfb vab vkb : Value) (w : World) (hg : FamSizes w) (ha : ListsAt w a vfa vaa vka) (hb : ListsAt w b vfb vab vkb) (h : (mayB a && mayB b) = false) :
    Calls Tryd.prog 6 #[opV a vfa vaa vka, opV b vfb vab vkb] w fun e w' => e = .returned (.tuple #[.agg zeroS, .int .i64 2]) ∧ Below w.heap.size w w' := by
  cases ma : mayB a with
  | false => exact agree_no1 a b vfa vaa vka vfb vab vkb w hg ha ma
  | true =>
    rw [ma, Bool.true_and] at h
    exact agree_no2 a b vfa vaa vka vfb vab vkb w hg ha hb ma h
theorem two_new (w : World) (A B : Obj) : Below w.heap.size w ((w.alloc A).alloc B) ∧ ((w.alloc A).alloc B).heap[w.heap.size]? = some A ∧ ((w.alloc A).alloc B).heap[w.heap.size + 1]? = some B := by
  refine ⟨((Below.refl _ _).alloc (Nat.le_refl _) _).alloc (by simp) _, ?_, ?_⟩
  · show ((w.heap.push A).push B)[w.heap.size]? = _
    rw [Array.getElem?_push, if_neg (by simp), Array.getElem?_push, if_pos rfl]
  · show ((w.heap.push A).push B)[w.heap.size + 1]? = _
    rw [Array.getElem?_push, if_pos (by simp)]
/-- The two blocks that the law makes of its arguments. -/
structure Pair (w : World) (A B : Array Value) (W : World) : Prop where
  b : Below w.heap.size w W
  r2 : W.heap[w.heap.size]? = some (.cells A 27 (0, 0))
  r3 : W.heap[w.heap.size + 1]? = some (.cells B 27 (0, 0))
theorem Pair.below {w : World} {A B : Array Value} {W W' : World} (h : Pair w A B W) (hb : Below W.heap.size W W') : Pair w A B W' :=
  ⟨h.b.trans (hb.mono h.b.size), (hb.block _ (lt_of_heap h.r2)).trans h.r2, (hb.block _ (lt_of_heap h.r3)).trans h.r3⟩
/-- The other side's session, told by the first one's words. -/
def sesT (a b : Opn) (vf vs vt vk : Value) : Array Value := #[.int .i64 (min a.hold b.hold), vf, .bool (a.four && b.four), .bool (a.refr && b.refr), vs, vt, .bool a.gr, .bool a.again, .int .i64 a.time, vk]
def SesTo (base : Nat) (a b : Opn) (e : Ending) (w' : World) : Prop :=
  ∃ vf vs vt vk, e = .returned (.tuple #[.agg (sesT a b vf vs vt vk), .int .i64 0]) ∧ OwnI w' base vf (famsA a b) ∧ OwnI w' base vs (takeA a b) ∧ OwnI w' base vt (sendA a b) ∧ OwnK w' base vk (keptL a.kept (famsA a b))
theorem ses_to {base : Nat} {a b : Opn} {e : Ending} {w' : World} (ma : mayB a = true) (mb : mayB b = true) (h : SesOk base b a e w') : SesTo base a b e w' := by
  obtain ⟨vf, vs, vt, vk, he, h1, h2, h3, h4⟩ := h
  rw [fams_turn mb ma] at h1 h4
  rw [send_turn mb ma] at h2
  rw [take_turn mb ma] at h3
  refine ⟨vf, vs, vt, vk, ?_, h1, h2, h3, h4⟩
  rw [he]
  unfold sesC sesT
  rw [Int.min_comm, Bool.and_comm b.four, Bool.and_comm b.refr]
theorem heap_new' (w : World) (A : Obj) : (w.alloc A).heap[w.heap.size]? = some A := by
  show (w.heap.push A)[w.heap.size]? = _
  rw [Array.getElem?_push, if_pos rfl]

set_option maxRecDepth 100000 in
set_option maxHeartbeats 3200000 in
theorem turned_no (a : Opn) (vfa vaa vka : Value) (b : Opn) (vfb vab vkb : Value) (w : World) (hg : FamSizes w) (ha : ListsAt w a vfa vaa vka) (hb : ListsAt w b vfb vab vkb) (hm : (mayB a && mayB b) = false) :
    Calls Tryd.prog 3 #[opV a vfa vaa vka, opV b vfb vab vkb] w fun e w' => e = .returned (.bool true) ∧ Below w.heap.size w w' := by
  have K0 : Hid (∀ X, Below w.heap.size w X → Calls Tryd.prog 5 #[] X fun e w' => e = .returned (.bool true) ∧ Below X.heap.size X w') := fun X hX => works_any X (hg.below hX)
  have K1 : Hid (∀ X, Below w.heap.size w X → Calls Tryd.prog 6 #[opV a vfa vaa vka, opV b vfb vab vkb] X fun e w' => e = .returned (.tuple #[.agg zeroS, .int .i64 2]) ∧ Below X.heap.size X w') := fun X hX => agree_no a b vfa vaa vka vfb vab vkb X (hg.below hX) (ha.below hX) (hb.below hX) hm
  have K2 : Hid (∀ X, Below w.heap.size w X → Calls Tryd.prog 6 #[opV b vfb vab vkb, opV a vfa vaa vka] X fun e w' => e = .returned (.tuple #[.agg zeroS, .int .i64 2]) ∧ Below X.heap.size X w') := fun X hX => agree_no b a vfb vab vkb vfa vaa vka X (hg.below hX) (hb.below hX) (ha.below hX) (by rw [Bool.and_comm]; exact hm)
  clear ha hb hg hm
  unfold opV at K1 K2 ⊢
  unfold opC at K1 K2 ⊢
  unfold zeroS at K1 K2
  go_enter Tryd.func3, Tryd.ntmps3
  go_wp2_with fail
  have h2 : Pair w (opC a vfa vaa vka) (opC b vfb vab vkb) _ := ⟨(two_new w _ _).1, (two_new w _ _).2.1, (two_new w _ _).2.2⟩
  refine Calls.mono (K0.out _ h2.b) ?_
  rintro e w1 ⟨rfl, hb1⟩
  have H1 : Hid (Pair _ _ _ _) := h2.below hb1
  clear h2 hb1 K0
  have c0 := cl_row (i := 0) H1.out.r2 rfl
  have c1 := cl_row (i := 1) H1.out.r2 rfl
  have c2 := cl_row (i := 2) H1.out.r2 rfl
  have c3 := cl_row (i := 3) H1.out.r2 rfl
  have c4 := cl_row (i := 4) H1.out.r2 rfl
  have c5 := cl_row (i := 5) H1.out.r2 rfl
  have c6 := cl_row (i := 6) H1.out.r2 rfl
  have c7 := cl_row (i := 7) H1.out.r2 rfl
  have c8 := cl_row (i := 8) H1.out.r2 rfl
  have c9 := cl_row (i := 9) H1.out.r2 rfl
  have c10 := cl_row (i := 10) H1.out.r2 rfl
  have d0 := cl_row (i := 0) H1.out.r3 rfl
  have d1 := cl_row (i := 1) H1.out.r3 rfl
  have d2 := cl_row (i := 2) H1.out.r3 rfl
  have d3 := cl_row (i := 3) H1.out.r3 rfl
  have d4 := cl_row (i := 4) H1.out.r3 rfl
  have d5 := cl_row (i := 5) H1.out.r3 rfl
  have d6 := cl_row (i := 6) H1.out.r3 rfl
  have d7 := cl_row (i := 7) H1.out.r3 rfl
  have d8 := cl_row (i := 8) H1.out.r3 rfl
  have d9 := cl_row (i := 9) H1.out.r3 rfl
  have d10 := cl_row (i := 10) H1.out.r3 rfl
  go_wp2_with fail
  refine Calls.mono (K1.out _ H1.out.b) ?_
  rintro e w2 ⟨rfl, hb2⟩
  have H2 : Hid (Pair _ _ _ _) := H1.out.below hb2
  have hb2a : Below w2.heap.size w2 (w2.alloc (.cells zeroS 30)) := (Below.refl _ _).alloc (Nat.le_refl _) _
  have H2A : Hid (Pair w (opC a vfa vaa vka) (opC b vfb vab vkb) (w2.alloc (.cells zeroS 30))) := H2.out.below hb2a
  have H5 : Hid ((w2.alloc (.cells zeroS 30)).heap[w2.heap.size]? = some (.cells zeroS 30 (0, 0))) := heap_new' w2 _
  unfold zeroS at H2A H5
  clear hb2 hb2a H1 K1
  clear c0 c1 c2 c3 c4 c5 c6 c7 c8 c9 c10
  clear d0 d1 d2 d3 d4 d5 d6 d7 d8 d9 d10
  have c0 := cl_row (i := 0) H2A.out.r2 rfl
  have c1 := cl_row (i := 1) H2A.out.r2 rfl
  have c2 := cl_row (i := 2) H2A.out.r2 rfl
  have c3 := cl_row (i := 3) H2A.out.r2 rfl
  have c4 := cl_row (i := 4) H2A.out.r2 rfl
  have c5 := cl_row (i := 5) H2A.out.r2 rfl
  have c6 := cl_row (i := 6) H2A.out.r2 rfl
  have c7 := cl_row (i := 7) H2A.out.r2 rfl
  have c8 := cl_row (i := 8) H2A.out.r2 rfl
  have c9 := cl_row (i := 9) H2A.out.r2 rfl
  have c10 := cl_row (i := 10) H2A.out.r2 rfl
  have d0 := cl_row (i := 0) H2A.out.r3 rfl
  have d1 := cl_row (i := 1) H2A.out.r3 rfl
  have d2 := cl_row (i := 2) H2A.out.r3 rfl
  have d3 := cl_row (i := 3) H2A.out.r3 rfl
  have d4 := cl_row (i := 4) H2A.out.r3 rfl
  have d5 := cl_row (i := 5) H2A.out.r3 rfl
  have d6 := cl_row (i := 6) H2A.out.r3 rfl
  have d7 := cl_row (i := 7) H2A.out.r3 rfl
  have d8 := cl_row (i := 8) H2A.out.r3 rfl
  have d9 := cl_row (i := 9) H2A.out.r3 rfl
  have d10 := cl_row (i := 10) H2A.out.r3 rfl
  go_wp2_with fail
  refine Calls.mono (K2.out _ H2A.out.b) ?_
  rintro e w3 ⟨rfl, hb3⟩
  have HB3 : Hid (Below w.heap.size w w3) := H2A.out.b.trans (hb3.mono H2A.out.b.size)
  have HR5 : Hid (w3.heap[w2.heap.size]? = _) := (hb3.block _ (by simp)).trans H5.out
  have hb3a : Below w3.heap.size w3 (w3.alloc (.cells zeroS 30)) := (Below.refl _ _).alloc (Nat.le_refl _) _
  have HS5 : Hid ((w3.alloc (.cells zeroS 30)).heap[w2.heap.size]? = _) := (hb3a.block _ (lt_of_heap HR5.out)).trans HR5.out
  unfold zeroS at HS5
  have g1 := cl_row (i := 1) HS5.out rfl
  clear hb3 hb3a H2 H2A H5 K2
  clear c0 c1 c2 c3 c4 c5 c6 c7 c8 c9 c10
  clear d0 d1 d2 d3 d4 d5 d6 d7 d8 d9 d10
  go_wp2
  go_ret
  exact ⟨rfl, HB3.out.alloc HB3.out.size _⟩
set_option maxRecDepth 100000 in
set_option maxHeartbeats 3200000 in
theorem turned_yes (a : Opn) (vfa vaa vka : Value) (b : Opn) (vfb vab vkb : Value) (w : World) (hg : FamSizes w) (ha : ListsAt w a vfa vaa vka) (hb : ListsAt w b vfb vab vkb) (ma : mayB a = true) (mb : mayB b = true) :
    Calls Tryd.prog 3 #[opV a vfa vaa vka, opV b vfb vab vkb] w fun e w' => e = .returned (.bool true) ∧ Below w.heap.size w w' := by
  have K0 : Hid (∀ X, Below w.heap.size w X → Calls Tryd.prog 5 #[] X fun e w' => e = .returned (.bool true) ∧ Below X.heap.size X w') := fun X hX => works_any X (hg.below hX)
  have K1 : Hid (∀ X, Below w.heap.size w X → Calls Tryd.prog 6 #[opV a vfa vaa vka, opV b vfb vab vkb] X fun e w' => SesOk X.heap.size a b e w' ∧ Below X.heap.size X w') := fun X hX => agree_yes a b vfa vaa vka vfb vab vkb X (hg.below hX) (ha.below hX) (hb.below hX) ma mb
  have K2 : Hid (∀ X, Below w.heap.size w X → Calls Tryd.prog 6 #[opV b vfb vab vkb, opV a vfa vaa vka] X fun e w' => SesTo X.heap.size a b e w' ∧ Below X.heap.size X w') := fun X hX => (agree_yes b a vfb vab vkb vfa vaa vka X (hg.below hX) (hb.below hX) (ha.below hX) mb ma).mono fun e w' h => ⟨ses_to ma mb h.1, h.2⟩
  have hlF : (famsA a b).length ≤ 5 := Nat.le_trans (both_len _ _) (may_lens ma).1
  have hlS : (sendA a b).length ≤ 5 := Nat.le_trans (both_len _ _) hlF
  have hlT : (takeA a b).length ≤ 5 := Nat.le_trans (both_len _ _) hlF
  clear ha hb hg ma mb
  unfold opV at K1 K2 ⊢
  unfold opC at K1 K2 ⊢
  go_enter Tryd.func3, Tryd.ntmps3
  go_wp2_with fail
  have h2 : Pair w (opC a vfa vaa vka) (opC b vfb vab vkb) _ := ⟨(two_new w _ _).1, (two_new w _ _).2.1, (two_new w _ _).2.2⟩
  refine Calls.mono (K0.out _ h2.b) ?_
  rintro e w1 ⟨rfl, hb1⟩
  have H1 : Hid (Pair _ _ _ _) := h2.below hb1
  clear h2 hb1 K0
  have c0 := cl_row (i := 0) H1.out.r2 rfl
  have c1 := cl_row (i := 1) H1.out.r2 rfl
  have c2 := cl_row (i := 2) H1.out.r2 rfl
  have c3 := cl_row (i := 3) H1.out.r2 rfl
  have c4 := cl_row (i := 4) H1.out.r2 rfl
  have c5 := cl_row (i := 5) H1.out.r2 rfl
  have c6 := cl_row (i := 6) H1.out.r2 rfl
  have c7 := cl_row (i := 7) H1.out.r2 rfl
  have c8 := cl_row (i := 8) H1.out.r2 rfl
  have c9 := cl_row (i := 9) H1.out.r2 rfl
  have c10 := cl_row (i := 10) H1.out.r2 rfl
  have d0 := cl_row (i := 0) H1.out.r3 rfl
  have d1 := cl_row (i := 1) H1.out.r3 rfl
  have d2 := cl_row (i := 2) H1.out.r3 rfl
  have d3 := cl_row (i := 3) H1.out.r3 rfl
  have d4 := cl_row (i := 4) H1.out.r3 rfl
  have d5 := cl_row (i := 5) H1.out.r3 rfl
  have d6 := cl_row (i := 6) H1.out.r3 rfl
  have d7 := cl_row (i := 7) H1.out.r3 rfl
  have d8 := cl_row (i := 8) H1.out.r3 rfl
  have d9 := cl_row (i := 9) H1.out.r3 rfl
  have d10 := cl_row (i := 10) H1.out.r3 rfl
  go_wp2_with fail
  refine Calls.mono (K1.out _ H1.out.b) ?_
  rintro e w2 ⟨⟨vf, vs, vt, vk, rfl, o1, o2, o3, o4⟩, hb2⟩
  have H2 : Hid (Pair _ _ _ _) := H1.out.below hb2
  have hb2a : Below w2.heap.size w2 (w2.alloc (.cells (sesC a b vf vs vt vk) 30)) := (Below.refl _ _).alloc (Nat.le_refl _) _
  have H2A : Hid (Pair w (opC a vfa vaa vka) (opC b vfb vab vkb) (w2.alloc (.cells (sesC a b vf vs vt vk) 30))) := H2.out.below hb2a
  have H5 : Hid ((w2.alloc (.cells (sesC a b vf vs vt vk) 30)).heap[w2.heap.size]? = some (.cells (sesC a b vf vs vt vk) 30 (0, 0))) := heap_new' w2 _
  have I1 : Hid (IntsAt (w2.alloc (.cells (sesC a b vf vs vt vk) 30)) vf (famsA a b) ∧ IntsAt (w2.alloc (.cells (sesC a b vf vs vt vk) 30)) vs (sendA a b) ∧ IntsAt (w2.alloc (.cells (sesC a b vf vs vt vk) 30)) vt (takeA a b)) := ⟨(ints_own o1).below hb2a, (ints_own o2).below hb2a, (ints_own o3).below hb2a⟩
  obtain ⟨f1, f2, ef⟩ := slice_of_owns o1
  obtain ⟨s1, s2, es⟩ := slice_of_owns o2
  obtain ⟨t1, t2, et⟩ := slice_of_owns o3
  obtain ⟨k1, k2, ek⟩ := slice_of_owns o4
  subst ef es et ek
  unfold sesC at H2A H5 I1 ⊢
  clear hb2 hb2a H1 K1 o1 o2 o3 o4
  clear c0 c1 c2 c3 c4 c5 c6 c7 c8 c9 c10
  clear d0 d1 d2 d3 d4 d5 d6 d7 d8 d9 d10
  have c0 := cl_row (i := 0) H2A.out.r2 rfl
  have c1 := cl_row (i := 1) H2A.out.r2 rfl
  have c2 := cl_row (i := 2) H2A.out.r2 rfl
  have c3 := cl_row (i := 3) H2A.out.r2 rfl
  have c4 := cl_row (i := 4) H2A.out.r2 rfl
  have c5 := cl_row (i := 5) H2A.out.r2 rfl
  have c6 := cl_row (i := 6) H2A.out.r2 rfl
  have c7 := cl_row (i := 7) H2A.out.r2 rfl
  have c8 := cl_row (i := 8) H2A.out.r2 rfl
  have c9 := cl_row (i := 9) H2A.out.r2 rfl
  have c10 := cl_row (i := 10) H2A.out.r2 rfl
  have d0 := cl_row (i := 0) H2A.out.r3 rfl
  have d1 := cl_row (i := 1) H2A.out.r3 rfl
  have d2 := cl_row (i := 2) H2A.out.r3 rfl
  have d3 := cl_row (i := 3) H2A.out.r3 rfl
  have d4 := cl_row (i := 4) H2A.out.r3 rfl
  have d5 := cl_row (i := 5) H2A.out.r3 rfl
  have d6 := cl_row (i := 6) H2A.out.r3 rfl
  have d7 := cl_row (i := 7) H2A.out.r3 rfl
  have d8 := cl_row (i := 8) H2A.out.r3 rfl
  have d9 := cl_row (i := 9) H2A.out.r3 rfl
  have d10 := cl_row (i := 10) H2A.out.r3 rfl
  go_wp2_with fail
  refine Calls.mono (K2.out _ H2A.out.b) ?_
  rintro e w3 ⟨⟨wf, ws, wt, wk, rfl, o1, o2, o3, o4⟩, hb3⟩
  have H3 : Hid (Pair _ _ _ _) := H2A.out.below hb3
  have HR5 : Hid (w3.heap[w2.heap.size]? = _) := (hb3.block _ (by simp)).trans H5.out
  have I3 : Hid (IntsAt w3 _ (famsA a b) ∧ IntsAt w3 _ (sendA a b) ∧ IntsAt w3 _ (takeA a b)) := ⟨I1.out.1.below hb3, I1.out.2.1.below hb3, I1.out.2.2.below hb3⟩
  have hb3a : Below w3.heap.size w3 (w3.alloc (.cells (sesT a b wf ws wt wk) 30)) := (Below.refl _ _).alloc (Nat.le_refl _) _
  have I4 : Hid (IntsAt (w3.alloc (.cells (sesT a b wf ws wt wk) 30)) wf (famsA a b) ∧ IntsAt (w3.alloc (.cells (sesT a b wf ws wt wk) 30)) wt (sendA a b) ∧ IntsAt (w3.alloc (.cells (sesT a b wf ws wt wk) 30)) ws (takeA a b)) := ⟨(ints_own o1).below hb3a, (ints_own o3).below hb3a, (ints_own o2).below hb3a⟩
  have I5 : Hid (IntsAt (w3.alloc (.cells (sesT a b wf ws wt wk) 30)) _ (famsA a b) ∧ IntsAt (w3.alloc (.cells (sesT a b wf ws wt wk) 30)) _ (sendA a b) ∧ IntsAt (w3.alloc (.cells (sesT a b wf ws wt wk) 30)) _ (takeA a b)) := ⟨I3.out.1.below hb3a, I3.out.2.1.below hb3a, I3.out.2.2.below hb3a⟩
  have H4 : Hid (Pair w (opC a vfa vaa vka) (opC b vfb vab vkb) (w3.alloc (.cells (sesT a b wf ws wt wk) 30))) := H3.out.below hb3a
  have HS5 : Hid ((w3.alloc (.cells (sesT a b wf ws wt wk) 30)).heap[w2.heap.size]? = _) := (hb3a.block _ (lt_of_heap HR5.out)).trans HR5.out
  have HS7 : Hid ((w3.alloc (.cells (sesT a b wf ws wt wk) 30)).heap[w3.heap.size]? = some (.cells (sesT a b wf ws wt wk) 30 (0, 0))) := heap_new' w3 _
  have KQ := equal_yes _ _ _ _ I5.out.1 I4.out.1 (by omega)
  obtain ⟨g1, g2, eg⟩ := slice_of_owns o1
  obtain ⟨h1, h2, eh⟩ := slice_of_owns o2
  obtain ⟨i1, i2, ei⟩ := slice_of_owns o3
  obtain ⟨j1, j2, ej⟩ := slice_of_owns o4
  subst eg eh ei ej
  have KE : Hid (_ : Prop) := KQ
  unfold sesT at I4 I5 H4 HS5 HS7 KE ⊢
  clear hb3 hb3a H2 H2A H5 K2 o1 o2 o3 o4 I1 I3 KQ
  clear c0 c1 c2 c3 c4 c5 c6 c7 c8 c9 c10
  clear d0 d1 d2 d3 d4 d5 d6 d7 d8 d9 d10
  have mc : min b.hold a.hold = min a.hold b.hold := Int.min_comm _ _
  have fc : (b.four && a.four) = (a.four && b.four) := Bool.and_comm _ _
  have rc : (b.refr && a.refr) = (a.refr && b.refr) := Bool.and_comm _ _
  have p0 := cl_row (i := 0) HS5.out rfl
  have p1 := cl_row (i := 1) HS5.out rfl
  have p2 := cl_row (i := 2) HS5.out rfl
  have p3 := cl_row (i := 3) HS5.out rfl
  have p4 := cl_row (i := 4) HS5.out rfl
  have p5 := cl_row (i := 5) HS5.out rfl
  have p7 := cl_row (i := 7) HS5.out rfl
  have p8 := cl_row (i := 8) HS5.out rfl
  have q0 := cl_row (i := 0) HS7.out rfl
  have q1 := cl_row (i := 1) HS7.out rfl
  have q2 := cl_row (i := 2) HS7.out rfl
  have q3 := cl_row (i := 3) HS7.out rfl
  have q4 := cl_row (i := 4) HS7.out rfl
  have q5 := cl_row (i := 5) HS7.out rfl
  have q7 := cl_row (i := 7) HS7.out rfl
  have x8 : _ = some (Value.bool a.again) := cl_row (i := 8) H4.out.r2 rfl
  have y8 : _ = some (Value.bool b.again) := cl_row (i := 8) H4.out.r3 rfl
  have y9 : _ = some (Value.int .i64 b.time) := cl_row (i := 9) H4.out.r3 rfl
  go_wp2_with fail
  refine Calls.mono KE.out ?_
  rintro e x1 ⟨rfl, hbx⟩
  have G5 : Hid (x1.heap[w2.heap.size]? = _) := (hbx.block _ (lt_of_heap HS5.out)).trans HS5.out
  have G7 : Hid (x1.heap[w3.heap.size]? = _) := (hbx.block _ (lt_of_heap HS7.out)).trans HS7.out
  have GP : Hid (Pair _ _ _ _) := H4.out.below hbx
  have KE2 : Hid (_ : Prop) := equal_yes _ _ _ _ (I5.out.2.1.below hbx) (I4.out.2.1.below hbx) (by omega)
  have J5 : Hid (IntsAt _ _ (takeA a b)) := I5.out.2.2.below hbx
  have J4 : Hid (IntsAt _ _ (takeA a b)) := I4.out.2.2.below hbx
  clear hbx KE I4 I5 H4 HS5 HS7 HR5 H3
  clear p0 p1 p2 p3 p4 p5 p7 p8 q0 q1 q2 q3 q4 q5 q7 x8 y8 y9
  have p0 := cl_row (i := 0) G5.out rfl
  have p1 := cl_row (i := 1) G5.out rfl
  have p2 := cl_row (i := 2) G5.out rfl
  have p3 := cl_row (i := 3) G5.out rfl
  have p4 := cl_row (i := 4) G5.out rfl
  have p5 := cl_row (i := 5) G5.out rfl
  have p7 := cl_row (i := 7) G5.out rfl
  have p8 := cl_row (i := 8) G5.out rfl
  have q0 := cl_row (i := 0) G7.out rfl
  have q1 := cl_row (i := 1) G7.out rfl
  have q2 := cl_row (i := 2) G7.out rfl
  have q3 := cl_row (i := 3) G7.out rfl
  have q4 := cl_row (i := 4) G7.out rfl
  have q5 := cl_row (i := 5) G7.out rfl
  have q7 := cl_row (i := 7) G7.out rfl
  have x8 : _ = some (Value.bool a.again) := cl_row (i := 8) GP.out.r2 rfl
  have y8 : _ = some (Value.bool b.again) := cl_row (i := 8) GP.out.r3 rfl
  have y9 : _ = some (Value.int .i64 b.time) := cl_row (i := 9) GP.out.r3 rfl
  go_wp2_with fail
  refine Calls.mono KE2.out ?_
  rintro e x2 ⟨rfl, hbx⟩
  have F5 : Hid (x2.heap[w2.heap.size]? = _) := (hbx.block _ (lt_of_heap G5.out)).trans G5.out
  have F7 : Hid (x2.heap[w3.heap.size]? = _) := (hbx.block _ (lt_of_heap G7.out)).trans G7.out
  have FP : Hid (Pair _ _ _ _) := GP.out.below hbx
  have KE3 : Hid (_ : Prop) := equal_yes _ _ _ _ (IntsAt.below J5.out hbx) (IntsAt.below J4.out hbx) (by omega)
  clear hbx KE2 J4 J5 GP G5 G7
  clear p0 p1 p2 p3 p4 p5 p7 p8 q0 q1 q2 q3 q4 q5 q7 x8 y8 y9
  have p0 := cl_row (i := 0) F5.out rfl
  have p1 := cl_row (i := 1) F5.out rfl
  have p2 := cl_row (i := 2) F5.out rfl
  have p3 := cl_row (i := 3) F5.out rfl
  have p4 := cl_row (i := 4) F5.out rfl
  have p5 := cl_row (i := 5) F5.out rfl
  have p7 := cl_row (i := 7) F5.out rfl
  have p8 := cl_row (i := 8) F5.out rfl
  have q0 := cl_row (i := 0) F7.out rfl
  have q1 := cl_row (i := 1) F7.out rfl
  have q2 := cl_row (i := 2) F7.out rfl
  have q3 := cl_row (i := 3) F7.out rfl
  have q4 := cl_row (i := 4) F7.out rfl
  have q5 := cl_row (i := 5) F7.out rfl
  have q7 := cl_row (i := 7) F7.out rfl
  have x8 : _ = some (Value.bool a.again) := cl_row (i := 8) FP.out.r2 rfl
  have y8 : _ = some (Value.bool b.again) := cl_row (i := 8) FP.out.r3 rfl
  have y9 : _ = some (Value.int .i64 b.time) := cl_row (i := 9) FP.out.r3 rfl
  go_wp2_with fail
  refine Calls.mono KE3.out ?_
  rintro e x3 ⟨rfl, hbx⟩
  have E5 : Hid (x3.heap[w2.heap.size]? = _) := (hbx.block _ (lt_of_heap F5.out)).trans F5.out
  have E7 : Hid (x3.heap[w3.heap.size]? = _) := (hbx.block _ (lt_of_heap F7.out)).trans F7.out
  have EP : Hid (Pair _ _ _ _) := FP.out.below hbx
  clear hbx KE3 FP F5 F7
  clear p0 p1 p2 p3 p4 p5 p7 p8 q0 q1 q2 q3 q4 q5 q7 x8 y8 y9
  have p0 := cl_row (i := 0) E5.out rfl
  have p1 := cl_row (i := 1) E5.out rfl
  have p2 := cl_row (i := 2) E5.out rfl
  have p3 := cl_row (i := 3) E5.out rfl
  have p4 := cl_row (i := 4) E5.out rfl
  have p5 := cl_row (i := 5) E5.out rfl
  have p7 := cl_row (i := 7) E5.out rfl
  have p8 := cl_row (i := 8) E5.out rfl
  have q0 := cl_row (i := 0) E7.out rfl
  have q1 := cl_row (i := 1) E7.out rfl
  have q2 := cl_row (i := 2) E7.out rfl
  have q3 := cl_row (i := 3) E7.out rfl
  have q4 := cl_row (i := 4) E7.out rfl
  have q5 := cl_row (i := 5) E7.out rfl
  have q7 := cl_row (i := 7) E7.out rfl
  have x8 : _ = some (Value.bool a.again) := cl_row (i := 8) EP.out.r2 rfl
  have y8 : _ = some (Value.bool b.again) := cl_row (i := 8) EP.out.r3 rfl
  have y9 : _ = some (Value.int .i64 b.time) := cl_row (i := 9) EP.out.r3 rfl
  go_wp2
  go_ret
  exact ⟨rfl, EP.out.b⟩
theorem turned_walk (a : Opn) (vfa vaa vka : Value) (b : Opn) (vfb vab vkb : Value) (w : World) (hg : FamSizes w) (ha : ListsAt w a vfa vaa vka) (_ : OpnWf a) (hb : ListsAt w b vfb vab vkb) (_ : OpnWf b) :
    Calls Tryd.prog 3 #[opV a vfa vaa vka, opV b vfb vab vkb] w fun e w' => e = .returned (.bool true) ∧ Below w.heap.size w w' := by
  cases ma : mayB a with
  | false => exact turned_no a vfa vaa vka b vfb vab vkb w hg ha hb (by rw [ma]; rfl)
  | true =>
    cases mb : mayB b with
    | false => exact turned_no a vfa vaa vka b vfb vab vkb w hg ha hb (by rw [ma, mb]; rfl)
    | true => exact turned_yes a vfa vaa vka b vfb vab vkb w hg ha hb ma mb
end Go.Proofs.YtlhnfejgkhilkabDoor
