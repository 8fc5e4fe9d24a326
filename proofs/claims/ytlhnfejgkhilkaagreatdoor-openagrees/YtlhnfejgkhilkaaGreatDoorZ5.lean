/-
  The reference's Agree, of two opens that may be.
-/
import Derived.Test.YtlhnfejgkhilkaaGreatDoorZ4
import Derived.Test.YtlhnfejgkhilkaaGreatDoorW4
import Derived.Deep.DeepCutAuto
import Derived.LoopN
set_option linter.unusedVariables false
set_option linter.unusedSimpArgs false
namespace Go.Proofs.YtlhnfejgkhilkaaGreatDoor
open Go.RowKit
theorem FN_len (a b : Opn) (n : Nat) : (FN a b n).length ≤ n := by
  unfold FN
  exact Nat.le_trans (List.length_filter_le _ _) (by unfold upto; simp)
theorem SN_len (a b : Opn) (n : Nat) : (SN a b n).length ≤ n := Nat.le_trans (List.length_filter_le _ _) (FN_len a b n)
theorem TN_len (a b : Opn) (n : Nat) : (TN a b n).length ≤ n := Nat.le_trans (List.length_filter_le _ _) (FN_len a b n)
theorem KN_len (a b : Opn) (n : Nat) : (KN a b n).length ≤ n * b.kept.length := by
  have h : ∀ L : List Int, (L.flatMap fun f => b.kept.filter fun k => k.f == f).length ≤ L.length * b.kept.length := by
    intro L
    induction L with
    | nil => simp
    | cons f r ih =>
      rw [List.flatMap_cons, List.length_append, List.length_cons, Nat.add_mul]
      have := List.length_filter_le (fun k : Kp => k.f == f) b.kept
      omega
  exact Nat.le_trans (h _) (Nat.mul_le_mul_right _ (FN_len a b n))
theorem take_flt (L : List Kp) (f : Int) (j : Nat) (h : j < L.length) : (L.take (j + 1)).filter (fun k => k.f == f) = (L.take j).filter (fun k => k.f == f) ++ if L[j].f == f then [L[j]] else [] := by
  rw [take_snoc L j h, List.filter_append]
  cases e : (L[j].f == f) <;> simp [e]
theorem run_min (t e : TypeId) (u v : Int) (w : World) : (Builtin.min_ #[t, t] e #[.int .i64 u, .int .i64 v]).run Tryz.prog w = .ok (.int .i64 (min u v)) w := by
  have e1 : (if v < u then v else u) = min u v := by split <;> omega
  simp [Builtin.min_, Builtin.min2, e1]
theorem wpList_min (w : World) {ops : Array Oper} {rest : List Oper} {o : Oper} {a : Act} {Q : Exit → Act → World → Prop} (hgd : o.guard = none) (s x : Operand) (t : TypeId)
    (ho : o.op = .call { callee := .builtin .min, args := #[s, x], argTypes := #[t, t] }) (u v : Int) (hs : a.eval s = .int .i64 u) (hx : a.eval x = .int .i64 v)
    (h : wpList Tryz.prog ops Q rest (a.put o.dst (.int .i64 (min u v))) w) : wpList Tryz.prog ops Q (o :: rest) a w :=
  wpList_plain hgd fun _ hK => by
    unfold Oper.wp
    simp only [execOp, ho, resolve, invoke, builtin, Sem.run_bind, Sem.run_pure, Result.andThen_ok, List.map_toArray, List.map_cons, List.map_nil, hs, hx, run_min]
    exact hK _ _ h
theorem ses_eq {a b : Opn} {m : Int} {x y : Bool} (h1 : m = min a.hold b.hold) (h2 : x = (a.four && b.four)) (h3 : y = (a.refr && b.refr)) :
    (#[.int .i64 m, .slice none 0 0, .bool x, .bool y, .slice none 0 0, .slice none 0 0, .bool b.gr, .bool b.again, .int .i64 b.time, .slice none 0 0] : Array Value) = sesC a b (.slice none 0 0) (.slice none 0 0) (.slice none 0 0) (.slice none 0 0) := by
  subst h1 h2 h3
  rfl
theorem len_ok {m : Nat} (h : m ≤ 5) : m + 1 ≤ maxLen ∧ (m + 1) * 8 ≤ 140737488355328 := ⟨by unfold maxLen; omega, by omega⟩
theorem RgAt.ses {w wr : World} {a b : Opn} {A B : Array Value} {q : Nat} {vf vs vt vk : Value} {F S T : List Int} {K : List Kp} (h : RgAt w wr a b A B q vf vs vt vk F S T K) {w3 : World} {v : Value} {e : TypeId} {size n : Nat} {xs : List Value} (ho : wr.ownsRow (q + 1) e size v n xs) (hg : wr.grownBy w3 v.ownBlock) : w3.heap[q]? = some (.cells (sesC a b vf vs vt vk) 31 (0, 0)) :=
  (hg.block q (lt_of_heap h.rs) (fun e => by have := (ho.lt q e.symm).1; omega)).trans h.rs
theorem run_field1 (x : Int) (y z : Bool) (W : World) : (Instr.field 52 (.agg #[.int .i64 x, .bool y, .bool z]) 1).run Tryz.prog W = .ok (.bool y) W := by kernel_rfl
theorem run_field2 (x : Int) (y z : Bool) (W : World) : (Instr.field 52 (.agg #[.int .i64 x, .bool y, .bool z]) 2).run Tryz.prog W = .ok (.bool z) W := by kernel_rfl
theorem mem_both {a b : Opn} {f : Int} : cmn a b f = (decide (f ∈ a.fams) && decide (f ∈ b.fams)) := rfl
set_option maxRecDepth 100000 in
set_option maxHeartbeats 12800000 in
theorem ragree_yes (a b : Opn) (vfa vaa vka vfb vab vkb : Value) (w : World) (ha : ListsAt w a vfa vaa vka) (hb : ListsAt w b vfb vab vkb) (ma : mayB a = true) (mb : mayB b = true) (wa : OpnWf a) (wb : OpnWf b) :
    Calls Tryz.prog 6 #[opV a vfa vaa vka, opV b vfb vab vkb] w fun e w' => SesOk w.heap.size a b e w' ∧ Below w.heap.size w w' := by
  have K1 : Hid (∀ X, Below w.heap.size w X → Calls Tryz.prog 18 #[opV a vfa vaa vka] X fun e w' => e = .returned (.int .i64 0) ∧ Below X.heap.size X w') := fun X hX => by
    have := rcheck_any a vfa vaa vka X (ha.below hX) wa
    rw [ma] at this
    exact this
  have K2 : Hid (∀ X, Below w.heap.size w X → Calls Tryz.prog 18 #[opV b vfb vab vkb] X fun e w' => e = .returned (.int .i64 0) ∧ Below X.heap.size X w') := fun X hX => by
    have := rcheck_any b vfb vab vkb X (hb.below hX) wb
    rw [mb] at this
    exact this
  obtain ⟨la1, la2, la3⟩ := may_lens ma
  obtain ⟨lb1, lb2, lb3⟩ := may_lens mb
  have KHa : Hid (∀ f X, Below w.heap.size w X → Calls Tryz.prog 19 #[vfa, .int .i64 f] X fun e w' => e = .returned (.bool (decide (f ∈ a.fams))) ∧ w' = X) := fun f X hX => has_any f vfa a.fams X (ha.f.below hX) (by omega)
  have KHb : Hid (∀ f X, Below w.heap.size w X → Calls Tryz.prog 19 #[vfb, .int .i64 f] X fun e w' => e = .returned (.bool (decide (f ∈ b.fams))) ∧ w' = X) := fun f X hX => has_any f vfb b.fams X (hb.f.below hX) (by omega)
  have KAa : Hid (∀ f X, Below w.heap.size w X → Calls Tryz.prog 20 #[opV a vfa vaa vka, .int .i64 f] X fun e w' => e = .returned (.agg #[.int .i64 (addF a.adds f).f, .bool (addF a.adds f).s, .bool (addF a.adds f).t]) ∧ Below X.heap.size X w') := fun f X hX => radd_any a vfa vaa vka f X (ha.a.below hX) (by omega)
  have KAb : Hid (∀ f X, Below w.heap.size w X → Calls Tryz.prog 20 #[opV b vfb vab vkb, .int .i64 f] X fun e w' => e = .returned (.agg #[.int .i64 (addF b.adds f).f, .bool (addF b.adds f).s, .bool (addF b.adds f).t]) ∧ Below X.heap.size X w') := fun f X hX => radd_any b vfb vab vkb f X (hb.a.below hX) (by omega)
  have HFIN : Hid (FN a b 5 = famsA a b ∧ SN a b 5 = sendA a b ∧ TN a b 5 = takeA a b ∧ KN a b 5 = keptL b.kept (famsA a b)) := by
    have qa := mayF_of ma
    have qb := mayF_of mb
    have e1 : FN a b 5 = famsA a b := fams_eq qa.f
    have h1 : ∀ f, f ∈ famsA a b → True := fun _ _ => trivial
    have s1 : ∀ f, (addF a.adds f).s = decide (f ∈ addsL (·.s) a.adds) := fun f => adds_mem (·.s) rfl qa.d f
    have t1 : ∀ f, (addF a.adds f).t = decide (f ∈ addsL (·.t) a.adds) := fun f => adds_mem (·.t) rfl qa.d f
    have s2 : ∀ f, (addF b.adds f).s = decide (f ∈ addsL (·.s) b.adds) := fun f => adds_mem (·.s) rfl qb.d f
    have t2 : ∀ f, (addF b.adds f).t = decide (f ∈ addsL (·.t) b.adds) := fun f => adds_mem (·.t) rfl qb.d f
    have hk : risF 0 (b.kept.map (·.f)) = true := by
      have := qb.r
      unfold restB at this
      split at this
      · simp only [Bool.and_eq_true] at this; exact this.2
      · simp only [Bool.and_eq_true, beq_iff_eq] at this
        have h0 : b.kept = [] := List.length_eq_zero_iff.1 this.2
        rw [h0]; rfl
    refine ⟨e1, ?_, ?_, ?_⟩
    · unfold SN sendA
      rw [e1]
      show (famsA a b).filter _ = (famsA a b).filter _
      refine List.filter_congr fun f _ => ?_
      unfold sndB both
      rw [s1, t2]
      simp [List.mem_filter]
    · unfold TN takeA
      rw [e1]
      show (famsA a b).filter _ = (famsA a b).filter _
      refine List.filter_congr fun f _ => ?_
      unfold tkeB both
      rw [t1, s2]
      simp [List.mem_filter]
    · unfold KN keptL
      rw [← e1]
      unfold FN
      rw [kept_flat (cmn a b) hk]
      refine List.filter_congr fun x hx => ?_
      have hx5 := risF_all hk x.f (List.mem_map.2 ⟨x, hx, rfl⟩)
      have hm : x.f ∈ upto 5 := by
        rw [five]
        have hc : x.f = 1 ∨ x.f = 2 ∨ x.f = 3 ∨ x.f = 4 ∨ x.f = 5 := by omega
        rcases hc with h | h | h | h | h <;> rw [h] <;> decide
      cases hc : cmn a b x.f <;> simp [List.mem_filter, hm, hc]
  obtain ⟨kad, kb, koff, kcap, rfl, khad, khcap, khrow⟩ := hb.k
  have HKR : Hid (∀ X, Below w.heap.size w X → ∀ j (h : j < b.kept.length), X.cell? ⟨kb, koff + j * 2, none⟩ = some (.int .i64 b.kept[j].f) ∧ X.cell? ⟨kb, koff + j * 2 + 1, none⟩ = some (.bool b.kept[j].k)) := fun X hX j hj =>
    ⟨(hX.cell (p := ⟨kb, koff + j * 2, none⟩) (lt_of_cell (khrow j hj).1)).trans (khrow j hj).1, (hX.cell (p := ⟨kb, koff + j * 2 + 1, none⟩) (lt_of_cell (khrow j hj).2)).trans (khrow j hj).2⟩
  clear ha hb khrow khcap
  unfold opV at K1 K2 KAa KAb ⊢
  unfold opC at K1 K2 KAa KAb ⊢
  go_enter Tryz.func6, Tryz.ntmps6
  go_wp2_with fail
  have h3 : Three w (opC a vfa vaa vka) (opC b vfb vab (.slice kad b.kept.length kcap)) zeroS _ := ⟨(three_new w _ _ _).1, (three_new w _ _ _).2.1, (three_new w _ _ _).2.2.1, (three_new w _ _ _).2.2.2⟩
  refine Calls.mono (K1.out _ h3.b) ?_
  rintro e w1 ⟨rfl, hb1⟩
  have H1 : Hid (Three _ _ _ _ _) := h3.below hb1
  have c0 : w1.cell? ⟨w.heap.size + 1, 0, none⟩ = some (.int .u32 b.asn) := cl_row H1.out.r3 rfl
  have c1 : w1.cell? ⟨w.heap.size + 1, 1, none⟩ = some (.int .i64 b.hold) := cl_row H1.out.r3 rfl
  have c2 : w1.cell? ⟨w.heap.size + 1, 2, none⟩ = some (.int .u32 b.id) := cl_row H1.out.r3 rfl
  have c3 : w1.cell? ⟨w.heap.size + 1, 3, none⟩ = some (vfb) := cl_row H1.out.r3 rfl
  have c4 : w1.cell? ⟨w.heap.size + 1, 4, none⟩ = some (.bool b.four) := cl_row H1.out.r3 rfl
  have c5 : w1.cell? ⟨w.heap.size + 1, 5, none⟩ = some (.bool b.refr) := cl_row H1.out.r3 rfl
  have c6 : w1.cell? ⟨w.heap.size + 1, 6, none⟩ = some (vab) := cl_row H1.out.r3 rfl
  have c7 : w1.cell? ⟨w.heap.size + 1, 7, none⟩ = some (.bool b.gr) := cl_row H1.out.r3 rfl
  have c8 : w1.cell? ⟨w.heap.size + 1, 8, none⟩ = some (.bool b.again) := cl_row H1.out.r3 rfl
  have c9 : w1.cell? ⟨w.heap.size + 1, 9, none⟩ = some (.int .i64 b.time) := cl_row H1.out.r3 rfl
  have c10 : w1.cell? ⟨w.heap.size + 1, 10, none⟩ = some (.slice kad b.kept.length kcap) := cl_row H1.out.r3 rfl
  clear h3 hb1 K1
  go_wp2_with fail
  refine Calls.mono (K2.out _ H1.out.b) ?_
  rintro e w2 ⟨rfl, hb2⟩
  have H2 : Hid (Three _ _ _ _ _) := H1.out.below hb2
  clear c0 c1 c2 c3 c4 c5 c6 c7 c8 c9 c10 hb2 H1 K2
  go_upto_region 3 with fail
  have a1 : w2.cell? ⟨w.heap.size, 1, none⟩ = some (.int .i64 a.hold) := cl_row H2.out.r2 rfl
  have a4 : w2.cell? ⟨w.heap.size, 4, none⟩ = some (.bool a.four) := cl_row H2.out.r2 rfl
  have a5 : w2.cell? ⟨w.heap.size, 5, none⟩ = some (.bool a.refr) := cl_row H2.out.r2 rfl
  have b1 : w2.cell? ⟨w.heap.size + 1, 1, none⟩ = some (.int .i64 b.hold) := cl_row H2.out.r3 rfl
  have b4 : w2.cell? ⟨w.heap.size + 1, 4, none⟩ = some (.bool b.four) := cl_row H2.out.r3 rfl
  have b5 : w2.cell? ⟨w.heap.size + 1, 5, none⟩ = some (.bool b.refr) := cl_row H2.out.r3 rfl
  have b7 : w2.cell? ⟨w.heap.size + 1, 7, none⟩ = some (.bool b.gr) := cl_row H2.out.r3 rfl
  have b8 : w2.cell? ⟨w.heap.size + 1, 8, none⟩ = some (.bool b.again) := cl_row H2.out.r3 rfl
  have b9 : w2.cell? ⟨w.heap.size + 1, 9, none⟩ = some (.int .i64 b.time) := cl_row H2.out.r3 rfl
  go_cut [6] (fun s6 wx => s6 = .pointer (some ⟨w2.heap.size, 0, none⟩) ∧ RgAt w wx a b (opC a vfa vaa vka) (opC b vfb vab (.slice kad b.kept.length kcap)) w2.heap.size (.slice none 0 0) (.slice none 0 0) (.slice none 0 0) (.slice none 0 0) [] [] [] [])
  case first =>
    obtain ⟨x4, h4⟩ : ∃ x, a.four = x := ⟨_, rfl⟩
    obtain ⟨x5, h5⟩ : ∃ x, a.refr = x := ⟨_, rfl⟩
    rw [h4] at a4
    rw [h5] at a5
    have H4 : Hid (a.four = x4) := h4
    have H5 : Hid (a.refr = x5) := h5
    clear h4 h5
    cases x4 <;> cases x5
    all_goals go_wp2
    all_goals go_meet
    all_goals exact ⟨rfl, RgAt.start H2.out (ses_eq (by omega) (by rw [H4.out]; simp) (by rw [H5.out]; simp))⟩
  case rest =>
  obtain ⟨rfl, hR0⟩ := hcut
  obtain ⟨q, hq⟩ : ∃ q, q = w2.heap.size := ⟨_, rfl⟩
  rw [← hq] at hR0
  simp only [← hq]
  have HR0 : Hid (RgAt w wc a b (opC a vfa vaa vka) (opC b vfb vab (.slice kad b.kept.length kcap)) q (.slice none 0 0) (.slice none 0 0) (.slice none 0 0) (.slice none 0 0) [] [] [] []) := hR0
  clear a1 a4 a5 b1 b4 b5 b7 b8 b9 H2 hR0 hq ma mb wa wb
  obtain ⟨i0, hi, hz0, hz1, hz2⟩ := info_parts infoI
  obtain ⟨j0, hj, hy0, hy1, hy2⟩ := info_parts infoK
  go_wp2_with fail
  go_loopw [7] (fun i wr => ∃ (n : Nat) (vf vs vt vk : Value), n ≤ 5 ∧ i = .int .i64 ((n : Int) + 1) ∧ RgAt w wr a b (opC a vfa vaa vka) (opC b vfb vab (.slice kad b.kept.length kcap)) q vf vs vt vk (FN a b n) (SN a b n) (TN a b n) (KN a b n)) (fun i _ => 6 - (intOf i).toNat)
  case atStart => exact ⟨0, _, _, _, _, by decide, rfl, HR0.out⟩
  case round =>
    obtain ⟨n, vf, vs, vt, vk, hn, rfl, hR⟩ := hrel
    have HR : Hid (RgAt w wr a b (opC a vfa vaa vka) (opC b vfb vab (.slice kad b.kept.length kcap)) q vf vs vt vk (FN a b n) (SN a b n) (TN a b n) (KN a b n)) := hR
    clear hR HR0
    by_cases hlt : n < 5
    · obtain ⟨f, hf⟩ : ∃ f : Int, f = (n : Int) + 1 := ⟨_, rfl⟩
      have hw : wrap64 (f + 1) = f + 1 := by unfold wrap64; omega
      have HNX : Hid (n + 1 ≤ 5 ∧ wrap64 (f + 1) = ((n + 1 : Nat) : Int) + 1) := ⟨by omega, by rw [hw]; omega⟩
      have HME : Hid (6 - (wrap64 (f + 1)).toNat < 6 - f.toNat) := by unfold Hid; rw [hw]; omega
      clear hw
      rw [← hf]
      have i1 : f ≤ 5 := by omega
      have HLF : Hid ((FN a b n).length + 1 ≤ maxLen ∧ ((FN a b n).length + 1) * 8 ≤ 140737488355328) := len_ok (Nat.le_trans (FN_len a b n) hn)
      have HLS : Hid ((SN a b n).length + 1 ≤ maxLen ∧ ((SN a b n).length + 1) * 8 ≤ 140737488355328) := len_ok (Nat.le_trans (SN_len a b n) hn)
      have HLT : Hid ((TN a b n).length + 1 ≤ maxLen ∧ ((TN a b n).length + 1) * 8 ≤ 140737488355328) := len_ok (Nat.le_trans (TN_len a b n) hn)
      have HLK : Hid ((KN a b n).length ≤ 25) := Nat.le_trans (KN_len a b n) (Nat.mul_le_mul hn lb3)
      have HFC : Hid (f = (n : Int) + 1) := hf
      clear hf
      have c3a : wr.cell? ⟨w.heap.size, 3, none⟩ = some vfa := cl_row HR.out.ra rfl
      have c3b : wr.cell? ⟨w.heap.size + 1, 3, none⟩ = some vfb := cl_row HR.out.rb rfl
      cases hA : decide (f ∈ a.fams) with
      | false =>
        have HX : Hid (_ ∧ _) := all_no (a := a) (b := b) (n := n) (by unfold cmn; rw [← HFC.out, hA]; rfl)
        have HA : Hid (_ = _) := hA
        clear hA
        go_wp2_with (go_at_call 19; (with_reducible refine Calls.mono (KHa.out f _ HR.out.bel) ?_); rw [HA.out]; rintro e w9 ⟨rfl, hw9⟩; subst w9)
        go_roundw
        case rel => exact ⟨n + 1, _, _, _, _, HNX.out.1, by rw [HNX.out.2], by rw [HX.out.1, HX.out.2.1, HX.out.2.2.1, HX.out.2.2.2]; exact HR.out⟩
        case measure => simp only [intOf]; exact HME.out
      | true =>
        cases hB : decide (f ∈ b.fams) with
        | false =>
          have HX : Hid (_ ∧ _) := all_no (a := a) (b := b) (n := n) (by unfold cmn; rw [← HFC.out, hA, hB]; rfl)
          have HA : Hid (_ = _) := hA
          have HB : Hid (_ = _) := hB
          clear hA hB
          go_wp2_with (go_at_call 19; first | ((with_reducible refine Calls.mono (KHa.out f _ HR.out.bel) ?_); rw [HA.out]; rintro e w9 ⟨rfl, hw9⟩; subst w9) | ((with_reducible refine Calls.mono (KHb.out f _ HR.out.bel) ?_); rw [HB.out]; rintro e w9 ⟨rfl, hw9⟩; subst w9))
          go_roundw
          case rel => exact ⟨n + 1, _, _, _, _, HNX.out.1, by rw [HNX.out.2], by rw [HX.out.1, HX.out.2.1, HX.out.2.2.1, HX.out.2.2.2]; exact HR.out⟩
          case measure => simp only [intOf]; exact HME.out
        | true =>
          have hcm : cmn a b ((n : Int) + 1) = true := by unfold cmn; rw [← HFC.out, hA, hB]; rfl
          have HCM : Hid (cmn a b ((n : Int) + 1) = true) := hcm
          have HFN : Hid (FN a b (n + 1) = FN a b n ++ [f]) := by have := FN_yes hcm; rw [← HFC.out] at this; exact this
          have HA : Hid (_ = _) := hA
          have HB : Hid (_ = _) := hB
          clear hA hB hcm
          obtain ⟨⟨fa, sa, ta⟩, hea⟩ : ∃ x, addF a.adds f = x := ⟨_, rfl⟩
          obtain ⟨⟨fb, sb, tb⟩, heb⟩ : ∃ x, addF b.adds f = x := ⟨_, rfl⟩
          have KA1 : Hid (_ : Prop) := KAa.out f
          have KA2 : Hid (_ : Prop) := KAb.out f
          rw [hea] at KA1
          rw [heb] at KA2
          dsimp only at KA1 KA2
          have HEA : Hid (_ = _) := hea
          have HEB : Hid (_ = _) := heb
          clear hea heb
          have hfl1 := run_field1
          have hfl2 := run_field2
          have HSZ : Hid (∀ o, q + 1 ≤ (wr.alloc o).heap.size) := fun o => by have := lt_of_heap HR.out.rs; simp; omega
          have c1s : ∀ o, (wr.alloc o).cell? ⟨q, 1, none⟩ = some vf := fun o => cl_row (HR.out.alloc o).rs rfl
          have c1 : wr.cell? ⟨q, 1, none⟩ = some vf := cl_row HR.out.rs rfl
          go_upto_region 9 with (first | (go_at_call 19; first | ((with_reducible refine Calls.mono (KHa.out f _ HR.out.bel) ?_); rw [HA.out]; rintro e w9 ⟨rfl, hw9⟩; subst w9) | ((with_reducible refine Calls.mono (KHb.out f _ HR.out.bel) ?_); rw [HB.out]; rintro e w9 ⟨rfl, hw9⟩; subst w9)) | (at_builtin; refine wpList_append_lies _ rfl _ _ 23 rfl (q + 1) 3 i0 (.int .i64 0) 1 8 Tryz.underlying23 hi hz0 hz1 hz2 rfl (by decide) vf (FN a b n).length (intsC (FN a b n)) rfl (HR.out.alloc _).f ⟨wr.heap.size, 0, none⟩ 1 1 [.int .i64 f] rfl rfl (news1 wr _ 3) (one_i64 _) (by decide) HLF.out.1 HLF.out.2 (HSZ.out _) _ rfl ?_; intro gf capf w3 hown3 hgrow3 hat3 _; have tq := (HR.out.alloc _).ses (HR.out.alloc _).f hgrow3; have t1 : w3.cell? ⟨q, 1, none⟩ = some vf := cl_row tq rfl; have tf : w3.frozen? ⟨q, 1, none⟩ = false := fz_row tq; clear tq))
          refine with_world (fun W => RgAt w W a b (opC a vfa vaa vka) (opC b vfb vab (.slice kad b.kept.length kcap)) q (.slice (some ⟨gf, 0, none⟩) ((FN a b n).length + 1) capf) vs vt vk (FN a b (n + 1)) (SN a b n) (TN a b n) (KN a b n)) (by rw [HFN.out]; exact (HR.out.alloc _).next_f hown3 hgrow3 hat3) ?_
          intro W1 hW1
          have HR1 : Hid (RgAt _ _ _ _ _ _ _ _ _ _ _ _ _ _ _) := hW1
          clear hown3 hgrow3 hat3 hW1 t1 tf c1 c1s HSZ c3a c3b HA HB HR
          generalize (Value.slice (some ⟨gf, 0, none⟩) ((FN a b n).length + 1) capf) = v1 at *
          obtain ⟨zs, hzs⟩ : ∃ z, z = (sa && tb) := ⟨_, rfl⟩
          have Hzs : Hid (_ = _) := hzs
          clear hzs
          go_upto_region 9 with fail
          go_cut [73] (fun s73 wx => s73 = .bool zs ∧ RgAt w wx a b (opC a vfa vaa vka) (opC b vfb vab (.slice kad b.kept.length kcap)) q v1 vs vt vk (FN a b (n + 1)) (SN a b n) (TN a b n) (KN a b n))
          case first =>
            have a0 : W1.cell? ⟨w.heap.size, 0, none⟩ = some (.int .u32 a.asn) := cl_row (HR1.out).ra rfl
            have a1 : W1.cell? ⟨w.heap.size, 1, none⟩ = some (.int .i64 a.hold) := cl_row (HR1.out).ra rfl
            have a2 : W1.cell? ⟨w.heap.size, 2, none⟩ = some (.int .u32 a.id) := cl_row (HR1.out).ra rfl
            have a3 : W1.cell? ⟨w.heap.size, 3, none⟩ = some (vfa) := cl_row (HR1.out).ra rfl
            have a4 : W1.cell? ⟨w.heap.size, 4, none⟩ = some (.bool a.four) := cl_row (HR1.out).ra rfl
            have a5 : W1.cell? ⟨w.heap.size, 5, none⟩ = some (.bool a.refr) := cl_row (HR1.out).ra rfl
            have a6 : W1.cell? ⟨w.heap.size, 6, none⟩ = some (vaa) := cl_row (HR1.out).ra rfl
            have a7 : W1.cell? ⟨w.heap.size, 7, none⟩ = some (.bool a.gr) := cl_row (HR1.out).ra rfl
            have a8 : W1.cell? ⟨w.heap.size, 8, none⟩ = some (.bool a.again) := cl_row (HR1.out).ra rfl
            have a9 : W1.cell? ⟨w.heap.size, 9, none⟩ = some (.int .i64 a.time) := cl_row (HR1.out).ra rfl
            have a10 : W1.cell? ⟨w.heap.size, 10, none⟩ = some (vka) := cl_row (HR1.out).ra rfl
            cases sa with
            | false =>
              go_wp2_with (go_at_call 20; (with_reducible refine Calls.mono (KA1.out _ HR1.out.bel) ?_); rintro e w9 ⟨rfl, hb9⟩)
              go_meet
              exact ⟨by rw [Hzs.out]; simp, HR1.out.later hb9⟩
            | true =>
              go_wp2_with (go_at_call 20; first | ((with_reducible refine Calls.mono (KA1.out _ HR1.out.bel) ?_); rintro e w9 ⟨rfl, hb9⟩; have H9 : Hid (RgAt _ _ _ _ _ _ _ _ _ _ _ _ _ _ _) := HR1.out.later hb9; clear hb9; have b0 : w9.cell? ⟨w.heap.size + 1, 0, none⟩ = some (.int .u32 b.asn) := cl_row (H9.out).rb rfl; have b1 : w9.cell? ⟨w.heap.size + 1, 1, none⟩ = some (.int .i64 b.hold) := cl_row (H9.out).rb rfl; have b2 : w9.cell? ⟨w.heap.size + 1, 2, none⟩ = some (.int .u32 b.id) := cl_row (H9.out).rb rfl; have b3 : w9.cell? ⟨w.heap.size + 1, 3, none⟩ = some (vfb) := cl_row (H9.out).rb rfl; have b4 : w9.cell? ⟨w.heap.size + 1, 4, none⟩ = some (.bool b.four) := cl_row (H9.out).rb rfl; have b5 : w9.cell? ⟨w.heap.size + 1, 5, none⟩ = some (.bool b.refr) := cl_row (H9.out).rb rfl; have b6 : w9.cell? ⟨w.heap.size + 1, 6, none⟩ = some (vab) := cl_row (H9.out).rb rfl; have b7 : w9.cell? ⟨w.heap.size + 1, 7, none⟩ = some (.bool b.gr) := cl_row (H9.out).rb rfl; have b8 : w9.cell? ⟨w.heap.size + 1, 8, none⟩ = some (.bool b.again) := cl_row (H9.out).rb rfl; have b9 : w9.cell? ⟨w.heap.size + 1, 9, none⟩ = some (.int .i64 b.time) := cl_row (H9.out).rb rfl; have b10 : w9.cell? ⟨w.heap.size + 1, 10, none⟩ = some (.slice kad b.kept.length kcap) := cl_row (H9.out).rb rfl) | ((with_reducible refine Calls.mono (KA2.out _ H9.out.bel) ?_); rintro e w8 ⟨rfl, hb8⟩; have H8 : Hid (RgAt _ _ _ _ _ _ _ _ _ _ _ _ _ _ _) := H9.out.later hb8; clear hb8))
              go_meet
              exact ⟨by rw [Hzs.out]; simp, H8.out⟩
          case rest =>
          obtain ⟨rfl, hmHR2⟩ := hcut
          generalize wc = wmHR2 at *
          have MHR2 : Hid (RgAt _ _ _ _ _ _ _ _ _ _ _ _ _ _ _) := hmHR2
          clear hmHR2 HR1
          go_upto_if 73 with fail
          go_cut [] (fun wx => ∃ v', RgAt w wx a b (opC a vfa vaa vka) (opC b vfb vab (.slice kad b.kept.length kcap)) q v1 v' vt vk (FN a b (n + 1)) (SN a b (n + 1)) (TN a b n) (KN a b n))
          case first =>
            cases zs with
            | false =>
              go_wp2
              go_meet
              exact ⟨_, by rw [SN_no HCM.out (by unfold sndB; rw [← HFC.out, HEA.out, HEB.out]; exact Hzs.out.symm)]; exact MHR2.out⟩
            | true =>
              have HSZ : Hid (∀ o, q + 1 ≤ (wmHR2.alloc o).heap.size) := fun o => by have := lt_of_heap MHR2.out.rs; simp; omega
              have d1 : ∀ o, (wmHR2.alloc o).cell? ⟨q, 4, none⟩ = some vs := fun o => cl_row (MHR2.out.alloc o).rs rfl
              have d2 : wmHR2.cell? ⟨q, 4, none⟩ = some vs := cl_row MHR2.out.rs rfl
              go_wp2_with (at_builtin; refine wpList_append_lies _ rfl _ _ 23 rfl (q + 1) 3 i0 (.int .i64 0) 1 8 Tryz.underlying23 hi hz0 hz1 hz2 rfl (by decide) vs (SN a b n).length (intsC (SN a b n)) rfl (MHR2.out.alloc _).s ⟨wmHR2.heap.size, 0, none⟩ 1 1 [.int .i64 f] rfl rfl (news1 wmHR2 _ 3) (one_i64 _) (by decide) HLS.out.1 HLS.out.2 (HSZ.out _) _ rfl ?_; intro gs caps w3 hown3 hgrow3 hat3 _; have tq := (MHR2.out.alloc _).ses (MHR2.out.alloc _).s hgrow3; have t1 : w3.cell? ⟨q, 4, none⟩ = some vs := cl_row tq rfl; have tf : w3.frozen? ⟨q, 4, none⟩ = false := fz_row tq; clear tq)
              go_meet
              exact ⟨_, by rw [SN_yes HCM.out (by unfold sndB; rw [← HFC.out, HEA.out, HEB.out]; exact Hzs.out.symm), ← HFC.out]; exact (MHR2.out.alloc _).next_s hown3 hgrow3 hat3⟩
          case rest =>
          obtain ⟨vs2, hHR2⟩ := hcut
          generalize wc = wHR2 at *
          have HR2 : Hid (RgAt _ _ _ _ _ _ _ _ _ _ _ _ _ _ _) := hHR2
          clear hHR2 MHR2
          obtain ⟨zt, hzt⟩ : ∃ z, z = (ta && sb) := ⟨_, rfl⟩
          have Hzt : Hid (_ = _) := hzt
          clear hzt
          go_upto_region 11 with fail
          go_cut [89] (fun s73 wx => s73 = .bool zt ∧ RgAt w wx a b (opC a vfa vaa vka) (opC b vfb vab (.slice kad b.kept.length kcap)) q v1 vs2 vt vk (FN a b (n + 1)) (SN a b (n + 1)) (TN a b n) (KN a b n))
          case first =>
            have a0 : wHR2.cell? ⟨w.heap.size, 0, none⟩ = some (.int .u32 a.asn) := cl_row (HR2.out).ra rfl
            have a1 : wHR2.cell? ⟨w.heap.size, 1, none⟩ = some (.int .i64 a.hold) := cl_row (HR2.out).ra rfl
            have a2 : wHR2.cell? ⟨w.heap.size, 2, none⟩ = some (.int .u32 a.id) := cl_row (HR2.out).ra rfl
            have a3 : wHR2.cell? ⟨w.heap.size, 3, none⟩ = some (vfa) := cl_row (HR2.out).ra rfl
            have a4 : wHR2.cell? ⟨w.heap.size, 4, none⟩ = some (.bool a.four) := cl_row (HR2.out).ra rfl
            have a5 : wHR2.cell? ⟨w.heap.size, 5, none⟩ = some (.bool a.refr) := cl_row (HR2.out).ra rfl
            have a6 : wHR2.cell? ⟨w.heap.size, 6, none⟩ = some (vaa) := cl_row (HR2.out).ra rfl
            have a7 : wHR2.cell? ⟨w.heap.size, 7, none⟩ = some (.bool a.gr) := cl_row (HR2.out).ra rfl
            have a8 : wHR2.cell? ⟨w.heap.size, 8, none⟩ = some (.bool a.again) := cl_row (HR2.out).ra rfl
            have a9 : wHR2.cell? ⟨w.heap.size, 9, none⟩ = some (.int .i64 a.time) := cl_row (HR2.out).ra rfl
            have a10 : wHR2.cell? ⟨w.heap.size, 10, none⟩ = some (vka) := cl_row (HR2.out).ra rfl
            cases ta with
            | false =>
              go_wp2_with (go_at_call 20; (with_reducible refine Calls.mono (KA1.out _ HR2.out.bel) ?_); rintro e w9 ⟨rfl, hb9⟩)
              go_meet
              exact ⟨by rw [Hzt.out]; simp, HR2.out.later hb9⟩
            | true =>
              go_wp2_with (go_at_call 20; first | ((with_reducible refine Calls.mono (KA1.out _ HR2.out.bel) ?_); rintro e w9 ⟨rfl, hb9⟩; have H9 : Hid (RgAt _ _ _ _ _ _ _ _ _ _ _ _ _ _ _) := HR2.out.later hb9; clear hb9; have b0 : w9.cell? ⟨w.heap.size + 1, 0, none⟩ = some (.int .u32 b.asn) := cl_row (H9.out).rb rfl; have b1 : w9.cell? ⟨w.heap.size + 1, 1, none⟩ = some (.int .i64 b.hold) := cl_row (H9.out).rb rfl; have b2 : w9.cell? ⟨w.heap.size + 1, 2, none⟩ = some (.int .u32 b.id) := cl_row (H9.out).rb rfl; have b3 : w9.cell? ⟨w.heap.size + 1, 3, none⟩ = some (vfb) := cl_row (H9.out).rb rfl; have b4 : w9.cell? ⟨w.heap.size + 1, 4, none⟩ = some (.bool b.four) := cl_row (H9.out).rb rfl; have b5 : w9.cell? ⟨w.heap.size + 1, 5, none⟩ = some (.bool b.refr) := cl_row (H9.out).rb rfl; have b6 : w9.cell? ⟨w.heap.size + 1, 6, none⟩ = some (vab) := cl_row (H9.out).rb rfl; have b7 : w9.cell? ⟨w.heap.size + 1, 7, none⟩ = some (.bool b.gr) := cl_row (H9.out).rb rfl; have b8 : w9.cell? ⟨w.heap.size + 1, 8, none⟩ = some (.bool b.again) := cl_row (H9.out).rb rfl; have b9 : w9.cell? ⟨w.heap.size + 1, 9, none⟩ = some (.int .i64 b.time) := cl_row (H9.out).rb rfl; have b10 : w9.cell? ⟨w.heap.size + 1, 10, none⟩ = some (.slice kad b.kept.length kcap) := cl_row (H9.out).rb rfl) | ((with_reducible refine Calls.mono (KA2.out _ H9.out.bel) ?_); rintro e w8 ⟨rfl, hb8⟩; have H8 : Hid (RgAt _ _ _ _ _ _ _ _ _ _ _ _ _ _ _) := H9.out.later hb8; clear hb8))
              go_meet
              exact ⟨by rw [Hzt.out]; simp, H8.out⟩
          case rest =>
          obtain ⟨rfl, hmHR3⟩ := hcut
          generalize wc = wmHR3 at *
          have MHR3 : Hid (RgAt _ _ _ _ _ _ _ _ _ _ _ _ _ _ _) := hmHR3
          clear hmHR3 HR2
          go_upto_if 89 with fail
          go_cut [] (fun wx => ∃ v', RgAt w wx a b (opC a vfa vaa vka) (opC b vfb vab (.slice kad b.kept.length kcap)) q v1 vs2 v' vk (FN a b (n + 1)) (SN a b (n + 1)) (TN a b (n + 1)) (KN a b n))
          case first =>
            cases zt with
            | false =>
              go_wp2
              go_meet
              exact ⟨_, by rw [TN_no HCM.out (by unfold tkeB; rw [← HFC.out, HEA.out, HEB.out]; exact Hzt.out.symm)]; exact MHR3.out⟩
            | true =>
              have HSZ : Hid (∀ o, q + 1 ≤ (wmHR3.alloc o).heap.size) := fun o => by have := lt_of_heap MHR3.out.rs; simp; omega
              have d1 : ∀ o, (wmHR3.alloc o).cell? ⟨q, 5, none⟩ = some vt := fun o => cl_row (MHR3.out.alloc o).rs rfl
              have d2 : wmHR3.cell? ⟨q, 5, none⟩ = some vt := cl_row MHR3.out.rs rfl
              go_wp2_with (at_builtin; refine wpList_append_lies _ rfl _ _ 23 rfl (q + 1) 3 i0 (.int .i64 0) 1 8 Tryz.underlying23 hi hz0 hz1 hz2 rfl (by decide) vt (TN a b n).length (intsC (TN a b n)) rfl (MHR3.out.alloc _).t ⟨wmHR3.heap.size, 0, none⟩ 1 1 [.int .i64 f] rfl rfl (news1 wmHR3 _ 3) (one_i64 _) (by decide) HLT.out.1 HLT.out.2 (HSZ.out _) _ rfl ?_; intro gt capt w3 hown3 hgrow3 hat3 _; have tq := (MHR3.out.alloc _).ses (MHR3.out.alloc _).t hgrow3; have t1 : w3.cell? ⟨q, 5, none⟩ = some vt := cl_row tq rfl; have tf : w3.frozen? ⟨q, 5, none⟩ = false := fz_row tq; clear tq)
              go_meet
              exact ⟨_, by rw [TN_yes HCM.out (by unfold tkeB; rw [← HFC.out, HEA.out, HEB.out]; exact Hzt.out.symm), ← HFC.out]; exact (MHR3.out.alloc _).next_t hown3 hgrow3 hat3⟩
          case rest =>
          obtain ⟨vt2, hHR3⟩ := hcut
          generalize wc = wHR3 at *
          have HR3 : Hid (RgAt _ _ _ _ _ _ _ _ _ _ _ _ _ _ _) := hHR3
          clear hHR3 MHR3
          have HKY : Hid (KN a b (n + 1) = KN a b n ++ b.kept.filter (fun k => k.f == f)) := by have := KN_yes HCM.out; rw [← HFC.out] at this; exact this
          have HLT2 : Hid (b.kept.length ≤ 5) := lb3
          have HKL : Hid (∀ j, (KN a b n ++ (b.kept.take j).filter (fun k => k.f == f)).length ≤ 30) := fun j => by
            rw [List.length_append]
            have h1 := HLK.out
            have h2 := List.length_filter_le (fun k : Kp => k.f == f) (b.kept.take j)
            rw [List.length_take] at h2
            omega
          have HKF : Hid (∀ j (h : j < b.kept.length), KN a b n ++ (b.kept.take (j + 1)).filter (fun k => k.f == f) = (KN a b n ++ (b.kept.take j).filter (fun k => k.f == f)) ++ if b.kept[j].f == f then [b.kept[j]] else []) := fun j h => by rw [take_flt _ _ j h, List.append_assoc]
          clear KA1 KA2 HEA HEB hfl1 hfl2 HLF HLS HLT HFN i0 hi hz0 hz1 hz2 Hzs Hzt
          go_wp2_with fail
          go_loopw [8] (fun i wx => ∃ (j : Nat) (vk' : Value), j ≤ b.kept.length ∧ i = .int .i64 j ∧ RgAt w wx a b (opC a vfa vaa vka) (opC b vfb vab (.slice kad b.kept.length kcap)) q v1 vs2 vt2 vk' (FN a b (n + 1)) (SN a b (n + 1)) (TN a b (n + 1)) (KN a b n ++ (b.kept.take j).filter (fun k => k.f == f))) (fun i _ => b.kept.length - (intOf i).toNat)
          case atStart => exact ⟨0, vk, Nat.zero_le _, rfl, by rw [List.take_zero, List.filter_nil, List.append_nil]; exact HR3.out⟩
          case round =>
            obtain ⟨j, vk3, hj5, rfl, hRj⟩ := hrel
            have HRJ : Hid (RgAt _ _ _ _ _ _ _ _ _ _ _ _ _ _ _) := hRj
            clear hRj HR3
            have d10 : wr.cell? ⟨w.heap.size + 1, 10, none⟩ = some (.slice kad b.kept.length kcap) := cl_row HRJ.out.rb rfl
            by_cases hjl : j < b.kept.length
            · have i2 : (j : Int) < (b.kept.length : Int) := by omega
              obtain rfl : kad = some ⟨kb, koff, none⟩ := by
                rcases khad with h | h
                · exact h
                · omega
              have k0 := (HKR.out _ HRJ.out.bel j hjl).1
              have k1 := (HKR.out _ HRJ.out.bel j hjl).2
              have HFJ : Hid (_ = _) := HKF.out j hjl
              by_cases he : b.kept[j].f = f
              · have hfj := HFJ.out
                rw [he, if_pos (by simp)] at hfj
                rw [he] at k0
                have HFI : Hid (_ = _) := hfj
                have HEF : Hid (b.kept[j].f = f) := he
                clear hfj he HFJ
                generalize hkj : b.kept[j] = kj at *
                obtain ⟨kf, kk⟩ := kj
                dsimp only at k1 HEF
                have HLN : Hid ((KN a b n ++ (b.kept.take j).filter (fun k => k.f == f)).length ≤ 30) := HKL.out j
                have HSZ : Hid (∀ o, q + 1 ≤ (wr.alloc o).heap.size) := fun o => by have := lt_of_heap HRJ.out.rs; simp; omega
                have d9 : ∀ o, (wr.alloc o).cell? ⟨q, 9, none⟩ = some vk3 := fun o => cl_row (HRJ.out.alloc o).rs rfl
                have d9' : wr.cell? ⟨q, 9, none⟩ = some vk3 := cl_row HRJ.out.rs rfl
                have d10' : ∀ o, (wr.alloc o).cell? ⟨w.heap.size + 1, 10, none⟩ = some (.slice (some ⟨kb, koff, none⟩) b.kept.length kcap) := fun o => cl_row (HRJ.out.alloc o).rb rfl
                have HOA : Hid ((wr.alloc (.cells #[.int .i64 f, .bool kk] 40)).drew.ownsRow (q + 1) 40 2 vk3 (KN a b n ++ (b.kept.take j).filter (fun k => k.f == f)).length (keptC (KN a b n ++ (b.kept.take j).filter (fun k => k.f == f)))) := (HRJ.out.alloc _).k
                have HNW : Hid (∀ (k : Nat) (u : Value), [Value.int .i64 f, .bool kk][k]? = some u → (wr.alloc (.cells #[.int .i64 f, .bool kk] 40)).drew.cell? (Addr.add ⟨wr.heap.size, 0, none⟩ k) = some u) := news2 wr _ _ 40
                have HBD : Hid ((KN a b n ++ (b.kept.take j).filter (fun k => k.f == f)).length + 1 ≤ maxLen ∧ ((KN a b n ++ (b.kept.take j).filter (fun k => k.f == f)).length + 1) * 16 ≤ 140737488355328) := by
                  have := HLN.out
                  exact ⟨by unfold maxLen; omega, by omega⟩
                have HDR : Hid (RgAt w (wr.alloc (.cells #[.int .i64 f, .bool kk] 40)).drew a b _ _ q v1 vs2 vt2 vk3 _ _ _ (KN a b n ++ (b.kept.take j).filter (fun k => k.f == f))) := (HRJ.out.alloc _).drew
                go_wp2
                go_region_law (refine step_append_lies _ (by rfl) _ _ 25 (by rfl) (q + 1) 40 j0 (.agg #[.int .i64 0, .bool false]) 2 16 Tryz.underlying25 hj hy0 hy1 hy2 rfl (by decide) vk3 _ _ (by rfl) HOA.out ⟨wr.heap.size, 0, none⟩ 1 1 [.int .i64 f, .bool kk] (by rfl) rfl HNW.out (two_kp _ _) (by decide) HBD.out.1 HBD.out.2 (HSZ.out _) _ rfl ?_; intro gk capk w3 hown3 hgrow3 hat3 _; have tq := HDR.out.ses HDR.out.k hgrow3; have t1 : w3.cell? ⟨q, 9, none⟩ = some vk3 := cl_row tq rfl; have tf : w3.frozen? ⟨q, 9, none⟩ = false := fz_row tq; clear tq)
                all_goals go_wp2
                all_goals go_roundw
                all_goals first
                  | (simp [intOf]; omega)
                  | exact ⟨j + 1, _, by omega, by go_num, by have h9 := HDR.out.next_k (x := ⟨f, kk⟩) hown3 hgrow3 hat3; simp only [List.length_append] at h9; rw [HFI.out, show (⟨kf, kk⟩ : Kp) = ⟨f, kk⟩ by rw [HEF.out]]; exact h9⟩
              · have e0 : (b.kept[j].f == f) = false := by simpa using he
                have hfj := HFJ.out
                rw [if_neg (by simpa using he), List.append_nil] at hfj
                have HFI : Hid (_ = _) := hfj
                clear hfj he HFJ
                go_wp2
                go_roundw
                case rel => exact ⟨j + 1, _, by omega, by go_num, by rw [HFI.out]; exact HRJ.out⟩
                case measure => simp [intOf]; omega
            · have hje : j = b.kept.length := by omega
              subst hje
              have i2 : ¬ ((b.kept.length : Int) < (b.kept.length : Int)) := by omega
              have HZ : Hid (RgAt w wr a b (opC a vfa vaa vka) (opC b vfb vab (.slice kad b.kept.length kcap)) q v1 vs2 vt2 vk3 (FN a b (n + 1)) (SN a b (n + 1)) (TN a b (n + 1)) (KN a b (n + 1))) := by
                have := HRJ.out
                rw [List.take_length, ← HKY.out] at this
                exact this
              go_wp2
              go_roundw
              case rel => exact ⟨n + 1, _, _, _, _, HNX.out.1, by rw [HNX.out.2], HZ.out⟩
              case measure => simp only [intOf]; exact HME.out
    · have hn5 : n = 5 := by omega
      subst hn5
      have i1 : ¬ ((5 : Int) + 1 ≤ 5) := by omega
      have hone := ses_one a b vf vs vt vk HR.out.f HR.out.s HR.out.t HR.out.k
      go_wp2_with (first | (refine wpList_load_row rfl 31 _ rfl q rfl 31 _ (0, 0) _ HR.out.rs Tryz.underlying31 rfl (info31 a b vf vs vt vk) ?_) | (refine wpList_store_row rfl 31 _ _ rfl (w.heap.size + 1 + 1) (sesC a b vf vs vt vk) rfl rfl 31 _ HR.out.rr (info31 a b vf vs vt vk) rfl hone ?_))
      refine bodyPost_ret (results_cell_tmp (P := Tryz.prog) rfl _ _ (w.heap.size + 1 + 1) 31 (sesC a b vf vs vt vk) (0, 0) _ _ rfl rfl (row_same _ _ _ _ HR.out.rr) Tryz.underlying31 rfl (info31 a b vf vs vt vk)) rfl ⟨⟨vf, vs, vt, vk, rfl, ?_, ?_, ?_, ?_⟩, below_setRow HR.out.bel (by omega) _⟩
      all_goals have hq := HR.out.hq
      all_goals have hot : ∀ g, q + 1 ≤ g → (wr.setRow (w.heap.size + 1 + 1) (sesC a b vf vs vt vk)).heap[g]? = wr.heap[g]? := fun g hg => row_other _ _ _ _ (by omega)
      · rw [← HFIN.out.1]; exact owns_mono (own_other HR.out.f hot) (by omega)
      · rw [← HFIN.out.2.1]; exact owns_mono (own_other HR.out.s hot) (by omega)
      · rw [← HFIN.out.2.2.1]; exact owns_mono (own_other HR.out.t hot) (by omega)
      · rw [← HFIN.out.2.2.2]; exact owns_mono (own_other HR.out.k hot) (by omega)
end Go.Proofs.YtlhnfejgkhilkaaGreatDoor
