/-
  The session that two agree upon.
-/
import Derived.Test.YtlhnfejgkhilkaaGreatDoorAG
import Derived.Test.YtlhnfejgkhilkaaGreatDoorO3
import Derived.Test.YtlhnfejgkhilkaaGreatDoorRFa
import Derived.Laws.Tables
set_option linter.unusedVariables false
namespace Go.Proofs.YtlhnfejgkhilkaaGreatDoor
open Go.RowKit
def famsA (a b : Opn) : List Int := both a.fams b.fams
def sendA (a b : Opn) : List Int := both (famsA a b) (both (addsL (·.s) a.adds) (addsL (·.t) b.adds))
def takeA (a b : Opn) : List Int := both (famsA a b) (both (addsL (·.t) a.adds) (addsL (·.s) b.adds))
def sesC (a b : Opn) (vf vs vt vk : Value) : Array Value := #[.int .i64 (min a.hold b.hold), vf, .bool (a.four && b.four), .bool (a.refr && b.refr), vs, vt, .bool b.gr, .bool b.again, .int .i64 b.time, vk]
def zeroS : Array Value := #[.int .i64 0, .slice none 0 0, .bool false, .bool false, .slice none 0 0, .slice none 0 0, .bool false, .bool false, .int .i64 0, .slice none 0 0]
def SesOk (base : Nat) (a b : Opn) (e : Ending) (w' : World) : Prop :=
  ∃ vf vs vt vk, e = .returned (.tuple #[.agg (sesC a b vf vs vt vk), .int .i64 0]) ∧ OwnI w' base vf (famsA a b) ∧ OwnI w' base vs (sendA a b) ∧ OwnI w' base vt (takeA a b) ∧ OwnK w' base vk (keptL b.kept (famsA a b))
theorem may_lens {o : Opn} (h : mayB o = true) : o.fams.length ≤ 5 ∧ o.adds.length ≤ 5 ∧ o.kept.length ≤ 5 := by
  unfold mayB at h
  simp only [Bool.and_eq_true, decide_eq_true_eq] at h
  have h1 := risF_length 0 o.fams h.1.1.1.2 (by omega)
  have h2 := risF_length 0 _ h.1.1.2 (by omega)
  have h3 := h.2
  rw [List.length_map] at h2
  refine ⟨by omega, by omega, ?_⟩
  unfold restB at h3
  split at h3
  · simp only [Bool.and_eq_true, decide_eq_true_eq] at h3
    have := risF_length 0 _ h3.2 (by omega)
    rw [List.length_map] at this
    omega
  · simp only [Bool.and_eq_true] at h3
    have := h3.2
    first | (simp at this; simp [this]) | (simp at this; omega)
theorem owns_mono {w : World} {base base' : Nat} {e : TypeId} {size : Nat} {v : Value} {n : Nat} {xs : List Value} (h : w.ownsRow base e size v n xs) (hb : base' ≤ base) : w.ownsRow base' e size v n xs := by
  obtain ⟨h0, h | ⟨g, cap, cur, h, hg, k⟩⟩ := h
  · exact ⟨h0, Or.inl h⟩
  · exact ⟨h0, Or.inr ⟨g, cap, cur, h, Nat.le_trans hb hg, k⟩⟩
theorem both_len (A B : List Int) : (both A B).length ≤ A.length := List.length_filter_le _ _
theorem addsL_len (s : Ad → Bool) (L : List Ad) : (addsL s L).length ≤ L.length := by
  unfold addsL
  rw [List.length_map]
  exact List.length_filter_le _ _
theorem three_new (w : World) (A B C : Obj) : Below w.heap.size w (((w.alloc A).alloc B).alloc C) ∧ (((w.alloc A).alloc B).alloc C).heap[w.heap.size]? = some A ∧ (((w.alloc A).alloc B).alloc C).heap[w.heap.size + 1]? = some B ∧ (((w.alloc A).alloc B).alloc C).heap[w.heap.size + 1 + 1]? = some C := by
  refine ⟨(((Below.refl _ _).alloc (Nat.le_refl _) _).alloc (by simp) _).alloc (by simp; omega) _, ?_, ?_, ?_⟩
  · show (((w.heap.push A).push B).push C)[w.heap.size]? = _
    rw [Array.getElem?_push, if_neg (by simp; omega), Array.getElem?_push, if_neg (by simp), Array.getElem?_push, if_pos rfl]
  · show (((w.heap.push A).push B).push C)[w.heap.size + 1]? = _
    rw [Array.getElem?_push, if_neg (by simp), Array.getElem?_push, if_pos (by simp)]
  · show (((w.heap.push A).push B).push C)[w.heap.size + 1 + 1]? = _
    rw [Array.getElem?_push, if_pos (by simp)]
/-- The three blocks that the function makes. -/
structure Three (w : World) (A B C : Array Value) (W : World) : Prop where
  b : Below w.heap.size w W
  r2 : W.heap[w.heap.size]? = some (.cells A 27 (0, 0))
  r3 : W.heap[w.heap.size + 1]? = some (.cells B 27 (0, 0))
  r4 : W.heap[w.heap.size + 1 + 1]? = some (.cells C 31 (0, 0))
theorem Three.below {w : World} {A B C : Array Value} {W W' : World} (h : Three w A B C W) (hb : Below W.heap.size W W') : Three w A B C W' :=
  ⟨h.b.trans (hb.mono h.b.size), (hb.block _ (lt_of_heap h.r2)).trans h.r2, (hb.block _ (lt_of_heap h.r3)).trans h.r3, (hb.block _ (lt_of_heap h.r4)).trans h.r4⟩
theorem results_cell_tmp {P : Program} {fn : Func} {p q : Tmp} {ty : TypeId} (h : fn.results = #[.cell p ty, .tmp q]) (tmps : Array Value) (w : World) (g : Nat) (t : TypeId) (cs : Array Value) (fr : Nat × Nat) (d : TypeDesc) (u : Value)
    (hp : tmps.getD p undef = .pointer (some ⟨g, 0, none⟩)) (hq : tmps.getD q undef = u) (hg : w.heap[g]? = some (.cells cs t fr))
    (hu : P.underlying ty = some d) (hd : (match d with | .struct _ | .array _ _ => true | _ => false) = true) (hi : (P.info? ty).map (·.size) = some cs.size) :
    (results fn tmps).run P w = .ok (.tuple #[.agg cs, u]) w := by
  have hp' : tmps[p]?.getD undef = .pointer (some ⟨g, 0, none⟩) := by simpa using hp
  have hq' : tmps[q]?.getD undef = u := by simpa using hq
  simp [results, h, hp', hq', asAddr, run_loadVar_row w g t ty cs fr d hg hu hd hi]
/-- The session is laid. -/
def Sto (w : World) (a b : Opn) (X : World) : Prop :=
  ∃ vf vs vt vk, X.heap[w.heap.size + 1 + 1]? = some (.cells (sesC a b vf vs vt vk) 31 (0, 0)) ∧ OwnI X (w.heap.size + 3) vf (famsA a b) ∧ OwnI X (w.heap.size + 3) vs (sendA a b) ∧ OwnI X (w.heap.size + 3) vt (takeA a b) ∧ OwnK X (w.heap.size + 3) vk (keptL b.kept (famsA a b))
/-- What may become of the world: nothing but the session's own block is written. -/
structure EvA (p : Nat) (S : World → Prop) (X Y : World) : Prop where
  be : Beside p X Y
  sz : ∀ C, X.heap[p]? = some (.cells C 31 (0, 0)) → C.size = 10 → ∃ C', Y.heap[p]? = some (.cells C' 31 (0, 0)) ∧ C'.size = 10
  st : S X → S Y
theorem EvA.refl (p : Nat) (S : World → Prop) (X : World) : EvA p S X X := ⟨⟨rfl, rfl, rfl, Nat.le_refl _, fun _ _ _ => rfl, fun C t h => ⟨C, h⟩⟩, fun C h1 h2 => ⟨C, h1, h2⟩, id⟩
theorem EvA.trans {p : Nat} {S : World → Prop} (X Y Z : World) (h : EvA p S X Y) (k : EvA p S Y Z) : EvA p S X Z :=
  ⟨h.be.trans k.be, fun C h1 h2 => by obtain ⟨C', e1, e2⟩ := h.sz C h1 h2; exact k.sz C' e1 e2, fun hs => k.st (h.st hs)⟩
theorem own_apart {w : World} {base e size n : Nat} {v : Value} {xs : List Value} {p : Nat} {X Y : World} (h : X.ownsRow base e size v n xs) (hb : Beside p X Y) (hp : p < base) : Y.ownsRow base e size v n xs := by
  obtain ⟨h0, ⟨e1, e2⟩ | ⟨g, cap, cur, hv, hg, hh, k⟩⟩ := h
  · exact ⟨h0, Or.inl ⟨e1, e2⟩⟩
  · exact ⟨h0, Or.inr ⟨g, cap, cur, hv, hg, (hb.block g (lt_of_heap hh) (by omega)).trans hh, k⟩⟩
theorem kept_ownI {p base : Nat} {S : World → Prop} {w0 : World} (L : List Int) (hp : p < base) : Kept (EvA p S) w0 (fun v X => OwnI X base v L) := fun v X Y _ h hv => own_apart (w := X) hv h.be hp
theorem kept_ownK {p base : Nat} {S : World → Prop} {w0 : World} (L : List Kp) (hp : p < base) : Kept (EvA p S) w0 (fun v X => OwnK X base v L) := fun v X Y _ h hv => own_apart (w := X) hv h.be hp
theorem kept_ses {p base : Nat} {S : World → Prop} {w0 : World} (a b : Opn) (vF : Value) (hp : p < base) : Kept (EvA p S) w0 (fun v X => ∃ vs vt vk, v = .agg (sesC a b vF vs vt vk) ∧ OwnI X base vs (sendA a b) ∧ OwnI X base vt (takeA a b) ∧ OwnK X base vk (keptL b.kept (famsA a b))) := fun v X Y _ h hv => by
  obtain ⟨vs, vt, vk, e, h1, h2, h3⟩ := hv
  exact ⟨vs, vt, vk, e, own_apart (w := X) h1 h.be hp, own_apart (w := X) h2 h.be hp, own_apart (w := X) h3 h.be hp⟩
theorem kept_sto {p : Nat} {w0 : World} (w : World) (a b : Opn) : Kept (EvA p (Sto w a b)) w0 (fun _ X => Sto w a b X) := fun _ X Y _ h hv => h.st hv
theorem Sto.below {w : World} {a b : Opn} {X Y : World} (h : Sto w a b X) (hb : Below X.heap.size X Y) : Sto w a b Y := by
  obtain ⟨vf, vs, vt, vk, h0, h1, h2, h3, h4⟩ := h
  exact ⟨vf, vs, vt, vk, (hb.block _ (lt_of_heap h0)).trans h0, owns_below h1 hb, owns_below h2 hb, owns_below h3 hb, owns_below h4 hb⟩
theorem ev_below {w : World} {a b : Opn} {p : Nat} {X Y : World} (hb : Below X.heap.size X Y) : EvA p (Sto w a b) X Y :=
  ⟨Beside.of_below hb (Nat.le_refl _), fun C h1 h2 => ⟨C, (hb.block _ (lt_of_heap h1)).trans h1, h2⟩, fun h => h.below hb⟩
theorem ints_own {w : World} {base : Nat} {v : Value} {L : List Int} (h : OwnI w base v L) : IntsAt w v L := by
  obtain ⟨h0, ⟨rfl, hn⟩ | ⟨g, cap, cur, rfl, hg, hk, hc, hm, hs, ht⟩⟩ := h
  · exact ⟨none, 0, 0, 0, by rw [hn], Or.inr hn, by omega, fun j hj => by omega⟩
  · refine ⟨_, g, 0, cap, rfl, Or.inl rfl, hc, fun j hj => cl_row hk ?_⟩
    have e : (cur.toList.take (L.length * 1))[j]? = (intsC L)[j]? := by rw [ht]
    rw [List.getElem?_take, if_pos (by omega), Array.getElem?_toList] at e
    rw [Nat.zero_add, e]
    simp [intsC, hj]
theorem heap_setRow {w : World} {p : Nat} {C C' : Array Value} {t : TypeId} (h : w.heap[p]? = some (.cells C t (0, 0))) : (w.setRow p C').heap[p]? = some (.cells C' t (0, 0)) := row_same w p C C' h
theorem sto_row {w : World} {a b : Opn} {X : World} {C : Array Value} {vf vs vt vk : Value} (hC : X.heap[w.heap.size + 1 + 1]? = some (.cells C 31 (0, 0)))
    (h1 : OwnI X (w.heap.size + 3) vf (famsA a b)) (h2 : OwnI X (w.heap.size + 3) vs (sendA a b)) (h3 : OwnI X (w.heap.size + 3) vt (takeA a b)) (h4 : OwnK X (w.heap.size + 3) vk (keptL b.kept (famsA a b))) :
    Sto w a b (X.setRow (w.heap.size + 1 + 1) (sesC a b vf vs vt vk)) := by
  have hb : Beside (w.heap.size + 1 + 1) X (X.setRow (w.heap.size + 1 + 1) (sesC a b vf vs vt vk)) := Beside.setRow hC
  exact ⟨vf, vs, vt, vk, heap_setRow hC, own_apart (w := X) h1 hb (by omega), own_apart (w := X) h2 hb (by omega), own_apart (w := X) h3 hb (by omega), own_apart (w := X) h4 hb (by omega)⟩
theorem ev_store {w : World} {a b : Opn} {X : World} {C C' : Array Value} (hC : X.heap[w.heap.size + 1 + 1]? = some (.cells C 31 (0, 0))) (hs : C'.size = 10) (h : Sto w a b (X.setRow (w.heap.size + 1 + 1) C')) : EvA (w.heap.size + 1 + 1) (Sto w a b) X (X.setRow (w.heap.size + 1 + 1) C') :=
  ⟨Beside.setRow hC, fun _ _ _ => ⟨C', heap_setRow hC, hs⟩, fun _ => h⟩
theorem own_one {w : World} {base e size n : Nat} {v : Value} {xs : List Value} (h : w.ownsRow base e size v n xs) : v.oneCell' = true := by
  obtain ⟨_, ⟨rfl, _⟩ | ⟨g, cap, cur, rfl, _⟩⟩ := h <;> rfl
theorem ses_one {base : Nat} (a b : Opn) (vf vs vt vk : Value) {X : World} {k1 k2 k3 : List Int} {k4 : List Kp} (h1 : OwnI X base vf k1) (h2 : OwnI X base vs k2) (h3 : OwnI X base vt k3) (h4 : OwnK X base vk k4) : (sesC a b vf vs vt vk).all (·.oneCell') = true := by
  have e1 := own_one h1
  have e2 := own_one h2
  have e3 := own_one h3
  have e4 := own_one h4
  unfold sesC
  simp [Value.oneCell']
  exact ⟨e1, e2, e3, e4⟩
theorem info31 (a b : Opn) (vf vs vt vk : Value) : (Tryz.prog.info? 31).map (·.size) = some (sesC a b vf vs vt vk).size := by kernel_rfl
theorem ex_open {o : Oper} (a : Act) (w : World) (p : Operand) (b : Nat) (X : Array Value) (fr : Nat × Nat) (ho : o.op = .load 27 p) (hp : a.eval p = .pointer (some ⟨b, 0, none⟩)) (h : w.heap[b]? = some (.cells X 27 fr)) (hi : X.size = 11) :
    (execOp a.eval o).run Tryz.prog w = .ok (.value (.agg X)) w := by
  have hi2 : (Tryz.prog.info? 27).map (·.size) = some X.size := by rw [hi]; kernel_rfl
  unfold execOp
  simp only [ho, hp, Instr.loadAt, Instr.sureAddr, Sem.run_bind, Sem.run_pure, Result.andThen_ok, run_loadVar_row w b 27 27 X fr _ h Tryz.underlying27 rfl hi2]
set_option maxRecDepth 100000 in
set_option maxHeartbeats 3200000 in
theorem agree_yes (a b : Opn) (vfa vaa vka vfb vab vkb : Value) (w : World) (hg : FamSizes w) (ha : ListsAt w a vfa vaa vka) (hb : ListsAt w b vfb vab vkb) (ma : mayB a = true) (mb : mayB b = true) :
    Calls Tryz.prog 5 #[opV a vfa vaa vka, opV b vfb vab vkb] w fun e w' => SesOk w.heap.size a b e w' ∧ Below w.heap.size w w' := by
  have K1 : Hid (∀ X, Below w.heap.size w X → Calls Tryz.prog 12 #[opV a vfa vaa vka] X fun e w' => e = .returned (.bool true) ∧ Below X.heap.size X w') := fun X hX => by
    have := mayBe_any a vfa vaa vka X (hg.below hX) (ha.below hX)
    rw [ma] at this
    exact this
  have K2 : Hid (∀ X, Below w.heap.size w X → Calls Tryz.prog 12 #[opV b vfb vab vkb] X fun e w' => e = .returned (.bool true) ∧ Below X.heap.size X w') := fun X hX => by
    have := mayBe_any b vfb vab vkb X (hg.below hX) (hb.below hX)
    rw [mb] at this
    exact this
  obtain ⟨la1, la2, la3⟩ := may_lens ma
  obtain ⟨lb1, lb2, lb3⟩ := may_lens mb
  have KF : Hid (∀ X, Below w.heap.size w X → Calls Tryz.prog 13 #[vfa, vfb] X fun e w' => (∃ v, e = .returned v ∧ OwnI w' X.heap.size v (famsA a b)) ∧ Below X.heap.size X w') := fun X hX => common_any vfa vfb a.fams b.fams X (ha.f.below hX) (hb.f.below hX) (by omega) (by omega)
  have HA : Hid (ListsAt w a vfa vaa vka) := ha
  have HB : Hid (ListsAt w b vfb vab vkb) := hb
  clear ha hb hg
  unfold opV at K1 K2 ⊢
  have HAC : Hid (opC a vfa vaa vka = _) := rfl
  have HBC : Hid (opC b vfb vab vkb = _) := rfl
  unfold opC at K1 K2 ⊢
  go_enter Tryz.func5, Tryz.ntmps5
  go_wp2_with fail
  have h3 : Three w (opC a vfa vaa vka) (opC b vfb vab vkb) zeroS _ := ⟨(three_new w _ _ _).1, (three_new w _ _ _).2.1, (three_new w _ _ _).2.2.1, (three_new w _ _ _).2.2.2⟩
  refine Calls.mono (K1.out _ h3.b) ?_
  rintro e w1 ⟨rfl, hb1⟩
  have H1 : Hid (Three _ _ _ _ _) := h3.below hb1
  have c0 := cl_row (i := 0) H1.out.r3 rfl
  have c1 := cl_row (i := 1) H1.out.r3 rfl
  have c2 := cl_row (i := 2) H1.out.r3 rfl
  have c3 := cl_row (i := 3) H1.out.r3 rfl
  have c4 := cl_row (i := 4) H1.out.r3 rfl
  have c5 := cl_row (i := 5) H1.out.r3 rfl
  have c6 := cl_row (i := 6) H1.out.r3 rfl
  have c7 := cl_row (i := 7) H1.out.r3 rfl
  have c8 := cl_row (i := 8) H1.out.r3 rfl
  have c9 := cl_row (i := 9) H1.out.r3 rfl
  have c10 := cl_row (i := 10) H1.out.r3 rfl
  clear h3 hb1 K1
  go_wp2_with fail
  refine Calls.mono (K2.out _ H1.out.b) ?_
  rintro e w2 ⟨rfl, hb2⟩
  have H2 : Hid (Three _ _ _ _ _) := H1.out.below hb2
  clear c0 c1 c2 c3 c4 c5 c6 c7 c8 c9 c10 hb2 H1 K2
  have c3 := cl_row (i := 3) H2.out.r2 rfl
  have d3 := cl_row (i := 3) H2.out.r3 rfl
  go_wp2_with fail
  refine Calls.mono (KF.out _ H2.out.b) ?_
  rintro e w3 ⟨⟨vF, rfl, hF⟩, hb3⟩
  have H3 : Hid (Three _ _ _ _ _) := H2.out.below hb3
  have HF : Hid (OwnI w3 (w.heap.size + 3) vF (famsA a b)) := owns_mono hF (by have := lt_of_heap H2.out.r4; omega)
  clear c3 d3 hb3 hF H2 KF
  go_wp2_with fail
  refine with_act (fun ax => ax.tmps.size = 63 ∧ ax.defers = [] ∧ ax.eval (.tmp 2) = .pointer (some ⟨w.heap.size, 0, none⟩) ∧ ax.eval (.tmp 3) = .pointer (some ⟨w.heap.size + 1, 0, none⟩) ∧ ax.eval (.tmp 4) = .pointer (some ⟨w.heap.size + 1 + 1, 0, none⟩) ∧ ax.eval (.tmp 6) = vF) ⟨rfl, rfl, rfl, rfl, rfl, rfl⟩ ?_
  rintro a0 ⟨F0, FD, F2, F3, F4, F6⟩
  have KA15 : Hid (∀ X, Below w.heap.size w X → Calls Tryz.prog 14 #[.func (.func 15) #[] #[], .agg (opC a vfa vaa vka)] X fun e w' => (∃ v, e = .returned v ∧ OwnI w' X.heap.size v (addsL (·.s) a.adds)) ∧ Below X.heap.size X w') := fun X hX => addsThat_any 15 (·.s) enter15 (fun x Y => sends_any x.f x.s x.t Y) a vfa vaa vka X (HA.out.a.below hX) (by omega)
  have KA16 : Hid (∀ X, Below w.heap.size w X → Calls Tryz.prog 14 #[.func (.func 16) #[] #[], .agg (opC a vfa vaa vka)] X fun e w' => (∃ v, e = .returned v ∧ OwnI w' X.heap.size v (addsL (·.t) a.adds)) ∧ Below X.heap.size X w') := fun X hX => addsThat_any 16 (·.t) enter16 (fun x Y => takes_any x.f x.s x.t Y) a vfa vaa vka X (HA.out.a.below hX) (by omega)
  have KB15 : Hid (∀ X, Below w.heap.size w X → Calls Tryz.prog 14 #[.func (.func 15) #[] #[], .agg (opC b vfb vab vkb)] X fun e w' => (∃ v, e = .returned v ∧ OwnI w' X.heap.size v (addsL (·.s) b.adds)) ∧ Below X.heap.size X w') := fun X hX => addsThat_any 15 (·.s) enter15 (fun x Y => sends_any x.f x.s x.t Y) b vfb vab vkb X (HB.out.a.below hX) (by omega)
  have KB16 : Hid (∀ X, Below w.heap.size w X → Calls Tryz.prog 14 #[.func (.func 16) #[] #[], .agg (opC b vfb vab vkb)] X fun e w' => (∃ v, e = .returned v ∧ OwnI w' X.heap.size v (addsL (·.t) b.adds)) ∧ Below X.heap.size X w') := fun X hX => addsThat_any 16 (·.t) enter16 (fun x Y => takes_any x.f x.s x.t Y) b vfb vab vkb X (HB.out.a.below hX) (by omega)
  have hd3 : Below w3.heap.size w3 w3.drew := below_drewN (Below.refl _ _) 1
  have H3D : Three w (opC a vfa vaa vka) (opC b vfb vab vkb) zeroS w3.drew := H3.out.below hd3
  have HFD : OwnI w3.drew (w.heap.size + 3) vF (famsA a b) := owns_below HF.out hd3
  have evr : ∀ X, EvA (w.heap.size + 1 + 1) (Sto w a b) X X := fun X => EvA.refl _ _ X
  have evb : ∀ X Y, EvA (w.heap.size + 1 + 1) (Sto w a b) w3.drew X → Below X.heap.size X Y → EvA (w.heap.size + 1 + 1) (Sto w a b) X Y := fun X Y _ h => ev_below h
  have hp4 : w.heap.size + 1 + 1 < w3.drew.heap.size := lt_of_heap H3D.r4
  have bw : ∀ X, EvA (w.heap.size + 1 + 1) (Sto w a b) w3.drew X → Below w.heap.size w X := fun X h => H3D.b.trans (h.be.below (by omega) (by omega))
  have sz3 : ∀ X, EvA (w.heap.size + 1 + 1) (Sto w a b) w3.drew X → w.heap.size + 3 ≤ X.heap.size := fun X h => by have := h.be.size; omega
  have RW2 : ∀ X, EvA (w.heap.size + 1 + 1) (Sto w a b) w3.drew X → X.heap[w.heap.size]? = some (.cells (opC a vfa vaa vka) 27 (0, 0)) := fun X h => (h.be.block _ (by omega) (by omega)).trans H3D.r2
  have RW3 : ∀ X, EvA (w.heap.size + 1 + 1) (Sto w a b) w3.drew X → X.heap[w.heap.size + 1]? = some (.cells (opC b vfb vab vkb) 27 (0, 0)) := fun X h => (h.be.block _ (by omega) (by omega)).trans H3D.r3
  have hF : ∀ X, EvA (w.heap.size + 1 + 1) (Sto w a b) w3.drew X → OwnI X (w.heap.size + 3) vF (famsA a b) := fun X h => own_apart (w := X) HFD h.be (by omega)
  have HZ : Hid (w3.drew.heap[w.heap.size + 1 + 1]? = some (.cells zeroS 31 (0, 0))) := H3D.r4
  have hlF : (famsA a b).length ≤ 5 := Nat.le_trans (both_len _ _) la1
  have hl1 := addsL_len (·.s) a.adds
  have hl2 := addsL_len (·.t) a.adds
  have hl3 := addsL_len (·.s) b.adds
  have hl4 := addsL_len (·.t) b.adds
  have hl5 := both_len (addsL (·.s) a.adds) (addsL (·.t) b.adds)
  have hl6 := both_len (addsL (·.t) a.adds) (addsL (·.s) b.adds)
  clear hd3 HFD HAC HBC
  refine region_list (by kernel_rfl) (EvA (w.heap.size + 1 + 1) (Sto w a b)) [(fun v _ => v = .pointer (some ⟨w.heap.size, 1, none⟩)),
      (fun v _ => v = .int .i64 a.hold),
      (fun v _ => v = .pointer (some ⟨w.heap.size + 1, 1, none⟩)),
      (fun v _ => v = .int .i64 b.hold),
      (fun v _ => v = .int .i64 (min a.hold b.hold)),
      (fun v _ => v = vF),
      (fun v _ => v = .pointer (some ⟨w.heap.size, 4, none⟩)),
      (fun v _ => v = .bool a.four),
      (fun v _ => v = .bool a.four),
      (fun v _ => v = (if a.four then (.pointer (some ⟨w.heap.size + 1, 4, none⟩) : Value) else undef)),
      (fun v _ => v = (if a.four then (.bool b.four : Value) else undef)),
      (fun v _ => v = .bool (a.four && b.four)),
      (fun v _ => v = .pointer (some ⟨w.heap.size, 5, none⟩)),
      (fun v _ => v = .bool a.refr),
      (fun v _ => v = .bool a.refr),
      (fun v _ => v = (if a.refr then (.pointer (some ⟨w.heap.size + 1, 5, none⟩) : Value) else undef)),
      (fun v _ => v = (if a.refr then (.bool b.refr : Value) else undef)),
      (fun v _ => v = .bool (a.refr && b.refr)),
      (fun v _ => v = vF),
      (fun v _ => v = .agg (opC a vfa vaa vka)),
      (fun v X => OwnI X (w.heap.size + 3) v (addsL (·.s) a.adds)),
      (fun v _ => v = .agg (opC b vfb vab vkb)),
      (fun v X => OwnI X (w.heap.size + 3) v (addsL (·.t) b.adds)),
      (fun v X => OwnI X (w.heap.size + 3) v (both (addsL (·.s) a.adds) (addsL (·.t) b.adds))),
      (fun v X => OwnI X (w.heap.size + 3) v (sendA a b)),
      (fun v _ => v = vF),
      (fun v _ => v = .agg (opC a vfa vaa vka)),
      (fun v X => OwnI X (w.heap.size + 3) v (addsL (·.t) a.adds)),
      (fun v _ => v = .agg (opC b vfb vab vkb)),
      (fun v X => OwnI X (w.heap.size + 3) v (addsL (·.s) b.adds)),
      (fun v X => OwnI X (w.heap.size + 3) v (both (addsL (·.t) a.adds) (addsL (·.s) b.adds))),
      (fun v X => OwnI X (w.heap.size + 3) v (takeA a b)),
      (fun v _ => v = .pointer (some ⟨w.heap.size + 1, 7, none⟩)),
      (fun v _ => v = .bool b.gr),
      (fun v _ => v = .pointer (some ⟨w.heap.size + 1, 8, none⟩)),
      (fun v _ => v = .bool b.again),
      (fun v _ => v = .pointer (some ⟨w.heap.size + 1, 9, none⟩)),
      (fun v _ => v = .int .i64 b.time),
      (fun v _ => v = .agg (opC b vfb vab vkb)),
      (fun v _ => v = vF),
      (fun v X => OwnK X (w.heap.size + 3) v (keptL b.kept (famsA a b))),
      (fun v X => ∃ vs vt vk, v = .agg (sesC a b vF vs vt vk) ∧ OwnI X (w.heap.size + 3) vs (sendA a b) ∧ OwnI X (w.heap.size + 3) vt (takeA a b) ∧ OwnK X (w.heap.size + 3) vk (keptL b.kept (famsA a b))),
      (fun _ X => Sto w a b X),
      (fun v _ => v = .int .i64 0)] [some 21, some 22, some 23, some 24, some 25, some 26, some 27, some 28, some 29, some 30, some 31, some 32, some 33, some 34, some 35, some 36, some 37, some 38, some 39, some 40, some 41, some 42, some 43, some 44, some 45, some 46, some 47, some 48, some 49, some 50, some 51, some 52, some 53, some 54, some 55, some 56, some 57, some 58, some 59, some 60, some 61, some 62, none, some 5] (by kernel_rfl) EvA.trans (evr _) ?keep (by kernel_rfl) (by rw [F0]; kernel_rfl) ?steps ?done
  case keep =>
    repeat (first | exact kept_nil | refine kept_cons (kept_eq _) ?_ | refine kept_cons (kept_ownI _ (by omega)) ?_ | refine kept_cons (kept_ownK _ (by omega)) ?_ | refine kept_cons (kept_ses _ _ _ (by omega)) ?_ | refine kept_cons (kept_sto _ _ _) ?_)
  case done =>
    intro a1 X hsz hdf hfix hev hE
    obtain ⟨vf, vs, vt, vk, hr, h1, h2, h3, h4⟩ : Sto w a b X := hE 42 (by decide)
    have q5 : a1.eval (.tmp 5) = .int .i64 0 := hE 43 (by decide)
    have q4 : a1.eval (.tmp 4) = .pointer (some ⟨w.heap.size + 1 + 1, 0, none⟩) := (hfix 4 (by decide)).trans F4
    go_wp2
    exact bodyPost_ret (results_cell_tmp (P := Tryz.prog) rfl _ _ _ 31 _ (0, 0) _ _ q4 q5 hr Tryz.underlying31 rfl (info31 _ _ _ _ _ _)) (hdf.trans FD) ⟨⟨vf, vs, vt, vk, rfl, owns_mono h1 (by omega), owns_mono h2 (by omega), owns_mono h3 (by omega), owns_mono h4 (by omega)⟩, bw X hev⟩
  case steps =>
    refine ⟨?_, ?_, ?_, ?_, ?_, ?_, ?_, ?_, ?_, ?_, ?_, ?_, ?_, ?_, ?_, ?_, ?_, ?_, ?_, ?_, ?_, ?_, ?_, ?_, ?_, ?_, ?_, ?_, ?_, ?_, ?_, ?_, ?_, ?_, ?_, ?_, ?_, ?_, ?_, ?_, ?_, ?_, ?_, ?_, trivial⟩
    · intro a1 X hfix hev hdep
      have q : a1.eval (.tmp 2) = _ := (hfix 2 (by decide)).trans F2
      refine Or.inl ⟨rfl, ?_⟩
      refine ow_value (v := .pointer (some ⟨w.heap.size, 1, none⟩)) (w' := X) ?_ ⟨_, rfl, evr _, ?_⟩
      · have hk : a1.eval (.const (.bool false)) = .bool false := rfl; have hk2 : a1.eval (.const (.int .i64 0)) = .int .i64 0 := rfl; clear hfix hev hdep; generalize a1.eval = ev at *; unfold execOp; simp only; go_simp
      · exact rfl
    · intro a1 X hfix hev hdep
      have q : (fun v _ => v = .pointer (some ⟨w.heap.size, 1, none⟩) : Value → World → Prop) (a1.eval (.tmp 21)) X := hdep 0 (by decide)
      have c := cl_row (i := 1) (RW2 X hev) rfl
      change X.cell? _ = some (.int .i64 a.hold) at c
      dsimp only at q
      refine Or.inl ⟨rfl, ?_⟩
      refine ow_value (v := .int .i64 a.hold) (w' := X) ?_ ⟨_, rfl, evr _, ?_⟩
      · have hk : a1.eval (.const (.bool false)) = .bool false := rfl; have hk2 : a1.eval (.const (.int .i64 0)) = .int .i64 0 := rfl; clear hfix hev hdep; generalize a1.eval = ev at *; unfold execOp; simp only; go_simp
      · exact rfl
    · intro a1 X hfix hev hdep
      have q : a1.eval (.tmp 3) = _ := (hfix 3 (by decide)).trans F3
      refine Or.inl ⟨rfl, ?_⟩
      refine ow_value (v := .pointer (some ⟨w.heap.size + 1, 1, none⟩)) (w' := X) ?_ ⟨_, rfl, evr _, ?_⟩
      · have hk : a1.eval (.const (.bool false)) = .bool false := rfl; have hk2 : a1.eval (.const (.int .i64 0)) = .int .i64 0 := rfl; clear hfix hev hdep; generalize a1.eval = ev at *; unfold execOp; simp only; go_simp
      · exact rfl
    · intro a1 X hfix hev hdep
      have q : (fun v _ => v = .pointer (some ⟨w.heap.size + 1, 1, none⟩) : Value → World → Prop) (a1.eval (.tmp 23)) X := hdep 2 (by decide)
      have c := cl_row (i := 1) (RW3 X hev) rfl
      change X.cell? _ = some (.int .i64 b.hold) at c
      dsimp only at q
      refine Or.inl ⟨rfl, ?_⟩
      refine ow_value (v := .int .i64 b.hold) (w' := X) ?_ ⟨_, rfl, evr _, ?_⟩
      · have hk : a1.eval (.const (.bool false)) = .bool false := rfl; have hk2 : a1.eval (.const (.int .i64 0)) = .int .i64 0 := rfl; clear hfix hev hdep; generalize a1.eval = ev at *; unfold execOp; simp only; go_simp
      · exact rfl
    · intro a1 X hfix hev hdep
      have q : (fun v _ => v = .int .i64 a.hold : Value → World → Prop) (a1.eval (.tmp 22)) X := hdep 1 (by decide)
      have r : (fun v _ => v = .int .i64 b.hold : Value → World → Prop) (a1.eval (.tmp 24)) X := hdep 3 (by decide)
      dsimp only at q r
      refine Or.inl ⟨rfl, ?_⟩
      refine ow_value (v := .int .i64 (min a.hold b.hold)) (w' := X) ?_ ⟨_, rfl, evr _, ?_⟩
      · have hk : a1.eval (.const (.bool false)) = .bool false := rfl; have hk2 : a1.eval (.const (.int .i64 0)) = .int .i64 0 := rfl; clear hfix hev hdep; generalize a1.eval = ev at *; unfold execOp; simp only; go_simp; rw [Int.min_def]; split <;> split <;> first | rfl | omega
      · exact rfl
    · intro a1 X hfix hev hdep
      have q : a1.eval (.tmp 6) = _ := (hfix 6 (by decide)).trans F6
      refine Or.inl ⟨rfl, ?_⟩
      refine ow_value (v := vF) (w' := X) ?_ ⟨_, rfl, evr _, ?_⟩
      · have hk : a1.eval (.const (.bool false)) = .bool false := rfl; have hk2 : a1.eval (.const (.int .i64 0)) = .int .i64 0 := rfl; clear hfix hev hdep; generalize a1.eval = ev at *; unfold execOp; simp only; go_simp
      · exact rfl
    · intro a1 X hfix hev hdep
      have q : a1.eval (.tmp 2) = _ := (hfix 2 (by decide)).trans F2
      refine Or.inl ⟨rfl, ?_⟩
      refine ow_value (v := .pointer (some ⟨w.heap.size, 4, none⟩)) (w' := X) ?_ ⟨_, rfl, evr _, ?_⟩
      · have hk : a1.eval (.const (.bool false)) = .bool false := rfl; have hk2 : a1.eval (.const (.int .i64 0)) = .int .i64 0 := rfl; clear hfix hev hdep; generalize a1.eval = ev at *; unfold execOp; simp only; go_simp
      · exact rfl
    · intro a1 X hfix hev hdep
      have q : (fun v _ => v = .pointer (some ⟨w.heap.size, 4, none⟩) : Value → World → Prop) (a1.eval (.tmp 27)) X := hdep 6 (by decide)
      have c := cl_row (i := 4) (RW2 X hev) rfl
      change X.cell? _ = some (.bool a.four) at c
      dsimp only at q
      refine Or.inl ⟨rfl, ?_⟩
      refine ow_value (v := .bool a.four) (w' := X) ?_ ⟨_, rfl, evr _, ?_⟩
      · have hk : a1.eval (.const (.bool false)) = .bool false := rfl; have hk2 : a1.eval (.const (.int .i64 0)) = .int .i64 0 := rfl; clear hfix hev hdep; generalize a1.eval = ev at *; unfold execOp; simp only; go_simp
      · exact rfl
    · intro a1 X hfix hev hdep
      have q : (fun v _ => v = .bool a.four : Value → World → Prop) (a1.eval (.tmp 28)) X := hdep 7 (by decide)
      dsimp only at q
      refine Or.inl ⟨rfl, ?_⟩
      refine ow_value (v := .bool a.four) (w' := X) ?_ ⟨_, rfl, evr _, ?_⟩
      · have hk : a1.eval (.const (.bool false)) = .bool false := rfl; have hk2 : a1.eval (.const (.int .i64 0)) = .int .i64 0 := rfl; clear hfix hev hdep; generalize a1.eval = ev at *; unfold execOp; simp only; go_simp
      · exact rfl
    · intro a1 X hfix hev hdep
      have g : (fun v _ => v = .bool a.four : Value → World → Prop) (a1.eval (.tmp 29)) X := hdep 8 (by decide)
      have q : a1.eval (.tmp 3) = _ := (hfix 3 (by decide)).trans F3
      dsimp only at g
      cases hz : a.four with
      | true =>
        rw [hz] at g
        refine Or.inr (Or.inl ⟨_, _, rfl, g, ?_⟩)
        refine ow_value (v := .pointer (some ⟨w.heap.size + 1, 4, none⟩)) (w' := X) ?_ ⟨_, rfl, evr _, ?_⟩
        · clear g; have hk : a1.eval (.const (.bool false)) = .bool false := rfl; have hk2 : a1.eval (.const (.int .i64 0)) = .int .i64 0 := rfl; clear hfix hev hdep; generalize a1.eval = ev at *; unfold execOp; simp only; go_simp
        · show _ = ite _ _ _; simp [dstV]
      | false =>
        rw [hz] at g
        refine Or.inr (Or.inr ⟨_, _, rfl, g, ⟨_, rfl, evr _, ?_⟩⟩)
        show _ = ite _ _ _; simp [dstV]
    · intro a1 X hfix hev hdep
      have g : (fun v _ => v = .bool a.four : Value → World → Prop) (a1.eval (.tmp 29)) X := hdep 8 (by decide)
      have q : (fun v _ => v = (if a.four then (.pointer (some ⟨w.heap.size + 1, 4, none⟩) : Value) else undef) : Value → World → Prop) (a1.eval (.tmp 30)) X := hdep 9 (by decide)
      have c := cl_row (i := 4) (RW3 X hev) rfl
      change X.cell? _ = some (.bool b.four) at c
      dsimp only at g q
      cases hz : a.four with
      | true =>
        rw [hz] at g
        rw [if_pos hz] at q
        refine Or.inr (Or.inl ⟨_, _, rfl, g, ?_⟩)
        refine ow_value (v := .bool b.four) (w' := X) ?_ ⟨_, rfl, evr _, ?_⟩
        · clear g; have hk : a1.eval (.const (.bool false)) = .bool false := rfl; have hk2 : a1.eval (.const (.int .i64 0)) = .int .i64 0 := rfl; clear hfix hev hdep; generalize a1.eval = ev at *; unfold execOp; simp only; go_simp
        · show _ = ite _ _ _; simp [dstV]
      | false =>
        rw [hz] at g
        refine Or.inr (Or.inr ⟨_, _, rfl, g, ⟨_, rfl, evr _, ?_⟩⟩)
        show _ = ite _ _ _; simp [dstV]
    · intro a1 X hfix hev hdep
      have g : (fun v _ => v = .bool a.four : Value → World → Prop) (a1.eval (.tmp 29)) X := hdep 8 (by decide)
      have q : (fun v _ => v = (if a.four then (.bool b.four : Value) else undef) : Value → World → Prop) (a1.eval (.tmp 31)) X := hdep 10 (by decide)
      dsimp only at g q
      refine Or.inl ⟨rfl, ?_⟩
      cases hz : a.four with
      | true =>
        rw [hz] at g
        rw [if_pos hz] at q
        refine ow_value (v := .bool b.four) (w' := X) ?_ ⟨_, rfl, evr _, ?_⟩
        · have hk : a1.eval (.const (.bool false)) = .bool false := rfl; have hk2 : a1.eval (.const (.int .i64 0)) = .int .i64 0 := rfl; clear hfix hev hdep; generalize a1.eval = ev at *; unfold execOp; simp only; go_simp
        · show _ = Value.bool _; simp [dstV]
      | false =>
        rw [hz] at g
        rw [if_neg (by rw [hz]; simp)] at q
        refine ow_value (v := .bool false) (w' := X) ?_ ⟨_, rfl, evr _, ?_⟩
        · have hk : a1.eval (.const (.bool false)) = .bool false := rfl; have hk2 : a1.eval (.const (.int .i64 0)) = .int .i64 0 := rfl; clear hfix hev hdep; generalize a1.eval = ev at *; unfold execOp; simp only; go_simp
        · show _ = Value.bool _; simp [dstV]
    · intro a1 X hfix hev hdep
      have q : a1.eval (.tmp 2) = _ := (hfix 2 (by decide)).trans F2
      refine Or.inl ⟨rfl, ?_⟩
      refine ow_value (v := .pointer (some ⟨w.heap.size, 5, none⟩)) (w' := X) ?_ ⟨_, rfl, evr _, ?_⟩
      · have hk : a1.eval (.const (.bool false)) = .bool false := rfl; have hk2 : a1.eval (.const (.int .i64 0)) = .int .i64 0 := rfl; clear hfix hev hdep; generalize a1.eval = ev at *; unfold execOp; simp only; go_simp
      · exact rfl
    · intro a1 X hfix hev hdep
      have q : (fun v _ => v = .pointer (some ⟨w.heap.size, 5, none⟩) : Value → World → Prop) (a1.eval (.tmp 33)) X := hdep 12 (by decide)
      have c := cl_row (i := 5) (RW2 X hev) rfl
      change X.cell? _ = some (.bool a.refr) at c
      dsimp only at q
      refine Or.inl ⟨rfl, ?_⟩
      refine ow_value (v := .bool a.refr) (w' := X) ?_ ⟨_, rfl, evr _, ?_⟩
      · have hk : a1.eval (.const (.bool false)) = .bool false := rfl; have hk2 : a1.eval (.const (.int .i64 0)) = .int .i64 0 := rfl; clear hfix hev hdep; generalize a1.eval = ev at *; unfold execOp; simp only; go_simp
      · exact rfl
    · intro a1 X hfix hev hdep
      have q : (fun v _ => v = .bool a.refr : Value → World → Prop) (a1.eval (.tmp 34)) X := hdep 13 (by decide)
      dsimp only at q
      refine Or.inl ⟨rfl, ?_⟩
      refine ow_value (v := .bool a.refr) (w' := X) ?_ ⟨_, rfl, evr _, ?_⟩
      · have hk : a1.eval (.const (.bool false)) = .bool false := rfl; have hk2 : a1.eval (.const (.int .i64 0)) = .int .i64 0 := rfl; clear hfix hev hdep; generalize a1.eval = ev at *; unfold execOp; simp only; go_simp
      · exact rfl
    · intro a1 X hfix hev hdep
      have g : (fun v _ => v = .bool a.refr : Value → World → Prop) (a1.eval (.tmp 35)) X := hdep 14 (by decide)
      have q : a1.eval (.tmp 3) = _ := (hfix 3 (by decide)).trans F3
      dsimp only at g
      cases hz : a.refr with
      | true =>
        rw [hz] at g
        refine Or.inr (Or.inl ⟨_, _, rfl, g, ?_⟩)
        refine ow_value (v := .pointer (some ⟨w.heap.size + 1, 5, none⟩)) (w' := X) ?_ ⟨_, rfl, evr _, ?_⟩
        · clear g; have hk : a1.eval (.const (.bool false)) = .bool false := rfl; have hk2 : a1.eval (.const (.int .i64 0)) = .int .i64 0 := rfl; clear hfix hev hdep; generalize a1.eval = ev at *; unfold execOp; simp only; go_simp
        · show _ = ite _ _ _; simp [dstV]
      | false =>
        rw [hz] at g
        refine Or.inr (Or.inr ⟨_, _, rfl, g, ⟨_, rfl, evr _, ?_⟩⟩)
        show _ = ite _ _ _; simp [dstV]
    · intro a1 X hfix hev hdep
      have g : (fun v _ => v = .bool a.refr : Value → World → Prop) (a1.eval (.tmp 35)) X := hdep 14 (by decide)
      have q : (fun v _ => v = (if a.refr then (.pointer (some ⟨w.heap.size + 1, 5, none⟩) : Value) else undef) : Value → World → Prop) (a1.eval (.tmp 36)) X := hdep 15 (by decide)
      have c := cl_row (i := 5) (RW3 X hev) rfl
      change X.cell? _ = some (.bool b.refr) at c
      dsimp only at g q
      cases hz : a.refr with
      | true =>
        rw [hz] at g
        rw [if_pos hz] at q
        refine Or.inr (Or.inl ⟨_, _, rfl, g, ?_⟩)
        refine ow_value (v := .bool b.refr) (w' := X) ?_ ⟨_, rfl, evr _, ?_⟩
        · clear g; have hk : a1.eval (.const (.bool false)) = .bool false := rfl; have hk2 : a1.eval (.const (.int .i64 0)) = .int .i64 0 := rfl; clear hfix hev hdep; generalize a1.eval = ev at *; unfold execOp; simp only; go_simp
        · show _ = ite _ _ _; simp [dstV]
      | false =>
        rw [hz] at g
        refine Or.inr (Or.inr ⟨_, _, rfl, g, ⟨_, rfl, evr _, ?_⟩⟩)
        show _ = ite _ _ _; simp [dstV]
    · intro a1 X hfix hev hdep
      have g : (fun v _ => v = .bool a.refr : Value → World → Prop) (a1.eval (.tmp 35)) X := hdep 14 (by decide)
      have q : (fun v _ => v = (if a.refr then (.bool b.refr : Value) else undef) : Value → World → Prop) (a1.eval (.tmp 37)) X := hdep 16 (by decide)
      dsimp only at g q
      refine Or.inl ⟨rfl, ?_⟩
      cases hz : a.refr with
      | true =>
        rw [hz] at g
        rw [if_pos hz] at q
        refine ow_value (v := .bool b.refr) (w' := X) ?_ ⟨_, rfl, evr _, ?_⟩
        · have hk : a1.eval (.const (.bool false)) = .bool false := rfl; have hk2 : a1.eval (.const (.int .i64 0)) = .int .i64 0 := rfl; clear hfix hev hdep; generalize a1.eval = ev at *; unfold execOp; simp only; go_simp
        · show _ = Value.bool _; simp [dstV]
      | false =>
        rw [hz] at g
        rw [if_neg (by rw [hz]; simp)] at q
        refine ow_value (v := .bool false) (w' := X) ?_ ⟨_, rfl, evr _, ?_⟩
        · have hk : a1.eval (.const (.bool false)) = .bool false := rfl; have hk2 : a1.eval (.const (.int .i64 0)) = .int .i64 0 := rfl; clear hfix hev hdep; generalize a1.eval = ev at *; unfold execOp; simp only; go_simp
        · show _ = Value.bool _; simp [dstV]
    · intro a1 X hfix hev hdep
      have q : a1.eval (.tmp 6) = _ := (hfix 6 (by decide)).trans F6
      refine Or.inl ⟨rfl, ?_⟩
      refine ow_value (v := vF) (w' := X) ?_ ⟨_, rfl, evr _, ?_⟩
      · have hk : a1.eval (.const (.bool false)) = .bool false := rfl; have hk2 : a1.eval (.const (.int .i64 0)) = .int .i64 0 := rfl; clear hfix hev hdep; generalize a1.eval = ev at *; unfold execOp; simp only; go_simp
      · exact rfl
    · intro a1 X hfix hev hdep
      have q : a1.eval (.tmp 2) = _ := (hfix 2 (by decide)).trans F2
      refine Or.inl ⟨rfl, ?_⟩
      refine ow_value (v := .agg (opC a vfa vaa vka)) (w' := X) ?_ ⟨_, rfl, evr _, ?_⟩
      · exact ex_open _ _ _ _ _ _ rfl q (RW2 X hev) rfl
      · exact rfl
    · intro a1 X hfix hev hdep
      have q : (fun v _ => v = .agg (opC a vfa vaa vka) : Value → World → Prop) (a1.eval (.tmp 40)) X := hdep 19 (by decide)
      dsimp only at q
      refine Or.inl ⟨rfl, ?_⟩
      refine ow_enter (f := 14) (args := #[.func (.func 15) #[] #[], .agg (opC a vfa vaa vka)]) (w' := X) ?_ ?_
      · have hf : a1.eval (.func 15) = .func (.func 15) #[] #[] := rfl
        have hc : a1.eval (.func 14) = .func (.func 14) #[] #[] := rfl
        clear hfix hev hdep; generalize a1.eval = ev at *; unfold execOp; simp only; go_simp
      · refine (KA15.out X (bw X hev)).mono ?_
        rintro e Y ⟨⟨v, rfl, hv⟩, hb⟩
        exact ⟨v, rfl, _, rfl, evb X Y hev hb, owns_mono hv (sz3 X hev)⟩
    · intro a1 X hfix hev hdep
      have q : a1.eval (.tmp 3) = _ := (hfix 3 (by decide)).trans F3
      refine Or.inl ⟨rfl, ?_⟩
      refine ow_value (v := .agg (opC b vfb vab vkb)) (w' := X) ?_ ⟨_, rfl, evr _, ?_⟩
      · exact ex_open _ _ _ _ _ _ rfl q (RW3 X hev) rfl
      · exact rfl
    · intro a1 X hfix hev hdep
      have q : (fun v _ => v = .agg (opC b vfb vab vkb) : Value → World → Prop) (a1.eval (.tmp 42)) X := hdep 21 (by decide)
      dsimp only at q
      refine Or.inl ⟨rfl, ?_⟩
      refine ow_enter (f := 14) (args := #[.func (.func 16) #[] #[], .agg (opC b vfb vab vkb)]) (w' := X) ?_ ?_
      · have hf : a1.eval (.func 16) = .func (.func 16) #[] #[] := rfl
        have hc : a1.eval (.func 14) = .func (.func 14) #[] #[] := rfl
        clear hfix hev hdep; generalize a1.eval = ev at *; unfold execOp; simp only; go_simp
      · refine (KB16.out X (bw X hev)).mono ?_
        rintro e Y ⟨⟨v, rfl, hv⟩, hb⟩
        exact ⟨v, rfl, _, rfl, evb X Y hev hb, owns_mono hv (sz3 X hev)⟩
    · intro a1 X hfix hev hdep
      have q : (fun v X => OwnI X (w.heap.size + 3) v (addsL (·.s) a.adds) : Value → World → Prop) (a1.eval (.tmp 41)) X := hdep 20 (by decide)
      have r : (fun v X => OwnI X (w.heap.size + 3) v (addsL (·.t) b.adds) : Value → World → Prop) (a1.eval (.tmp 43)) X := hdep 22 (by decide)
      dsimp only at q r
      obtain ⟨vx, hx⟩ : ∃ vx, vx = a1.eval (.tmp 41) := ⟨_, rfl⟩
      have hq := q
      rw [← hx] at hq
      clear q
      obtain ⟨vy, hy⟩ : ∃ vy, vy = a1.eval (.tmp 43) := ⟨_, rfl⟩
      rw [← hy] at r
      have hx2 := hx.symm
      have hy2 := hy.symm
      clear hx hy hdep hfix
      refine Or.inl ⟨rfl, ?_⟩
      refine ow_enter (f := 13) (args := #[vx, vy]) (w' := X) ?_ ?_
      · have hc : a1.eval (.func 13) = .func (.func 13) #[] #[] := rfl; clear hq r hev; generalize a1.eval = ev at *; unfold execOp; simp only; go_simp
      · refine (common_any vx vy (addsL (·.s) a.adds) (addsL (·.t) b.adds) X (ints_own hq) (ints_own r) (by omega) (by omega)).mono ?_
        rintro e Y ⟨⟨v, rfl, hv⟩, hb⟩
        exact ⟨v, rfl, _, rfl, evb X Y hev hb, owns_mono hv (sz3 X hev)⟩
    · intro a1 X hfix hev hdep
      have q : (fun v _ => v = vF : Value → World → Prop) (a1.eval (.tmp 39)) X := hdep 18 (by decide)
      have r : (fun v X => OwnI X (w.heap.size + 3) v (both (addsL (·.s) a.adds) (addsL (·.t) b.adds)) : Value → World → Prop) (a1.eval (.tmp 44)) X := hdep 23 (by decide)
      dsimp only at q r
      have hq : OwnI X (w.heap.size + 3) vF (famsA a b) := hF X hev
      obtain ⟨vx, hx⟩ : ∃ vx, vx = a1.eval (.tmp 39) := ⟨_, rfl⟩
      rw [← q, ← hx] at hq
      clear q
      obtain ⟨vy, hy⟩ : ∃ vy, vy = a1.eval (.tmp 44) := ⟨_, rfl⟩
      rw [← hy] at r
      have hx2 := hx.symm
      have hy2 := hy.symm
      clear hx hy hdep hfix
      refine Or.inl ⟨rfl, ?_⟩
      refine ow_enter (f := 13) (args := #[vx, vy]) (w' := X) ?_ ?_
      · have hc : a1.eval (.func 13) = .func (.func 13) #[] #[] := rfl; clear hq r hev; generalize a1.eval = ev at *; unfold execOp; simp only; go_simp
      · refine (common_any vx vy (famsA a b) (both (addsL (·.s) a.adds) (addsL (·.t) b.adds)) X (ints_own hq) (ints_own r) (by omega) (by omega)).mono ?_
        rintro e Y ⟨⟨v, rfl, hv⟩, hb⟩
        exact ⟨v, rfl, _, rfl, evb X Y hev hb, owns_mono hv (sz3 X hev)⟩
    · intro a1 X hfix hev hdep
      have q : a1.eval (.tmp 6) = _ := (hfix 6 (by decide)).trans F6
      refine Or.inl ⟨rfl, ?_⟩
      refine ow_value (v := vF) (w' := X) ?_ ⟨_, rfl, evr _, ?_⟩
      · have hk : a1.eval (.const (.bool false)) = .bool false := rfl; have hk2 : a1.eval (.const (.int .i64 0)) = .int .i64 0 := rfl; clear hfix hev hdep; generalize a1.eval = ev at *; unfold execOp; simp only; go_simp
      · exact rfl
    · intro a1 X hfix hev hdep
      have q : a1.eval (.tmp 2) = _ := (hfix 2 (by decide)).trans F2
      refine Or.inl ⟨rfl, ?_⟩
      refine ow_value (v := .agg (opC a vfa vaa vka)) (w' := X) ?_ ⟨_, rfl, evr _, ?_⟩
      · exact ex_open _ _ _ _ _ _ rfl q (RW2 X hev) rfl
      · exact rfl
    · intro a1 X hfix hev hdep
      have q : (fun v _ => v = .agg (opC a vfa vaa vka) : Value → World → Prop) (a1.eval (.tmp 47)) X := hdep 26 (by decide)
      dsimp only at q
      refine Or.inl ⟨rfl, ?_⟩
      refine ow_enter (f := 14) (args := #[.func (.func 16) #[] #[], .agg (opC a vfa vaa vka)]) (w' := X) ?_ ?_
      · have hf : a1.eval (.func 16) = .func (.func 16) #[] #[] := rfl
        have hc : a1.eval (.func 14) = .func (.func 14) #[] #[] := rfl
        clear hfix hev hdep; generalize a1.eval = ev at *; unfold execOp; simp only; go_simp
      · refine (KA16.out X (bw X hev)).mono ?_
        rintro e Y ⟨⟨v, rfl, hv⟩, hb⟩
        exact ⟨v, rfl, _, rfl, evb X Y hev hb, owns_mono hv (sz3 X hev)⟩
    · intro a1 X hfix hev hdep
      have q : a1.eval (.tmp 3) = _ := (hfix 3 (by decide)).trans F3
      refine Or.inl ⟨rfl, ?_⟩
      refine ow_value (v := .agg (opC b vfb vab vkb)) (w' := X) ?_ ⟨_, rfl, evr _, ?_⟩
      · exact ex_open _ _ _ _ _ _ rfl q (RW3 X hev) rfl
      · exact rfl
    · intro a1 X hfix hev hdep
      have q : (fun v _ => v = .agg (opC b vfb vab vkb) : Value → World → Prop) (a1.eval (.tmp 49)) X := hdep 28 (by decide)
      dsimp only at q
      refine Or.inl ⟨rfl, ?_⟩
      refine ow_enter (f := 14) (args := #[.func (.func 15) #[] #[], .agg (opC b vfb vab vkb)]) (w' := X) ?_ ?_
      · have hf : a1.eval (.func 15) = .func (.func 15) #[] #[] := rfl
        have hc : a1.eval (.func 14) = .func (.func 14) #[] #[] := rfl
        clear hfix hev hdep; generalize a1.eval = ev at *; unfold execOp; simp only; go_simp
      · refine (KB15.out X (bw X hev)).mono ?_
        rintro e Y ⟨⟨v, rfl, hv⟩, hb⟩
        exact ⟨v, rfl, _, rfl, evb X Y hev hb, owns_mono hv (sz3 X hev)⟩
    · intro a1 X hfix hev hdep
      have q : (fun v X => OwnI X (w.heap.size + 3) v (addsL (·.t) a.adds) : Value → World → Prop) (a1.eval (.tmp 48)) X := hdep 27 (by decide)
      have r : (fun v X => OwnI X (w.heap.size + 3) v (addsL (·.s) b.adds) : Value → World → Prop) (a1.eval (.tmp 50)) X := hdep 29 (by decide)
      dsimp only at q r
      obtain ⟨vx, hx⟩ : ∃ vx, vx = a1.eval (.tmp 48) := ⟨_, rfl⟩
      have hq := q
      rw [← hx] at hq
      clear q
      obtain ⟨vy, hy⟩ : ∃ vy, vy = a1.eval (.tmp 50) := ⟨_, rfl⟩
      rw [← hy] at r
      have hx2 := hx.symm
      have hy2 := hy.symm
      clear hx hy hdep hfix
      refine Or.inl ⟨rfl, ?_⟩
      refine ow_enter (f := 13) (args := #[vx, vy]) (w' := X) ?_ ?_
      · have hc : a1.eval (.func 13) = .func (.func 13) #[] #[] := rfl; clear hq r hev; generalize a1.eval = ev at *; unfold execOp; simp only; go_simp
      · refine (common_any vx vy (addsL (·.t) a.adds) (addsL (·.s) b.adds) X (ints_own hq) (ints_own r) (by omega) (by omega)).mono ?_
        rintro e Y ⟨⟨v, rfl, hv⟩, hb⟩
        exact ⟨v, rfl, _, rfl, evb X Y hev hb, owns_mono hv (sz3 X hev)⟩
    · intro a1 X hfix hev hdep
      have q : (fun v _ => v = vF : Value → World → Prop) (a1.eval (.tmp 46)) X := hdep 25 (by decide)
      have r : (fun v X => OwnI X (w.heap.size + 3) v (both (addsL (·.t) a.adds) (addsL (·.s) b.adds)) : Value → World → Prop) (a1.eval (.tmp 51)) X := hdep 30 (by decide)
      dsimp only at q r
      have hq : OwnI X (w.heap.size + 3) vF (famsA a b) := hF X hev
      obtain ⟨vx, hx⟩ : ∃ vx, vx = a1.eval (.tmp 46) := ⟨_, rfl⟩
      rw [← q, ← hx] at hq
      clear q
      obtain ⟨vy, hy⟩ : ∃ vy, vy = a1.eval (.tmp 51) := ⟨_, rfl⟩
      rw [← hy] at r
      have hx2 := hx.symm
      have hy2 := hy.symm
      clear hx hy hdep hfix
      refine Or.inl ⟨rfl, ?_⟩
      refine ow_enter (f := 13) (args := #[vx, vy]) (w' := X) ?_ ?_
      · have hc : a1.eval (.func 13) = .func (.func 13) #[] #[] := rfl; clear hq r hev; generalize a1.eval = ev at *; unfold execOp; simp only; go_simp
      · refine (common_any vx vy (famsA a b) (both (addsL (·.t) a.adds) (addsL (·.s) b.adds)) X (ints_own hq) (ints_own r) (by omega) (by omega)).mono ?_
        rintro e Y ⟨⟨v, rfl, hv⟩, hb⟩
        exact ⟨v, rfl, _, rfl, evb X Y hev hb, owns_mono hv (sz3 X hev)⟩
    · intro a1 X hfix hev hdep
      have q : a1.eval (.tmp 3) = _ := (hfix 3 (by decide)).trans F3
      refine Or.inl ⟨rfl, ?_⟩
      refine ow_value (v := .pointer (some ⟨w.heap.size + 1, 7, none⟩)) (w' := X) ?_ ⟨_, rfl, evr _, ?_⟩
      · have hk : a1.eval (.const (.bool false)) = .bool false := rfl; have hk2 : a1.eval (.const (.int .i64 0)) = .int .i64 0 := rfl; clear hfix hev hdep; generalize a1.eval = ev at *; unfold execOp; simp only; go_simp
      · exact rfl
    · intro a1 X hfix hev hdep
      have q : (fun v _ => v = .pointer (some ⟨w.heap.size + 1, 7, none⟩) : Value → World → Prop) (a1.eval (.tmp 53)) X := hdep 32 (by decide)
      have c := cl_row (i := 7) (RW3 X hev) rfl
      change X.cell? _ = some (.bool b.gr) at c
      dsimp only at q
      refine Or.inl ⟨rfl, ?_⟩
      refine ow_value (v := .bool b.gr) (w' := X) ?_ ⟨_, rfl, evr _, ?_⟩
      · have hk : a1.eval (.const (.bool false)) = .bool false := rfl; have hk2 : a1.eval (.const (.int .i64 0)) = .int .i64 0 := rfl; clear hfix hev hdep; generalize a1.eval = ev at *; unfold execOp; simp only; go_simp
      · exact rfl
    · intro a1 X hfix hev hdep
      have q : a1.eval (.tmp 3) = _ := (hfix 3 (by decide)).trans F3
      refine Or.inl ⟨rfl, ?_⟩
      refine ow_value (v := .pointer (some ⟨w.heap.size + 1, 8, none⟩)) (w' := X) ?_ ⟨_, rfl, evr _, ?_⟩
      · have hk : a1.eval (.const (.bool false)) = .bool false := rfl; have hk2 : a1.eval (.const (.int .i64 0)) = .int .i64 0 := rfl; clear hfix hev hdep; generalize a1.eval = ev at *; unfold execOp; simp only; go_simp
      · exact rfl
    · intro a1 X hfix hev hdep
      have q : (fun v _ => v = .pointer (some ⟨w.heap.size + 1, 8, none⟩) : Value → World → Prop) (a1.eval (.tmp 55)) X := hdep 34 (by decide)
      have c := cl_row (i := 8) (RW3 X hev) rfl
      change X.cell? _ = some (.bool b.again) at c
      dsimp only at q
      refine Or.inl ⟨rfl, ?_⟩
      refine ow_value (v := .bool b.again) (w' := X) ?_ ⟨_, rfl, evr _, ?_⟩
      · have hk : a1.eval (.const (.bool false)) = .bool false := rfl; have hk2 : a1.eval (.const (.int .i64 0)) = .int .i64 0 := rfl; clear hfix hev hdep; generalize a1.eval = ev at *; unfold execOp; simp only; go_simp
      · exact rfl
    · intro a1 X hfix hev hdep
      have q : a1.eval (.tmp 3) = _ := (hfix 3 (by decide)).trans F3
      refine Or.inl ⟨rfl, ?_⟩
      refine ow_value (v := .pointer (some ⟨w.heap.size + 1, 9, none⟩)) (w' := X) ?_ ⟨_, rfl, evr _, ?_⟩
      · have hk : a1.eval (.const (.bool false)) = .bool false := rfl; have hk2 : a1.eval (.const (.int .i64 0)) = .int .i64 0 := rfl; clear hfix hev hdep; generalize a1.eval = ev at *; unfold execOp; simp only; go_simp
      · exact rfl
    · intro a1 X hfix hev hdep
      have q : (fun v _ => v = .pointer (some ⟨w.heap.size + 1, 9, none⟩) : Value → World → Prop) (a1.eval (.tmp 57)) X := hdep 36 (by decide)
      have c := cl_row (i := 9) (RW3 X hev) rfl
      change X.cell? _ = some (.int .i64 b.time) at c
      dsimp only at q
      refine Or.inl ⟨rfl, ?_⟩
      refine ow_value (v := .int .i64 b.time) (w' := X) ?_ ⟨_, rfl, evr _, ?_⟩
      · have hk : a1.eval (.const (.bool false)) = .bool false := rfl; have hk2 : a1.eval (.const (.int .i64 0)) = .int .i64 0 := rfl; clear hfix hev hdep; generalize a1.eval = ev at *; unfold execOp; simp only; go_simp
      · exact rfl
    · intro a1 X hfix hev hdep
      have q : a1.eval (.tmp 3) = _ := (hfix 3 (by decide)).trans F3
      refine Or.inl ⟨rfl, ?_⟩
      refine ow_value (v := .agg (opC b vfb vab vkb)) (w' := X) ?_ ⟨_, rfl, evr _, ?_⟩
      · exact ex_open _ _ _ _ _ _ rfl q (RW3 X hev) rfl
      · exact rfl
    · intro a1 X hfix hev hdep
      have q : a1.eval (.tmp 6) = _ := (hfix 6 (by decide)).trans F6
      refine Or.inl ⟨rfl, ?_⟩
      refine ow_value (v := vF) (w' := X) ?_ ⟨_, rfl, evr _, ?_⟩
      · have hk : a1.eval (.const (.bool false)) = .bool false := rfl; have hk2 : a1.eval (.const (.int .i64 0)) = .int .i64 0 := rfl; clear hfix hev hdep; generalize a1.eval = ev at *; unfold execOp; simp only; go_simp
      · exact rfl
    · intro a1 X hfix hev hdep
      have q : (fun v _ => v = .agg (opC b vfb vab vkb) : Value → World → Prop) (a1.eval (.tmp 59)) X := hdep 38 (by decide)
      have r : (fun v _ => v = vF : Value → World → Prop) (a1.eval (.tmp 60)) X := hdep 39 (by decide)
      dsimp only at q r
      refine Or.inl ⟨rfl, ?_⟩
      refine ow_enter (f := 17) (args := #[.agg (opC b vfb vab vkb), vF]) (w' := X) ?_ ?_
      · have hc : a1.eval (.func 17) = .func (.func 17) #[] #[] := rfl; clear hfix hev hdep; generalize a1.eval = ev at *; unfold execOp; simp only; go_simp
      · refine (keptOf_any b vfb vab vkb vF (famsA a b) X (HB.out.k.below (bw X hev)) (ints_own (hF X hev)) (by omega) (by omega)).mono ?_
        rintro e Y ⟨⟨v, rfl, hv⟩, hb⟩
        exact ⟨v, rfl, _, rfl, evb X Y hev hb, owns_mono hv (sz3 X hev)⟩
    · intro a1 X hfix hev hdep
      have q4 : (fun v _ => v = .int .i64 (min a.hold b.hold) : Value → World → Prop) (a1.eval (.tmp 25)) X := hdep 4 (by decide)
      have q5 : (fun v _ => v = vF : Value → World → Prop) (a1.eval (.tmp 26)) X := hdep 5 (by decide)
      have q11 : (fun v _ => v = .bool (a.four && b.four) : Value → World → Prop) (a1.eval (.tmp 32)) X := hdep 11 (by decide)
      have q17 : (fun v _ => v = .bool (a.refr && b.refr) : Value → World → Prop) (a1.eval (.tmp 38)) X := hdep 17 (by decide)
      have q24 : (fun v X => OwnI X (w.heap.size + 3) v (sendA a b) : Value → World → Prop) (a1.eval (.tmp 45)) X := hdep 24 (by decide)
      have q31 : (fun v X => OwnI X (w.heap.size + 3) v (takeA a b) : Value → World → Prop) (a1.eval (.tmp 52)) X := hdep 31 (by decide)
      have q33 : (fun v _ => v = .bool b.gr : Value → World → Prop) (a1.eval (.tmp 54)) X := hdep 33 (by decide)
      have q35 : (fun v _ => v = .bool b.again : Value → World → Prop) (a1.eval (.tmp 56)) X := hdep 35 (by decide)
      have q37 : (fun v _ => v = .int .i64 b.time : Value → World → Prop) (a1.eval (.tmp 58)) X := hdep 37 (by decide)
      have q40 : (fun v X => OwnK X (w.heap.size + 3) v (keptL b.kept (famsA a b)) : Value → World → Prop) (a1.eval (.tmp 61)) X := hdep 40 (by decide)
      dsimp only at q4 q5 q11 q17 q24 q31 q33 q35 q37 q40
      obtain ⟨vs, hvs⟩ : ∃ x, a1.eval (.tmp 45) = x := ⟨_, rfl⟩
      rw [hvs] at q24
      obtain ⟨vt, hvt⟩ : ∃ x, a1.eval (.tmp 52) = x := ⟨_, rfl⟩
      rw [hvt] at q31
      obtain ⟨vk, hvk⟩ : ∃ x, a1.eval (.tmp 61) = x := ⟨_, rfl⟩
      rw [hvk] at q40
      refine Or.inl ⟨rfl, ?_⟩
      refine ow_value (v := .agg (sesC a b vF vs vt vk)) (w' := X) ?_ ⟨_, rfl, evr _, ?_⟩
      · obtain ⟨_, _, e1⟩ := slice_of_owns (hF X hev); obtain ⟨_, _, e2⟩ := slice_of_owns q24; obtain ⟨_, _, e3⟩ := slice_of_owns q31; obtain ⟨_, _, e4⟩ := slice_of_owns q40; rw [e1] at q5 ⊢; rw [e2] at hvs ⊢; rw [e3] at hvt ⊢; rw [e4] at hvk ⊢; clear q24 q31 q40 hdep hfix hev e1 e2 e3 e4; unfold sesC; generalize a1.eval = ev at *; unfold execOp; simp only; go_simp
      · exact ⟨vs, vt, vk, rfl, q24, q31, q40⟩
    · intro a1 X hfix hev hdep
      have q : (fun v X => ∃ vs vt vk, v = .agg (sesC a b vF vs vt vk) ∧ OwnI X (w.heap.size + 3) vs (sendA a b) ∧ OwnI X (w.heap.size + 3) vt (takeA a b) ∧ OwnK X (w.heap.size + 3) vk (keptL b.kept (famsA a b)) : Value → World → Prop) (a1.eval (.tmp 62)) X := hdep 41 (by decide)
      have q4 : a1.eval (.tmp 4) = _ := (hfix 4 (by decide)).trans F4
      obtain ⟨vs, vt, vk, hq, h1, h2, h3⟩ := q
      obtain ⟨C, hC, hs⟩ := hev.sz _ HZ.out rfl
      refine Or.inl ⟨rfl, ?_⟩
      refine wp_store_row 31 (.tmp 4) (.tmp 62) rfl _ (sesC a b vF vs vt vk) q4 hq 31 C hC (info31 _ _ _ _ _ _) (by rw [hs]; rfl) (ses_one _ _ _ _ _ _ (hF X hev) h1 h2 h3) ⟨_, rfl, ?_, ?_⟩
      · exact ev_store hC rfl (sto_row hC (hF X hev) h1 h2 h3)
      · exact sto_row hC (hF X hev) h1 h2 h3
    · intro a1 X hfix hev hdep
      refine Or.inl ⟨rfl, ?_⟩
      refine ow_value (v := .int .i64 0) (w' := X) ?_ ⟨_, rfl, evr _, ?_⟩
      · have hk : a1.eval (.const (.bool false)) = .bool false := rfl; have hk2 : a1.eval (.const (.int .i64 0)) = .int .i64 0 := rfl; clear hfix hev hdep; generalize a1.eval = ev at *; unfold execOp; simp only; go_simp
      · exact rfl
theorem zero_one : zeroS.all (·.oneCell') = true := by simp [zeroS, Value.oneCell']
theorem info31z : (Tryz.prog.info? 31).map (·.size) = some zeroS.size := by kernel_rfl
theorem agree_no1 (a b : Opn) (vfa vaa vka vfb vab vkb : Value) (w : World) (hg : FamSizes w) (ha : ListsAt w a vfa vaa vka) (ma : mayB a = false) :
    Calls Tryz.prog 5 #[opV a vfa vaa vka, opV b vfb vab vkb] w fun e w' => e = .returned (.tuple #[.agg zeroS, .int .i64 2]) ∧ Below w.heap.size w w' := by
  have K1 : Hid (∀ X, Below w.heap.size w X → Calls Tryz.prog 12 #[opV a vfa vaa vka] X fun e w' => e = .returned (.bool false) ∧ Below X.heap.size X w') := fun X hX => by
    have := mayBe_any a vfa vaa vka X (hg.below hX) (ha.below hX)
    rw [ma] at this
    exact this
  clear ha hg
  unfold opV at K1 ⊢
  unfold opC at K1 ⊢
  go_enter Tryz.func5, Tryz.ntmps5
  go_wp2_with fail
  have h3 : Three w (opC a vfa vaa vka) (opC b vfb vab vkb) zeroS _ := ⟨(three_new w _ _ _).1, (three_new w _ _ _).2.1, (three_new w _ _ _).2.2.1, (three_new w _ _ _).2.2.2⟩
  refine Calls.mono (K1.out _ h3.b) ?_
  rintro e w1 ⟨rfl, hb1⟩
  have H1 : Hid (Three _ _ _ _ _) := h3.below hb1
  clear h3 hb1 K1
  go_wp2_with (refine wpList_store_row rfl 31 _ _ rfl (w.heap.size + 1 + 1) zeroS rfl rfl 31 _ H1.out.r4 info31z rfl zero_one ?_)
  exact bodyPost_ret (results_cell_tmp (P := Tryz.prog) rfl _ _ (w.heap.size + 1 + 1) 31 zeroS (0, 0) _ _ rfl rfl (row_same _ _ _ _ H1.out.r4) Tryz.underlying31 rfl info31z) rfl ⟨rfl, below_setRow H1.out.b (by omega) _⟩
theorem agree_no2 (a b : Opn) (vfa vaa vka vfb vab vkb : Value) (w : World) (hg : FamSizes w) (ha : ListsAt w a vfa vaa vka) (hb : ListsAt w b vfb vab vkb) (ma : mayB a = true) (mb : mayB b = false) :
    Calls Tryz.prog 5 #[opV a vfa vaa vka, opV b vfb vab vkb] w fun e w' => e = .returned (.tuple #[.agg zeroS, .int .i64 2]) ∧ Below w.heap.size w w' := by
  have K1 : Hid (∀ X, Below w.heap.size w X → Calls Tryz.prog 12 #[opV a vfa vaa vka] X fun e w' => e = .returned (.bool true) ∧ Below X.heap.size X w') := fun X hX => by
    have := mayBe_any a vfa vaa vka X (hg.below hX) (ha.below hX)
    rw [ma] at this
    exact this
  have K2 : Hid (∀ X, Below w.heap.size w X → Calls Tryz.prog 12 #[opV b vfb vab vkb] X fun e w' => e = .returned (.bool false) ∧ Below X.heap.size X w') := fun X hX => by
    have := mayBe_any b vfb vab vkb X (hg.below hX) (hb.below hX)
    rw [mb] at this
    exact this
  clear ha hb hg
  unfold opV at K1 K2 ⊢
  unfold opC at K1 K2 ⊢
  go_enter Tryz.func5, Tryz.ntmps5
  go_wp2_with fail
  have h3 : Three w (opC a vfa vaa vka) (opC b vfb vab vkb) zeroS _ := ⟨(three_new w _ _ _).1, (three_new w _ _ _).2.1, (three_new w _ _ _).2.2.1, (three_new w _ _ _).2.2.2⟩
  refine Calls.mono (K1.out _ h3.b) ?_
  rintro e w1 ⟨rfl, hb1⟩
  have H1 : Hid (Three _ _ _ _ _) := h3.below hb1
  have c0 := cl_row (i := 0) H1.out.r3 rfl
  have c1 := cl_row (i := 1) H1.out.r3 rfl
  have c2 := cl_row (i := 2) H1.out.r3 rfl
  have c3 := cl_row (i := 3) H1.out.r3 rfl
  have c4 := cl_row (i := 4) H1.out.r3 rfl
  have c5 := cl_row (i := 5) H1.out.r3 rfl
  have c6 := cl_row (i := 6) H1.out.r3 rfl
  have c7 := cl_row (i := 7) H1.out.r3 rfl
  have c8 := cl_row (i := 8) H1.out.r3 rfl
  have c9 := cl_row (i := 9) H1.out.r3 rfl
  have c10 := cl_row (i := 10) H1.out.r3 rfl
  clear h3 hb1 K1
  go_wp2_with fail
  refine Calls.mono (K2.out _ H1.out.b) ?_
  rintro e w2 ⟨rfl, hb2⟩
  have H2 : Hid (Three _ _ _ _ _) := H1.out.below hb2
  clear c0 c1 c2 c3 c4 c5 c6 c7 c8 c9 c10 hb2 H1 K2
  go_wp2_with (refine wpList_store_row rfl 31 _ _ rfl (w.heap.size + 1 + 1) zeroS rfl rfl 31 _ H2.out.r4 info31z rfl zero_one ?_)
  exact bodyPost_ret (results_cell_tmp (P := Tryz.prog) rfl _ _ (w.heap.size + 1 + 1) 31 zeroS (0, 0) _ _ rfl rfl (row_same _ _ _ _ H2.out.r4) Tryz.underlying31 rfl info31z) rfl ⟨rfl, below_setRow H2.out.b (by omega) _⟩
end Go.Proofs.YtlhnfejgkhilkaaGreatDoor
