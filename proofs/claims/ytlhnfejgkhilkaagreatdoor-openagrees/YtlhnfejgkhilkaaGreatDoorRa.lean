/-
  Pieces, one behind the other: eachPiece, over what it hands them to.
-/
import Derived.Test.YtlhnfejgkhilkaaGreatDoorR1
import Derived.LoopN
set_option linter.unusedVariables false
set_option linter.unusedSimpArgs false
namespace Go.Proofs.YtlhnfejgkhilkaaGreatDoor
open Go.RowKit
/-- Pieces are taken one by one, up to the first one that is wrong. -/
def runP (step : Opn → Nat → List UInt8 → Except Nat Opn) : Nat → List UInt8 → Opn → Except Nat Opn
  | 0, _, o => .ok o
  | _ + 1, [], o => .ok o
  | _ + 1, [_], _ => .error 0
  | k + 1, c :: n :: r, o => if r.length < n.toNat then .error 0 else match step o c.toNat (r.take n.toNat) with
    | .error e => .error e
    | .ok o' => runP step k (r.drop n.toNat) o'
def runL (step : Opn → Nat → List UInt8 → Except Nat Opn) (l : List UInt8) (o : Opn) : Except Nat Opn := runP step l.length l o
theorem runP_fuel (step : Opn → Nat → List UInt8 → Except Nat Opn) (k : Nat) : ∀ (j : Nat) (l : List UInt8) (o : Opn), l.length ≤ k → l.length ≤ j → runP step k l o = runP step j l o := by
  induction k with
  | zero =>
    intro j l o h1 h2
    obtain rfl : l = [] := List.eq_nil_of_length_eq_zero (by omega)
    cases j <;> rfl
  | succ k ih =>
    intro j l o h1 h2
    match l, j with
    | [], 0 => rfl
    | [], j + 1 => rfl
    | [_], 0 => simp at h2
    | [_], j + 1 => rfl
    | c :: n :: r, 0 => simp at h2
    | c :: n :: r, j + 1 =>
      simp only [runP]
      split
      · rfl
      · cases step o c.toNat (r.take n.toNat) with
        | error e => rfl
        | ok o' =>
          have h3 : (r.drop n.toNat).length ≤ r.length := by simp
          simp only [List.length_cons] at h1 h2
          exact ih j _ o' (by omega) (by omega)
theorem runL_nil (step : Opn → Nat → List UInt8 → Except Nat Opn) (o : Opn) : runL step [] o = .ok o := rfl
theorem runL_one (step : Opn → Nat → List UInt8 → Except Nat Opn) (c : UInt8) (o : Opn) : runL step [c] o = .error 0 := rfl
theorem runL_short (step : Opn → Nat → List UInt8 → Except Nat Opn) (c n : UInt8) (r : List UInt8) (o : Opn) (h : r.length < n.toNat) : runL step (c :: n :: r) o = .error 0 := by
  unfold runL
  simp only [List.length_cons, runP]
  rw [if_pos h]
theorem runL_err (step : Opn → Nat → List UInt8 → Except Nat Opn) (c n : UInt8) (r : List UInt8) (o : Opn) (e : Nat) (h : ¬ r.length < n.toNat) (hs : step o c.toNat (r.take n.toNat) = .error e) : runL step (c :: n :: r) o = .error e := by
  unfold runL
  simp only [List.length_cons, runP]
  rw [if_neg h, hs]
theorem runL_ok (step : Opn → Nat → List UInt8 → Except Nat Opn) (c n : UInt8) (r : List UInt8) (o o' : Opn) (h : ¬ r.length < n.toNat) (hs : step o c.toNat (r.take n.toNat) = .ok o') : runL step (c :: n :: r) o = runL step (r.drop n.toNat) o' := by
  unfold runL
  simp only [List.length_cons, runP]
  rw [if_neg h, hs]
  exact runP_fuel step _ _ _ _ (by simp; omega) (Nat.le_refl _)
/-- What a step answers. -/
def StepOk (base p : Nat) (r : Except Nat Opn) (e : Ending) (w' : World) : Prop :=
  match r with
  | .ok o => e = .returned (vdt 0 0 0) ∧ OAt base w' p o
  | .error n => e = .returned (vdt 3 2 (n : Int))
theorem one37 (a b c : Int) : (#[.int .i64 a, .int .u8 b, .int .u8 c] : Array Value).all (·.oneCell') = true := by simp [Value.oneCell']
/-- What stands in memory while pieces are read. -/
structure EP (base p : Nat) (w wr : World) (l : List UInt8) (o : Opn) : Prop where
  o_ : OAt base wr p o
  rd : Rd wr (w.heap.size + 1) l
  z : wr.heap[w.heap.size]? = some (.cells #[.int .i64 0, .int .u8 0, .int .u8 0] 37 (0, 0))
  fr : Fr base p w wr
theorem EP.beside {base p : Nat} {w wr w' : World} {l l' : List UInt8} {o : Opn} (h : EP base p w wr l o) (hr : Rd w' (w.heap.size + 1) l') (hb : Beside (w.heap.size + 1) wr w') : EP base p w w' l' o := by
  obtain ⟨C, hC⟩ := h.rd.ty
  exact ⟨h.o_.beside hb hC (by decide), hr, (hb.block _ (lt_of_heap h.z) (by omega)).trans h.z, h.fr.later (hb.below (by omega) h.fr.size)⟩
theorem EP.below {base p : Nat} {w wr w' : World} {l : List UInt8} {o : Opn} (h : EP base p w wr l o) (hb : Below wr.heap.size wr w') : EP base p w w' l o :=
  ⟨h.o_.below hb, h.rd.below hb, (hb.block _ (lt_of_heap h.z)).trans h.z, h.fr.later (hb.mono h.fr.size)⟩
theorem EP.turn {base p : Nat} {w wr w' : World} {l : List UInt8} {o o' : Opn} (h : EP base p w wr l o) (hf : Fr base p wr w') (ho : OAt base w' p o') (hp : p < w.heap.size) : EP base p w w' l o' :=
  ⟨ho, h.rd.fr hf (by omega), hf.keep h.z (by omega) (by decide), h.fr.trans hf⟩
theorem worth_one (c : UInt8) (l : List UInt8) : worth ((c :: l).take 1) = c.toNat := by simp [worth]
theorem size37 : (Tryz.prog.info? 37).map (·.size) = some 3 := by kernel_rfl
set_option maxRecDepth 100000 in
set_option maxHeartbeats 6400000 in
theorem eachPiece_any (base p : Nat) (g : Nat) (cv : Value) (step : Opn → Nat → List UInt8 → Except Nat Opn) (l0 : List UInt8) (o0 : Opn) (w : World) (hbp : base ≤ w.heap.size) (hp : p < w.heap.size)
    (eg : ∀ args W, (callFunc g args).run Tryz.prog W = .ok (.enter g args) W)
    (h0 : OAt base w p o0)
    (hf : ∀ X o (c : Nat) v, c < 256 → v.length < 256 → OAt base X p o → Fr base p w X → Calls Tryz.prog g #[.int .u8 (c : Int), .string ⟨v.toArray⟩, cv] X fun e w' => StepOk base p (step o c v) e w' ∧ Fr base p X w') :
    Calls Tryz.prog 56 #[.string ⟨l0.toArray⟩, .func (.func g) #[] #[cv]] w fun e w' => StepOk base p (runL step l0 o0) e w' ∧ Fr base p w w' := by
  have HF : Hid (_ : Prop) := hf
  have H0 : Hid (OAt base w p o0) := h0
  have HP : Hid (p < w.heap.size ∧ base ≤ w.heap.size) := ⟨hp, hbp⟩
  clear hf h0 hp hbp
  go_enter Tryz.func56, Tryz.ntmps56
  go_wp2_with fail
  have hb1 : Below w.heap.size w (w.alloc (.cells #[.int .i64 0, .int .u8 0, .int .u8 0] 37)) := (Below.refl _ _).alloc (Nat.le_refl _) _
  have hz1 : (w.alloc (.cells #[.int .i64 0, .int .u8 0, .int .u8 0] 37)).heap.size = w.heap.size + 1 := by simp
  have hr1 : (w.alloc (.cells #[.int .i64 0, .int .u8 0, .int .u8 0] 37)).heap[w.heap.size]? = some (.cells #[.int .i64 0, .int .u8 0, .int .u8 0] 37 (0, 0)) := hp_new rfl
  have H1 : Hid (OAt base (w.alloc (.cells #[.int .i64 0, .int .u8 0, .int .u8 0] 37)) p o0) := H0.out.below hb1
  have HB1 : Hid (Below _ _ _) := hb1
  have HR1 : Hid (_ = _) := hr1
  have HZ1 : Hid (_ = _) := hz1
  clear hb1 hr1 hz1
  generalize w.alloc (.cells #[.int .i64 0, .int .u8 0, .int .u8 0] 37) = W1 at *
  refine Calls.mono (newR_any l0 W1) ?_
  rintro e W2 ⟨rfl, hrd, hW2⟩
  have hb2 : Below W1.heap.size W1 W2 := by rw [hW2]; exact (Below.refl _ _).alloc (Nat.le_refl _) _
  have H2 : Hid (OAt base W2 p o0 ∧ Rd W2 (w.heap.size + 1) l0 ∧ W2.heap[w.heap.size]? = some (.cells #[.int .i64 0, .int .u8 0, .int .u8 0] 37 (0, 0)) ∧ Fr base p w W2) := by
    refine ⟨H1.out.below hb2, ?_, (hb2.block _ (lt_of_heap HR1.out)).trans HR1.out, (Fr.of_below HB1.out (Nat.le_refl _)).later (hb2.mono HB1.out.size)⟩
    rw [← HZ1.out]; exact hrd
  rw [HZ1.out]
  clear hrd hW2 hb2 H1 HB1 HR1 HZ1 H0
  go_wp2
  go_loopw [] (fun wr => ∃ (l : List UInt8) (o : Opn), EP base p w wr l o ∧ runL step l0 o0 = runL step l o) (fun wr => leftAt wr (w.heap.size + 1))
  case atStart => exact ⟨l0, o0, ⟨H2.out.1, H2.out.2.1, H2.out.2.2.1, H2.out.2.2.2⟩, rfl⟩
  case round =>
    obtain ⟨l, o, hep, hrun⟩ := hrel
    have HE : Hid (EP base p w wr l o) := hep
    have HRUN : Hid (_ = _) := hrun
    have KL : Hid (_ : Prop) := leftR_any (w.heap.size + 1) l wr hep.rd
    clear hep hrun H2
    match l with
    | [] =>
      have HX : Hid (runL step l0 o0 = .ok o) := HRUN.out.trans (runL_nil step o)
      clear HRUN
      go_wp2_with (first | (go_at_call 55; refine Calls.mono KL.out ?_; rintro e wa ⟨rfl, hwa⟩; obtain rfl : wr = wa := hwa.symm; clear hwa) | (refine wpList_store_row rfl 37 _ _ rfl w.heap.size #[.int .i64 0, .int .u8 0, .int .u8 0] rfl rfl 37 _ HE.out.z size37 rfl (one37 _ _ _) ?_))
      have hr := row_same wr w.heap.size _ #[.int .i64 0, .int .u8 0, .int .u8 0] HE.out.z
      have c0 := cl_row (i := 0) hr rfl
      have c1 := cl_row (i := 1) hr rfl
      have c2 := cl_row (i := 2) hr rfl
      have hbz : Beside w.heap.size wr (wr.setRow w.heap.size #[.int .i64 0, .int .u8 0, .int .u8 0]) := Beside.setRow HE.out.z
      refine bodyPost_ret (v := vdt 0 0 0) (by simp [results, Tryz.results56, go_sem, vdt, c0, c1, c2]) rfl ⟨by rw [HX.out]; exact ⟨rfl, HE.out.o_.beside hbz HE.out.z (by decide)⟩, HE.out.fr.later (hbz.below (Nat.le_refl _) HE.out.fr.size)⟩
    | [c] =>
      have HX : Hid (runL step l0 o0 = .error 0) := HRUN.out.trans (runL_one step c o)
      clear HRUN
      have K1 : Hid (_ : Prop) := numR_yes (w.heap.size + 1) [c] 1 wr HE.out.rd (by omega) (by omega) (by simp)
      rw [worth_one] at K1
      have hc := c.toNat_lt
      go_wp2_with fail
      refine Calls.mono KL.out ?_
      rintro e wa ⟨rfl, hwa⟩
      obtain rfl : wr = wa := hwa.symm
      clear hwa
      go_wp2_with fail
      refine Calls.mono K1.out ?_
      rintro e w1 ⟨rfl, hr1, hb1⟩
      have H1 : Hid (EP base p w w1 [] o) := HE.out.beside hr1 hb1
      clear hr1 hb1 HE KL K1
      go_wp2_with fail
      refine Calls.mono (numR_no (w.heap.size + 1) [] 1 w1 H1.out.rd (by omega) (by omega) (by simp)) ?_
      rintro e w2 ⟨rfl, hr2, hb2⟩
      have H2 : Hid (EP base p w w2 [] o) := H1.out.beside hr2 hb2
      clear hr2 hb2 H1
      go_wp2_with fail
      refine Calls.mono (takeR_yes (w.heap.size + 1) [] 0 w2 H2.out.rd (by simp)) ?_
      rintro e w3 ⟨rfl, hr3, hb3⟩
      have H3 : Hid (EP base p w w3 [] o) := H2.out.beside hr3 hb3
      clear hr3 hb3 H2
      go_wp2_with fail
      refine Calls.mono (reset_any 0 w3) ?_
      rintro e w4 ⟨rfl, hb4⟩
      unfold vdt
      have H4 : Hid (EP base p w w4 [] o) := H3.out.below hb4
      clear hb4 H3
      go_wp2_with (refine wpList_store_row rfl 37 _ _ rfl w.heap.size #[.int .i64 3, .int .u8 2, .int .u8 0] rfl rfl 37 _ H4.out.z size37 rfl (one37 _ _ _) ?_)
      have hr := row_same w4 w.heap.size _ #[.int .i64 3, .int .u8 2, .int .u8 0] H4.out.z
      have c0 := cl_row (i := 0) hr rfl
      have c1 := cl_row (i := 1) hr rfl
      have c2 := cl_row (i := 2) hr rfl
      have hbz : Beside w.heap.size w4 (w4.setRow w.heap.size #[.int .i64 3, .int .u8 2, .int .u8 0]) := Beside.setRow H4.out.z
      refine bodyPost_ret (v := vdt 3 2 0) (by simp [results, Tryz.results56, go_sem, vdt, c0, c1, c2]) rfl ⟨by rw [HX.out]; rfl, H4.out.fr.later (hbz.below (Nat.le_refl _) H4.out.fr.size)⟩
    | c :: n :: r =>
      have K1 : Hid (_ : Prop) := numR_yes (w.heap.size + 1) (c :: n :: r) 1 wr HE.out.rd (by omega) (by omega) (by simp)
      rw [worth_one] at K1
      have K2 : Hid (∀ X, Rd X (w.heap.size + 1) (n :: r) → Calls Tryz.prog 54 #[.pointer (some ⟨w.heap.size + 1, 0, none⟩), .int .i64 1] X fun e w' => e = .returned (.tuple #[.int .u64 (n.toNat : Int), .bool true]) ∧ Rd w' (w.heap.size + 1) r ∧ Beside (w.heap.size + 1) X w') := fun X hX => by
        have := numR_yes (w.heap.size + 1) (n :: r) 1 X hX (by omega) (by omega) (by simp)
        rw [worth_one] at this
        exact this
      have hc := c.toNat_lt
      have hn := n.toNat_lt
      have hposl : (0 : Int) < ((c :: n :: r).length : Int) := by simp; omega
      generalize (c :: n :: r).length = len at *
      by_cases hshort : r.length < n.toNat
      · have HX : Hid (runL step l0 o0 = .error 0) := HRUN.out.trans (runL_short step c n r o hshort)
        clear HRUN
        have K3 : Hid (∀ X, Rd X (w.heap.size + 1) r → Calls Tryz.prog 69 #[.pointer (some ⟨w.heap.size + 1, 0, none⟩), .int .i64 (n.toNat : Int)] X fun e w' => e = .returned (.tuple #[.string ⟨#[]⟩, .bool false]) ∧ w' = X) := fun X hX => takeR_no (w.heap.size + 1) r n.toNat X hX hshort
        generalize c.toNat = cN at *
        generalize n.toNat = nN at *
        go_wp2_with fail
        refine Calls.mono KL.out ?_
        rintro e wa ⟨rfl, hwa⟩
        obtain rfl : wr = wa := hwa.symm
        clear hwa
        go_wp2_with fail
        refine Calls.mono K1.out ?_
        rintro e w1 ⟨rfl, hr1, hb1⟩
        have H1 : Hid (EP base p w w1 (n :: r) o) := HE.out.beside hr1 hb1
        clear hr1 hb1 HE KL K1
        go_wp2_with fail
        refine Calls.mono (K2.out w1 H1.out.rd) ?_
        rintro e w2 ⟨rfl, hr2, hb2⟩
        have H2 : Hid (EP base p w w2 r o) := H1.out.beside hr2 hb2
        clear hr2 hb2 H1
        go_wp2_with fail
        refine Calls.mono (K3.out w2 H2.out.rd) ?_
        rintro e w3 ⟨rfl, hw3⟩
        obtain rfl : w2 = w3 := hw3.symm
        clear hw3
        go_wp2_with fail
        refine Calls.mono (reset_any 0 w2) ?_
        rintro e w4 ⟨rfl, hb4⟩
        unfold vdt
        have H4 : Hid (EP base p w w4 r o) := H2.out.below hb4
        clear hb4 H2
        go_wp2_with (refine wpList_store_row rfl 37 _ _ rfl w.heap.size #[.int .i64 3, .int .u8 2, .int .u8 0] rfl rfl 37 _ H4.out.z size37 rfl (one37 _ _ _) ?_)
        have hr := row_same w4 w.heap.size _ #[.int .i64 3, .int .u8 2, .int .u8 0] H4.out.z
        have c0 := cl_row (i := 0) hr rfl
        have c1 := cl_row (i := 1) hr rfl
        have c2 := cl_row (i := 2) hr rfl
        have hbz : Beside w.heap.size w4 (w4.setRow w.heap.size #[.int .i64 3, .int .u8 2, .int .u8 0]) := Beside.setRow H4.out.z
        refine bodyPost_ret (v := vdt 3 2 0) (by simp [results, Tryz.results56, go_sem, vdt, c0, c1, c2]) rfl ⟨by rw [HX.out]; rfl, H4.out.fr.later (hbz.below (Nat.le_refl _) H4.out.fr.size)⟩
      · have K3 : Hid (∀ X, Rd X (w.heap.size + 1) r → Calls Tryz.prog 69 #[.pointer (some ⟨w.heap.size + 1, 0, none⟩), .int .i64 (n.toNat : Int)] X fun e w' => e = .returned (.tuple #[.string ⟨(r.take n.toNat).toArray⟩, .bool true]) ∧ Rd w' (w.heap.size + 1) (r.drop n.toNat) ∧ Beside (w.heap.size + 1) X w') := fun X hX => takeR_yes (w.heap.size + 1) r n.toNat X hX (by omega)
        have KF : Hid (∀ X, OAt base X p o → Fr base p w X → Calls Tryz.prog g #[.int .u8 (c.toNat : Int), .string ⟨(r.take n.toNat).toArray⟩, cv] X fun e w' => StepOk base p (step o c.toNat (r.take n.toNat)) e w' ∧ Fr base p X w') := fun X h1 h2 => HF.out X o c.toNat _ hc (by simp; omega) h1 h2
        have HLN : Hid ((r.drop n.toNat).length < (c :: n :: r).length) := by unfold Hid; simp; omega
        have HLE : Hid (leftAt wr (w.heap.size + 1) = (c :: n :: r).length) := HE.out.rd.left
        cases hst : step o c.toNat (r.take n.toNat) with
        | error er =>
          have HX : Hid (runL step l0 o0 = .error er) := HRUN.out.trans (runL_err step c n r o er hshort hst)
          rw [hst] at KF
          clear HRUN hst hshort
          generalize c.toNat = cN at *
          generalize n.toNat = nN at *
          go_wp2_with fail
          refine Calls.mono KL.out ?_
          rintro e wa ⟨rfl, hwa⟩
          obtain rfl : wr = wa := hwa.symm
          clear hwa
          go_wp2_with fail
          refine Calls.mono K1.out ?_
          rintro e w1 ⟨rfl, hr1, hb1⟩
          have H1 : Hid (EP base p w w1 (n :: r) o) := HE.out.beside hr1 hb1
          clear hr1 hb1 HE KL K1
          go_wp2_with fail
          refine Calls.mono (K2.out w1 H1.out.rd) ?_
          rintro e w2 ⟨rfl, hr2, hb2⟩
          have H2 : Hid (EP base p w w2 r o) := H1.out.beside hr2 hb2
          clear hr2 hb2 H1
          go_wp2_with fail
          refine Calls.mono (K3.out w2 H2.out.rd) ?_
          rintro e w3 ⟨rfl, hr3, hb3⟩
          have H3 : Hid (EP base p w w3 (r.drop nN) o) := H2.out.beside hr3 hb3
          clear hr3 hb3 H2
          go_wp2_with fail
          refine Calls.mono (KF.out w3 H3.out.o_ H3.out.fr) ?_
          rintro e w4 ⟨hok, hfr4⟩
          obtain rfl : e = .returned (vdt 3 2 (er : Int)) := hok
          unfold vdt
          have HZ4 : Hid (w4.heap[w.heap.size]? = _) := hfr4.keep H3.out.z (by have := HP.out; omega) (by decide)
          have HFR4 : Hid (Fr base p w w4) := H3.out.fr.trans hfr4
          clear hfr4 H3
          have hba : Below w4.heap.size w4 (w4.alloc (.cells #[.int .i64 3, .int .u8 2, .int .u8 (er : Int)] 37)) := (Below.refl _ _).alloc (Nat.le_refl _) _
          have HZ5 : Hid ((w4.alloc (.cells #[.int .i64 3, .int .u8 2, .int .u8 (er : Int)] 37)).heap[w.heap.size]? = _) := (hba.block _ (lt_of_heap HZ4.out)).trans HZ4.out
          have HFR5 : Hid (Fr base p w (w4.alloc (.cells #[.int .i64 3, .int .u8 2, .int .u8 (er : Int)] 37))) := HFR4.out.later (hba.mono HFR4.out.size)
          have HNE : Hid (w.heap.size < w4.heap.size) := lt_of_heap HZ4.out
          clear hba HZ4 HFR4
          go_wp2_with (refine wpList_store_row rfl 37 _ _ rfl w.heap.size #[.int .i64 3, .int .u8 2, .int .u8 (er : Int)] rfl rfl 37 _ HZ5.out size37 rfl (one37 _ _ _) ?_)
          generalize w4.alloc (.cells #[.int .i64 3, .int .u8 2, .int .u8 (er : Int)] 37) = w5 at *
          have hr := row_same w5 w.heap.size _ #[.int .i64 3, .int .u8 2, .int .u8 (er : Int)] HZ5.out
          have c0 := cl_row (i := 0) hr rfl
          have c1 := cl_row (i := 1) hr rfl
          have c2 := cl_row (i := 2) hr rfl
          have hbz : Beside w.heap.size w5 (w5.setRow w.heap.size #[.int .i64 3, .int .u8 2, .int .u8 (er : Int)]) := Beside.setRow HZ5.out
          refine bodyPost_ret (v := vdt 3 2 (er : Int)) (by simp [results, Tryz.results56, go_sem, vdt, c0, c1, c2]) rfl ⟨by rw [HX.out]; rfl, HFR5.out.later (hbz.below (Nat.le_refl _) HFR5.out.size)⟩
        | ok o' =>
          rw [runL_ok step c n r o o' hshort hst] at HRUN
          rw [hst] at KF
          clear hst hshort
          generalize c.toNat = cN at *
          generalize n.toNat = nN at *
          go_wp2_with fail
          refine Calls.mono KL.out ?_
          rintro e wa ⟨rfl, hwa⟩
          obtain rfl : wr = wa := hwa.symm
          clear hwa
          go_wp2_with fail
          refine Calls.mono K1.out ?_
          rintro e w1 ⟨rfl, hr1, hb1⟩
          have H1 : Hid (EP base p w w1 (n :: r) o) := HE.out.beside hr1 hb1
          clear hr1 hb1 HE KL K1
          go_wp2_with fail
          refine Calls.mono (K2.out w1 H1.out.rd) ?_
          rintro e w2 ⟨rfl, hr2, hb2⟩
          have H2 : Hid (EP base p w w2 r o) := H1.out.beside hr2 hb2
          clear hr2 hb2 H1
          go_wp2_with fail
          refine Calls.mono (K3.out w2 H2.out.rd) ?_
          rintro e w3 ⟨rfl, hr3, hb3⟩
          have H3 : Hid (EP base p w w3 (r.drop nN) o) := H2.out.beside hr3 hb3
          clear hr3 hb3 H2
          go_wp2_with fail
          refine Calls.mono (KF.out w3 H3.out.o_ H3.out.fr) ?_
          rintro e w4 ⟨hok, hfr4⟩
          obtain ⟨rfl, ho4⟩ : e = .returned (vdt 0 0 0) ∧ OAt base w4 p o' := hok
          unfold vdt
          have H4 : Hid (EP base p w w4 (r.drop nN) o') := H3.out.turn hfr4 ho4 HP.out.1
          clear ho4 hfr4 H3
          have hba : Below w4.heap.size w4 (w4.alloc (.cells #[.int .i64 0, .int .u8 0, .int .u8 0] 37)) := (Below.refl _ _).alloc (Nat.le_refl _) _
          have H5 : Hid (EP base p w (w4.alloc (.cells #[.int .i64 0, .int .u8 0, .int .u8 0] 37)) (r.drop nN) o') := H4.out.below hba
          clear hba
          go_wp2
          go_roundw
          case rel => exact ⟨r.drop nN, o', H5.out, HRUN.out⟩
          case measure => rw [HLE.out, H5.out.rd.left]; exact HLN.out
end Go.Proofs.YtlhnfejgkhilkaaGreatDoor

set_option linter.unusedVariables false
set_option linter.unusedSimpArgs false
namespace Go.Proofs.YtlhnfejgkhilkaaGreatDoor
open Go.RowKit
/-- A parameter: of kind 2 it has capabilities. -/
def stepO (step : Opn → Nat → List UInt8 → Except Nat Opn) (o : Opn) (k : Nat) (v : List UInt8) : Except Nat Opn := if k = 2 then runL step v o else .error 4
set_option maxRecDepth 100000 in
set_option maxHeartbeats 1600000 in
theorem eachCapC_any (base p b1 g : Nat) (cv : Value) (step : Opn → Nat → List UInt8 → Except Nat Opn) (o : Opn) (k : Nat) (v : List UInt8) (w X : World) (hk : k < 256) (hX : Fr base p w X) (ho : OAt base X p o) (hp : p < X.heap.size) (hbp : base ≤ X.heap.size)
    (eg : ∀ args W, (callFunc g args).run Tryz.prog W = .ok (.enter g args) W)
    (hbox : X.heap[b1]? = some (.cells #[.func (.func g) #[] #[cv]] 74 (0, 0)))
    (hf : ∀ Y o (c : Nat) v, c < 256 → v.length < 256 → OAt base Y p o → Fr base p w Y → Calls Tryz.prog g #[.int .u8 (c : Int), .string ⟨v.toArray⟩, cv] Y fun e w' => StepOk base p (step o c v) e w' ∧ Fr base p Y w') :
    Calls Tryz.prog 57 #[.int .u8 (k : Int), .string ⟨v.toArray⟩, .pointer (some ⟨b1, 0, none⟩)] X fun e w' => StepOk base p (stepO step o k v) e w' ∧ Fr base p X w' := by
  have hba : Below X.heap.size X (X.alloc (.cells #[.int .i64 0, .int .u8 0, .int .u8 0] 37)) := (Below.refl _ _).alloc (Nat.le_refl _) _
  have hza : (X.alloc (.cells #[.int .i64 0, .int .u8 0, .int .u8 0] 37)).heap[X.heap.size]? = some (.cells #[.int .i64 0, .int .u8 0, .int .u8 0] 37 (0, 0)) := hp_new rfl
  have HZ : Hid (_ = _) := hza
  have HBA : Hid (Below _ _ _) := hba
  have HO : Hid (OAt base (X.alloc (.cells #[.int .i64 0, .int .u8 0, .int .u8 0] 37)) p o) := ho.below hba
  have cb := cl_row (i := 0) ((hba.block _ (lt_of_heap hbox)).trans hbox) rfl
  have HPX : Hid (p < X.heap.size ∧ base ≤ X.heap.size) := ⟨hp, hbp⟩
  have HFX : Hid (_ : Prop) := hf
  have HX : Hid (Fr base p w X) := hX
  clear hba hza ho hbox hf hX hp hbp
  by_cases h2 : k = 2
  · subst h2
    have HST : Hid (stepO step o 2 v = runL step v o) := if_pos rfl
    have K : Hid (_ : Prop) := eachPiece_any base p g cv step v o (X.alloc (.cells #[.int .i64 0, .int .u8 0, .int .u8 0] 37)) (by have := HPX.out.2; simp; omega) (by have := HPX.out.1; simp; omega) eg HO.out (fun Y o' c v' hc hv h1 hF => HFX.out Y o' c v' hc hv h1 (((HX.out.later (HBA.out.mono HX.out.size))).trans hF))
    go_enter Tryz.func57, Tryz.ntmps57
    go_wp2_with fail
    generalize X.alloc (.cells #[.int .i64 0, .int .u8 0, .int .u8 0] 37) = W1 at *
    refine Calls.mono K.out ?_
    rintro e W2 ⟨hok, hfr⟩
    have HZ2 : Hid (W2.heap[X.heap.size]? = _) := hfr.keep HZ.out (by have := HPX.out.1; omega) (by decide)
    have HF2 : Hid (Fr base p X W2) := (Fr.of_below HBA.out (Nat.le_refl _)).trans hfr
    clear hfr K HZ HBA HO cb
    cases hr : runL step v o with
    | error n =>
      rw [hr] at hok HST
      obtain rfl : e = .returned (vdt 3 2 (n : Int)) := hok
      unfold vdt
      clear hr
      go_wp2_with (refine wpList_store_row rfl 37 _ _ rfl X.heap.size #[.int .i64 3, .int .u8 2, .int .u8 (n : Int)] rfl rfl 37 _ HZ2.out size37 rfl (one37 _ _ _) ?_)
      have hr := row_same W2 X.heap.size _ #[.int .i64 3, .int .u8 2, .int .u8 (n : Int)] HZ2.out
      have c0 := cl_row (i := 0) hr rfl
      have c1 := cl_row (i := 1) hr rfl
      have c2 := cl_row (i := 2) hr rfl
      have hbz : Beside X.heap.size W2 (W2.setRow X.heap.size #[.int .i64 3, .int .u8 2, .int .u8 (n : Int)]) := Beside.setRow HZ2.out
      refine bodyPost_ret (v := vdt 3 2 (n : Int)) (by simp [results, Tryz.results57, go_sem, vdt, c0, c1, c2]) rfl ⟨by rw [HST.out]; rfl, HF2.out.later (hbz.below (Nat.le_refl _) HF2.out.size)⟩
    | ok o' =>
      rw [hr] at hok HST
      obtain ⟨rfl, ho2⟩ : e = .returned (vdt 0 0 0) ∧ OAt base W2 p o' := hok
      have HO2 : Hid (OAt base W2 p o') := ho2
      unfold vdt
      clear hr ho2
      go_wp2_with (refine wpList_store_row rfl 37 _ _ rfl X.heap.size #[.int .i64 0, .int .u8 0, .int .u8 0] rfl rfl 37 _ HZ2.out size37 rfl (one37 _ _ _) ?_)
      have hr := row_same W2 X.heap.size _ #[.int .i64 0, .int .u8 0, .int .u8 0] HZ2.out
      have c0 := cl_row (i := 0) hr rfl
      have c1 := cl_row (i := 1) hr rfl
      have c2 := cl_row (i := 2) hr rfl
      have hbz : Beside X.heap.size W2 (W2.setRow X.heap.size #[.int .i64 0, .int .u8 0, .int .u8 0]) := Beside.setRow HZ2.out
      refine bodyPost_ret (v := vdt 0 0 0) (by simp [results, Tryz.results57, go_sem, vdt, c0, c1, c2]) rfl ⟨by rw [HST.out]; exact ⟨rfl, HO2.out.beside hbz HZ2.out (by decide)⟩, HF2.out.later (hbz.below (Nat.le_refl _) HF2.out.size)⟩
  · have HST : Hid (stepO step o k v = .error 4) := if_neg h2
    have h2' : ((k : Int) == 2) = false := by simp; omega
    have h2n : ((k : Int) != 2) = true := by simp; omega
    clear h2
    go_enter Tryz.func57, Tryz.ntmps57
    go_wp2_with fail
    generalize X.alloc (.cells #[.int .i64 0, .int .u8 0, .int .u8 0] 37) = W1 at *
    refine Calls.mono (reset_any 4 W1) ?_
    rintro e W2 ⟨rfl, hb2⟩
    unfold vdt
    have HZ2 : Hid (W2.heap[X.heap.size]? = _) := (hb2.block _ (lt_of_heap HZ.out)).trans HZ.out
    have HF2 : Hid (Fr base p X W2) := (Fr.of_below HBA.out (Nat.le_refl _)).later (hb2.mono HBA.out.size)
    clear hb2 HZ HBA HO cb
    go_wp2_with (refine wpList_store_row rfl 37 _ _ rfl X.heap.size #[.int .i64 3, .int .u8 2, .int .u8 4] rfl rfl 37 _ HZ2.out size37 rfl (one37 _ _ _) ?_)
    have hr := row_same W2 X.heap.size _ #[.int .i64 3, .int .u8 2, .int .u8 4] HZ2.out
    have c0 := cl_row (i := 0) hr rfl
    have c1 := cl_row (i := 1) hr rfl
    have c2 := cl_row (i := 2) hr rfl
    have hbz : Beside X.heap.size W2 (W2.setRow X.heap.size #[.int .i64 3, .int .u8 2, .int .u8 4]) := Beside.setRow HZ2.out
    refine bodyPost_ret (v := vdt 3 2 4) (by simp [results, Tryz.results57, go_sem, vdt, c0, c1, c2]) rfl ⟨by rw [HST.out]; rfl, HF2.out.later (hbz.below (Nat.le_refl _) HF2.out.size)⟩
theorem enter62 (args : Array Value) (W : World) : (callFunc 57 args).run Tryz.prog W = .ok (.enter 57 args) W := by kernel_rfl
theorem enter63 (args : Array Value) (W : World) : (callFunc 58 args).run Tryz.prog W = .ok (.enter 58 args) W := by kernel_rfl
set_option maxRecDepth 100000 in
set_option maxHeartbeats 1600000 in
theorem eachCap_any (base p g : Nat) (cv : Value) (step : Opn → Nat → List UInt8 → Except Nat Opn) (l : List UInt8) (o : Opn) (w : World) (ho : OAt base w p o) (hp : p < w.heap.size) (hbp : base ≤ w.heap.size)
    (eg : ∀ args W, (callFunc g args).run Tryz.prog W = .ok (.enter g args) W)
    (hf : ∀ Y o (c : Nat) v, c < 256 → v.length < 256 → OAt base Y p o → Fr base p w Y → Calls Tryz.prog g #[.int .u8 (c : Int), .string ⟨v.toArray⟩, cv] Y fun e w' => StepOk base p (step o c v) e w' ∧ Fr base p Y w') :
    Calls Tryz.prog 43 #[.string ⟨l.toArray⟩, .func (.func g) #[] #[cv]] w fun e w' => StepOk base p (runL (stepO step) l o) e w' ∧ Fr base p w w' := by
  have hb1 : Below w.heap.size w (w.alloc (.cells #[.func (.func g) #[] #[cv]] 74)) := (Below.refl _ _).alloc (Nat.le_refl _) _
  have hb2 : Below w.heap.size w ((w.alloc (.cells #[.func (.func g) #[] #[cv]] 74)).alloc (.cells #[.int .i64 0, .int .u8 0, .int .u8 0] 37)) := hb1.alloc (by simp) _
  have hx : ((w.alloc (.cells #[.func (.func g) #[] #[cv]] 74)).alloc (.cells #[.int .i64 0, .int .u8 0, .int .u8 0] 37)).heap[w.heap.size]? = some (.cells #[.func (.func g) #[] #[cv]] 74 (0, 0)) := hp_up (hp_new rfl)
  have hz : ((w.alloc (.cells #[.func (.func g) #[] #[cv]] 74)).alloc (.cells #[.int .i64 0, .int .u8 0, .int .u8 0] 37)).heap[w.heap.size + 1]? = some (.cells #[.int .i64 0, .int .u8 0, .int .u8 0] 37 (0, 0)) := hp_new (by simp)
  have hsz : ((w.alloc (.cells #[.func (.func g) #[] #[cv]] 74)).alloc (.cells #[.int .i64 0, .int .u8 0, .int .u8 0] 37)).heap.size = w.heap.size + 2 := by simp
  have K : Hid (_ : Prop) := eachPiece_any base p 57 (.pointer (some ⟨w.heap.size, 0, none⟩)) (stepO step) l o ((w.alloc (.cells #[.func (.func g) #[] #[cv]] 74)).alloc (.cells #[.int .i64 0, .int .u8 0, .int .u8 0] 37)) (by omega) (by omega) enter62 (ho.below hb2)
    (fun X o' c v hc hv h1 hF => eachCapC_any base p w.heap.size g cv step o' c v w X hc ((Fr.of_below hb2 (Nat.le_refl _)).trans hF) h1 (by have := hF.size; omega) (by have := hF.size; omega) eg (hF.keep hx (by omega) (by decide)) hf)
  have HZ : Hid (_ = _) := hz
  have HB2 : Hid (Below _ _ _) := hb2
  have HPX : Hid (p < w.heap.size) := hp
  clear hb1 hb2 hx hz hsz hf ho hp
  go_enter Tryz.func43, Tryz.ntmps43
  go_wp2_with fail
  generalize (w.alloc (.cells #[.func (.func g) #[] #[cv]] 74)).alloc (.cells #[.int .i64 0, .int .u8 0, .int .u8 0] 37) = W1 at *
  refine Calls.mono K.out ?_
  rintro e W2 ⟨hok, hfr⟩
  have HZ2 : Hid (W2.heap[w.heap.size + 1]? = _) := hfr.keep HZ.out (by have := HPX.out; omega) (by decide)
  have HF2 : Hid (Fr base p w W2) := (Fr.of_below HB2.out (Nat.le_refl _)).trans hfr
  clear hfr K HZ HB2
  cases hr : runL (stepO step) l o with
  | error n =>
    have HST : Hid (_ = _) := hr
    rw [hr] at hok
    obtain rfl : e = .returned (vdt 3 2 (n : Int)) := hok
    unfold vdt
    clear hr
    go_wp2_with (refine wpList_store_row rfl 37 _ _ rfl (w.heap.size + 1) #[.int .i64 3, .int .u8 2, .int .u8 (n : Int)] rfl rfl 37 _ HZ2.out size37 rfl (one37 _ _ _) ?_)
    have hr := row_same W2 (w.heap.size + 1) _ #[.int .i64 3, .int .u8 2, .int .u8 (n : Int)] HZ2.out
    have c0 := cl_row (i := 0) hr rfl
    have c1 := cl_row (i := 1) hr rfl
    have c2 := cl_row (i := 2) hr rfl
    have hbz : Beside (w.heap.size + 1) W2 (W2.setRow (w.heap.size + 1) #[.int .i64 3, .int .u8 2, .int .u8 (n : Int)]) := Beside.setRow HZ2.out
    refine bodyPost_ret (v := vdt 3 2 (n : Int)) (by simp [results, Tryz.results43, go_sem, vdt, c0, c1, c2]) rfl ⟨by first | rfl | (rw [HST.out]; rfl), HF2.out.later (hbz.below (by omega) HF2.out.size)⟩
  | ok o' =>
    have HST : Hid (_ = _) := hr
    rw [hr] at hok
    obtain ⟨rfl, ho2⟩ : e = .returned (vdt 0 0 0) ∧ OAt base W2 p o' := hok
    have HO2 : Hid (OAt base W2 p o') := ho2
    unfold vdt
    clear hr ho2
    go_wp2_with (refine wpList_store_row rfl 37 _ _ rfl (w.heap.size + 1) #[.int .i64 0, .int .u8 0, .int .u8 0] rfl rfl 37 _ HZ2.out size37 rfl (one37 _ _ _) ?_)
    have hr := row_same W2 (w.heap.size + 1) _ #[.int .i64 0, .int .u8 0, .int .u8 0] HZ2.out
    have c0 := cl_row (i := 0) hr rfl
    have c1 := cl_row (i := 1) hr rfl
    have c2 := cl_row (i := 2) hr rfl
    have hbz : Beside (w.heap.size + 1) W2 (W2.setRow (w.heap.size + 1) #[.int .i64 0, .int .u8 0, .int .u8 0]) := Beside.setRow HZ2.out
    refine bodyPost_ret (v := vdt 0 0 0) (by simp [results, Tryz.results43, go_sem, vdt, c0, c1, c2]) rfl ⟨by first | exact ⟨rfl, HO2.out.beside hbz HZ2.out (by decide)⟩ | (rw [HST.out]; exact ⟨rfl, HO2.out.beside hbz HZ2.out (by decide)⟩), HF2.out.later (hbz.below (by omega) HF2.out.size)⟩
end Go.Proofs.YtlhnfejgkhilkaaGreatDoor
