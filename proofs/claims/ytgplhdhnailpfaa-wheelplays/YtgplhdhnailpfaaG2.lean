/-
  WheelOrder answers true.
-/
import Derived.Test.YtgplhdhnailpfaaG1
import Derived.Test.YtgplhdhnailpfaaC4
set_option linter.unusedSimpArgs false
set_option maxRecDepth 100000
namespace Go.Proofs.Ytgplhdhnailpfaa
open Go.RowKit Go.Maps
theorem due_all {L : List Fd} {n : Nat} (h : ∀ x ∈ L, x.at' ≤ n) : dueF L n = L ∧ leftF L n = [] :=
  ⟨List.filter_eq_self.2 (fun x hx => by simpa using h x hx), List.filter_eq_nil_iff.2 (fun x hx => by simpa using h x hx)⟩
theorem left_mem {L : List Fd} {n : Nat} {x : Fd} (h : x ∈ leftF L n) : x ∈ L ∧ n < x.at' := by
  obtain ⟨h1, h2⟩ := List.mem_filter.1 h
  exact ⟨h1, by simpa using h2⟩
theorem ord_get {L : List Fd} (h : InOrder L) (j k : Nat) (hjk : j < k) (hk : k < L.length) : flt (L[j]'(by omega)) L[k] := List.pairwise_iff_getElem.1 h j k (by omega) hk hjk
/-- What stands in memory while the third wheel is emptied tick by tick. -/
structure OrAt (w w3 w4 w5 wr : World) (pa ba pc bc : Nat) (xv yv zv : Value) (F Z R : List Fd) : Prop where
  x : OwnF wr w3.heap.size xv F
  y : OwnF wr w4.heap.size yv F
  z : OwnF wr w5.heap.size zv Z
  a : WhAt wr pa ba []
  c : WhAt wr pc bc R
  bel : Below w.heap.size w wr
  siz : w5.heap.size ≤ wr.heap.size
theorem OrAt.below {w w3 w4 w5 wr wx : World} {pa ba pc bc : Nat} {xv yv zv : Value} {F Z R : List Fd} (h : OrAt w w3 w4 w5 wr pa ba pc bc xv yv zv F Z R) (hb : Below wr.heap.size wr wx) : OrAt w w3 w4 w5 wx pa ba pc bc xv yv zv F Z R :=
  ⟨owns_below h.x hb, owns_below h.y hb, owns_below h.z hb, h.a.below hb, h.c.below hb, h.bel.trans (hb.mono h.bel.size), Nat.le_trans h.siz hb.size⟩
set_option maxHeartbeats 4000000 in
theorem order_walk (w : World) (v : Value) (l : List St) (h : ArgS w v l) : Calls Try.prog 4 #[v] w fun e w' => e = .returned (.bool true) ∧ Below w.heap.size w w' := by
  have HWF : Hid (Whl (fillF l) ∧ (fillF l).length ≤ 60 ∧ ∀ x ∈ fillF l, x.at' ≤ 255) := ⟨(fillF_whl l).1, (fillF_whl l).2, fillF_tick l⟩
  have H : Hid (ArgS w v l) := h
  have HDA : Hid (dueF (fillF l) 255 = fillF l ∧ leftF (fillF l) 255 = []) := due_all (fillF_tick l)
  have HF : Hid (∀ (W : World) (t : Bool), ArgS W v l → Calls Try.prog 23 #[v, .bool t] W fun e w' => e = .returned (.pointer (some ⟨W.heap.size + 1, 0, none⟩)) ∧ WhAt w' (W.heap.size + 1) W.heap.size (fillF l) ∧ Below W.heap.size W w') := fun W t h => filled_any W v l t h
  obtain ⟨ad, cap, rfl⟩ := h.shape
  generalize fillF l = F at *
  clear h
  go_enter Try.func4, Try.ntmps4
  go_wp2_with fail
  refine Calls.mono (HF.out _ false H.out) ?_
  rintro e w1 ⟨rfl, hw1, hb1⟩
  have HA1 : Hid (ArgS w1 _ l) := H.out.kept hb1
  generalize hpa : w.heap.size + 1 = pa at *
  generalize hba : w.heap.size = ba at hw1
  have HPA : Hid (w.heap.size ≤ ba ∧ ba < w1.heap.size ∧ pa < w1.heap.size ∧ Below w.heap.size w w1) := ⟨by omega, hw1.m.lt, hw1.lt, hb1⟩
  have HW1 : Hid (WhAt w1 pa ba F) := hw1
  clear hpa hba hw1 hb1 H
  go_wp2_with fail
  refine Calls.mono (HF.out _ true HA1.out) ?_
  rintro e w2 ⟨rfl, hw2, hb2⟩
  have HA2 : Hid (ArgS w2 _ l) := HA1.out.kept hb2
  have HW2a : Hid (WhAt w2 pa ba F) := HW1.out.below hb2
  generalize hpb : w1.heap.size + 1 = pb at *
  generalize hbb : w1.heap.size = bb at hw2
  have HPB : Hid (ba < bb ∧ pa < bb ∧ w.heap.size ≤ bb ∧ bb < w2.heap.size ∧ pb < w2.heap.size ∧ pb ≠ ba ∧ Below w.heap.size w w2) := ⟨by have := HPA.out; omega, by have := HPA.out; omega, by have := HPA.out; omega, hw2.m.lt, hw2.lt, by have := HPA.out; omega, HPA.out.2.2.2.trans (hb2.mono HPA.out.2.2.2.size)⟩
  have HW2 : Hid (WhAt w2 pb bb F) := hw2
  clear hpb hbb hw2 hb2 HA1 HW1
  go_wp2_with fail
  refine Calls.mono (HF.out _ false HA2.out) ?_
  rintro e w3 ⟨rfl, hw3, hb3⟩
  have HW3a : Hid (WhAt w3 pa ba F) := HW2a.out.below hb3
  have HW3b : Hid (WhAt w3 pb bb F) := HW2.out.below hb3
  generalize hpc : w2.heap.size + 1 = pc at *
  generalize hbc : w2.heap.size = bc at hw3
  have HPC : Hid (ba < bc ∧ pa < bc ∧ bb < bc ∧ pb < bc ∧ w.heap.size ≤ bc ∧ pc ≠ ba ∧ pc ≠ bb ∧ Below w.heap.size w w3) := ⟨by have := HPA.out; have := HPB.out; omega, by have := HPA.out; have := HPB.out; omega, by have := HPB.out; omega, by have := HPB.out; omega, by have := HPB.out; omega, by have := HPB.out; omega, by have := HPB.out; omega, HPB.out.2.2.2.2.2.2.trans (hb3.mono HPB.out.2.2.2.2.2.2.size)⟩
  have HW3 : Hid (WhAt w3 pc bc F) := hw3
  clear hpc hbc hw3 hb3 HA2 HW2 HW2a HF
  go_wp2_with fail
  have ht1 := take_any HW3a.out 255 (by have := HWF.out; omega)
  rw [HDA.out.1, HDA.out.2] at ht1
  refine Calls.mono ht1 ?_
  clear ht1
  rintro e w4 ⟨x, rfl, hox, hwa4, hg4⟩
  have HX4 : Hid (OwnF w4 w3.heap.size x F) := hox
  have HA4 : Hid (WhAt w4 pa ba []) := hwa4
  have HB4 : Hid (WhAt w4 pb bb F) := HW3b.out.kept hg4 (fun e => by injection e with e; exact HPB.out.2.2.2.2.2.1 e) (fun e => by injection e with e; have := HPB.out; omega)
  have HC4 : Hid (WhAt w4 pc bc F) := HW3.out.kept hg4 (fun e => by injection e with e; exact HPC.out.2.2.2.2.2.1 e) (fun e => by injection e with e; have := HPC.out; omega)
  have HL4 : Hid (Below w.heap.size w w4) := HPC.out.2.2.2.2.2.2.2.grown hg4 HPC.out.2.2.2.2.2.2.2.size (fun k e => by cases e; exact HPA.out.1)
  have HS3 : Hid (ba < w3.heap.size ∧ bb < w3.heap.size ∧ bc < w3.heap.size ∧ w3.heap.size ≤ w4.heap.size ∧ pa < w3.heap.size ∧ pb < w3.heap.size ∧ pc < w3.heap.size) := ⟨HW3a.out.m.lt, HW3b.out.m.lt, HW3.out.m.lt, hg4.size, HW3a.out.lt, HW3b.out.lt, HW3.out.lt⟩
  clear hox hwa4 hg4 HW3a HW3b HW3
  go_wp2_with fail
  have ht1 := take_any HB4.out 255 (by have := HWF.out; omega)
  rw [HDA.out.1, HDA.out.2] at ht1
  refine Calls.mono ht1 ?_
  clear ht1
  rintro e w5 ⟨y, rfl, hoy, hwb5, hg5⟩
  have HX5 : Hid (OwnF w5 w3.heap.size x F) := owns_far HX4.out hg5 HS3.out.2.1
  have HY5 : Hid (OwnF w5 w4.heap.size y F) := hoy
  have HA5 : Hid (WhAt w5 pa ba []) := HA4.out.kept hg5 (fun e => by injection e with e; have := HPB.out; omega) (fun e => by injection e with e; have := HPB.out; omega)
  have HC5 : Hid (WhAt w5 pc bc F) := HC4.out.kept hg5 (fun e => by injection e with e; exact HPC.out.2.2.2.2.2.2.1 e) (fun e => by injection e with e; have := HPC.out; omega)
  have HL5 : Hid (Below w.heap.size w w5) := HL4.out.grown hg5 HL4.out.size (fun k e => by cases e; exact HPB.out.2.2.1)
  have HS5 : Hid (w4.heap.size ≤ w5.heap.size) := hg5.size
  clear hoy hwb5 hg5 HX4 HA4 HB4 HC4 HL4
  obtain ⟨adx, cx, rfl, hcx⟩ := own_len HX5.out
  obtain ⟨ady, cy, rfl, hcy⟩ := own_len HY5.out
  have HBX : Hid (∀ r, Value.ownBlock (.slice adx F.length cx) = some r → r < w5.heap.size) := fun r e => (owns_lt HX5.out r e).2
  have HBY : Hid (∀ r, Value.ownBlock (.slice ady F.length cy) = some r → r < w5.heap.size) := fun r e => (owns_lt HY5.out r e).2
  have hF60 : (F.length : Int) ≤ 60 := by have := HWF.out; omega
  clear hcx hcy
  go_wp2_with fail
  go_loopw [8, 9] (fun z t wr => ∃ (k : Nat) (Z R : List Fd), k ≤ 256 ∧ t = .int .u64 (k : Int) ∧ F = Z ++ R ∧ (∀ x ∈ R, k ≤ x.at') ∧ OrAt w w3 w4 w5 wr pa ba pc bc (.slice adx F.length cx) (.slice ady F.length cy) z F Z R) (fun _ t _ => 256 - (intOf t).toNat)
  case atStart => exact ⟨0, [], F, by omega, rfl, rfl, fun _ _ => Nat.zero_le _, ⟨HX5.out, HY5.out, World.ownsRow_nil _ _ _ _, HA5.out, HC5.out, HL5.out, Nat.le_refl _⟩⟩
  case round =>
    obtain ⟨k, Z, R, hk, rfl, hzr, hge, hor⟩ := hrel
    obtain ⟨adz, cz, rfl, _⟩ := own_len hor.z
    have HZR : Hid (F = Z ++ R) := hzr
    have HGE : Hid (∀ x ∈ R, k ≤ x.at') := hge
    have HO : Hid (OrAt w w3 w4 w5 wr pa ba pc bc (.slice adx F.length cx) (.slice ady F.length cy) (.slice adz Z.length cz) F Z R) := hor
    have HLZ : Hid (Z.length + R.length = F.length) := by unfold Hid; rw [hzr, List.length_append]
    clear hzr hge hor
    by_cases hlt : k < 256
    · have hlt' : (k : Int) < 256 := by omega
      have HT : Hid (_ : Prop) := take_any HO.out.c k (by have := HLZ.out; have := HWF.out; omega)
      go_wp2_with (first | (go_at_call 16; refine Calls.mono HT.out ?_; rintro e w6 ⟨v6, rfl, ho6, hc6, hg6⟩; have HZ6 : Hid (OwnF w6 w5.heap.size (.slice adz Z.length cz) Z) := owns_far HO.out.z hg6 (by have h1 := HS3.out; have h2 := HS5.out; omega)) | (at_builtin; refine wpList_append_two _ rfl _ _ rfl w5.heap.size wr.heap.size _ _ Z (dueF R k) rfl rfl HZ6.out ho6 (by have h1 := HLZ.out; have h2 := HWF.out; have h3 : (dueF R k).length ≤ R.length := List.length_filter_le _ _; omega) (Nat.le_trans HO.out.siz hg6.size) ?_; intro v7 w7 ho7 hg7) | go_in)
      have HZB : Hid (∀ r, Value.ownBlock (.slice adz Z.length cz) = some r → w5.heap.size ≤ r) := fun r e => (owns_lt HO.out.z r e).1
      have HO7 : Hid (OrAt w w3 w4 w5 w7 pa ba pc bc (.slice adx F.length cx) (.slice ady F.length cy) v7 F (Z ++ dueF R k) (leftF R k)) := by
        have h3 := HS3.out
        have h5 := HS5.out
        have hx6 := owns_far HO.out.x hg6 (by omega)
        have hy6 := owns_far HO.out.y hg6 (by omega)
        have ha6 := HO.out.a.kept hg6 (fun e => by injection e with e; have := HPC.out; omega) (fun e => by injection e with e; have := HPC.out; omega)
        have hb6 := HO.out.bel.grown hg6 HO.out.bel.size (fun j e => by cases e; exact HPC.out.2.2.2.2.1)
        refine ⟨owns_heap' hx6 (fun r e => hg7.block r (owns_lt hx6 r e).2 (fun e2 => ?_)), owns_heap' hy6 (fun r e => hg7.block r (owns_lt hy6 r e).2 (fun e2 => ?_)), ho7, ha6.kept hg7 (fun e2 => ?_) (fun e2 => ?_), hc6.kept hg7 (fun e2 => ?_) (fun e2 => ?_), hb6.grown hg7 hb6.size (fun j e => ?_), Nat.le_trans HO.out.siz (Nat.le_trans hg6.size hg7.size)⟩
        · have h1 := HZB.out _ e2.symm; have h2 := HBX.out _ e; omega
        · have h1 := HZB.out _ e2.symm; have h2 := HBY.out _ e; omega
        · have h1 := HZB.out _ e2.symm; omega
        · have h1 := HZB.out _ e2.symm; omega
        · have h1 := HZB.out _ e2.symm; omega
        · have h1 := HZB.out _ e2.symm; omega
        · have h1 := HZB.out _ e; have h2 := HL5.out.size; omega
      have HZR7 : Hid (F = (Z ++ dueF R k) ++ leftF R k) := by
        unfold Hid
        rw [List.append_assoc, ← due_first HO.out.c.m.whl.ord k]
        exact HZR.out
      have HGE7 : Hid (∀ x ∈ leftF R k, k + 1 ≤ x.at') := fun x hx => (left_mem hx).2
      clear ho6 hc6 hg6 ho7 hg7 HZ6
      go_wp2
      go_roundw
      case rel => exact ⟨k + 1, _, _, by omega, by go_num, HZR7.out, HGE7.out, HO7.out⟩
      case measure => simp [intOf]; omega
    · obtain rfl : k = 256 := by omega
      have hR : R = [] := by
        cases R with
        | nil => rfl
        | cons a r =>
          have h1 := HGE.out a (by simp)
          have h2 := HWF.out.2.2 a (by rw [HZR.out]; simp)
          omega
      subst hR
      have hZ : Z = F := by rw [HZR.out, List.append_nil]
      subst hZ
      clear HGE HZR HLZ hlt hk
      generalize wr = wo at *
      have HLA : Hid (∀ W, Below wo.heap.size wo W → Calls Try.prog 20 #[.pointer (some ⟨pa, 0, none⟩)] W fun e w' => e = .returned (.int .i64 0) ∧ w' = W) := fun W hb => len_any (HO.out.a.below hb)
      have HLC : Hid (∀ W, Below wo.heap.size wo W → Calls Try.prog 20 #[.pointer (some ⟨pc, 0, none⟩)] W fun e w' => e = .returned (.int .i64 0) ∧ w' = W) := fun W hb => len_any (HO.out.c.below hb)
      go_wp2_with fail
      refine Calls.mono (HLA.out _ (Below.refl _ _)) ?_
      rintro e wq ⟨rfl, hwq⟩
      subst wq
      go_wp2_with fail
      refine Calls.mono (HLC.out _ (Below.refl _ _)) ?_
      rintro e wq ⟨rfl, hwq⟩
      subst wq
      go_wp2_with fail
      by_cases hF0 : Z = []
      · subst hF0
        refine wp_loop_rounds 1 ?_
        rw [rounds_succ]
        go_wp2_with (go_at_call 22; refine (works_any _).mono ?_; rintro e w9 ⟨rfl, hb9⟩)
        go_ret
        exact ⟨rfl, HO.out.bel.trans (hb9.mono HO.out.bel.size)⟩
      · obtain ⟨gx, cx', ex⟩ := own_some HO.out.x hF0
        injection ex with ex ex2 ex3
        subst ex ex3
        obtain ⟨gy, cy', ey⟩ := own_some HO.out.y hF0
        injection ey with ey ey2 ey3
        subst ey ey3
        obtain ⟨gz, cz', ez⟩ := own_some HO.out.z hF0
        injection ez with ez ez2 ez3
        subst ez ez3
        clear ex2 ey2 ez2 hF0
        go_loopw [10] (fun i wr => ∃ k : Nat, k ≤ Z.length ∧ i = .int .i64 k ∧ Below wo.heap.size wo wr) (fun i _ => Z.length - (intOf i).toNat)
        case atStart => exact ⟨0, by omega, rfl, Below.refl _ _⟩
        case round =>
          obtain ⟨k, hk, rfl, hbel⟩ := hrel
          have HB : Hid (Below wo.heap.size wo wr) := hbel
          clear hbel
          by_cases hlt : k < Z.length
          · have hlt' : (k : Int) < (Z.length : Int) := by omega
            have HFX : Hid (FdAt wr gx k Z[k]) := (own_at HO.out.x k hlt).below HB.out
            have HFY : Hid (FdAt wr gy k Z[k]) := (own_at HO.out.y k hlt).below HB.out
            have HFZ : Hid (FdAt wr gz k Z[k]) := (own_at HO.out.z k hlt).below HB.out
            by_cases hk0 : k = 0
            · subst hk0
              generalize Z[0] = fk at *
              obtain ⟨x0, x1, x2, x3⟩ := HFX.out
              obtain ⟨y0, y1, y2, y3⟩ := HFY.out
              obtain ⟨z0, z1, z2, z3⟩ := HFZ.out
              simp only [Nat.zero_mul, Nat.zero_add] at x0 x1 x2 x3 y0 y1 y2 y3 z0 z1 z2 z3
              clear HFX HFY HFZ
              go_wp2
              go_quiet (fail)
              go_wp2
              go_roundw
              case rel => exact ⟨1, by omega, by go_num, below_drewN HB.out _⟩
              case measure => simp [intOf]; omega
            · obtain ⟨j, hkj⟩ : ∃ j, k = j + 1 := ⟨k - 1, by omega⟩
              have HFJ : Hid (FdAt wr gx j (Z[j]'(by omega))) := (own_at HO.out.x j (by omega)).below HB.out
              have HLT : Hid (fltB (Z[j]'(by omega)) Z[k] = true) := fltB_iff.2 (ord_get HWF.out.1.ord j k (by omega) hlt)
              have hsub : (k : Int) - 1 = (j : Int) := by omega
              have hjl : (j : Int) < (Z.length : Int) := by omega
              have hj0 : (0 : Int) ≤ (j : Int) := by omega
              have hwj : IntKind.i64.wrap (j : Int) = (j : Int) := by simp [IntKind.wrap, IntKind.bits, IntKind.signed]; omega
              have hwr : IntKind.i64.wrap ((k : Int) - 1) = (j : Int) := by rw [hsub]; exact hwj
              have hjt : (j : Int).toNat = j := by simp
              have hkp : 0 < k := by omega
              have hkd1 : decide (0 < k) = true := by simpa using hkp
              have hkd2 : decide ((0 : Int) < (k : Int)) = true := by simpa using hkp
              generalize Z[k] = fk at *
              generalize Z[j]'(by omega) = fj at *
              have HAH : Hid (∀ W, Calls Try.prog 24 #[.agg #[.int .u64 (fj.at' : Int), .int .i64 fj.key.kind, .string fj.key.peer, .int .i64 fj.key.fam], .agg #[.int .u64 (fk.at' : Int), .int .i64 fk.key.kind, .string fk.key.peer, .int .i64 fk.key.fam]] W fun e w' => e = .returned (.bool true) ∧ Grw W w') := fun W => by
                have := ahead_any fj fk W
                rw [HLT.out] at this
                exact this
              obtain ⟨S, hS⟩ : ∃ S : World → Prop, S = fun W => Grw wr W := ⟨_, rfl⟩
              have hs0 : Held S wr.drew := by unfold Held; rw [hS]; exact (Grw.refl _).drew
              have HZZ : Hid (∀ W, Held S W → Below wo.heap.size wo W) := fun W h => by unfold Held at h; rw [hS] at h; exact HB.out.trans (h.bel.mono HB.out.size)
              have M1 : Hid (∀ W, Held S W → Calls Try.prog 24 #[.agg #[.int .u64 (fj.at' : Int), .int .i64 fj.key.kind, .string fj.key.peer, .int .i64 fj.key.fam], .agg #[.int .u64 (fk.at' : Int), .int .i64 fk.key.kind, .string fk.key.peer, .int .i64 fk.key.fam]] W fun e w' => e = .returned (.bool true) ∧ Held S w') := fun W h => by
                unfold Held at *; rw [hS] at *; exact (HAH.out W).mono fun e w2 ⟨he, hg⟩ => ⟨he, h.trans hg⟩
              have kx0 : ∀ W, Held S W → W.cell? ⟨gx, k * 4, none⟩ = some (.int .u64 (fk.at' : Int)) := fun W h => by unfold Held at h; rw [hS] at h; exact cell2 h.bel HFX.out.c0
              have kx1 : ∀ W, Held S W → W.cell? ⟨gx, k * 4 + 1, none⟩ = some (.int .i64 fk.key.kind) := fun W h => by unfold Held at h; rw [hS] at h; exact cell2 h.bel HFX.out.c1
              have kx2 : ∀ W, Held S W → W.cell? ⟨gx, k * 4 + 2, none⟩ = some (.string fk.key.peer) := fun W h => by unfold Held at h; rw [hS] at h; exact cell2 h.bel HFX.out.c2
              have kx3 : ∀ W, Held S W → W.cell? ⟨gx, k * 4 + 3, none⟩ = some (.int .i64 fk.key.fam) := fun W h => by unfold Held at h; rw [hS] at h; exact cell2 h.bel HFX.out.c3
              have ky0 : ∀ W, Held S W → W.cell? ⟨gy, k * 4, none⟩ = some (.int .u64 (fk.at' : Int)) := fun W h => by unfold Held at h; rw [hS] at h; exact cell2 h.bel HFY.out.c0
              have ky1 : ∀ W, Held S W → W.cell? ⟨gy, k * 4 + 1, none⟩ = some (.int .i64 fk.key.kind) := fun W h => by unfold Held at h; rw [hS] at h; exact cell2 h.bel HFY.out.c1
              have ky2 : ∀ W, Held S W → W.cell? ⟨gy, k * 4 + 2, none⟩ = some (.string fk.key.peer) := fun W h => by unfold Held at h; rw [hS] at h; exact cell2 h.bel HFY.out.c2
              have ky3 : ∀ W, Held S W → W.cell? ⟨gy, k * 4 + 3, none⟩ = some (.int .i64 fk.key.fam) := fun W h => by unfold Held at h; rw [hS] at h; exact cell2 h.bel HFY.out.c3
              have kz0 : ∀ W, Held S W → W.cell? ⟨gz, k * 4, none⟩ = some (.int .u64 (fk.at' : Int)) := fun W h => by unfold Held at h; rw [hS] at h; exact cell2 h.bel HFZ.out.c0
              have kz1 : ∀ W, Held S W → W.cell? ⟨gz, k * 4 + 1, none⟩ = some (.int .i64 fk.key.kind) := fun W h => by unfold Held at h; rw [hS] at h; exact cell2 h.bel HFZ.out.c1
              have kz2 : ∀ W, Held S W → W.cell? ⟨gz, k * 4 + 2, none⟩ = some (.string fk.key.peer) := fun W h => by unfold Held at h; rw [hS] at h; exact cell2 h.bel HFZ.out.c2
              have kz3 : ∀ W, Held S W → W.cell? ⟨gz, k * 4 + 3, none⟩ = some (.int .i64 fk.key.fam) := fun W h => by unfold Held at h; rw [hS] at h; exact cell2 h.bel HFZ.out.c3
              have kj0 : ∀ W, Held S W → W.cell? ⟨gx, j * 4, none⟩ = some (.int .u64 (fj.at' : Int)) := fun W h => by unfold Held at h; rw [hS] at h; exact cell2 h.bel HFJ.out.c0
              have kj1 : ∀ W, Held S W → W.cell? ⟨gx, j * 4 + 1, none⟩ = some (.int .i64 fj.key.kind) := fun W h => by unfold Held at h; rw [hS] at h; exact cell2 h.bel HFJ.out.c1
              have kj2 : ∀ W, Held S W → W.cell? ⟨gx, j * 4 + 2, none⟩ = some (.string fj.key.peer) := fun W h => by unfold Held at h; rw [hS] at h; exact cell2 h.bel HFJ.out.c2
              have kj3 : ∀ W, Held S W → W.cell? ⟨gx, j * 4 + 3, none⟩ = some (.int .i64 fj.key.fam) := fun W h => by unfold Held at h; rw [hS] at h; exact cell2 h.bel HFJ.out.c3
              clear hS HAH HLT hkj hk0 HFX HFY HFZ HFJ
              go_wp2
              go_region_held3 (fun w' => Held S w') (with_reducible assumption)
                (first | (go_at_call 24; refine (M1.out _ (by with_reducible assumption)).mono ?_; rintro e wa ⟨rfl, sA⟩))
              have HE : Hid (Below wo.heap.size wo wa) := HZZ.out _ (by with_reducible assumption)
              go_wp2
              go_roundw
              case rel => exact ⟨k + 1, by omega, by go_num, HE.out⟩
              case measure => simp [intOf]; omega
          · obtain rfl : k = Z.length := by omega
            go_wp2_with (go_at_call 22; refine (works_any _).mono ?_; rintro e w9 ⟨rfl, hb9⟩)
            go_ret
            have h1 := HO.out.bel.trans (HB.out.mono HO.out.bel.size)
            exact ⟨rfl, h1.trans (hb9.mono h1.size)⟩
end Go.Proofs.Ytgplhdhnailpfaa
