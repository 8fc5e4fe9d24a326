/-
  FrameBack: the walk.
-/
import Derived.Test.YtlinoklgchfedaaDoorD1
import Derived.Test.YtlinoklgchfedaaDoorF2
import Derived.Test.YtlinoklgchfedaaDoorC2
namespace Go.Proofs.YtlinoklgchfedaaDoor
open Go.RowKit
/-- Small numbers in memory. -/
def U8sAt (w : World) (v : Value) (L : List Nat) : Prop :=
  ∃ (ad : Option Addr) (b off cap : Nat), v = .slice ad L.length cap ∧ (ad = some ⟨b, off, none⟩ ∨ L.length = 0) ∧ L.length ≤ cap ∧ ∀ j (h : j < L.length), w.cell? ⟨b, off + j, none⟩ = some (.int .u8 (L[j] : Int))
theorem cellsF_app (A B : List Fm) : cellsF (A ++ B) = cellsF A ++ cellsF B := by simp [cellsF]
theorem cellsF_len (A : List Fm) : (cellsF A).length = A.length * 2 := by
  induction A with
  | nil => rfl
  | cons f A ih => simp only [cellsF, List.flatMap_cons, List.length_append, List.length_cons] at *; rw [ih]; simp [Fm.cs]; omega
theorem cellsF_one (A : List Fm) : ∀ u ∈ cellsF A, u.oneCell' = true := by
  intro u hu
  simp only [cellsF, List.mem_flatMap] at hu
  obtain ⟨f, _, hf⟩ := hu
  simp only [Fm.cs, List.mem_cons, List.not_mem_nil, or_false] at hf
  rcases hf with rfl | rfl <;> rfl
theorem own_news {w : World} {base : Nat} {ad : Option Addr} {n c : Nat} {R : List Fm} (h : OwnF w base (.slice ad n c) R) (hR : R ≠ []) : ∃ g, ad = some ⟨g, 0, none⟩ ∧ n = R.length ∧ ∀ (j : Nat) (u : Value), (cellsF R)[j]? = some u → w.cell? (Addr.add ⟨g, 0, none⟩ j) = some u := by
  obtain ⟨hn, ⟨hv, h1⟩ | ⟨g, cap, cur, hv, hg, hh, hc, hm, hs, ht⟩⟩ := h
  · exact absurd (List.length_eq_zero_iff.mp h1) hR
  · simp only [Value.slice.injEq] at hv
    refine ⟨g, hv.1, hv.2.1, fun j u hj => ?_⟩
    have hjl : j < R.length * 2 := by have := (List.getElem?_eq_some_iff.1 hj).1; rw [cellsF_len] at this; exact this
    have e : cur.toList[j]? = (cellsF R)[j]? := by
      have t2 : (cur.toList.take (R.length * 2))[j]? = (cellsF R)[j]? := by rw [ht]
      rwa [List.getElem?_take, if_pos hjl] at t2
    have ha : (⟨g, 0, none⟩ : Addr).add j = ⟨g, j, none⟩ := by unfold Addr.add; split <;> simp_all
    rw [ha]
    exact cell_of_row hh _ _ (e.trans hj)
theorem own_cap {w : World} {base : Nat} {ad : Option Addr} {n c : Nat} {R : List Fm} (h : OwnF w base (.slice ad n c) R) : n ≤ c := by
  obtain ⟨hn, ⟨hv, h1⟩ | ⟨g, cap, cur, hv, hg, hh, hc, hm, hs, ht⟩⟩ := h
  · simp only [Value.slice.injEq] at hv; omega
  · simp only [Value.slice.injEq] at hv; omega
theorem run_app_none (ad ad' : Option Addr) (n c c' : Nat) (w : World) (h : n ≤ c) : (Builtin.append_ #[25, 25] 25 #[.slice ad n c, .slice ad' 0 c']).run Tryd.prog w = .ok (.slice ad n c) w := by
  obtain ⟨i0, hi, hz0, hz1, hz2⟩ := info_parts info37
  cases ad with
  | none =>
    cases ad' with
    | none => simp [Builtin.append_, run_underlying Tryd.underlying25, Builtin.lenOf, Builtin.firstCells, sizeOf, typeInfo, hi, h]
    | some a' => simp [Builtin.append_, run_underlying Tryd.underlying25, Builtin.lenOf, Builtin.firstCells, sizeOf, typeInfo, hi, h, loadCells, loadCellsFrom]
  | some a =>
    cases ad' with
    | none => simp [Builtin.append_, run_underlying Tryd.underlying25, Builtin.lenOf, Builtin.firstCells, sizeOf, typeInfo, hi, h, storeCells]
    | some a' => simp [Builtin.append_, run_underlying Tryd.underlying25, Builtin.lenOf, Builtin.firstCells, sizeOf, typeInfo, hi, h, storeCells, loadCells, loadCellsFrom]
theorem wpList_append_run (w : World) {ops : Array Oper} {rest : List Oper} {o : Oper} {a : Act} {Q : Exit → Act → World → Prop} (hgd : o.guard = none) (s x : Operand) (t : TypeId)
    (ho : o.op = .call { callee := .builtin .append, args := #[s, x], argTypes := #[t, t] }) (v u : Value) (hs : a.eval s = v) (hx : a.eval x = u) {r : Value} {w' : World}
    (hr : (Builtin.append_ #[t, t] o.type #[v, u]).run Tryd.prog w = .ok r w') (h : wpList Tryd.prog ops Q rest (a.put o.dst r) w') : wpList Tryd.prog ops Q (o :: rest) a w :=
  wpList_plain hgd fun _ hK => by
    unfold Oper.wp
    simp only [execOp, ho, resolve, invoke, builtin, Sem.run_bind, Sem.run_pure, Result.andThen_ok, List.map_toArray, List.map_cons, List.map_nil, hs, hx, hr]
    exact hK _ _ h
theorem run_frames_le2 (c : List UInt8) : ∀ s, (runI s c).2.length ≤ c.length := by
  induction c with
  | nil => intro s; simp [runI]
  | cons b c ih =>
    intro s
    have h1 : (stepI s b).2.length ≤ 1 := by
      unfold stepI
      split
      · unfold endI
        split
        · simp
        · split <;> simp
      · simp
    have := ih (stepI s b).1
    simp only [runI, List.length_append, List.length_cons]
    omega
/-- What is still to come, when a piece has come. -/
theorem go_on {st : St} {s c d : List UInt8} {G F rest : List Fm} (h : runI st s = (st0, rest)) (hF : F = G ++ rest) (hs : c ++ d = s) : (runI st c).1.sub = 0 ∧ ∃ rest', runI (runI st c).1 d = (st0, rest') ∧ F = (G ++ (runI st c).2) ++ rest' := by
  subst hs
  rw [run_append] at h
  have h1 : (runI (runI st c).1 d).1 = st0 := congrArg Prod.fst h
  have h2 : (runI st c).2 ++ (runI (runI st c).1 d).2 = rest := congrArg Prod.snd h
  refine ⟨?_, (runI (runI st c).1 d).2, by rw [← h1], by rw [hF, ← h2]; simp⟩
  by_cases z : (runI st c).1.sub = 0
  · exact z
  · rw [run_broken d _ z] at h1
    have h3 : (runI st c).1 = st0 := h1
    rw [h3]
    rfl
set_option maxRecDepth 100000 in
set_option maxHeartbeats 6400000 in
theorem back_walk (v : Value) (L : List Tl) (vc : Value) (C : List Nat) (w : World) (hT : SzAt w) (hL : TlsAt w v L) (hok : ∀ t ∈ L, TlOk t) (hC : U8sAt w vc C) (hc8 : ∀ n ∈ C, n < 256) : Calls Tryd.prog 5 #[v, vc] w fun e w' => e = .returned (.bool true) ∧ Below w.heap.size w w' := by
  obtain ⟨i0, hi, hz0, hz1, hz2⟩ := info_parts info37
  have KST : Hid (_ : Prop) := stream_any v L w hT hL hok
  have hok2 : ∀ t ∈ L.take 20, TlOk t := fun t ht => hok t (List.mem_of_mem_take ht)
  have HRN : Hid (runI st0 (msgs (L.take 20)) = (st0, (L.take 20).map ofI)) := by
    unfold Hid
    have k := run_msgs (L.take 20) hok2 []
    simp only [List.append_nil] at k
    rw [k]
    simp [runI]
  have hml := msgs_len (L.take 20) hok2
  have hfl : ((L.take 20).map ofI).length ≤ 20 := by rw [List.length_map, List.length_take]; omega
  have hml2 : (msgs (L.take 20)).length ≤ 10000 := by rw [List.length_take] at hml; omega
  obtain ⟨ad, b0, off, cap, rfl, had, hcap, hrow⟩ := hC
  have HROW : Hid (∀ j (h : j < C.length), w.cell? ⟨b0, off + j, none⟩ = some (.int .u8 (C[j] : Int))) := hrow
  have HC8 : Hid (∀ n ∈ C, n < 256) := hc8
  have HAD : Hid (ad = some ⟨b0, off, none⟩ ∨ C.length = 0) := had
  have HZ : Hid (SzAt w) := hT
  have HW0 : Hid (0 < w.heap.size) := hT.lt
  generalize (L.take 20).map ofI = FR at *
  generalize msgs (L.take 20) = MS at *
  clear hT hrow had hcap hL hok hok2 hml hc8
  go_enter Tryd.func5, Tryd.ntmps5
  go_wp2_with fail
  refine Calls.mono KST.out ?_
  rintro e w1 ⟨adw, cpw, rfl, how, hb1⟩
  have HOW : Hid (OwnF w1 w.heap.size (.slice adw FR.length cpw) FR) := how
  have HB1 : Hid (Below w.heap.size w w1) := hb1
  clear how hb1 KST
  go_wp2_with fail
  refine (new_any w1).mono ?_
  rintro e W ⟨p, b, rfl, hf1, hb2, hp, hb⟩
  have HF1 : Hid (FrAt W p b st0) := hf1
  have HB2 : Hid (Below w1.heap.size w1 W) := hb2
  have HPB : Hid (w1.heap.size ≤ p ∧ w1.heap.size ≤ b) := ⟨hp, hb⟩
  have HPL : Hid (p < W.heap.size ∧ b < W.heap.size) := ⟨hf1.ltp, hf1.buf.lt⟩
  have HBW : Hid (Below w.heap.size w W) := HB1.out.trans (hb2.mono HB1.out.size)
  clear hf1 hb2 hp hb
  go_wp2
  go_loopw [5, 9, 10] (fun t u i wr => ∃ (j : Nat) (s' : List UInt8) (G rest : List Fm) (st : St), t = .string ⟨s'.toArray⟩ ∧ OwnF wr W.heap.size u G ∧ i = .int .i64 (j : Int) ∧ j ≤ 201 ∧ (s' ≠ [] → j ≤ 200) ∧ s'.length ≤ 10000 ∧ FrAt wr p b st ∧ Beside p b W wr ∧ runI st s' = (st0, rest) ∧ FR = G ++ rest) (fun t _ i _ => (201 - (intOf i).toNat) + strLen t)
  case atStart => exact ⟨0, MS, [], FR, st0, rfl, World.ownsRow_nil _ _ _ _, rfl, by omega, fun _ => by omega, hml2, HF1.out, Beside.refl W, HRN.out, rfl⟩
  case round =>
    obtain ⟨j, s', G, rest, st, rfl, ho, rfl, hj1, hj2, hs1, hfr, hbs, hrun, hFG⟩ := hrel
    obtain ⟨adg, cpg, rfl⟩ := slice_of_owns ho
    have HO : Hid (OwnF wr W.heap.size (.slice adg G.length cpg) G) := ho
    have HFR : Hid (FrAt wr p b st) := hfr
    have HBS : Hid (Beside p b W wr) := hbs
    have HRUN : Hid (runI st s' = (st0, rest)) := hrun
    have HFG : Hid (FR = G ++ rest) := hFG
    have hG : G.length ≤ 20 := by rw [hFG, List.length_append] at hfl; omega
    have HW1 : Hid (Below w.heap.size w wr) := HBW.out.trans (hbs.below (by have := HPB.out; have := HB1.out.size; omega) (by have := HPB.out; have := HB1.out.size; omega) HBW.out.size)
    have HZ1 : Hid (SzAt wr) := HZ.out.below HW1.out
    have hsz : (⟨s'.toArray⟩ : ByteArray).size = s'.length := list_size s'
    clear ho hfr hbs hrun hFG
    by_cases hnil : s' = []
    · subst hnil
      have hst : st = st0 ∧ rest = [] := by have k := HRUN.out; simp only [runI, Prod.mk.injEq] at k; exact ⟨k.1, k.2.symm⟩
      obtain ⟨rfl, rfl⟩ := hst
      have HGF : Hid (FR = G) := by unfold Hid; rw [HFG.out]; simp
      have HOW2 : Hid (OwnF wr w.heap.size (.slice adw FR.length cpw) FR) := owns_heap' HOW.out fun g hg => by
        have hg2 := (owns_lt HOW.out g hg).2
        have h1 := HPB.out
        have h2 := HB2.out.size
        exact (HBS.out.block g (by omega) (by omega) (by omega)).trans (HB2.out.block g hg2)
      have KL : Hid (Calls Tryd.prog 12 #[.pointer (some ⟨p, 0, none⟩)] wr fun e w' => e = .returned (.int .i64 0) ∧ w' = wr) := left_any p b st0 wr HFR.out
      have hlFG : FR.length = G.length := by rw [HGF.out]
      obtain ⟨ada, ba, offa, capa, hva, hada, _, hra⟩ := OwnF.at HO.out
      obtain ⟨adb, bb, offb, capb, hvb, hadb, _, hrb⟩ := OwnF.at HOW2.out
      simp only [Value.slice.injEq] at hva hvb
      obtain ⟨rfl, _, rfl⟩ := hva
      obtain ⟨rfl, _, rfl⟩ := hvb
      rw [HGF.out] at hrb
      rw [hlFG] at hadb
      have HRA : Hid (RowF _ _ _ _) := hra
      have HRB : Hid (RowF _ _ _ _) := hrb
      have HADA : Hid (_ ∨ _) := hada
      have HADB : Hid (_ ∨ _) := hadb
      clear hra hrb HOW HO HBS HFR hada hadb HOW2
      rw [hlFG]
      go_wp2_with fail
      refine Calls.mono KL.out ?_
      rintro e w9 ⟨rfl, hw9⟩
      obtain rfl : wr = w9 := hw9.symm
      clear hw9 KL
      go_wp2
      generalize wr = wo at *
      go_loopw [14] (fun i wz => ∃ n : Nat, n ≤ G.length ∧ i = .int .i64 n ∧ ∃ q, wz = wo.drewN q) (fun i _ => G.length - (intOf i).toNat)
      case atStart => exact ⟨0, Nat.zero_le _, rfl, 0, rfl⟩
      case round =>
        obtain ⟨n, hn, rfl, q, hq⟩ := hrel
        have HQ : Hid (wr = wo.drewN q) := hq
        clear hq
        by_cases hlt : n < G.length
        · obtain rfl : adg = some ⟨ba, offa, none⟩ := by rcases HADA.out with h | h; exact h; omega
          obtain rfl : adw = some ⟨bb, offb, none⟩ := by rcases HADB.out with h | h; exact h; omega
          have hcell : ∀ a, wr.cell? a = wo.cell? a := fun a => by rw [HQ.out]; rfl
          have c := HRA.out n hlt
          have d := HRB.out n hlt
          generalize G[n].k = kk at *
          generalize (⟨G[n].b.toArray⟩ : ByteArray) = bb2 at *
          have c0 : wr.cell? ⟨ba, offa + n * 2, none⟩ = some (.int .i64 (kk : Int)) := (hcell _).trans c.1
          have c1 : wr.cell? ⟨ba, offa + n * 2 + 1, none⟩ = some (.string bb2) := (hcell _).trans c.2
          have d0 : wr.cell? ⟨bb, offb + n * 2, none⟩ = some (.int .i64 (kk : Int)) := (hcell _).trans d.1
          have d1 : wr.cell? ⟨bb, offb + n * 2 + 1, none⟩ = some (.string bb2) := (hcell _).trans d.2
          have HLN : Hid (n + 1 ≤ G.length) := hlt
          clear c d hcell
          have hlt2 : (n : Int) < G.length := by omega
          go_wp2
          go_quiet (fail)
          go_wp2
          exact ⟨⟨n + 1, HLN.out, by simp, q + nq, by rw [HQ.out]; simp [World.drewN, Nat.add_assoc]⟩, by simp [intOf]; omega⟩
        · obtain rfl : n = G.length := by omega
          have HBQ : Hid (Below w.heap.size w wr) := by unfold Hid; rw [HQ.out]; exact below_drewN HW1.out q
          go_wp2_with fail
          refine (works_any wr (HZ.out.below HBQ.out)).mono ?_
          rintro e w9 ⟨rfl, hb9⟩
          go_wp2
          go_ret
          exact ⟨rfl, HBQ.out.trans (hb9.mono HBQ.out.size)⟩
    · have hj3 : j ≤ 200 := hj2 hnil
      have hpos : 0 < s'.length := by cases s' with | nil => exact absurd rfl hnil | cons => simp
      have hpos' : (0 : Int) < s'.length := by omega
      by_cases hgo : j < C.length ∧ j < 200
      · obtain ⟨hg1, hg2⟩ := hgo
        have g1 : (j : Int) < C.length := by omega
        have g2 : (j : Int) < 200 := by omega
        obtain rfl : ad = some ⟨b0, off, none⟩ := by rcases HAD.out with h | h; exact h; omega
        have hc := HROW.out j hg1
        have hlt0 : b0 < w.heap.size := lt_of_cell hc
        have c0 : wr.cell? ⟨b0, off + j, none⟩ = some (.int .u8 (C[j] : Int)) := (HW1.out.cell (p := ⟨b0, off + j, none⟩) hlt0).trans hc
        have h8 := HC8.out _ (List.getElem_mem hg1)
        generalize C[j] = cj at *
        have h8' : (cj : Int) < 256 := by omega
        have hmin : min (cj : Int) (s'.length : Int) = ((min cj s'.length : Nat) : Int) := by omega
        have hn1 : min cj s'.length ≤ s'.length := by omega
        generalize min cj s'.length = n at *
        have hn2 : (n : Int) ≤ s'.length := by omega
        clear hc
        have HGO : Hid (_ : Prop) := go_on HRUN.out HFG.out (List.take_append_drop n s')
        have HJJ : s'.drop n ≠ [] → j + 1 ≤ 200 := fun _ => by omega
        have HMS2 : Hid ((201 - (j + 1)) + (s'.length - n) < (201 - j) + s'.length) := by unfold Hid; omega
        have hcl : (s'.take n).length ≤ 1000000 := by rw [List.length_take]; omega
        have HJ : Hid (s'.drop n ≠ [] → j + 1 ≤ 200) := HJJ
        have HDL : Hid ((s'.drop n).length = s'.length - n) := by unfold Hid; rw [List.length_drop]
        have hex := ext_take s' n
        have hdr := ext_drop s' n
        have hR := run_frames_le2 (s'.take n) st
        have hR2 : (runI st (s'.take n)).2.length ≤ 10000 := by rw [List.length_take] at hR; omega
        have HRP : Hid (runI st (s'.take n) = ((runI st (s'.take n)).1, (runI st (s'.take n)).2)) := rfl
        generalize (runI st (s'.take n)).2 = R2 at *
        generalize (runI st (s'.take n)).1 = S2 at *
        generalize s'.take n = ck at *
        generalize s'.drop n = s2 at *
        obtain ⟨hsub, rest2, hrun2, hFG2⟩ := HGO.out
        have HSUB : Hid (S2.sub = 0) := hsub
        have HRUN2 : Hid (runI S2 s2 = (st0, rest2)) := hrun2
        have HFG2 : Hid (FR = (G ++ R2) ++ rest2) := hFG2
        have hGR : G.length + R2.length ≤ 20 := by rw [hFG2, List.length_append, List.length_append] at hfl; omega
        clear hsub hrun2 hFG2 HGO HRUN HFG hR
        go_wp2_with fail
        refine (put_fine p b st S2 ck R2 wr HFR.out HZ1.out (by have := HW0.out; have := HPB.out; have := HB1.out.size; omega) (by have := HW0.out; have := HPB.out; have := HB1.out.size; omega) hcl HRP.out HSUB.out).mono ?_
        rintro e w3 ⟨ad3, cp3, rfl, ho3, hf3, hbs3⟩
        have hba3 : Below w3.heap.size w3 (w3.alloc (.cells #[.int .i64 0, .int .u8 0, .int .u8 0] 27)) := (Below.refl _ _).alloc (Nat.le_refl _) _
        have HF3 : Hid (FrAt (w3.alloc (.cells #[.int .i64 0, .int .u8 0, .int .u8 0] 27)) p b S2) := hf3.below hba3 hf3.ltp hf3.buf.lt
        have HB3 : Hid (Beside p b W (w3.alloc (.cells #[.int .i64 0, .int .u8 0, .int .u8 0] 27))) := (HBS.out.trans hbs3).then hba3
        have HO3 : Hid (OwnF (w3.alloc (.cells #[.int .i64 0, .int .u8 0, .int .u8 0] 27)) wr.heap.size (.slice ad3 R2.length cp3) R2) := owns_below ho3 hba3
        have HG3 : Hid (OwnF (w3.alloc (.cells #[.int .i64 0, .int .u8 0, .int .u8 0] 27)) W.heap.size (.slice adg G.length cpg) G) := owns_below (owns_beside HO.out hbs3 HPL.out.1 HPL.out.2) hba3
        have h3 := HB3.out.size
        have v0 : (w3.alloc (.cells #[.int .i64 0, .int .u8 0, .int .u8 0] 27)).heap[w3.heap.size]? = some (.cells #[.int .i64 0, .int .u8 0, .int .u8 0] 27 (0, 0)) := hp_new rfl
        have y0 : (w3.alloc (.cells #[.int .i64 0, .int .u8 0, .int .u8 0] 27)).cell? ⟨w3.heap.size, 0, none⟩ = some (.int .i64 0) := cl_row v0 rfl
        have y1 : (w3.alloc (.cells #[.int .i64 0, .int .u8 0, .int .u8 0] 27)).cell? ⟨w3.heap.size, 1, none⟩ = some (.int .u8 0) := cl_row v0 rfl
        have y2 : (w3.alloc (.cells #[.int .i64 0, .int .u8 0, .int .u8 0] 27)).cell? ⟨w3.heap.size, 2, none⟩ = some (.int .u8 0) := cl_row v0 rfl
        clear hba3 hf3 hbs3 ho3 HFR HBS HO HW1 HZ1 v0
        by_cases hR0 : R2 = []
        · subst hR0
          have hcg := own_cap HG3.out
          have happ := run_app_none adg ad3 G.length cpg cp3 (w3.alloc (.cells #[.int .i64 0, .int .u8 0, .int .u8 0] 27)) hcg
          simp only [List.length_nil, Nat.add_zero] at hGR ⊢
          go_wp2_with (at_builtin; refine wpList_append_run _ rfl _ _ 25 rfl _ _ rfl rfl happ ?_)
          generalize w3.alloc (.cells #[.int .i64 0, .int .u8 0, .int .u8 0] 27) = V3 at *
          have HG4 : Hid (OwnF V3 W.heap.size (.slice adg G.length cpg) (G ++ [])) := by unfold Hid; rw [List.append_nil]; exact HG3.out
          have HF4 : Hid (FrAt V3 p b S2) := HF3.out
          have HB4 : Hid (Beside p b W V3) := HB3.out
          clear y0 y1 y2 happ
          go_roundw
          case rel => exact ⟨j + 1, s2, G ++ [], rest2, S2, rfl, HG4.out, by simp, by omega, HJ.out, by have := HDL.out; omega, HF4.out, HB4.out, HRUN2.out, HFG2.out⟩
          case measure => have := HDL.out; have := HMS2.out; simp only [strLen, list_size, intOf]; omega
        · obtain ⟨gg, rfl, _, hnews⟩ := own_news HO3.out hR0
          have HNEWS : Hid (_ : Prop) := hnews
          have hpR : 0 < R2.length := by cases R2 with | nil => exact absurd rfl hR0 | cons => simp
          clear hnews
          go_wp2_with (at_builtin; refine wpList_append_own _ rfl _ _ 25 rfl W.heap.size 37 i0 (.agg #[.int .i64 0, .string ⟨#[]⟩]) 2 24 Tryd.underlying25 hi hz0 hz1 hz2 rfl (by decide) (.slice adg G.length cpg) G.length (cellsF G) rfl HG3.out ⟨gg, 0, none⟩ R2.length cp3 (cellsF R2) rfl (cellsF_len R2) HNEWS.out (cellsF_one R2) (by unfold maxLen; omega) (by omega) h3 ?_; intro v7 w7 hown7 hgrow7 _)
          have HG4 : Hid (OwnF w7 W.heap.size v7 (G ++ R2)) := by
            unfold Hid OwnF
            rw [cellsF_app, List.length_append]
            exact hown7
          obtain ⟨ad7, c7, rfl⟩ := slice_of_owns hown7
          have hbw : Below W.heap.size (w3.alloc (.cells #[.int .i64 0, .int .u8 0, .int .u8 0] 27)) w7 := (Below.refl _ _).grown hgrow7 h3 (fun k e => (owns_lt HG3.out k e).1)
          have HF4 : Hid (FrAt w7 p b S2) := HF3.out.below hbw HPL.out.1 HPL.out.2
          have HB4 : Hid (Beside p b W w7) := HB3.out.over hbw (Nat.le_refl _)
          clear hown7 hgrow7 hbw y0 y1 y2
          go_roundw
          case rel => exact ⟨j + 1, s2, G ++ R2, rest2, S2, rfl, HG4.out, by simp, by omega, HJ.out, by have := HDL.out; omega, HF4.out, HB4.out, HRUN2.out, HFG2.out⟩
          case measure => have := HDL.out; have := HMS2.out; simp only [strLen, list_size, intOf]; omega
      · have hno : ¬ ((j : Int) < C.length) ∨ ((j : Int) < C.length ∧ ¬ ((j : Int) < 200)) := by omega
        obtain ⟨n, hnn⟩ : ∃ n, n = s'.length := ⟨_, rfl⟩
        have hn2 : (n : Int) ≤ s'.length := by omega
        have hn1 : n ≤ s'.length := by omega
        have HNN : Hid (n = s'.length) := hnn
        have HGO : Hid (_ : Prop) := go_on HRUN.out HFG.out (List.take_append_drop n s')
        have HJJ : s'.drop n ≠ [] → j + 1 ≤ 200 := fun z => absurd (List.drop_eq_nil_of_le (by omega)) z
        have HMS2 : Hid ((201 - (j + 1)) + (s'.length - n) < (201 - j) + s'.length) := by unfold Hid; omega
        have hcl : (s'.take n).length ≤ 1000000 := by rw [List.length_take]; omega
        have HJ : Hid (s'.drop n ≠ [] → j + 1 ≤ 200) := HJJ
        have HDL : Hid ((s'.drop n).length = s'.length - n) := by unfold Hid; rw [List.length_drop]
        have hs20 : s'.drop n = [] := List.drop_eq_nil_of_le (by omega)
        have hex := ext_take s' n
        have hdr := ext_drop s' n
        have hR := run_frames_le2 (s'.take n) st
        have hR2 : (runI st (s'.take n)).2.length ≤ 10000 := by rw [List.length_take] at hR; omega
        have HRP : Hid (runI st (s'.take n) = ((runI st (s'.take n)).1, (runI st (s'.take n)).2)) := rfl
        generalize (runI st (s'.take n)).2 = R2 at *
        generalize (runI st (s'.take n)).1 = S2 at *
        generalize s'.take n = ck at *
        generalize s'.drop n = s2 at *
        obtain ⟨hsub, rest2, hrun2, hFG2⟩ := HGO.out
        have HSUB : Hid (S2.sub = 0) := hsub
        have HRUN2 : Hid (runI S2 s2 = (st0, rest2)) := hrun2
        have HFG2 : Hid (FR = (G ++ R2) ++ rest2) := hFG2
        have hGR : G.length + R2.length ≤ 20 := by rw [hFG2, List.length_append, List.length_append] at hfl; omega
        clear hsub hrun2 hFG2 HGO HRUN HFG hR
        obtain rfl : s2 = [] := hs20
        have hnn' : s'.length = n := hnn.symm
        rw [hnn'] at hsz hpos' hdr
        clear hnn hn2
        rcases hno with hno | ⟨hyes, hno⟩
        · skip
          go_wp2_with fail
          refine (put_fine p b st S2 ck R2 wr HFR.out HZ1.out (by have := HW0.out; have := HPB.out; have := HB1.out.size; omega) (by have := HW0.out; have := HPB.out; have := HB1.out.size; omega) hcl HRP.out HSUB.out).mono ?_
          rintro e w3 ⟨ad3, cp3, rfl, ho3, hf3, hbs3⟩
          have hba3 : Below w3.heap.size w3 (w3.alloc (.cells #[.int .i64 0, .int .u8 0, .int .u8 0] 27)) := (Below.refl _ _).alloc (Nat.le_refl _) _
          have HF3 : Hid (FrAt (w3.alloc (.cells #[.int .i64 0, .int .u8 0, .int .u8 0] 27)) p b S2) := hf3.below hba3 hf3.ltp hf3.buf.lt
          have HB3 : Hid (Beside p b W (w3.alloc (.cells #[.int .i64 0, .int .u8 0, .int .u8 0] 27))) := (HBS.out.trans hbs3).then hba3
          have HO3 : Hid (OwnF (w3.alloc (.cells #[.int .i64 0, .int .u8 0, .int .u8 0] 27)) wr.heap.size (.slice ad3 R2.length cp3) R2) := owns_below ho3 hba3
          have HG3 : Hid (OwnF (w3.alloc (.cells #[.int .i64 0, .int .u8 0, .int .u8 0] 27)) W.heap.size (.slice adg G.length cpg) G) := owns_below (owns_beside HO.out hbs3 HPL.out.1 HPL.out.2) hba3
          have h3 := HB3.out.size
          have v0 : (w3.alloc (.cells #[.int .i64 0, .int .u8 0, .int .u8 0] 27)).heap[w3.heap.size]? = some (.cells #[.int .i64 0, .int .u8 0, .int .u8 0] 27 (0, 0)) := hp_new rfl
          have y0 : (w3.alloc (.cells #[.int .i64 0, .int .u8 0, .int .u8 0] 27)).cell? ⟨w3.heap.size, 0, none⟩ = some (.int .i64 0) := cl_row v0 rfl
          have y1 : (w3.alloc (.cells #[.int .i64 0, .int .u8 0, .int .u8 0] 27)).cell? ⟨w3.heap.size, 1, none⟩ = some (.int .u8 0) := cl_row v0 rfl
          have y2 : (w3.alloc (.cells #[.int .i64 0, .int .u8 0, .int .u8 0] 27)).cell? ⟨w3.heap.size, 2, none⟩ = some (.int .u8 0) := cl_row v0 rfl
          clear hba3 hf3 hbs3 ho3 HFR HBS HO HW1 HZ1 v0
          by_cases hR0 : R2 = []
          · subst hR0
            have hcg := own_cap HG3.out
            have happ := run_app_none adg ad3 G.length cpg cp3 (w3.alloc (.cells #[.int .i64 0, .int .u8 0, .int .u8 0] 27)) hcg
            simp only [List.length_nil, Nat.add_zero] at hGR ⊢
            go_wp2_with (at_builtin; refine wpList_append_run _ rfl _ _ 25 rfl _ _ rfl rfl happ ?_)
            generalize w3.alloc (.cells #[.int .i64 0, .int .u8 0, .int .u8 0] 27) = V3 at *
            have HG4 : Hid (OwnF V3 W.heap.size (.slice adg G.length cpg) (G ++ [])) := by unfold Hid; rw [List.append_nil]; exact HG3.out
            have HF4 : Hid (FrAt V3 p b S2) := HF3.out
            have HB4 : Hid (Beside p b W V3) := HB3.out
            clear y0 y1 y2 happ
            go_roundw
            case rel => exact ⟨j + 1, [], G ++ [], rest2, S2, rfl, HG4.out, by simp, by omega, HJ.out, by have := HDL.out; omega, HF4.out, HB4.out, HRUN2.out, HFG2.out⟩
            case measure => have := HDL.out; have := HMS2.out; have z0 : ByteArray.empty.size = 0 := rfl; simp only [strLen, intOf]; omega
          · obtain ⟨gg, rfl, _, hnews⟩ := own_news HO3.out hR0
            have HNEWS : Hid (_ : Prop) := hnews
            have hpR : 0 < R2.length := by cases R2 with | nil => exact absurd rfl hR0 | cons => simp
            clear hnews
            go_wp2_with (at_builtin; refine wpList_append_own _ rfl _ _ 25 rfl W.heap.size 37 i0 (.agg #[.int .i64 0, .string ⟨#[]⟩]) 2 24 Tryd.underlying25 hi hz0 hz1 hz2 rfl (by decide) (.slice adg G.length cpg) G.length (cellsF G) rfl HG3.out ⟨gg, 0, none⟩ R2.length cp3 (cellsF R2) rfl (cellsF_len R2) HNEWS.out (cellsF_one R2) (by unfold maxLen; omega) (by omega) h3 ?_; intro v7 w7 hown7 hgrow7 _)
            have HG4 : Hid (OwnF w7 W.heap.size v7 (G ++ R2)) := by
              unfold Hid OwnF
              rw [cellsF_app, List.length_append]
              exact hown7
            obtain ⟨ad7, c7, rfl⟩ := slice_of_owns hown7
            have hbw : Below W.heap.size (w3.alloc (.cells #[.int .i64 0, .int .u8 0, .int .u8 0] 27)) w7 := (Below.refl _ _).grown hgrow7 h3 (fun k e => (owns_lt HG3.out k e).1)
            have HF4 : Hid (FrAt w7 p b S2) := HF3.out.below hbw HPL.out.1 HPL.out.2
            have HB4 : Hid (Beside p b W w7) := HB3.out.over hbw (Nat.le_refl _)
            clear hown7 hgrow7 hbw y0 y1 y2
            go_roundw
            case rel => exact ⟨j + 1, [], G ++ R2, rest2, S2, rfl, HG4.out, by simp, by omega, HJ.out, by have := HDL.out; omega, HF4.out, HB4.out, HRUN2.out, HFG2.out⟩
            case measure => have := HDL.out; have := HMS2.out; have z0 : ByteArray.empty.size = 0 := rfl; simp only [strLen, intOf]; omega
        · skip
          go_wp2_with fail
          refine (put_fine p b st S2 ck R2 wr HFR.out HZ1.out (by have := HW0.out; have := HPB.out; have := HB1.out.size; omega) (by have := HW0.out; have := HPB.out; have := HB1.out.size; omega) hcl HRP.out HSUB.out).mono ?_
          rintro e w3 ⟨ad3, cp3, rfl, ho3, hf3, hbs3⟩
          have hba3 : Below w3.heap.size w3 (w3.alloc (.cells #[.int .i64 0, .int .u8 0, .int .u8 0] 27)) := (Below.refl _ _).alloc (Nat.le_refl _) _
          have HF3 : Hid (FrAt (w3.alloc (.cells #[.int .i64 0, .int .u8 0, .int .u8 0] 27)) p b S2) := hf3.below hba3 hf3.ltp hf3.buf.lt
          have HB3 : Hid (Beside p b W (w3.alloc (.cells #[.int .i64 0, .int .u8 0, .int .u8 0] 27))) := (HBS.out.trans hbs3).then hba3
          have HO3 : Hid (OwnF (w3.alloc (.cells #[.int .i64 0, .int .u8 0, .int .u8 0] 27)) wr.heap.size (.slice ad3 R2.length cp3) R2) := owns_below ho3 hba3
          have HG3 : Hid (OwnF (w3.alloc (.cells #[.int .i64 0, .int .u8 0, .int .u8 0] 27)) W.heap.size (.slice adg G.length cpg) G) := owns_below (owns_beside HO.out hbs3 HPL.out.1 HPL.out.2) hba3
          have h3 := HB3.out.size
          have v0 : (w3.alloc (.cells #[.int .i64 0, .int .u8 0, .int .u8 0] 27)).heap[w3.heap.size]? = some (.cells #[.int .i64 0, .int .u8 0, .int .u8 0] 27 (0, 0)) := hp_new rfl
          have y0 : (w3.alloc (.cells #[.int .i64 0, .int .u8 0, .int .u8 0] 27)).cell? ⟨w3.heap.size, 0, none⟩ = some (.int .i64 0) := cl_row v0 rfl
          have y1 : (w3.alloc (.cells #[.int .i64 0, .int .u8 0, .int .u8 0] 27)).cell? ⟨w3.heap.size, 1, none⟩ = some (.int .u8 0) := cl_row v0 rfl
          have y2 : (w3.alloc (.cells #[.int .i64 0, .int .u8 0, .int .u8 0] 27)).cell? ⟨w3.heap.size, 2, none⟩ = some (.int .u8 0) := cl_row v0 rfl
          clear hba3 hf3 hbs3 ho3 HFR HBS HO HW1 HZ1 v0
          by_cases hR0 : R2 = []
          · subst hR0
            have hcg := own_cap HG3.out
            have happ := run_app_none adg ad3 G.length cpg cp3 (w3.alloc (.cells #[.int .i64 0, .int .u8 0, .int .u8 0] 27)) hcg
            simp only [List.length_nil, Nat.add_zero] at hGR ⊢
            go_wp2_with (at_builtin; refine wpList_append_run _ rfl _ _ 25 rfl _ _ rfl rfl happ ?_)
            generalize w3.alloc (.cells #[.int .i64 0, .int .u8 0, .int .u8 0] 27) = V3 at *
            have HG4 : Hid (OwnF V3 W.heap.size (.slice adg G.length cpg) (G ++ [])) := by unfold Hid; rw [List.append_nil]; exact HG3.out
            have HF4 : Hid (FrAt V3 p b S2) := HF3.out
            have HB4 : Hid (Beside p b W V3) := HB3.out
            clear y0 y1 y2 happ
            go_roundw
            case rel => exact ⟨j + 1, [], G ++ [], rest2, S2, rfl, HG4.out, by simp, by omega, HJ.out, by have := HDL.out; omega, HF4.out, HB4.out, HRUN2.out, HFG2.out⟩
            case measure => have := HDL.out; have := HMS2.out; have z0 : ByteArray.empty.size = 0 := rfl; simp only [strLen, intOf]; omega
          · obtain ⟨gg, rfl, _, hnews⟩ := own_news HO3.out hR0
            have HNEWS : Hid (_ : Prop) := hnews
            have hpR : 0 < R2.length := by cases R2 with | nil => exact absurd rfl hR0 | cons => simp
            clear hnews
            go_wp2_with (at_builtin; refine wpList_append_own _ rfl _ _ 25 rfl W.heap.size 37 i0 (.agg #[.int .i64 0, .string ⟨#[]⟩]) 2 24 Tryd.underlying25 hi hz0 hz1 hz2 rfl (by decide) (.slice adg G.length cpg) G.length (cellsF G) rfl HG3.out ⟨gg, 0, none⟩ R2.length cp3 (cellsF R2) rfl (cellsF_len R2) HNEWS.out (cellsF_one R2) (by unfold maxLen; omega) (by omega) h3 ?_; intro v7 w7 hown7 hgrow7 _)
            have HG4 : Hid (OwnF w7 W.heap.size v7 (G ++ R2)) := by
              unfold Hid OwnF
              rw [cellsF_app, List.length_append]
              exact hown7
            obtain ⟨ad7, c7, rfl⟩ := slice_of_owns hown7
            have hbw : Below W.heap.size (w3.alloc (.cells #[.int .i64 0, .int .u8 0, .int .u8 0] 27)) w7 := (Below.refl _ _).grown hgrow7 h3 (fun k e => (owns_lt HG3.out k e).1)
            have HF4 : Hid (FrAt w7 p b S2) := HF3.out.below hbw HPL.out.1 HPL.out.2
            have HB4 : Hid (Beside p b W w7) := HB3.out.over hbw (Nat.le_refl _)
            clear hown7 hgrow7 hbw y0 y1 y2
            go_roundw
            case rel => exact ⟨j + 1, [], G ++ R2, rest2, S2, rfl, HG4.out, by simp, by omega, HJ.out, by have := HDL.out; omega, HF4.out, HB4.out, HRUN2.out, HFG2.out⟩
            case measure => have := HDL.out; have := HMS2.out; have z0 : ByteArray.empty.size = 0 := rfl; simp only [strLen, intOf]; omega
end Go.Proofs.YtlinoklgchfedaaDoor
