/-
  PrimReads answers true for every text of fewer than 140737488351233 bytes, and all bytes.
-/
import Derived.Test.YtkgedoedojkdkaaDoorTrM
import Derived.Test.YtkgedoedojkdkaaDoorR3
import Derived.Test.YtkgedoedojkdkaaDoorB25
import Derived.Laws.StructEq
set_option linter.unusedVariables false
set_option linter.unusedSimpArgs false
set_option maxRecDepth 100000
namespace Go.Proofs.YtkgedoedojkdkaaDoor
open Go.RowKit
structure PrR (w wr : World) : Prop where
  r : PfxAt wr w.heap.size 0 0 ⟨#[]⟩ 0
  b : Below w.heap.size w wr
theorem PrR.next {w wr w' : World} (h : PrR w wr) (hb : Below wr.heap.size wr w') : PrR w w' := ⟨h.r.kept hb (lt_of_cell h.r.c0), h.b.trans (hb.mono h.b.size)⟩
theorem PrR.start (w : World) : PrR w (w.alloc (.cells #[.int .i64 0, .int .u64 0, .string ⟨#[]⟩, .int .i64 0] 24)) :=
  ⟨PfxAt.of_alloc w _ 0 0 ⟨#[]⟩ 0 rfl, (Below.refl _ _).alloc (Nat.le_refl _) _⟩
theorem PrR.set {w wr : World} (h : PrR w wr) (b i : Nat) (hb : w.heap.size < b) (v : Value) : PrR w (wr.setCell ⟨b, i, none⟩ v) := ⟨h.r.set_other _ _ (by simp; omega), h.b.setCell (by simp; omega) _⟩
theorem pf_set1 {w : World} {b : Nat} {f r : Int} {s : ByteArray} {l : Int} (h : PfxAt w b f r s l) (r' : Int) : PfxAt (w.setCell ⟨b, 1, none⟩ (.int .u64 r')) b f r' s l := by
  obtain ⟨c0, c1, c2, c3, f0, f1, f2, f3⟩ := h
  refine ⟨?_, World.cell?_setCell_same _ _ _ c1, ?_, ?_, by rw [World.frozen?_setCell]; exact f0, by rw [World.frozen?_setCell]; exact f1, by rw [World.frozen?_setCell]; exact f2, by rw [World.frozen?_setCell]; exact f3⟩
  · rw [World.cell?_setCell_other _ _ _ _ (by intro e; injection e; omega)]; exact c0
  · rw [World.cell?_setCell_other _ _ _ _ (by intro e; injection e; omega)]; exact c2
  · rw [World.cell?_setCell_other _ _ _ _ (by intro e; injection e; omega)]; exact c3
theorem pf_set2 {w : World} {b : Nat} {f r : Int} {s : ByteArray} {l : Int} (h : PfxAt w b f r s l) (s' : ByteArray) : PfxAt (w.setCell ⟨b, 2, none⟩ (.string s')) b f r s' l := by
  obtain ⟨c0, c1, c2, c3, f0, f1, f2, f3⟩ := h
  refine ⟨?_, ?_, World.cell?_setCell_same _ _ _ c2, ?_, by rw [World.frozen?_setCell]; exact f0, by rw [World.frozen?_setCell]; exact f1, by rw [World.frozen?_setCell]; exact f2, by rw [World.frozen?_setCell]; exact f3⟩
  · rw [World.cell?_setCell_other _ _ _ _ (by intro e; injection e; omega)]; exact c0
  · rw [World.cell?_setCell_other _ _ _ _ (by intro e; injection e; omega)]; exact c1
  · rw [World.cell?_setCell_other _ _ _ _ (by intro e; injection e; omega)]; exact c3
theorem pf_set3 {w : World} {b : Nat} {f r : Int} {s : ByteArray} {l : Int} (h : PfxAt w b f r s l) (l' : Int) : PfxAt (w.setCell ⟨b, 3, none⟩ (.int .i64 l')) b f r s l' := by
  obtain ⟨c0, c1, c2, c3, f0, f1, f2, f3⟩ := h
  refine ⟨?_, ?_, ?_, World.cell?_setCell_same _ _ _ c3, by rw [World.frozen?_setCell]; exact f0, by rw [World.frozen?_setCell]; exact f1, by rw [World.frozen?_setCell]; exact f2, by rw [World.frozen?_setCell]; exact f3⟩
  · rw [World.cell?_setCell_other _ _ _ _ (by intro e; injection e; omega)]; exact c0
  · rw [World.cell?_setCell_other _ _ _ _ (by intro e; injection e; omega)]; exact c1
  · rw [World.cell?_setCell_other _ _ _ _ (by intro e; injection e; omega)]; exact c2
def PaAns (l : List UInt8) (e : Ending) : Prop := ∃ o, PfP o l ∧ e = .returned (pfV o)
theorem paNo {l : List UInt8} (h : PfP none l) : PaAns l (.returned (.tuple #[.agg #[.int .i64 0, .int .u64 0, .string ⟨#[]⟩, .int .i64 0], .int .i64 4])) := ⟨none, h, rfl⟩
set_option maxHeartbeats 2000000 in
theorem rparse_long (l : List UInt8) (hl : 80 < l.length) (w : World) :
    Calls Tryd.prog 25 #[.string ⟨l.toArray⟩] w fun e w' => PaAns l e ∧ Below w.heap.size w w' := by
  have HNo : Hid (PfP none l) := pfP_no fun n r b k hv hk e => by have := pf_eighty hv; rw [← e] at this; omega
  have hsz : (80 : Int) < ((⟨l.toArray⟩ : ByteArray).size : Int) := by rw [lst_size]; omega
  clear hl
  generalize (⟨l.toArray⟩ : ByteArray) = s at *
  go_enter Tryd.func25, Tryd.ntmps25
  go_wp2
  refine bodyPost_ret (v := .tuple #[.agg #[.int .i64 0, .int .u64 0, .string ⟨#[]⟩, .int .i64 0], .int .i64 4]) (by simp [results, Tryd.results25, go_sem]) rfl ⟨paNo HNo.out, (Below.refl _ _).alloc (Nat.le_refl _) _⟩
set_option maxHeartbeats 16000000 in
theorem rparse_short (l : List UInt8) (hl : l.length ≤ 80) (w : World) :
    Calls Tryd.prog 25 #[.string ⟨l.toArray⟩] w fun e w' => PaAns l e ∧ Below w.heap.size w w' := by
  have hsz : ¬ ((80 : Int) < ((⟨l.toArray⟩ : ByteArray).size : Int)) := by rw [lst_size]; omega
  have HSp : Hid (∀ (x : List UInt8) (c : UInt8), x.length ≤ 80 → ∀ W, _) := fun x c hx W => split_any ⟨x.toArray⟩ c W (by rw [lst_size]; omega)
  have HFm : Hid (∀ (x : List UInt8) W, _) := fun x W => rfam_any ⟨x.toArray⟩ W
  have HAp : Hid (∀ (n : Nat), 1 ≤ n → n ≤ 5 → ∀ W, _) := fun n h1 h2 W => apart_any (n : Int) W (by omega) (by omega)
  have HR64 : Hid (∀ (x : List UInt8), x.length ≤ 80 → ∀ W, _) := fun x hx W => rread10 18446744073709551615 (by decide) (by decide) ⟨x.toArray⟩ W (by rw [lst_size]; omega)
  have HR8 : Hid (∀ (x : List UInt8), x.length ≤ 80 → ∀ W, _) := fun x hx W => rread10 128 (by decide) (by decide) ⟨x.toArray⟩ W (by rw [lst_size]; omega)
  have HAd : Hid (∀ (x : List UInt8), x.length ≤ 80 → ∀ W, _) := fun x hx W => raddrL ⟨x.toArray⟩ (by rw [lst_size]; unfold maxLen; omega) W
  have HMy : Hid (∀ (f r : Int) (b : ByteArray) (k : Int), b.size ≤ maxLen → ∀ W, _) := fun f r b k hb W => may_any f r b k W hb
  have HW0 : Hid (PrR w _) := PrR.start w
  have HLl : Hid (l.length ≤ 80) := hl
  clear hl
  go_enter Tryd.func25, Tryd.ntmps25
  go_wp2_with fail
  refine Calls.mono (HSp.out l 32 HLl.out _) ?_
  rintro e w1 ⟨⟨vP, A, z, rfl, hls, hfr, hown⟩, hbw⟩
  have HW1 : Hid (PrR w w1) := HW0.out.next hbw
  obtain ⟨adP, cP, rfl⟩ := slice_of_owns hown
  have HPl : Hid (∀ x ∈ A ++ [z], x.length ≤ 80) := fun x hx => Nat.le_trans (piece_len hls x hx) HLl.out
  generalize hP : A ++ [z] = P at *
  have HPe : Hid (A ++ [z] = P) := hP
  have HLs : Hid (l = flat 32 A ++ z ∧ Free 32 P) := ⟨hls, hfr⟩
  have h1P : 0 < P.length := by rw [← hP]; simp
  obtain ⟨g, rfl, hg, hcell⟩ := row_at hown rfl h1P
  have HCe : Hid (∀ j x, P[j]? = some x → w1.cell? ⟨g, j, none⟩ = some (.string ⟨x.toArray⟩)) := fun j x h => by
    obtain ⟨h1, h2⟩ := List.getElem?_eq_some_iff.1 h
    rw [hcell j h1, h2]
  have HG : Hid (g < w1.heap.size) := lt_of_cell (hcell 0 h1P)
  clear hls hfr hown hbw hP hg hcell HW0 hsz
  have HBd : Hid (∀ n r b k, VP n r b k → l = pfT n r b k → (n < 4 → P = [fwL.getD n [], tlT b k]) ∧ (¬ n < 4 → P = [fwL.getD n [], Lib.decDigits r, tlT b k])) := fun n r b k hv e => pieces_of HPe.out HLs.out.1 HLs.out.2 hv e
  have h1i : (0 : Int) < (P.length : Int) := by omega
  obtain ⟨x0, hx0⟩ : ∃ x0, P[0]? = some x0 := ⟨P[0], List.getElem?_eq_getElem h1P⟩
  have HX0 : Hid (P[0]? = some x0) := hx0
  have cw := HCe.out 0 x0 hx0
  clear hx0
  have HHead : Hid (∀ n r b k, VP n r b k → l = pfT n r b k → famOf x0 = n ∧ (n < 4 → P.length = 2) ∧ (¬ n < 4 → P.length = 3)) := fun n r b k hv e => by
    have hq := HBd.out n r b k hv e
    have hn := (fam_of_name n hv.f1 hv.f5).1
    have h0 := HX0.out
    refine ⟨?_, fun h => by rw [hq.1 h]; rfl, fun h => by rw [hq.2 h]; rfl⟩
    by_cases h : n < 4
    · rw [hq.1 h] at h0
      simp only [List.getElem?_cons_zero, Option.some.injEq] at h0
      rw [← h0]; exact hn
    · rw [hq.2 h] at h0
      simp only [List.getElem?_cons_zero, Option.some.injEq] at h0
      rw [← h0]; exact hn
  go_wp2_with fail
  refine Calls.mono (HFm.out x0 _) ?_
  rintro e w2 ⟨rfl, hw2⟩
  subst w2
  try rw [show (⟨x0.toArray⟩ : ByteArray).data.toList = x0 from rfl]
  clear cw
  by_cases h0 : famOf x0 = 0
  · have HNx : Hid (PfP none l) := pfP_no fun n r b k hv hk e => by have := (HHead.out n r b k hv e).1; have := hv.f1; omega
    rw [h0]
    clear h0
    obtain ⟨d0, d1, d2, d3, g0, g1, g2, g3⟩ := HW1.out.r
    have hdz : w.heap.size < w1.heap.size := lt_of_cell d0
    go_wp2
    refine bodyPost_ret (v := .tuple #[.agg #[.int .i64 0, .int .u64 0, .string ⟨#[]⟩, .int .i64 0], .int .i64 4]) (by simp [results, Tryd.results25, go_sem, World.cell?_alloc_old, hdz, d0, d1, d2, d3]) rfl ⟨paNo HNx.out, ?_⟩
    exact ((((HW1.out.b.setCell (by simp) _).setCell (by simp) _).setCell (by simp) _).setCell (by simp) _).alloc (by simp; omega) _
  obtain ⟨n, n1, n5, hn, hnm⟩ := fam_inv x0 h0
  have HN : Hid (famOf x0 = n ∧ x0 = fwL.getD n [] ∧ 1 ≤ n ∧ n ≤ 5) := ⟨hn, hnm, n1, n5⟩
  rw [hn]
  clear hnm h0 hn
  have hn0 : ((n : Int) == 0) = false := by rw [beq_eq_false_iff_ne]; omega
  have hap := HAp.out n n1 n5
  have HP2 : Hid (PfxAt (w1.alloc (.cells #[.int .i64 (n : Int), .int .u64 0, .string ⟨#[]⟩, .int .i64 0] 24)) w1.heap.size n 0 ⟨#[]⟩ 0) := PfxAt.of_alloc w1 _ n 0 ⟨#[]⟩ 0 rfl
  have HB2 : Hid (Below w1.heap.size w1 (w1.alloc (.cells #[.int .i64 (n : Int), .int .u64 0, .string ⟨#[]⟩, .int .i64 0] 24))) := (Below.refl _ _).alloc (Nat.le_refl _) _
  have HW2 : Hid (PrR w (w1.alloc (.cells #[.int .i64 (n : Int), .int .u64 0, .string ⟨#[]⟩, .int .i64 0] 24))) := HW1.out.next HB2.out
  have HS1 : Hid (w.heap.size < w1.heap.size) := lt_of_cell HW1.out.r.c0
  have HMis : Hid ((n < 4 → P.length ≠ 2) → (¬ n < 4 → P.length ≠ 3) → PfP none l) := fun h1 h2 => pfP_no fun n' r b k hv hk e => by
    obtain ⟨q1, q2, q3⟩ := HHead.out n' r b k hv e
    have h3 : n' = n := by have := HN.out.1; omega
    subst h3
    by_cases h : n' < 4
    · exact h1 h (q2 h)
    · exact h2 h (q3 h)
  by_cases h4 : n < 4
  · by_cases hl2 : P.length = 2
    · have e2 : ((P.length : Int) != 2) = false := by simp; omega
      have e3 : ((P.length : Int) != 3) = true := by simp; omega
      rw [show decide ((4 : Int) ≤ (n : Int)) = false by simp; omega] at hap
      have HAp2 : Hid (∀ W, _) := hap
      have HLow : Hid (n < 4) := h4
      obtain ⟨x1, hx1⟩ : ∃ x1, P[1]? = some x1 := ⟨P[1], List.getElem?_eq_getElem (by omega)⟩
      have HX1 : Hid (P[1]? = some x1 ∧ P.length = 2) := ⟨hx1, hl2⟩
      have HT : Hid (x1.length ≤ 80) := HPl.out x1 (List.mem_of_getElem? hx1)
      have HSd : Hid (l = x0 ++ 32 :: x1) := by
        have h := HLs.out.1
        have h0' := HX0.out
        rw [← join_flat, HPe.out] at h
        match P, hl2, h, h0', hx1 with
        | [a, b], _, h, h0', hx1 =>
          simp only [List.getElem?_cons_zero, List.getElem?_cons_succ, Option.some.injEq] at h0' hx1
          subst h0' hx1
          unfold Hid; rw [h]; simp [Lib.join_cons, Lib.joinTail]
      have ct := HCe.out 1 x1 hx1
      have HCt : Hid (_ = _) := (HB2.out.cell (p := ⟨g, 1, none⟩) HG.out).trans ct
      have hLi : (P.length : Int) = 2 := by omega
      clear hap h4 hx1 ct hl2
      go_wp2_with fail
      have HZ2 : Hid (w1.heap.size < (w1.alloc (.cells #[.int .i64 (n : Int), .int .u64 0, .string ⟨#[]⟩, .int .i64 0] 24)).heap.size) := lt_of_cell HP2.out.c0
      generalize w1.alloc (.cells #[.int .i64 (n : Int), .int .u64 0, .string ⟨#[]⟩, .int .i64 0] 24) = wa at *
      have p0 := HP2.out.c0
      refine (HAp2.out _).mono ?_
      rintro e w' ⟨rfl, hw'⟩
      subst w'
      go_wp2_with fail
      refine (HAp2.out _).mono ?_
      rintro e w' ⟨rfl, hw'⟩
      subst w'
      have ct := HCt.out
      go_wp2_with fail
      refine Calls.mono (HSp.out x1 47 HT.out _) ?_
      rintro e w5 ⟨⟨vQ, A', z', rfl, hls, hfr, hown⟩, hbw⟩
      have HW5 : Hid (PrR w w5) := HW2.out.next hbw
      have HP5 : Hid (PfxAt w5 w1.heap.size n 0 ⟨#[]⟩ 0) := HP2.out.kept hbw (lt_of_cell HP2.out.c0)
      obtain ⟨adQ, cQ, rfl⟩ := slice_of_owns hown
      have HQl : Hid (∀ x ∈ A' ++ [z'], x.length ≤ 80) := fun x hx => Nat.le_trans (piece_len hls x hx) HT.out
      generalize hQ : A' ++ [z'] = Q at *
      have HQe : Hid (A' ++ [z'] = Q) := hQ
      have HQs : Hid (x1 = flat 47 A' ++ z' ∧ Free 47 Q) := ⟨hls, hfr⟩
      have h1Q : 0 < Q.length := by rw [← hQ]; simp
      obtain ⟨gq, rfl, hgq, hcq⟩ := row_at hown rfl h1Q
      have HCq : Hid (∀ j x, Q[j]? = some x → w5.cell? ⟨gq, j, none⟩ = some (.string ⟨x.toArray⟩)) := fun j x h => by
        obtain ⟨h1, h2⟩ := List.getElem?_eq_some_iff.1 h
        rw [hcq j h1, h2]
      have HGq : Hid (gq < w5.heap.size) := lt_of_cell (hcq 0 h1Q)
      have HHv : Hid (∀ n' r' b k, VP n' r' b k → k ≤ 128 → l = pfT n' r' b k → n' = n ∧ r' = 0 ∧ Q = [adT b, Lib.decDigits k]) := fun n' r' b k hv hk e => by
        obtain ⟨q1, q2, q3⟩ := HHead.out n' r' b k hv e
        have h3 : n' = n := by have := HN.out.1; omega
        subst h3
        have hq := (HBd.out n' r' b k hv e).1 HLow.out
        have h1 := HX1.out.1
        rw [hq] at h1
        simp only [List.getElem?_cons_succ, List.getElem?_cons_zero, Option.some.injEq] at h1
        exact ⟨rfl, hv.rd HLow.out, halves_of HQe.out HQs.out.1 HQs.out.2 hv.ad h1.symm⟩
      clear hls hfr hown hbw hQ hgq hcq
      by_cases hlq : Q.length = 2
      · obtain ⟨h0, h1, rfl⟩ : ∃ h0 h1, Q = [h0, h1] := by
          match Q, hlq with
          | [a, b], _ => exact ⟨a, b, rfl⟩
        have e2 := HCq.out 0 h0 rfl
        have e3 := HCq.out 1 h1 rfl
        have HQd : Hid (x1 = h0 ++ 47 :: h1) := by
          have h := HQs.out.1
          rw [← join_flat, HQe.out] at h
          unfold Hid; rw [h]; simp [Lib.join_cons, Lib.joinTail]
        have HL0 : Hid (h0.length ≤ 80) := HQl.out h0 (by simp)
        have HL1 : Hid (h1.length ≤ 80) := HQl.out h1 (by simp)
        clear hlq h1Q
        go_wp2_with fail
        refine Calls.mono (HAd.out h0 HL0.out _) ?_
        rintro e w6 ⟨⟨oa, hoa, he⟩, hb6⟩
        have HW6 : Hid (PrR w w6) := HW5.out.next hb6
        have HP6 : Hid (PfxAt w6 w1.heap.size n 0 ⟨#[]⟩ 0) := HP5.out.kept hb6 (lt_of_cell HP5.out.c0)
        have f3 := (hb6.cell (p := ⟨gq, 1, none⟩) HGq.out).trans e3
        have HOa : Hid (AdP oa h0) := hoa
        obtain ⟨b, ee, he2, HEO⟩ : ∃ (b : ByteArray) (ee : Int), adV oa = .tuple #[.string b, .int .i64 ee] ∧ Hid ((oa = some b ∧ ee = 0) ∨ (oa = none ∧ ee = 4 ∧ b = ⟨#[]⟩)) := by
          cases oa with
          | some b => exact ⟨b, 0, rfl, Or.inl ⟨rfl, rfl⟩⟩
          | none => exact ⟨⟨#[]⟩, 4, rfl, Or.inr ⟨rfl, rfl, rfl⟩⟩
        rw [he2] at he
        obtain rfl := he
        clear he2 hoa hb6 e2 e3
        go_wp2_with fail
        refine Calls.mono (HR8.out h1 HL1.out _) ?_
        rintro e w7 ⟨k, ok, hk64, rfl, hb7, hyes, hfull⟩
        have HW7 : Hid (PrR w w7) := HW6.out.next hb7
        have HP7 : Hid (PfxAt w7 w1.heap.size n 0 ⟨#[]⟩ 0) := HP6.out.kept hb7 (lt_of_cell HP6.out.c0)
        have HY : Hid (ok = true → h1 = Lib.decDigits k ∧ k ≤ 128) := hyes
        have HF : Hid (∀ u, u ≤ 128 → h1 = Lib.decDigits u → k = u ∧ ok = true) := hfull
        obtain ⟨kw, hkw⟩ : ∃ kw, IntKind.i64.wrap (k : Int) = kw := ⟨_, rfl⟩
        have HKw : Hid (k ≤ 128 → kw = k) := fun h => by rw [← hkw, IntKind.wrap_i64]; omega
        obtain ⟨c0, c1, c2, c3, q0, q1, q2, q3⟩ := HP7.out
        obtain ⟨d0, d1, d2, d3, g0, g1, g2, g3⟩ := HW7.out.r
        have hs7 : w1.heap.size < w7.heap.size := lt_of_cell c0
        have hs8 := HS1.out
        have hne5 : ¬ (w1.heap.size = w.heap.size) := by omega
        have hs9 : w.heap.size < w7.heap.size := lt_of_cell d0
        clear hb7 hyes hfull f3 hk64
        rcases HEO.out with ⟨rfl, rfl⟩ | ⟨rfl, rfl, rfl⟩
        · have had : b.size = 4 ∨ b.size = 16 := (HOa.out.sound b rfl).1
          have HAdb : Hid (h0 = adT b) := (HOa.out.sound b rfl).2
          cases ok with
          | false =>
            have HNx : Hid (PfP none l) := pfP_no fun n' r' b' k' hv hk e => by
              obtain ⟨_, _, q⟩ := HHv.out n' r' b' k' hv hk e
              simp only [List.cons.injEq, and_true] at q
              have := (HF.out k' hk q.2).2
              cases this
            clear HY HF HEO had
            go_wp2
            refine bodyPost_ret (v := .tuple #[.agg #[.int .i64 0, .int .u64 0, .string ⟨#[]⟩, .int .i64 0], .int .i64 4]) (by simp [results, Tryd.results25, go_sem, World.cell?_setCell_other, hne5, d0, d1, d2, d3]) rfl ⟨paNo HNx.out, ?_⟩
            exact (((((HW7.out.b.setCell (by simp; omega) _).setCell (by simp; omega) _).setCell (by simp) _).setCell (by simp) _).setCell (by simp) _).setCell (by simp) _
          | true =>
            obtain ⟨hk1, hk2⟩ := HY.out rfl
            obtain rfl : kw = k := HKw.out hk2
            have HV : Hid (VP n 0 b k ∧ l = pfT n 0 b k) := ⟨⟨HN.out.2.2.1, HN.out.2.2.2, fun _ => rfl, had, by omega, by omega⟩, by
              rw [pfT_low HLow.out, HSd.out, HN.out.2.1, HQd.out, HAdb.out, hk1]⟩
            have hm := HMy.out n 0 b k (by unfold maxLen; rcases had with e | e <;> omega)
            clear HY HF HEO had hk1 hk2 HKw
            by_cases hc : chk n 0 b k = 0
            · rw [decide_eq_true hc] at hm
              have HM : Hid (∀ W, _) := hm
              have HPs : Hid (PfP (some ((n : Int), 0, b, (k : Int))) l) := pfP_some HV.out.1 HV.out.2 hc
              clear hm hc HV
              go_wp2_with fail
              refine Calls.mono (HM.out _) ?_
              rintro e w8 ⟨rfl, hb8⟩
              have HX8 : Hid (PrR w ((w7.setCell ⟨w1.heap.size, 2, none⟩ (.string b)).setCell ⟨w1.heap.size, 3, none⟩ (.int .i64 (k : Int)))) := (HW7.out.set _ _ hs8 _).set _ _ hs8 _
              have HY8 : Hid (PfxAt ((w7.setCell ⟨w1.heap.size, 2, none⟩ (.string b)).setCell ⟨w1.heap.size, 3, none⟩ (.int .i64 (k : Int))) w1.heap.size n 0 b k) := pf_set3 (pf_set2 HP7.out b) k
              have HW8 : Hid (PrR w w8) := HX8.out.next hb8
              have HP8' : Hid (PfxAt w8 w1.heap.size n 0 b k) := HY8.out.kept hb8 (by simpa using hs7)
              clear c0 c1 c2 c3 q0 q1 q2 q3 d0 d1 d2 d3 g0 g1 g2 g3 hb8
              obtain ⟨c0, c1, c2, c3, q0, q1, q2, q3⟩ := HP8'.out
              obtain ⟨d0, d1, d2, d3, g0, g1, g2, g3⟩ := HW8.out.r
              go_wp2
              refine bodyPost_ret (v := .tuple #[.agg #[.int .i64 (n : Int), .int .u64 0, .string b, .int .i64 (k : Int)], .int .i64 0]) (by simp [results, Tryd.results25, go_sem, d0, d1, d2, d3]) rfl ⟨⟨_, HPs.out, rfl⟩, ?_⟩
              exact (((HW8.out.b.setCell (by simp) _).setCell (by simp) _).setCell (by simp) _).setCell (by simp) _
            · rw [decide_eq_false hc] at hm
              have HM : Hid (∀ W, _) := hm
              have HNx : Hid (PfP none l) := pfP_bad HV.out.1 HV.out.2 hc
              clear hm hc HV
              go_wp2_with fail
              refine Calls.mono (HM.out _) ?_
              rintro e w8 ⟨rfl, hb8⟩
              have HX8 : Hid (PrR w ((w7.setCell ⟨w1.heap.size, 2, none⟩ (.string b)).setCell ⟨w1.heap.size, 3, none⟩ (.int .i64 (k : Int)))) := (HW7.out.set _ _ hs8 _).set _ _ hs8 _
              have HW8 : Hid (PrR w w8) := HX8.out.next hb8
              clear c0 c1 c2 c3 q0 q1 q2 q3 d0 d1 d2 d3 g0 g1 g2 g3 hb8
              obtain ⟨d0, d1, d2, d3, g0, g1, g2, g3⟩ := HW8.out.r
              go_wp2
              refine bodyPost_ret (v := .tuple #[.agg #[.int .i64 0, .int .u64 0, .string ⟨#[]⟩, .int .i64 0], .int .i64 4]) (by simp [results, Tryd.results25, go_sem, d0, d1, d2, d3]) rfl ⟨paNo HNx.out, ?_⟩
              exact (((HW8.out.b.setCell (by simp) _).setCell (by simp) _).setCell (by simp) _).setCell (by simp) _
        · have HNx : Hid (PfP none l) := pfP_no fun n' r' b' k' hv hk e => by
            obtain ⟨_, _, q⟩ := HHv.out n' r' b' k' hv hk e
            simp only [List.cons.injEq, and_true] at q
            have := HOa.out.full b' hv.ad q.1
            cases this
          clear HY HF HEO
          go_wp2
          refine bodyPost_ret (v := .tuple #[.agg #[.int .i64 0, .int .u64 0, .string ⟨#[]⟩, .int .i64 0], .int .i64 4]) (by simp [results, Tryd.results25, go_sem, World.cell?_setCell_other, hne5, d0, d1, d2, d3]) rfl ⟨paNo HNx.out, ?_⟩
          exact (((((HW7.out.b.setCell (by simp; omega) _).setCell (by simp; omega) _).setCell (by simp) _).setCell (by simp) _).setCell (by simp) _).setCell (by simp) _
      · have hq2 : ((Q.length : Int) != 2) = true := by simp; omega
        have HNx : Hid (PfP none l) := pfP_no fun n' r' b k hv hk e => by
          obtain ⟨_, _, q⟩ := HHv.out n' r' b k hv hk e
          rw [q] at hlq
          exact hlq rfl
        clear hlq
        obtain ⟨d0, d1, d2, d3, g0, g1, g2, g3⟩ := HW5.out.r
        go_wp2
        refine bodyPost_ret (v := .tuple #[.agg #[.int .i64 0, .int .u64 0, .string ⟨#[]⟩, .int .i64 0], .int .i64 4]) (by simp [results, Tryd.results25, go_sem, d0, d1, d2, d3]) rfl ⟨paNo HNx.out, ?_⟩
        exact (((HW5.out.b.setCell (by simp) _).setCell (by simp) _).setCell (by simp) _).setCell (by simp) _
    · have e2 : ((P.length : Int) != 2) = true := by simp; omega
      rw [show decide ((4 : Int) ≤ (n : Int)) = false by simp; omega] at hap
      have HAp2 : Hid (∀ W, _) := hap
      have HNx : Hid (PfP none l) := HMis.out (fun _ => hl2) (fun h => absurd h4 h)
      clear hl2 h4
      clear hap HMis
      go_wp2_with fail
      generalize w1.alloc (.cells #[.int .i64 (n : Int), .int .u64 0, .string ⟨#[]⟩, .int .i64 0] 24) = wa at *
      have p0 := HP2.out.c0
      refine (HAp2.out _).mono ?_
      rintro e w' ⟨rfl, hw'⟩
      subst w'
      obtain ⟨d0, d1, d2, d3, g0, g1, g2, g3⟩ := HW2.out.r
      have hdz : w.heap.size < wa.heap.size := lt_of_cell d0
      go_wp2
      refine bodyPost_ret (v := .tuple #[.agg #[.int .i64 0, .int .u64 0, .string ⟨#[]⟩, .int .i64 0], .int .i64 4]) (by simp [results, Tryd.results25, go_sem, d0, d1, d2, d3]) rfl ⟨paNo HNx.out, ?_⟩
      exact (((HW2.out.b.setCell (by simp) _).setCell (by simp) _).setCell (by simp) _).setCell (by simp) _
  · by_cases hl3 : P.length = 3
    · have e2 : ((P.length : Int) != 2) = true := by simp; omega
      have e3 : ((P.length : Int) != 3) = false := by simp; omega
      rw [show decide ((4 : Int) ≤ (n : Int)) = true by simp; omega] at hap
      have HAp2 : Hid (∀ W, _) := hap
      have HHigh : Hid (¬ n < 4) := h4
      obtain ⟨x1, hx1⟩ : ∃ x1, P[1]? = some x1 := ⟨P[1], List.getElem?_eq_getElem (by omega)⟩
      obtain ⟨x2, hx2⟩ : ∃ x2, P[2]? = some x2 := ⟨P[2], List.getElem?_eq_getElem (by omega)⟩
      have HX1 : Hid (P[1]? = some x1 ∧ P[2]? = some x2) := ⟨hx1, hx2⟩
      have HT1 : Hid (x1.length ≤ 80) := HPl.out x1 (List.mem_of_getElem? hx1)
      have HT : Hid (x2.length ≤ 80) := HPl.out x2 (List.mem_of_getElem? hx2)
      have HSd0 : Hid (l = x0 ++ 32 :: (x1 ++ 32 :: x2)) := by
        have h := HLs.out.1
        have h0' := HX0.out
        rw [← join_flat, HPe.out] at h
        match P, hl3, h, h0', hx1, hx2 with
        | [a, b, c], _, h, h0', hx1, hx2 =>
          simp only [List.getElem?_cons_zero, List.getElem?_cons_succ, Option.some.injEq] at h0' hx1 hx2
          subst h0' hx1 hx2
          unfold Hid; rw [h]; simp [Lib.join_cons, Lib.joinTail]
      have ct1 := HCe.out 1 x1 hx1
      have ct2 := HCe.out 2 x2 hx2
      have HCt1 : Hid (_ = _) := (HB2.out.cell (p := ⟨g, 1, none⟩) HG.out).trans ct1
      have HCt2 : Hid (_ = _) := (HB2.out.cell (p := ⟨g, 2, none⟩) HG.out).trans ct2
      have hLi : (P.length : Int) = 3 := by omega
      clear hap h4 hx1 hx2 ct1 ct2 hl3
      go_wp2_with fail
      have HZ2 : Hid (w1.heap.size < (w1.alloc (.cells #[.int .i64 (n : Int), .int .u64 0, .string ⟨#[]⟩, .int .i64 0] 24)).heap.size) := lt_of_cell HP2.out.c0
      generalize w1.alloc (.cells #[.int .i64 (n : Int), .int .u64 0, .string ⟨#[]⟩, .int .i64 0] 24) = wa at *
      have p0 := HP2.out.c0
      refine (HAp2.out _).mono ?_
      rintro e w' ⟨rfl, hw'⟩
      subst w'
      go_wp2_with fail
      refine (HAp2.out _).mono ?_
      rintro e w' ⟨rfl, hw'⟩
      subst w'
      have ct := HCt1.out
      go_wp2_with fail
      refine Calls.mono (HR64.out x1 HT1.out _) ?_
      rintro e w4 ⟨r, ok, hr64, rfl, hb4, hyes, hfull⟩
      have HW4 : Hid (PrR w w4) := HW2.out.next hb4
      have HP4 : Hid (PfxAt w4 w1.heap.size n 0 ⟨#[]⟩ 0) := HP2.out.kept hb4 HZ2.out
      have hgz : g < wa.heap.size := by have := HG.out; have := HB2.out.size; omega
      have ct2 := (hb4.cell (p := ⟨g, 2, none⟩) hgz).trans HCt2.out
      have HRl : Hid (r < 18446744073709551616) := hr64
      have HRy : Hid (ok = true → x1 = Lib.decDigits r ∧ r ≤ 18446744073709551615) := hyes
      have HRf : Hid (∀ u, u ≤ 18446744073709551615 → x1 = Lib.decDigits u → r = u ∧ ok = true) := hfull
      have HRd : Hid (∀ n' r' b k, VP n' r' b k → l = pfT n' r' b k → x1 = Lib.decDigits r' ∧ x2 = tlT b k) := fun n' r' b k hv e => by
        have h3 : n' = n := by have := (HHead.out n' r' b k hv e).1; have := HN.out.1; omega
        subst h3
        have hq := (HBd.out n' r' b k hv e).2 HHigh.out
        have h1 := HX1.out
        rw [hq] at h1
        simp only [List.getElem?_cons_succ, List.getElem?_cons_zero, Option.some.injEq] at h1
        exact ⟨h1.1.symm, h1.2.symm⟩
      clear hb4 hyes hfull hr64 ct p0 hgz
      obtain ⟨c0, c1, c2, c3, q0, q1, q2, q3⟩ := HP4.out
      cases ok with
      | false =>
        have HNx : Hid (PfP none l) := pfP_no fun n' r' b k hv hk e => by
          have := (HRf.out r' (by have := hv.r64; omega) (HRd.out n' r' b k hv e).1).2
          cases this
        obtain ⟨d0, d1, d2, d3, g0, g1, g2, g3⟩ := HW4.out.r
        clear HRy HRf
        go_wp2
        refine bodyPost_ret (v := .tuple #[.agg #[.int .i64 0, .int .u64 0, .string ⟨#[]⟩, .int .i64 0], .int .i64 4]) (by simp [results, Tryd.results25, go_sem, d0, d1, d2, d3]) rfl ⟨paNo HNx.out, ?_⟩
        exact (((HW4.out.b.setCell (by simp) _).setCell (by simp) _).setCell (by simp) _).setCell (by simp) _
      | true =>
        have HSd : Hid (l = x0 ++ 32 :: (Lib.decDigits r ++ 32 :: x2)) := by unfold Hid; rw [HSd0.out, (HRy.out rfl).1]
        have HSx : Hid (PrR w (w4.setCell ⟨w1.heap.size, 1, none⟩ (.int .u64 (r : Int)))) := HW4.out.set _ _ HS1.out _
        have HSp2 : Hid (PfxAt (w4.setCell ⟨w1.heap.size, 1, none⟩ (.int .u64 (r : Int))) w1.heap.size n r ⟨#[]⟩ 0) := pf_set1 HP4.out r
        have hgne : ¬ (w1.heap.size = g) := by have := HG.out; omega
        clear HRy
        go_wp2_with fail
        refine Calls.mono (HSp.out x2 47 HT.out _) ?_
        rintro e w5 ⟨⟨vQ, A', z', rfl, hls, hfr, hown⟩, hbw⟩
        have HW5 : Hid (PrR w w5) := HSx.out.next hbw
        have HP5 : Hid (PfxAt w5 w1.heap.size n (r : Int) ⟨#[]⟩ 0) := HSp2.out.kept hbw (lt_of_cell HSp2.out.c0)
        obtain ⟨adQ, cQ, rfl⟩ := slice_of_owns hown
        have HQl : Hid (∀ x ∈ A' ++ [z'], x.length ≤ 80) := fun x hx => Nat.le_trans (piece_len hls x hx) HT.out
        generalize hQ : A' ++ [z'] = Q at *
        have HQe : Hid (A' ++ [z'] = Q) := hQ
        have HQs : Hid (x2 = flat 47 A' ++ z' ∧ Free 47 Q) := ⟨hls, hfr⟩
        have h1Q : 0 < Q.length := by rw [← hQ]; simp
        obtain ⟨gq, rfl, hgq, hcq⟩ := row_at hown rfl h1Q
        have HCq : Hid (∀ j x, Q[j]? = some x → w5.cell? ⟨gq, j, none⟩ = some (.string ⟨x.toArray⟩)) := fun j x h => by
          obtain ⟨h1, h2⟩ := List.getElem?_eq_some_iff.1 h
          rw [hcq j h1, h2]
        have HGq : Hid (gq < w5.heap.size) := lt_of_cell (hcq 0 h1Q)
        have HHv : Hid (∀ n' r' b k, VP n' r' b k → k ≤ 128 → l = pfT n' r' b k → n' = n ∧ r' = r ∧ Q = [adT b, Lib.decDigits k]) := fun n' r' b k hv hk e => by
          obtain ⟨q1, q2, q3⟩ := HHead.out n' r' b k hv e
          have h3 : n' = n := by have := HN.out.1; omega
          subst h3
          obtain ⟨g1, g2⟩ := HRd.out n' r' b k hv e
          exact ⟨rfl, ((HRf.out r' (by have := hv.r64; omega) g1).1).symm, halves_of HQe.out HQs.out.1 HQs.out.2 hv.ad g2⟩
        clear hls hfr hown hbw hQ hgq hcq
        by_cases hlq : Q.length = 2
        · obtain ⟨h0, h1, rfl⟩ : ∃ h0 h1, Q = [h0, h1] := by
            match Q, hlq with
            | [a, b], _ => exact ⟨a, b, rfl⟩
          have e2 := HCq.out 0 h0 rfl
          have e3 := HCq.out 1 h1 rfl
          have HQd : Hid (x2 = h0 ++ 47 :: h1) := by
            have h := HQs.out.1
            rw [← join_flat, HQe.out] at h
            unfold Hid; rw [h]; simp [Lib.join_cons, Lib.joinTail]
          have HL0 : Hid (h0.length ≤ 80) := HQl.out h0 (by simp)
          have HL1 : Hid (h1.length ≤ 80) := HQl.out h1 (by simp)
          clear hlq h1Q
          go_wp2_with fail
          refine Calls.mono (HAd.out h0 HL0.out _) ?_
          rintro e w6 ⟨⟨oa, hoa, he⟩, hb6⟩
          have HW6 : Hid (PrR w w6) := HW5.out.next hb6
          have HP6 : Hid (PfxAt w6 w1.heap.size n (r : Int) ⟨#[]⟩ 0) := HP5.out.kept hb6 (lt_of_cell HP5.out.c0)
          have f3 := (hb6.cell (p := ⟨gq, 1, none⟩) HGq.out).trans e3
          have HOa : Hid (AdP oa h0) := hoa
          obtain ⟨b, ee, he2, HEO⟩ : ∃ (b : ByteArray) (ee : Int), adV oa = .tuple #[.string b, .int .i64 ee] ∧ Hid ((oa = some b ∧ ee = 0) ∨ (oa = none ∧ ee = 4 ∧ b = ⟨#[]⟩)) := by
            cases oa with
            | some b => exact ⟨b, 0, rfl, Or.inl ⟨rfl, rfl⟩⟩
            | none => exact ⟨⟨#[]⟩, 4, rfl, Or.inr ⟨rfl, rfl, rfl⟩⟩
          rw [he2] at he
          obtain rfl := he
          clear he2 hoa hb6 e2 e3
          go_wp2_with fail
          refine Calls.mono (HR8.out h1 HL1.out _) ?_
          rintro e w7 ⟨k, ok, hk64, rfl, hb7, hyes, hfull⟩
          have HW7 : Hid (PrR w w7) := HW6.out.next hb7
          have HP7 : Hid (PfxAt w7 w1.heap.size n (r : Int) ⟨#[]⟩ 0) := HP6.out.kept hb7 (lt_of_cell HP6.out.c0)
          have HY : Hid (ok = true → h1 = Lib.decDigits k ∧ k ≤ 128) := hyes
          have HF : Hid (∀ u, u ≤ 128 → h1 = Lib.decDigits u → k = u ∧ ok = true) := hfull
          obtain ⟨kw, hkw⟩ : ∃ kw, IntKind.i64.wrap (k : Int) = kw := ⟨_, rfl⟩
          have HKw : Hid (k ≤ 128 → kw = k) := fun h => by rw [← hkw, IntKind.wrap_i64]; omega
          obtain ⟨c0, c1, c2, c3, q0, q1, q2, q3⟩ := HP7.out
          obtain ⟨d0, d1, d2, d3, g0, g1, g2, g3⟩ := HW7.out.r
          have hs7 : w1.heap.size < w7.heap.size := lt_of_cell c0
          have hs8 := HS1.out
          have hne5 : ¬ (w1.heap.size = w.heap.size) := by omega
          have hs9 : w.heap.size < w7.heap.size := lt_of_cell d0
          clear hb7 hyes hfull f3 hk64
          rcases HEO.out with ⟨rfl, rfl⟩ | ⟨rfl, rfl, rfl⟩
          · have had : b.size = 4 ∨ b.size = 16 := (HOa.out.sound b rfl).1
            have HAdb : Hid (h0 = adT b) := (HOa.out.sound b rfl).2
            cases ok with
            | false =>
              have HNx : Hid (PfP none l) := pfP_no fun n' r' b' k' hv hk e => by
                obtain ⟨_, _, q⟩ := HHv.out n' r' b' k' hv hk e
                simp only [List.cons.injEq, and_true] at q
                have := (HF.out k' hk q.2).2
                cases this
              clear HY HF HEO had
              go_wp2
              refine bodyPost_ret (v := .tuple #[.agg #[.int .i64 0, .int .u64 0, .string ⟨#[]⟩, .int .i64 0], .int .i64 4]) (by simp [results, Tryd.results25, go_sem, World.cell?_setCell_other, hne5, d0, d1, d2, d3]) rfl ⟨paNo HNx.out, ?_⟩
              exact (((((HW7.out.b.setCell (by simp; omega) _).setCell (by simp; omega) _).setCell (by simp) _).setCell (by simp) _).setCell (by simp) _).setCell (by simp) _
            | true =>
              obtain ⟨hk1, hk2⟩ := HY.out rfl
              obtain rfl : kw = k := HKw.out hk2
              have HV : Hid (VP n r b k ∧ l = pfT n r b k) := ⟨⟨HN.out.2.2.1, HN.out.2.2.2, fun h => absurd h HHigh.out, had, by omega, HRl.out⟩, by
                rw [pfT_high HHigh.out, HSd.out, HN.out.2.1, HQd.out, HAdb.out, hk1]⟩
              have hm := HMy.out n (r : Int) b k (by unfold maxLen; rcases had with e | e <;> omega)
              clear HY HF HEO had hk1 hk2 HKw
              by_cases hc : chk n (r : Int) b k = 0
              · rw [decide_eq_true hc] at hm
                have HM : Hid (∀ W, _) := hm
                have HPs : Hid (PfP (some ((n : Int), r, b, (k : Int))) l) := pfP_some HV.out.1 HV.out.2 hc
                clear hm hc HV
                go_wp2_with fail
                refine Calls.mono (HM.out _) ?_
                rintro e w8 ⟨rfl, hb8⟩
                have HX8 : Hid (PrR w ((w7.setCell ⟨w1.heap.size, 2, none⟩ (.string b)).setCell ⟨w1.heap.size, 3, none⟩ (.int .i64 (k : Int)))) := (HW7.out.set _ _ hs8 _).set _ _ hs8 _
                have HY8 : Hid (PfxAt ((w7.setCell ⟨w1.heap.size, 2, none⟩ (.string b)).setCell ⟨w1.heap.size, 3, none⟩ (.int .i64 (k : Int))) w1.heap.size n (r : Int) b k) := pf_set3 (pf_set2 HP7.out b) k
                have HW8 : Hid (PrR w w8) := HX8.out.next hb8
                have HP8' : Hid (PfxAt w8 w1.heap.size n (r : Int) b k) := HY8.out.kept hb8 (by simpa using hs7)
                clear c0 c1 c2 c3 q0 q1 q2 q3 d0 d1 d2 d3 g0 g1 g2 g3 hb8
                obtain ⟨c0, c1, c2, c3, q0, q1, q2, q3⟩ := HP8'.out
                obtain ⟨d0, d1, d2, d3, g0, g1, g2, g3⟩ := HW8.out.r
                go_wp2
                refine bodyPost_ret (v := .tuple #[.agg #[.int .i64 (n : Int), .int .u64 (r : Int), .string b, .int .i64 (k : Int)], .int .i64 0]) (by simp [results, Tryd.results25, go_sem, d0, d1, d2, d3]) rfl ⟨⟨_, HPs.out, rfl⟩, ?_⟩
                exact (((HW8.out.b.setCell (by simp) _).setCell (by simp) _).setCell (by simp) _).setCell (by simp) _
              · rw [decide_eq_false hc] at hm
                have HM : Hid (∀ W, _) := hm
                have HNx : Hid (PfP none l) := pfP_bad HV.out.1 HV.out.2 hc
                clear hm hc HV
                go_wp2_with fail
                refine Calls.mono (HM.out _) ?_
                rintro e w8 ⟨rfl, hb8⟩
                have HX8 : Hid (PrR w ((w7.setCell ⟨w1.heap.size, 2, none⟩ (.string b)).setCell ⟨w1.heap.size, 3, none⟩ (.int .i64 (k : Int)))) := (HW7.out.set _ _ hs8 _).set _ _ hs8 _
                have HW8 : Hid (PrR w w8) := HX8.out.next hb8
                clear c0 c1 c2 c3 q0 q1 q2 q3 d0 d1 d2 d3 g0 g1 g2 g3 hb8
                obtain ⟨d0, d1, d2, d3, g0, g1, g2, g3⟩ := HW8.out.r
                go_wp2
                refine bodyPost_ret (v := .tuple #[.agg #[.int .i64 0, .int .u64 0, .string ⟨#[]⟩, .int .i64 0], .int .i64 4]) (by simp [results, Tryd.results25, go_sem, d0, d1, d2, d3]) rfl ⟨paNo HNx.out, ?_⟩
                exact (((HW8.out.b.setCell (by simp) _).setCell (by simp) _).setCell (by simp) _).setCell (by simp) _
          · have HNx : Hid (PfP none l) := pfP_no fun n' r' b' k' hv hk e => by
              obtain ⟨_, _, q⟩ := HHv.out n' r' b' k' hv hk e
              simp only [List.cons.injEq, and_true] at q
              have := HOa.out.full b' hv.ad q.1
              cases this
            clear HY HF HEO
            go_wp2
            refine bodyPost_ret (v := .tuple #[.agg #[.int .i64 0, .int .u64 0, .string ⟨#[]⟩, .int .i64 0], .int .i64 4]) (by simp [results, Tryd.results25, go_sem, World.cell?_setCell_other, hne5, d0, d1, d2, d3]) rfl ⟨paNo HNx.out, ?_⟩
            exact (((((HW7.out.b.setCell (by simp; omega) _).setCell (by simp; omega) _).setCell (by simp) _).setCell (by simp) _).setCell (by simp) _).setCell (by simp) _
        · have hq2 : ((Q.length : Int) != 2) = true := by simp; omega
          have HNx : Hid (PfP none l) := pfP_no fun n' r' b k hv hk e => by
            obtain ⟨_, _, q⟩ := HHv.out n' r' b k hv hk e
            rw [q] at hlq
            exact hlq rfl
          clear hlq
          obtain ⟨d0, d1, d2, d3, g0, g1, g2, g3⟩ := HW5.out.r
          go_wp2
          refine bodyPost_ret (v := .tuple #[.agg #[.int .i64 0, .int .u64 0, .string ⟨#[]⟩, .int .i64 0], .int .i64 4]) (by simp [results, Tryd.results25, go_sem, d0, d1, d2, d3]) rfl ⟨paNo HNx.out, ?_⟩
          exact (((HW5.out.b.setCell (by simp) _).setCell (by simp) _).setCell (by simp) _).setCell (by simp) _
    · by_cases hl2 : P.length = 2
      · have e2 : ((P.length : Int) != 2) = false := by simp; omega
        have e3 : ((P.length : Int) != 3) = true := by simp; omega
        rw [show decide ((4 : Int) ≤ (n : Int)) = true by simp; omega] at hap
        have HAp2 : Hid (∀ W, _) := hap
        have HNx : Hid (PfP none l) := HMis.out (fun h => absurd h h4) (fun _ => hl3)
        clear hl2 h4 hl3
        clear hap HMis
        go_wp2_with fail
        generalize w1.alloc (.cells #[.int .i64 (n : Int), .int .u64 0, .string ⟨#[]⟩, .int .i64 0] 24) = wa at *
        have p0 := HP2.out.c0
        refine (HAp2.out _).mono ?_
        rintro e w' ⟨rfl, hw'⟩
        subst w'
        try (go_wp2_with fail; refine (HAp2.out _).mono ?_; rintro e w2 ⟨rfl, hw2⟩; subst w2)
        obtain ⟨d0, d1, d2, d3, g0, g1, g2, g3⟩ := HW2.out.r
        have hdz : w.heap.size < wa.heap.size := lt_of_cell d0
        go_wp2
        refine bodyPost_ret (v := .tuple #[.agg #[.int .i64 0, .int .u64 0, .string ⟨#[]⟩, .int .i64 0], .int .i64 4]) (by simp [results, Tryd.results25, go_sem, d0, d1, d2, d3]) rfl ⟨paNo HNx.out, ?_⟩
        exact (((HW2.out.b.setCell (by simp) _).setCell (by simp) _).setCell (by simp) _).setCell (by simp) _
      · have e2 : ((P.length : Int) != 2) = true := by simp; omega
        have e3 : ((P.length : Int) != 3) = true := by simp; omega
        rw [show decide ((4 : Int) ≤ (n : Int)) = true by simp; omega] at hap
        have HAp2 : Hid (∀ W, _) := hap
        have HNx : Hid (PfP none l) := HMis.out (fun h => absurd h h4) (fun _ => hl3)
        clear hl2 h4 hl3
        clear hap HMis
        go_wp2_with fail
        generalize w1.alloc (.cells #[.int .i64 (n : Int), .int .u64 0, .string ⟨#[]⟩, .int .i64 0] 24) = wa at *
        have p0 := HP2.out.c0
        refine (HAp2.out _).mono ?_
        rintro e w' ⟨rfl, hw'⟩
        subst w'
        go_wp2_with fail
        refine (HAp2.out _).mono ?_
        rintro e w2 ⟨rfl, hw2⟩
        subst w2
        obtain ⟨d0, d1, d2, d3, g0, g1, g2, g3⟩ := HW2.out.r
        have hdz : w.heap.size < wa.heap.size := lt_of_cell d0
        go_wp2
        refine bodyPost_ret (v := .tuple #[.agg #[.int .i64 0, .int .u64 0, .string ⟨#[]⟩, .int .i64 0], .int .i64 4]) (by simp [results, Tryd.results25, go_sem, d0, d1, d2, d3]) rfl ⟨paNo HNx.out, ?_⟩
        exact (((HW2.out.b.setCell (by simp) _).setCell (by simp) _).setCell (by simp) _).setCell (by simp) _
theorem rparse_any (l : List UInt8) (w : World) : Calls Tryd.prog 25 #[.string ⟨l.toArray⟩] w fun e w' => PaAns l e ∧ Below w.heap.size w w' := by
  by_cases h : l.length ≤ 80
  · exact rparse_short l h w
  · exact rparse_long l (by omega) w
end Go.Proofs.YtkgedoedojkdkaaDoor
set_option linter.unusedVariables false
set_option linter.unusedSimpArgs false
set_option maxRecDepth 100000
namespace Go.Proofs.YtkgedoedojkdkaaDoor
open Go.RowKit
theorem raddr_full (s : ByteArray) (hs : s.size ≤ maxLen) (w : World) : Calls Tryd.prog 29 #[.string s] w fun e w' => e = .returned (.tuple #[.string ⟨(adT s).toArray⟩, .int .i64 (adE s)]) ∧ Below w.heap.size w w' := by
  by_cases h4 : s.size = 4 ∨ s.size = 16
  · have hE : adE s = 0 := by unfold adE isAd; rcases h4 with h | h <;> simp [h]
    rw [hE]
    exact raddr_any s h4 w
  · have hE : adE s = 2 := by unfold adE isAd; simp; omega
    have hT : adT s = [] := by unfold adT; rw [if_neg (by omega), if_neg (by omega)]
    rw [hE, hT]
    have q4 : ((s.size : Int) == 4) = false := by rw [beq_eq_false_iff_ne]; omega
    have q16 : ((s.size : Int) == 16) = false := by rw [beq_eq_false_iff_ne]; omega
    unfold maxLen at hs
    clear h4 hE hT
    go_enter Tryd.func29, Tryd.ntmps29
    go_wp2
    go_ret2
    exact ⟨rfl, Below.refl _ _⟩
set_option maxHeartbeats 4000000 in
theorem reads_walk (s t : List UInt8) (b : ByteArray) (hs : s.length < 140737488351233) (ht : t.length < 140737488351233) (hb : b.size ≤ maxLen) (w : World) (hE : EnvE w) :
    Calls Tryd.prog 5 #[.string ⟨s.toArray⟩, .string ⟨t.toArray⟩, .string b] w fun e w' => e = .returned (.bool true) ∧ Below w.heap.size w w' := by
  have H24 : Hid (∀ W, EnvE W → _) := fun W h => parse_any s hs W h
  have H25 : Hid (∀ W, _) := fun W => rparse_any s W
  have H26 : Hid (∀ W, EnvE W → _) := fun W h => addrL t ht W h
  have H27 : Hid (∀ W, _) := fun W => raddrL ⟨t.toArray⟩ (by rw [lst_size]; unfold maxLen; omega) W
  have H28 : Hid (∀ W, EnvT W → _) := fun W h => addrText_any b W h hb
  have H29 : Hid (∀ W, _) := fun W => raddr_full b hb W
  have H19 : Hid (∀ W, Tabs W → _) := fun W h => works_any W h
  have HE : Hid (EnvE w) := hE
  generalize adT b = tb at *
  generalize adE b = eb at *
  clear hE hs ht hb
  go_enter Tryd.func5, Tryd.ntmps5
  go_wp2_with fail
  refine Calls.mono (H24.out _ HE.out) ?_
  rintro e w1 ⟨⟨o, ho, he⟩, hb1⟩
  obtain ⟨f, r, x, k, ee, hv⟩ : ∃ (f r : Int) (x : ByteArray) (k ee : Int), pfV o = .tuple #[.agg #[.int .i64 f, .int .u64 r, .string x, .int .i64 k], .int .i64 ee] := by
    cases o with
    | some q => obtain ⟨f, r, x, k⟩ := q; exact ⟨f, r, x, k, 0, rfl⟩
    | none => exact ⟨0, 0, ⟨#[]⟩, 0, 4, rfl⟩
  have HV : Hid (pfV o = _) := hv
  have HOo : Hid (PfP o s) := ho
  rw [hv] at he
  obtain rfl := he
  have HB1 : Hid (Below w.heap.size w w1) := hb1
  have HE1 : Hid (EnvE w1) := HE.out.below hb1
  have HP1 : Hid (PfxAt _ _ _ _ _ _) := PfxAt.of_alloc w1 _ f r x k rfl
  have HA1 : Hid (Below w1.heap.size w1 (w1.alloc (.cells #[.int .i64 f, .int .u64 r, .string x, .int .i64 k] 24))) := (Below.refl _ _).alloc (Nat.le_refl _) _
  clear hb1 hv ho HE
  go_wp2_with fail
  refine Calls.mono (H25.out _) ?_
  rintro e w2 ⟨⟨o', ho', he⟩, hb2⟩
  obtain rfl := HOo.out.one ho'
  rw [HV.out] at he
  obtain rfl := he
  have HW2 : Hid (Below w1.heap.size w1 w2) := HA1.out.trans (hb2.mono HA1.out.size)
  have HP2 : Hid (PfxAt w2 w1.heap.size f r x k) := HP1.out.kept hb2 (by simp)
  have HE2 : Hid (EnvE w2) := HE1.out.below HW2.out
  have HQ2 : Hid (PfxAt _ _ _ _ _ _) := PfxAt.of_alloc w2 _ f r x k rfl
  have HA2 : Hid (Below w2.heap.size w2 (w2.alloc (.cells #[.int .i64 f, .int .u64 r, .string x, .int .i64 k] 24))) := (Below.refl _ _).alloc (Nat.le_refl _) _
  obtain ⟨c0, c1, c2, c3, _, _, _, _⟩ := HP2.out
  have hs2 : w1.heap.size < w2.heap.size := lt_of_cell c0
  clear hb2 ho' HOo HV HP1 HA1 HE1
  go_wp2_with fail
  refine Calls.mono (H26.out _ (HE2.out.below HA2.out)) ?_
  rintro e w3 ⟨⟨oa, hoa, he⟩, hb3⟩
  obtain ⟨y, ey, hv⟩ : ∃ (y : ByteArray) (ey : Int), adV oa = .tuple #[.string y, .int .i64 ey] := by
    cases oa with
    | some q => exact ⟨q, 0, rfl⟩
    | none => exact ⟨⟨#[]⟩, 4, rfl⟩
  have HV : Hid (adV oa = _) := hv
  have HOa : Hid (AdP oa t) := hoa
  rw [hv] at he
  obtain rfl := he
  have HW3 : Hid (Below w2.heap.size w2 w3) := HA2.out.trans (hb3.mono HA2.out.size)
  have HE3 : Hid (EnvE w3) := HE2.out.below HW3.out
  clear hb3 hv hoa HE2 HA2 HP2 HQ2 c0 c1 c2 c3 hs2
  go_wp2_with fail
  refine Calls.mono (H27.out _) ?_
  rintro e w4 ⟨⟨oa', hoa', he⟩, hb4⟩
  obtain rfl := HOa.out.one hoa'
  rw [HV.out] at he
  obtain rfl := he
  have HB4 : Hid (Below w.heap.size w w4) := (HB1.out.trans ((HW2.out.trans (HW3.out.mono HW2.out.size)).mono HB1.out.size)).trans (hb4.mono (Nat.le_trans HB1.out.size (Nat.le_trans HW2.out.size HW3.out.size)))
  have HE4 : Hid (EnvE w4) := HE3.out.below hb4
  clear hb4 hoa' HOa HV HE3 HB1 HW2 HW3
  go_wp2_with fail
  refine Calls.mono (H28.out _ HE4.out.t) ?_
  rintro e w5 ⟨rfl, hb5⟩
  have HB5 : Hid (Below w.heap.size w w5) := HB4.out.trans (hb5.mono HB4.out.size)
  have HE5 : Hid (EnvE w5) := HE4.out.below hb5
  clear hb5 HE4 HB4
  go_wp2_with fail
  refine Calls.mono (H29.out _) ?_
  rintro e w6 ⟨rfl, hb6⟩
  have HB6 : Hid (Below w.heap.size w w6) := HB5.out.trans (hb6.mono HB5.out.size)
  have HE6 : Hid (EnvE w6) := HE5.out.below hb6
  clear hb6 HE5 HB5
  go_wp2_with fail
  refine Calls.mono (H19.out _ HE6.out.t.t) ?_
  rintro e w7 ⟨rfl, hb7⟩
  go_wp2
  go_ret
  exact ⟨rfl, HB6.out.trans (hb7.mono HB6.out.size)⟩
end Go.Proofs.YtkgedoedojkdkaaDoor
