/-
  ReachTakes: the walk, for values of at most 2000000 bytes.
-/
import Derived.Test.YtjliopclpjeieaaDoorFVY
import Derived.Test.YtjliopclpjeieaaDoorFF
import Derived.Test.YtjliopclpjeieaaDoorHS
namespace Go.Proofs.YtjliopclpjeieaaDoor
open Go.RowKit
theorem sameL_self' (A : List Nl) : sameL A A = true := sameL_yes rfl fun _ _ _ => (eqN_iff _ _).2 rfl
/-- What Take answers, as one form. -/
def fU (x : Except Int (Int × List UInt8 × List Nl)) : Int := match x with | .error _ => 0 | .ok (f, _, _) => f
def nU (x : Except Int (Int × List UInt8 × List Nl)) : List UInt8 := match x with | .error _ => [] | .ok (_, n, _) => n
def rU (x : Except Int (Int × List UInt8 × List Nl)) : List Nl := match x with | .error _ => [] | .ok (_, _, R) => R
def eU (x : Except Int (Int × List UInt8 × List Nl)) : Int := match x with | .error e => e | .ok _ => 0
def fG (x : Except Int (Int × List Nl)) : Int := match x with | .error _ => 0 | .ok (f, _) => f
def rG (x : Except Int (Int × List Nl)) : List Nl := match x with | .error _ => [] | .ok (_, R) => R
def eG (x : Except Int (Int × List Nl)) : Int := match x with | .error e => e | .ok _ => 0
theorem take_one {x : Except Int (Int × List UInt8 × List Nl)} {w : World} {e : Ending} {w' : World} (h : TakeOk8 x w e w') : ∃ ad c, e = .returned (.tuple #[.int .i64 (fU x), .string ⟨(nU x).toArray⟩, .slice ad (rU x).length c, .int .i64 (eU x)]) ∧ OwnN w' w.heap.size (.slice ad (rU x).length c) (rU x) ∧ Below w.heap.size w w' := by
  obtain ⟨hb, h⟩ := h
  cases x with
  | error er => exact ⟨none, 0, h, World.ownsRow_nil _ _ _ _, hb⟩
  | ok y =>
    obtain ⟨f, n, R⟩ := y
    obtain ⟨v, rfl, ho⟩ := h
    obtain ⟨ad, c, rfl⟩ := slice_of_owns ho
    exact ⟨ad, c, rfl, ho, hb⟩
theorem gone_one {x : Except Int (Int × List Nl)} {w : World} {e : Ending} {w' : World} (h : GoneOk x w e w') : ∃ ad c, e = .returned (.tuple #[.int .i64 (fG x), .slice ad (rG x).length c, .int .i64 (eG x)]) ∧ OwnN w' w.heap.size (.slice ad (rG x).length c) (rG x) ∧ Below w.heap.size w w' := by
  obtain ⟨hb, h⟩ := h
  cases x with
  | error er => exact ⟨none, 0, h, World.ownsRow_nil _ _ _ _, hb⟩
  | ok y =>
    obtain ⟨f, R⟩ := y
    obtain ⟨v, rfl, ho⟩ := h
    obtain ⟨ad, c, rfl⟩ := slice_of_owns ho
    exact ⟨ad, c, rfl, ho, hb⟩
theorem dec_len (f : Int) (add : Bool) : ∀ (n : Nat) (l : List UInt8) (R : List Nl), decI f add n l = some R → R.length ≤ n := by
  intro n
  induction n with
  | zero =>
    intro l R h
    unfold decI at h
    split at h
    · injection h with h; subst h; simp
    · cases h
  | succ n ih =>
    intro l R h
    unfold decI at h
    split at h
    · injection h with h; subst h; simp
    · split at h
      · cases hd : decI f add n (restI f add l) with
        | none => rw [hd] at h; cases h
        | some R' =>
          rw [hd] at h
          simp only [Option.map_some, Option.some.injEq] at h
          subst h
          have := ih _ _ hd
          simp; omega
      · cases h
theorem take_len (adds : List Int) (l : List UInt8) : (rU (tkI adds l)).length ≤ l.length := by
  unfold tkI
  split
  · simp [rU]
  · split
    · simp [rU]
    · split
      · cases h : lstI (tpF l) adds ((l.drop 3).drop (cntI (l.drop 3) + 2)) with
        | none => simp [rU]
        | some R =>
          have := dec_len _ _ _ _ _ h
          simp only [List.length_drop] at this
          simp only [rU]
          omega
      · simp [rU]
theorem gone_len (adds : List Int) (l : List UInt8) : (rG (tgI adds l)).length ≤ l.length := by
  unfold tgI
  split
  · simp [rG]
  · split
    · simp [rG]
    · cases h : lstI (tpF l) adds (l.drop 3) with
      | none => simp [rG]
      | some R =>
        have := dec_len _ _ _ _ _ h
        simp only [List.length_drop] at this
        simp only [rG]
        omega
theorem IntsAt.cut {w : World} {ad : Option Addr} {b off cap : Nat} {L : List Int} (had : ad = some ⟨b, off, none⟩ ∨ L.length = 0) (hcap : L.length ≤ cap) (hrow : ∀ j (h : j < L.length), w.cell? ⟨b, off + j, none⟩ = some (.int .i64 L[j])) (n : Nat) (hn : n ≤ L.length) : IntsAt w (.slice ad n cap) (L.take n) := by
  have hl : (L.take n).length = n := by rw [List.length_take]; omega
  refine ⟨ad, b, off, cap, by rw [hl], ?_, by rw [hl]; omega, fun j hj => ?_⟩
  · rcases had with h | h
    · exact Or.inl h
    · right; rw [hl]; omega
  · rw [List.getElem_take]
    exact hrow j (by rw [hl] at hj; omega)
set_option maxRecDepth 100000 in
set_option maxHeartbeats 6400000 in
theorem takes_walk (s : ByteArray) (v : Value) (L : List Int) (w : World) (hT : Tb w) (hs : s.data.toList.length ≤ 2000000) (hv : IntsAt w v L) : Calls Tryd.prog 5 #[.string s, v] w fun e w' => e = .returned (.bool true) ∧ Below w.heap.size w w' := by
  obtain ⟨ad, b0, off, cap, rfl, had, hcap, hrow⟩ := hv
  obtain ⟨n, hn⟩ : ∃ n, n = min L.length 50 := ⟨_, rfl⟩
  have hmin : min (L.length : Int) 50 = (n : Int) := by omega
  have hnL : n ≤ L.length := by omega
  have hn50 : n ≤ 50 := by omega
  have hI : IntsAt w (.slice ad n cap) (L.take n) := IntsAt.cut had hcap hrow n hnL
  have hal : (L.take n).length ≤ 1000000000 := by rw [List.length_take]; omega
  have hnc : n ≤ cap := by omega
  have hnc' : (n : Int) ≤ cap := by omega
  have hcapI : (L.length : Int) ≤ cap := by omega
  have HI : Hid (IntsAt w (.slice ad n cap) (L.take n)) := hI
  have HT : Hid (Tb w) := hT
  have KT : Hid (∀ W, Below w.heap.size w W → Calls Tryd.prog 20 #[.string s, .slice ad n cap] W fun e w' => ∃ ad c, e = .returned (.tuple #[.int .i64 (fU (tkI (L.take n) s.data.toList)), .string ⟨(nU (tkI (L.take n) s.data.toList)).toArray⟩, .slice ad (rU (tkI (L.take n) s.data.toList)).length c, .int .i64 (eU (tkI (L.take n) s.data.toList))]) ∧ OwnN w' W.heap.size (.slice ad (rU (tkI (L.take n) s.data.toList)).length c) (rU (tkI (L.take n) s.data.toList)) ∧ Below W.heap.size W w') := fun W hW => (take_any8 s.data.toList _ _ W (HT.out.below hW).sizes (HI.out.below hW) hal hs).mono fun e w' h => take_one h
  have KR : Hid (∀ W, Below w.heap.size w W → Calls Tryd.prog 21 #[.string s, .slice ad n cap] W fun e w' => ∃ ad c, e = .returned (.tuple #[.int .i64 (fU (tkI (L.take n) s.data.toList)), .string ⟨(nU (tkI (L.take n) s.data.toList)).toArray⟩, .slice ad (rU (tkI (L.take n) s.data.toList)).length c, .int .i64 (eU (tkI (L.take n) s.data.toList))]) ∧ OwnN w' W.heap.size (.slice ad (rU (tkI (L.take n) s.data.toList)).length c) (rU (tkI (L.take n) s.data.toList)) ∧ Below W.heap.size W w') := fun W hW => (rtake_any s.data.toList _ _ W (HI.out.below hW) hal hs).mono fun e w' h => take_one h
  have KG : Hid (∀ W, Below w.heap.size w W → Calls Tryd.prog 23 #[.string s, .slice ad n cap] W fun e w' => ∃ ad c, e = .returned (.tuple #[.int .i64 (fG (tgI (L.take n) s.data.toList)), .slice ad (rG (tgI (L.take n) s.data.toList)).length c, .int .i64 (eG (tgI (L.take n) s.data.toList))]) ∧ OwnN w' W.heap.size (.slice ad (rG (tgI (L.take n) s.data.toList)).length c) (rG (tgI (L.take n) s.data.toList)) ∧ Below W.heap.size W w') := fun W hW => (takeGone_any s.data.toList _ _ W (HT.out.below hW).sizes (HI.out.below hW) hal hs).mono fun e w' h => gone_one h
  have KH : Hid (∀ W, Below w.heap.size w W → Calls Tryd.prog 24 #[.string s, .slice ad n cap] W fun e w' => ∃ ad c, e = .returned (.tuple #[.int .i64 (fG (tgI (L.take n) s.data.toList)), .slice ad (rG (tgI (L.take n) s.data.toList)).length c, .int .i64 (eG (tgI (L.take n) s.data.toList))]) ∧ OwnN w' W.heap.size (.slice ad (rG (tgI (L.take n) s.data.toList)).length c) (rG (tgI (L.take n) s.data.toList)) ∧ Below W.heap.size W w') := fun W hW => (rtakeGone_any s.data.toList _ _ W (HI.out.below hW) hal hs).mono fun e w' h => gone_one h
  have hr1 : (rU (tkI (L.take n) s.data.toList)).length ≤ 2000000 := Nat.le_trans (take_len _ _) hs
  have hr2 : (rG (tgI (L.take n) s.data.toList)).length ≤ 2000000 := Nat.le_trans (gone_len _ _) hs
  generalize fU (tkI (L.take n) s.data.toList) = f1 at *
  generalize (⟨(nU (tkI (L.take n) s.data.toList)).toArray⟩ : ByteArray) = n1 at *
  generalize eU (tkI (L.take n) s.data.toList) = e1 at *
  generalize rU (tkI (L.take n) s.data.toList) = R1 at *
  generalize fG (tgI (L.take n) s.data.toList) = f2 at *
  generalize eG (tgI (L.take n) s.data.toList) = e2 at *
  generalize rG (tgI (L.take n) s.data.toList) = R2 at *
  have KS : Hid (∀ W va vb R, R.length ≤ 2000000 → NlsAt W va R → NlsAt W vb R → Calls Tryd.prog 22 #[va, vb] W fun e w' => e = .returned (.bool true) ∧ Below W.heap.size W w') := fun W va vb R hR ha hb => by
    have k := same22_any va vb R R W ha hb (by omega)
    rw [sameL_self'] at k
    exact k
  clear hn hI hal hT hrow had hs
  go_enter Tryd.func5, Tryd.ntmps5
  go_wp2_with fail
  refine Calls.mono (KT.out w (Below.refl _ _)) ?_
  rintro e w1 ⟨ad1, c1, rfl, ho1, hb1⟩
  have HO1 : Hid (OwnN w1 w.heap.size (.slice ad1 R1.length c1) R1) := ho1
  have HB1 : Hid (Below w.heap.size w w1) := hb1
  clear ho1 hb1
  go_wp2_with fail
  refine Calls.mono (KR.out w1 HB1.out) ?_
  rintro e w2 ⟨ad2, c2, rfl, ho2, hb2⟩
  have HO2 : Hid (OwnN w2 w1.heap.size (.slice ad2 R1.length c2) R1) := ho2
  have HB2 : Hid (Below w.heap.size w w2) := HB1.out.trans (hb2.mono HB1.out.size)
  have HO12 : Hid (OwnN w2 w.heap.size (.slice ad1 R1.length c1) R1) := owns_below HO1.out hb2
  have HS12 : Hid (w1.heap.size ≤ w2.heap.size) := hb2.size
  clear ho2 hb2 KR
  go_wp2_with fail
  refine Calls.mono (KS.out w2 _ _ R1 hr1 (OwnN.at HO12.out) (OwnN.at HO2.out)) ?_
  rintro e w3 ⟨rfl, hb3⟩
  have HB3 : Hid (Below w.heap.size w w3) := HB2.out.trans (hb3.mono HB2.out.size)
  have HO13 : Hid (OwnN w3 w.heap.size (.slice ad1 R1.length c1) R1) := owns_below HO12.out hb3
  have HO23 : Hid (OwnN w3 w1.heap.size (.slice ad2 R1.length c2) R1) := owns_below HO2.out hb3
  clear hb3 HO12 HO2
  go_wp2
  rcases HO13.out.2 with ⟨hv, h0⟩ | ⟨g, cap', cur, hv, hg, hh, hc, hm, hs, ht⟩
  · simp only [Value.slice.injEq] at hv
    obtain ⟨rfl, _, rfl⟩ := hv
    obtain rfl : R1 = [] := List.length_eq_zero_iff.mp h0
    simp only [List.length_nil] at *
    go_loopw [13] (fun i wr => i = .int .i64 0 ∧ w3 = wr) (fun _ _ => 0)
    case atStart => exact ⟨rfl, rfl⟩
    case round =>
      obtain ⟨rfl, hwr⟩ := hrel
      have HBr : Hid (Below w.heap.size w wr) := by unfold Hid; rw [← hwr]; exact HB3.out
      have HO2r : Hid (OwnN wr w1.heap.size (.slice ad2 ([] : List Nl).length c2) []) := by unfold Hid; rw [← hwr]; exact HO23.out
      clear hwr HO13 HO23
      go_wp2_with fail
      refine Calls.mono (KG.out wr HBr.out) ?_
      rintro e w5 ⟨ad5, c5, rfl, ho5, hb5⟩
      have HO5 : Hid (OwnN w5 wr.heap.size (.slice ad5 R2.length c5) R2) := ho5
      have HB5 : Hid (Below w.heap.size w w5) := HBr.out.trans (hb5.mono HBr.out.size)
      have HO25 : Hid (OwnN w5 w1.heap.size (.slice ad2 0 c2) []) := owns_below HO2r.out hb5
      clear ho5 hb5 HO2r KG
      go_wp2_with fail
      refine Calls.mono (KH.out w5 HB5.out) ?_
      rintro e w6 ⟨ad6, c6, rfl, ho6, hb6⟩
      have HO6 : Hid (OwnN w6 w5.heap.size (.slice ad6 R2.length c6) R2) := ho6
      have HB6 : Hid (Below w.heap.size w w6) := HB5.out.trans (hb6.mono HB5.out.size)
      have HO56 : Hid (OwnN w6 wr.heap.size (.slice ad5 R2.length c5) R2) := owns_below HO5.out hb6
      have HO26 : Hid (OwnN w6 w1.heap.size (.slice ad2 0 c2) []) := owns_below HO25.out hb6
      clear ho6 hb6 HO5 HO25 KH
      go_wp2_with fail
      refine Calls.mono (KS.out w6 _ _ R2 hr2 (OwnN.at HO56.out) (OwnN.at HO6.out)) ?_
      rintro e w7 ⟨rfl, hb7⟩
      have HB7 : Hid (Below w.heap.size w w7) := HB6.out.trans (hb7.mono HB6.out.size)
      have HO27 : Hid (OwnN w7 w1.heap.size (.slice ad2 0 c2) []) := owns_below HO26.out hb7
      clear hb7 HO56 HO6 HO26
      go_wp2_with fail
      refine Calls.mono (KT.out w7 HB7.out) ?_
      rintro e w8 ⟨ad8, c8, rfl, ho8, hb8⟩
      have HO8 : Hid (OwnN w8 w7.heap.size (.slice ad8 0 c8) []) := ho8
      have HB8 : Hid (Below w.heap.size w w8) := HB7.out.trans (hb8.mono HB7.out.size)
      have HO28 : Hid (OwnN w8 w1.heap.size (.slice ad2 0 c2) []) := owns_below HO27.out hb8
      clear ho8 hb8 HO27 KT
      go_wp2_with fail
      refine Calls.mono (KS.out w8 _ _ [] (by simp) (OwnN.at HO8.out) (OwnN.at HO28.out)) ?_
      rintro e w9 ⟨rfl, hb9⟩
      have HB9 : Hid (Below w.heap.size w w9) := HB8.out.trans (hb9.mono HB8.out.size)
      clear hb9 HO8 HO28 KS
      go_wp2_with fail
      refine (works_any w9 (HT.out.below HB9.out)).mono ?_
      rintro e w10 ⟨rfl, hb10⟩
      go_wp2
      go_ret
      exact ⟨rfl, HB9.out.trans (hb10.mono HB9.out.size)⟩
  · simp only [Value.slice.injEq] at hv
    obtain ⟨rfl, _, rfl⟩ := hv
    have hgl : g < w1.heap.size := by
      have k := (owns_lt HO1.out g rfl).2
      exact k
    have HROW0 : Hid (w3.heap[g]? = some (.cells cur 46 (0, 0))) := hh
    have HCU : Hid (cur.size = c1 * 6) := hs
    have HGB : Hid (w.heap.size ≤ g) := hg
    have hc' : R1.length ≤ c1 := hc
    clear hh hs hg hm ht hc HO13
    go_loopw [13] (fun i wr => ∃ (j : Nat) (cu : Array Value), i = .int .i64 (j : Int) ∧ j ≤ R1.length ∧ wr.heap[g]? = some (.cells cu 46 (0, 0)) ∧ cu.size = c1 * 6 ∧ Beside g w3 wr) (fun i _ => R1.length - (intOf i).toNat)
    case atStart => exact ⟨0, cur, rfl, Nat.zero_le _, HROW0.out, HCU.out, Beside.of_below (Below.refl _ _) (Nat.le_refl _)⟩
    case round =>
      obtain ⟨j, cu, rfl, hj, hrow, hcu, hbs⟩ := hrel
      have HROW : Hid (wr.heap[g]? = some (.cells cu 46 (0, 0))) := hrow
      have HBS : Hid (Beside g w3 wr) := hbs
      clear hrow hbs
      by_cases hlt : j < R1.length
      · have hlt2 : (j : Int) < R1.length := by omega
        have q0 : ∃ u, wr.cell? ⟨g, j * 6, none⟩ = some u := ⟨_, cl_row HROW.out (Array.getElem?_eq_getElem (by omega))⟩
        obtain ⟨u0', q0⟩ := q0
        have z0 : wr.frozen? ⟨g, j * 6, none⟩ = false := fz_row HROW.out
        have q1 : ∃ u, wr.cell? ⟨g, j * 6 + 1, none⟩ = some u := ⟨_, cl_row HROW.out (Array.getElem?_eq_getElem (by omega))⟩
        obtain ⟨u1', q1⟩ := q1
        have z1 : wr.frozen? ⟨g, j * 6 + 1, none⟩ = false := fz_row HROW.out
        have q2 : ∃ u, wr.cell? ⟨g, j * 6 + 2, none⟩ = some u := ⟨_, cl_row HROW.out (Array.getElem?_eq_getElem (by omega))⟩
        obtain ⟨u2', q2⟩ := q2
        have z2 : wr.frozen? ⟨g, j * 6 + 2, none⟩ = false := fz_row HROW.out
        have q3 : ∃ u, wr.cell? ⟨g, j * 6 + 3, none⟩ = some u := ⟨_, cl_row HROW.out (Array.getElem?_eq_getElem (by omega))⟩
        obtain ⟨u3', q3⟩ := q3
        have z3 : wr.frozen? ⟨g, j * 6 + 3, none⟩ = false := fz_row HROW.out
        have q4 : ∃ u, wr.cell? ⟨g, j * 6 + 4, none⟩ = some u := ⟨_, cl_row HROW.out (Array.getElem?_eq_getElem (by omega))⟩
        obtain ⟨u4', q4⟩ := q4
        have z4 : wr.frozen? ⟨g, j * 6 + 4, none⟩ = false := fz_row HROW.out
        have q5 : ∃ u, wr.cell? ⟨g, j * 6 + 5, none⟩ = some u := ⟨_, cl_row HROW.out (Array.getElem?_eq_getElem (by omega))⟩
        obtain ⟨u5', q5⟩ := q5
        have z5 : wr.frozen? ⟨g, j * 6 + 5, none⟩ = false := fz_row HROW.out
        have HNX : Hid (∃ cu' : Array Value, ((((((wr.setCell ⟨g, j * 6, none⟩ (.int .i64 0)).setCell ⟨g, j * 6 + 1, none⟩ (.int .u64 0)).setCell ⟨g, j * 6 + 2, none⟩ (.string ⟨#[]⟩)).setCell ⟨g, j * 6 + 3, none⟩ (.int .i64 0)).setCell ⟨g, j * 6 + 4, none⟩ (.int .u32 0)).setCell ⟨g, j * 6 + 5, none⟩ (.int .u32 0)).heap[g]? = some (.cells cu' 46 (0, 0)) ∧ cu'.size = c1 * 6) := ⟨_, (heap_setCell_same _ g (j * 6 + 5) _ 46 (.int .u32 0) (heap_setCell_same _ g (j * 6 + 4) _ 46 (.int .u32 0) (heap_setCell_same _ g (j * 6 + 3) _ 46 (.int .i64 0) (heap_setCell_same _ g (j * 6 + 2) _ 46 (.string ⟨#[]⟩) (heap_setCell_same _ g (j * 6 + 1) _ 46 (.int .u64 0) (heap_setCell_same _ g (j * 6) _ 46 (.int .i64 0) HROW.out)))))), by simp [hcu]⟩
        have HBN : Hid (Beside g w3 ((((((wr.setCell ⟨g, j * 6, none⟩ (.int .i64 0)).setCell ⟨g, j * 6 + 1, none⟩ (.int .u64 0)).setCell ⟨g, j * 6 + 2, none⟩ (.string ⟨#[]⟩)).setCell ⟨g, j * 6 + 3, none⟩ (.int .i64 0)).setCell ⟨g, j * 6 + 4, none⟩ (.int .u32 0)).setCell ⟨g, j * 6 + 5, none⟩ (.int .u32 0))) := ((((((HBS.out.trans (Beside.set _ (j * 6) (.int .i64 0))).trans (Beside.set _ (j * 6 + 1) (.int .u64 0))).trans (Beside.set _ (j * 6 + 2) (.string ⟨#[]⟩))).trans (Beside.set _ (j * 6 + 3) (.int .i64 0))).trans (Beside.set _ (j * 6 + 4) (.int .u32 0))).trans (Beside.set _ (j * 6 + 5) (.int .u32 0)))
        have HLN : Hid (j + 1 ≤ R1.length) := hlt
        clear hcu
        go_wp2
        obtain ⟨cu', hn1, hn2⟩ := HNX.out
        exact ⟨⟨j + 1, cu', by simp, HLN.out, hn1, hn2, HBN.out⟩, by simp [intOf]; omega⟩
      · obtain rfl : j = R1.length := by omega
        have HBr : Hid (Below w.heap.size w wr) := HB3.out.trans (HBS.out.below HGB.out HB3.out.size)
        have HO2r : Hid (OwnN wr w1.heap.size (.slice ad2 R1.length c2) R1) := owns_beside HO23.out HBS.out hgl
        clear HROW HBS HO23 hcu
        go_wp2_with fail
        refine Calls.mono (KG.out wr HBr.out) ?_
        rintro e w5 ⟨ad5, c5, rfl, ho5, hb5⟩
        have HO5 : Hid (OwnN w5 wr.heap.size (.slice ad5 R2.length c5) R2) := ho5
        have HB5 : Hid (Below w.heap.size w w5) := HBr.out.trans (hb5.mono HBr.out.size)
        have HO25 : Hid (OwnN w5 w1.heap.size (.slice ad2 R1.length c2) R1) := owns_below HO2r.out hb5
        clear ho5 hb5 HO2r KG
        go_wp2_with fail
        refine Calls.mono (KH.out w5 HB5.out) ?_
        rintro e w6 ⟨ad6, c6, rfl, ho6, hb6⟩
        have HO6 : Hid (OwnN w6 w5.heap.size (.slice ad6 R2.length c6) R2) := ho6
        have HB6 : Hid (Below w.heap.size w w6) := HB5.out.trans (hb6.mono HB5.out.size)
        have HO56 : Hid (OwnN w6 wr.heap.size (.slice ad5 R2.length c5) R2) := owns_below HO5.out hb6
        have HO26 : Hid (OwnN w6 w1.heap.size (.slice ad2 R1.length c2) R1) := owns_below HO25.out hb6
        clear ho6 hb6 HO5 HO25 KH
        go_wp2_with fail
        refine Calls.mono (KS.out w6 _ _ R2 hr2 (OwnN.at HO56.out) (OwnN.at HO6.out)) ?_
        rintro e w7 ⟨rfl, hb7⟩
        have HB7 : Hid (Below w.heap.size w w7) := HB6.out.trans (hb7.mono HB6.out.size)
        have HO27 : Hid (OwnN w7 w1.heap.size (.slice ad2 R1.length c2) R1) := owns_below HO26.out hb7
        clear hb7 HO56 HO6 HO26
        go_wp2_with fail
        refine Calls.mono (KT.out w7 HB7.out) ?_
        rintro e w8 ⟨ad8, c8, rfl, ho8, hb8⟩
        have HO8 : Hid (OwnN w8 w7.heap.size (.slice ad8 R1.length c8) R1) := ho8
        have HB8 : Hid (Below w.heap.size w w8) := HB7.out.trans (hb8.mono HB7.out.size)
        have HO28 : Hid (OwnN w8 w1.heap.size (.slice ad2 R1.length c2) R1) := owns_below HO27.out hb8
        clear ho8 hb8 HO27 KT
        go_wp2_with fail
        refine Calls.mono (KS.out w8 _ _ R1 hr1 (OwnN.at HO8.out) (OwnN.at HO28.out)) ?_
        rintro e w9 ⟨rfl, hb9⟩
        have HB9 : Hid (Below w.heap.size w w9) := HB8.out.trans (hb9.mono HB8.out.size)
        clear hb9 HO8 HO28 KS
        go_wp2_with fail
        refine (works_any w9 (HT.out.below HB9.out)).mono ?_
        rintro e w10 ⟨rfl, hb10⟩
        go_wp2
        go_ret
        exact ⟨rfl, HB9.out.trans (hb10.mono HB9.out.size)⟩
end Go.Proofs.YtjliopclpjeieaaDoor
