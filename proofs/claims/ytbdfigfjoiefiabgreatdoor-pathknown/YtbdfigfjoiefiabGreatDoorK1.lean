/-
  PathKnown answers true.
-/
import Derived.Test.YtbdfigfjoiefiabGreatDoorP1
set_option linter.unusedVariables false
set_option linter.unusedSimpArgs false
set_option maxRecDepth 100000
namespace Go.Proofs.YtbdfigfjoiefiabGreatDoor
open Go.RowKit
theorem fa {P : Sv → Prop} {x : Sv} {l : List Sv} (h : P x) (hl : ∀ r ∈ l, P r) : ∀ r ∈ x :: l, P r := fun r hr => by
  rcases List.mem_cons.1 hr with rfl | hr
  · exact h
  · exact hl r hr
theorem PathAt.slc {w : World} {v : Value} {L : List Sg} (h : PathAt w v L) : ∃ ad cap, v = .slice ad L.length cap := by
  obtain ⟨ad, _, _, cap, h, _⟩ := h
  exact ⟨ad, cap, h⟩
theorem strs_lit (w : World) (l : List (List UInt8)) (t : TypeId) : ∀ j (h : j < l.length), (w.alloc (.cells (l.map fun x => Value.string ⟨x.toArray⟩).toArray t)).cell? ⟨w.heap.size, j, none⟩ = some (.string ⟨(l[j]).toArray⟩) := fun j h =>
  cell_row (heap_new _ _) j _ (by simp [h])
theorem nil_len {w : World} {base : Nat} {v : Value} {R : List Sv} (h : OwnS w base v R) (hR : sgs R = []) : ∃ ad c, v = .slice ad 0 c := by
  obtain rfl : R = [] := by simpa [sgs] using hR
  obtain ⟨ad, c, e⟩ := slice_of_owns h.1
  exact ⟨ad, c, e⟩
theorem dec_nil (w : World) : Calls Tryz.prog 12 #[.string ⟨#[]⟩, .bool true] w fun e w' => (∃ ad c, e = .returned (.tuple #[.slice ad 0 c, .int .i64 0])) ∧ Below w.heap.size w w' :=
  (decode_any [] true w).mono fun e w' h => by
    rw [show decI (szN true) 16 [] = some [] from rfl] at h
    obtain ⟨hb, v, R, he, hR, ho⟩ := h
    obtain ⟨ad, c, rfl⟩ := nil_len ho hR
    exact ⟨⟨ad, c, he⟩, hb⟩
theorem parse_dash (w : World) (ht : Tabs w) (hm : MaxAt w) : Calls Tryz.prog 13 #[.string ⟨#[45]⟩] w fun e w' => (∃ ad c, e = .returned (.tuple #[.slice ad 0 c, .int .i64 0])) ∧ Below w.heap.size w w' :=
  (show Calls Tryz.prog 13 #[.string ⟨#[45]⟩] w _ from parse_text [] w rfl (fun s h => by cases h) ht hm).mono fun e w' h => by
    obtain ⟨hb, v, R, he, hR, ho⟩ := h
    obtain ⟨ad, c, rfl⟩ := nil_len ho hR
    exact ⟨⟨ad, c, he⟩, hb⟩
theorem zero17 (w : World) : PathAt (w.alloc (.cells (madeCells #[.int .i64 0, .slice none 0 0] 34) 24)) (.slice (some ⟨w.heap.size, 0, none⟩) 17 17) (List.replicate 17 ((0 : Int), [])) :=
  ⟨some ⟨w.heap.size, 0, none⟩, w.heap.size, 0, 17, by rw [List.length_replicate], Or.inl rfl, by rw [List.length_replicate]; omega, fun j hj => by
    rw [List.length_replicate] at hj
    rw [Nat.zero_add, List.getElem_replicate]
    have h1 : j * 2 < 34 := by omega
    have h2 : j * 2 + 1 < 34 := by omega
    have e : (j * 2 + 1) % 2 = 1 := by omega
    exact ⟨cell_row (heap_new _ _) _ _ (by simp [madeCells, h1]), _, cell_row (heap_new _ _) _ _ (by simp [madeCells, h2, e]), as_nil _⟩⟩
set_option maxHeartbeats 40000000 in
theorem known_walk (w : World) (ht : Tabs w) (hE : ErrsAt w) (hm : MaxAt w) : Calls Tryz.prog 3 #[] w fun e w' => e = .returned (.bool true) ∧ Below w.heap.size w w' := by
  have HT : Hid (Tabs w) := ht
  have HE : Hid (ErrsAt w) := hE
  have HM : Hid (MaxAt w) := hm
  have HB0 : Hid (Below w.heap.size w w) := Below.refl _ _
  clear ht hE hm
  go_enter Tryz.func3, Tryz.ntmps3
  go_wp2_with fail
  refine Calls.mono (seg_any 2 _ 2 2 _) ?_
  rintro e W1 ⟨rfl, hb⟩
  have hba : Below w.heap.size w (w.alloc (.cells (cellsU [1, 2]).toArray 26)) := (Below.refl _ _).alloc (Nat.le_refl _) _
  have hc : Below w.heap.size w W1 := hba.trans (hb.mono hba.size)
  have a1_n : Hid (ASAt W1 (.slice (some ⟨w.heap.size, 0, none⟩) 2 2) [1, 2]) := (as_lit w [1, 2] 26 (by decide) (by decide)).below hb
  have HB1 : Hid (Below w.heap.size w W1) := HB0.out.trans (hc.mono HB0.out.size)
  clear hb hba hc HB0
  go_wp2_with fail
  refine Calls.mono (seg_any 1 _ 2 2 _) ?_
  rintro e W2 ⟨rfl, hb⟩
  have hba : Below W1.heap.size W1 (W1.alloc (.cells (cellsU [3, 4]).toArray 26)) := (Below.refl _ _).alloc (Nat.le_refl _) _
  have hc : Below W1.heap.size W1 W2 := hba.trans (hb.mono hba.size)
  have a2_n : Hid (ASAt W2 (.slice (some ⟨W1.heap.size, 0, none⟩) 2 2) [3, 4]) := (as_lit W1 [3, 4] 26 (by decide) (by decide)).below hb
  have HB2 : Hid (Below w.heap.size w W2) := HB1.out.trans (hc.mono HB1.out.size)
  have a1_2 : Hid (_ : Prop) := ASAt.below a1_n.out hc
  clear hb hba hc HB1 a1_n
  go_wp2_with fail
  refine Calls.mono (seg_any 3 _ 1 1 _) ?_
  rintro e W3 ⟨rfl, hb⟩
  have hba : Below W2.heap.size W2 (W2.alloc (.cells (cellsU [5]).toArray 26)) := (Below.refl _ _).alloc (Nat.le_refl _) _
  have hc : Below W2.heap.size W2 W3 := hba.trans (hb.mono hba.size)
  have a3_n : Hid (ASAt W3 (.slice (some ⟨W2.heap.size, 0, none⟩) 1 1) [5]) := (as_lit W2 [5] 26 (by decide) (by decide)).below hb
  have HB3 : Hid (Below w.heap.size w W3) := HB2.out.trans (hc.mono HB2.out.size)
  have a1_3 : Hid (_ : Prop) := ASAt.below a1_2.out hc
  have a2_3 : Hid (_ : Prop) := ASAt.below a2_n.out hc
  clear hb hba hc HB2 a1_2 a2_n
  have hP : PathAt (W3.alloc (.cells #[.int .i64 2, .slice (some ⟨w.heap.size, 0, none⟩) 2 2, .int .i64 1, .slice (some ⟨W1.heap.size, 0, none⟩) 2 2, .int .i64 3, .slice (some ⟨W2.heap.size, 0, none⟩) 1 1] 24)) (.slice (some ⟨W3.heap.size, 0, none⟩) 3 3) [(2, [1, 2]), (1, [3, 4]), (3, [5])] := path_lit W3 [(2, .slice (some ⟨w.heap.size, 0, none⟩) 2 2, [1, 2]), (1, .slice (some ⟨W1.heap.size, 0, none⟩) 2 2, [3, 4]), (3, .slice (some ⟨W2.heap.size, 0, none⟩) 1 1, [5])] 24 (fa (a1_3.out) (fa (a2_3.out) (fa (a3_n.out) (fun r h => by cases h)))) (by simp)
  have hba : Below W3.heap.size W3 (W3.alloc (.cells #[.int .i64 2, .slice (some ⟨w.heap.size, 0, none⟩) 2 2, .int .i64 1, .slice (some ⟨W1.heap.size, 0, none⟩) 2 2, .int .i64 3, .slice (some ⟨W2.heap.size, 0, none⟩) 1 1] 24)) := (Below.refl _ _).alloc (Nat.le_refl _) _
  clear a1_3
  clear a2_3
  clear a3_n
  have pl_n : Hid (PathAt (W3.alloc (.cells #[.int .i64 2, .slice (some ⟨w.heap.size, 0, none⟩) 2 2, .int .i64 1, .slice (some ⟨W1.heap.size, 0, none⟩) 2 2, .int .i64 3, .slice (some ⟨W2.heap.size, 0, none⟩) 1 1] 24)) (.slice (some ⟨W3.heap.size, 0, none⟩) 3 3) [(2, [1, 2]), (1, [3, 4]), (3, [5])]) := hP
  have HB4 : Hid (Below w.heap.size w (W3.alloc (.cells #[.int .i64 2, .slice (some ⟨w.heap.size, 0, none⟩) 2 2, .int .i64 1, .slice (some ⟨W1.heap.size, 0, none⟩) 2 2, .int .i64 3, .slice (some ⟨W2.heap.size, 0, none⟩) 1 1] 24))) := HB3.out.trans (hba.mono HB3.out.size)
  clear hP hba HB3
  go_wp2_with fail
  generalize W3.alloc (.cells #[.int .i64 2, .slice (some ⟨w.heap.size, 0, none⟩) 2 2, .int .i64 1, .slice (some ⟨W1.heap.size, 0, none⟩) 2 2, .int .i64 3, .slice (some ⟨W2.heap.size, 0, none⟩) 1 1] 24) = W4 at *
  refine Calls.mono (first_any _ [(2, [1, 2]), (1, [3, 4]), (3, [5])] _ pl_n.out) ?_
  rintro e W5 ⟨rfl, hb⟩
  rw [show ((firstOf [(2, [1, 2]), (1, [3, 4]), (3, [5])]).1 : Int) = 1 from rfl, show (firstOf [(2, [1, 2]), (1, [3, 4]), (3, [5])]).2 = true from rfl]
  have HB5 : Hid (Below w.heap.size w W5) := HB4.out.trans (hb.mono HB4.out.size)
  have pl_5 : Hid (_ : Prop) := PathAt.below pl_n.out hb
  clear hb HB4 pl_n
  go_wp2_with fail
  refine Calls.mono (seg_any 1 _ 1 1 _) ?_
  rintro e W6 ⟨rfl, hb⟩
  have hba : Below W5.heap.size W5 (W5.alloc (.cells (cellsU [1]).toArray 26)) := (Below.refl _ _).alloc (Nat.le_refl _) _
  have hc : Below W5.heap.size W5 W6 := hba.trans (hb.mono hba.size)
  have a1_n : Hid (ASAt W6 (.slice (some ⟨W5.heap.size, 0, none⟩) 1 1) [1]) := (as_lit W5 [1] 26 (by decide) (by decide)).below hb
  have HB6 : Hid (Below w.heap.size w W6) := HB5.out.trans (hc.mono HB5.out.size)
  have pl_6 : Hid (_ : Prop) := PathAt.below pl_5.out hc
  clear hb hba hc HB5 pl_5
  go_wp2_with fail
  refine Calls.mono (seg_any 2 _ 1 1 _) ?_
  rintro e W7 ⟨rfl, hb⟩
  have hba : Below W6.heap.size W6 (W6.alloc (.cells (cellsU [2]).toArray 26)) := (Below.refl _ _).alloc (Nat.le_refl _) _
  have hc : Below W6.heap.size W6 W7 := hba.trans (hb.mono hba.size)
  have a2_n : Hid (ASAt W7 (.slice (some ⟨W6.heap.size, 0, none⟩) 1 1) [2]) := (as_lit W6 [2] 26 (by decide) (by decide)).below hb
  have HB7 : Hid (Below w.heap.size w W7) := HB6.out.trans (hc.mono HB6.out.size)
  have pl_7 : Hid (_ : Prop) := PathAt.below pl_6.out hc
  have a1_7 : Hid (_ : Prop) := ASAt.below a1_n.out hc
  clear hb hba hc HB6 pl_6 a1_n
  have hP : PathAt (W7.alloc (.cells #[.int .i64 1, .slice (some ⟨W5.heap.size, 0, none⟩) 1 1, .int .i64 2, .slice (some ⟨W6.heap.size, 0, none⟩) 1 1] 24)) (.slice (some ⟨W7.heap.size, 0, none⟩) 2 2) [(1, [1]), (2, [2])] := path_lit W7 [(1, .slice (some ⟨W5.heap.size, 0, none⟩) 1 1, [1]), (2, .slice (some ⟨W6.heap.size, 0, none⟩) 1 1, [2])] 24 (fa (a1_7.out) (fa (a2_n.out) (fun r h => by cases h))) (by simp)
  have hba : Below W7.heap.size W7 (W7.alloc (.cells #[.int .i64 1, .slice (some ⟨W5.heap.size, 0, none⟩) 1 1, .int .i64 2, .slice (some ⟨W6.heap.size, 0, none⟩) 1 1] 24)) := (Below.refl _ _).alloc (Nat.le_refl _) _
  clear a1_7
  clear a2_n
  have p1_n : Hid (PathAt (W7.alloc (.cells #[.int .i64 1, .slice (some ⟨W5.heap.size, 0, none⟩) 1 1, .int .i64 2, .slice (some ⟨W6.heap.size, 0, none⟩) 1 1] 24)) (.slice (some ⟨W7.heap.size, 0, none⟩) 2 2) [(1, [1]), (2, [2])]) := hP
  have HB8 : Hid (Below w.heap.size w (W7.alloc (.cells #[.int .i64 1, .slice (some ⟨W5.heap.size, 0, none⟩) 1 1, .int .i64 2, .slice (some ⟨W6.heap.size, 0, none⟩) 1 1] 24))) := HB7.out.trans (hba.mono HB7.out.size)
  have pl_8 : Hid (_ : Prop) := PathAt.below pl_7.out hba
  clear hP hba HB7 pl_7
  go_wp2_with fail
  generalize W7.alloc (.cells #[.int .i64 1, .slice (some ⟨W5.heap.size, 0, none⟩) 1 1, .int .i64 2, .slice (some ⟨W6.heap.size, 0, none⟩) 1 1] 24) = W8 at *
  refine Calls.mono (first_any _ [(1, [1]), (2, [2])] _ p1_n.out) ?_
  rintro e W9 ⟨rfl, hb⟩
  rw [show ((firstOf [(1, [1]), (2, [2])]).1 : Int) = 0 from rfl, show (firstOf [(1, [1]), (2, [2])]).2 = false from rfl]
  clear p1_n
  have HB9 : Hid (Below w.heap.size w W9) := HB8.out.trans (hb.mono HB8.out.size)
  have pl_9 : Hid (_ : Prop) := PathAt.below pl_8.out hb
  clear hb HB8 pl_8
  go_wp2_with fail
  refine Calls.mono (seg_any 3 _ 1 1 _) ?_
  rintro e W10 ⟨rfl, hb⟩
  have hba : Below W9.heap.size W9 (W9.alloc (.cells (cellsU [5]).toArray 26)) := (Below.refl _ _).alloc (Nat.le_refl _) _
  have hc : Below W9.heap.size W9 W10 := hba.trans (hb.mono hba.size)
  have a1_n : Hid (ASAt W10 (.slice (some ⟨W9.heap.size, 0, none⟩) 1 1) [5]) := (as_lit W9 [5] 26 (by decide) (by decide)).below hb
  have HB10 : Hid (Below w.heap.size w W10) := HB9.out.trans (hc.mono HB9.out.size)
  have pl_10 : Hid (_ : Prop) := PathAt.below pl_9.out hc
  clear hb hba hc HB9 pl_9
  go_wp2_with fail
  refine Calls.mono (seg_any 2 _ 1 1 _) ?_
  rintro e W11 ⟨rfl, hb⟩
  have hba : Below W10.heap.size W10 (W10.alloc (.cells (cellsU [1]).toArray 26)) := (Below.refl _ _).alloc (Nat.le_refl _) _
  have hc : Below W10.heap.size W10 W11 := hba.trans (hb.mono hba.size)
  have a2_n : Hid (ASAt W11 (.slice (some ⟨W10.heap.size, 0, none⟩) 1 1) [1]) := (as_lit W10 [1] 26 (by decide) (by decide)).below hb
  have HB11 : Hid (Below w.heap.size w W11) := HB10.out.trans (hc.mono HB10.out.size)
  have pl_11 : Hid (_ : Prop) := PathAt.below pl_10.out hc
  have a1_11 : Hid (_ : Prop) := ASAt.below a1_n.out hc
  clear hb hba hc HB10 pl_10 a1_n
  have hP : PathAt (W11.alloc (.cells #[.int .i64 3, .slice (some ⟨W9.heap.size, 0, none⟩) 1 1, .int .i64 2, .slice (some ⟨W10.heap.size, 0, none⟩) 1 1] 24)) (.slice (some ⟨W11.heap.size, 0, none⟩) 2 2) [(3, [5]), (2, [1])] := path_lit W11 [(3, .slice (some ⟨W9.heap.size, 0, none⟩) 1 1, [5]), (2, .slice (some ⟨W10.heap.size, 0, none⟩) 1 1, [1])] 24 (fa (a1_11.out) (fa (a2_n.out) (fun r h => by cases h))) (by simp)
  have hba : Below W11.heap.size W11 (W11.alloc (.cells #[.int .i64 3, .slice (some ⟨W9.heap.size, 0, none⟩) 1 1, .int .i64 2, .slice (some ⟨W10.heap.size, 0, none⟩) 1 1] 24)) := (Below.refl _ _).alloc (Nat.le_refl _) _
  clear a1_11
  clear a2_n
  have p1_n : Hid (PathAt (W11.alloc (.cells #[.int .i64 3, .slice (some ⟨W9.heap.size, 0, none⟩) 1 1, .int .i64 2, .slice (some ⟨W10.heap.size, 0, none⟩) 1 1] 24)) (.slice (some ⟨W11.heap.size, 0, none⟩) 2 2) [(3, [5]), (2, [1])]) := hP
  have HB12 : Hid (Below w.heap.size w (W11.alloc (.cells #[.int .i64 3, .slice (some ⟨W9.heap.size, 0, none⟩) 1 1, .int .i64 2, .slice (some ⟨W10.heap.size, 0, none⟩) 1 1] 24))) := HB11.out.trans (hba.mono HB11.out.size)
  have pl_12 : Hid (_ : Prop) := PathAt.below pl_11.out hba
  clear hP hba HB11 pl_11
  go_wp2_with fail
  generalize W11.alloc (.cells #[.int .i64 3, .slice (some ⟨W9.heap.size, 0, none⟩) 1 1, .int .i64 2, .slice (some ⟨W10.heap.size, 0, none⟩) 1 1] 24) = W12 at *
  refine Calls.mono (first_any _ [(3, [5]), (2, [1])] _ p1_n.out) ?_
  rintro e W13 ⟨rfl, hb⟩
  rw [show ((firstOf [(3, [5]), (2, [1])]).1 : Int) = 1 from rfl, show (firstOf [(3, [5]), (2, [1])]).2 = true from rfl]
  clear p1_n
  have HB13 : Hid (Below w.heap.size w W13) := HB12.out.trans (hb.mono HB12.out.size)
  have pl_13 : Hid (_ : Prop) := PathAt.below pl_12.out hb
  clear hb HB12 pl_12
  go_wp2_with fail
  refine Calls.mono (first_any _ [] _ (path_nil _)) ?_
  rintro e W14 ⟨rfl, hb⟩
  rw [show ((firstOf ([] : List Sg)).1 : Int) = 0 from rfl, show (firstOf ([] : List Sg)).2 = false from rfl]
  have HB14 : Hid (Below w.heap.size w W14) := HB13.out.trans (hb.mono HB13.out.size)
  have pl_14 : Hid (_ : Prop) := PathAt.below pl_13.out hb
  clear hb HB13 pl_13
  have hP : PathAt (W14.alloc (.cells #[.int .i64 2, .slice none 0 0] 24)) (.slice (some ⟨W14.heap.size, 0, none⟩) 1 1) [(2, [])] := path_lit W14 [(2, .slice none 0 0, [])] 24 (fa (as_nil _) (fun r h => by cases h)) (by simp)
  have hba : Below W14.heap.size W14 (W14.alloc (.cells #[.int .i64 2, .slice none 0 0] 24)) := (Below.refl _ _).alloc (Nat.le_refl _) _
  have p1_n : Hid (PathAt (W14.alloc (.cells #[.int .i64 2, .slice none 0 0] 24)) (.slice (some ⟨W14.heap.size, 0, none⟩) 1 1) [(2, [])]) := hP
  have HB15 : Hid (Below w.heap.size w (W14.alloc (.cells #[.int .i64 2, .slice none 0 0] 24))) := HB14.out.trans (hba.mono HB14.out.size)
  have pl_15 : Hid (_ : Prop) := PathAt.below pl_14.out hba
  clear hP hba HB14 pl_14
  go_wp2_with fail
  generalize W14.alloc (.cells #[.int .i64 2, .slice none 0 0] 24) = W15 at *
  refine Calls.mono (first_any _ [(2, [])] _ p1_n.out) ?_
  rintro e W16 ⟨rfl, hb⟩
  rw [show ((firstOf [(2, [])]).1 : Int) = 0 from rfl, show (firstOf [(2, [])]).2 = false from rfl]
  clear p1_n
  have HB16 : Hid (Below w.heap.size w W16) := HB15.out.trans (hb.mono HB15.out.size)
  have pl_16 : Hid (_ : Prop) := PathAt.below pl_15.out hb
  clear hb HB15 pl_15
  go_wp2_with fail
  refine Calls.mono (length_any _ [(2, [1, 2]), (1, [3, 4]), (3, [5])] _ pl_16.out (by decide)) ?_
  rintro e W17 ⟨rfl, hb⟩
  rw [show lenOf [(2, [1, 2]), (1, [3, 4]), (3, [5])] = 3 from rfl]
  have HB17 : Hid (Below w.heap.size w W17) := HB16.out.trans (hb.mono HB16.out.size)
  have pl_17 : Hid (_ : Prop) := PathAt.below pl_16.out hb
  clear hb HB16 pl_16
  go_wp2_with fail
  refine Calls.mono (flat_any _ [(2, [1, 2]), (1, [3, 4]), (3, [5])] _ pl_17.out (by decide) (by decide)) ?_
  rintro e W18 ⟨vf, rfl, hof, hb⟩
  have HB18 : Hid (Below w.heap.size w W18) := HB17.out.trans (hb.mono HB17.out.size)
  have pl_18 : Hid (_ : Prop) := PathAt.below pl_17.out hb
  obtain ⟨af, cf, rfl⟩ := slice_of_owns hof.1
  rw [show (flatOf [(2, [1, 2]), (1, [3, 4]), (3, [5])]).length = 5 from rfl]
  clear hof
  clear hb HB17 pl_17
  go_wp2_with fail
  refine Calls.mono (bare_any _ [(2, [1, 2]), (1, [3, 4]), (3, [5])] _ pl_18.out (by decide)) ?_
  rintro e W19 ⟨vb, Rb, rfl, hRb, hob, hb⟩
  have HB19 : Hid (Below w.heap.size w W19) := HB18.out.trans (hb.mono HB18.out.size)
  have pl_19 : Hid (_ : Prop) := PathAt.below pl_18.out hb
  have hlen : Rb.length = 2 := by rw [← sgs_length, hRb]; rfl
  obtain ⟨ab, cb, rfl⟩ := slice_of_owns hob.1
  rw [hlen]
  clear hob hRb hlen
  clear hb HB18 pl_18
  go_wp2_with fail
  refine Calls.mono (has_any _ [(2, [1, 2]), (1, [3, 4]), (3, [5])] 5 _ pl_19.out) ?_
  rintro e W20 ⟨rfl, hb⟩
  rw [show decide (5 ∈ flatOf [(2, [1, 2]), (1, [3, 4]), (3, [5])]) = true from rfl]
  have HB20 : Hid (Below w.heap.size w W20) := HB19.out.trans (hb.mono HB19.out.size)
  have pl_20 : Hid (_ : Prop) := PathAt.below pl_19.out hb
  clear hb HB19 pl_19
  go_wp2_with fail
  refine Calls.mono (has_any _ [(2, [1, 2]), (1, [3, 4]), (3, [5])] 6 _ pl_20.out) ?_
  rintro e W21 ⟨rfl, hb⟩
  rw [show decide (6 ∈ flatOf [(2, [1, 2]), (1, [3, 4]), (3, [5])]) = false from rfl]
  clear pl_20
  have HB21 : Hid (Below w.heap.size w W21) := HB20.out.trans (hb.mono HB20.out.size)
  clear hb HB20
  go_wp2_with fail
  refine Calls.mono (seg_any 1 _ 1 1 _) ?_
  rintro e W22 ⟨rfl, hb⟩
  have hba : Below W21.heap.size W21 (W21.alloc (.cells (cellsU [1]).toArray 26)) := (Below.refl _ _).alloc (Nat.le_refl _) _
  have hc : Below W21.heap.size W21 W22 := hba.trans (hb.mono hba.size)
  have a1_n : Hid (ASAt W22 (.slice (some ⟨W21.heap.size, 0, none⟩) 1 1) [1]) := (as_lit W21 [1] 26 (by decide) (by decide)).below hb
  have HB22 : Hid (Below w.heap.size w W22) := HB21.out.trans (hc.mono HB21.out.size)
  clear hb hba hc HB21
  have hP : PathAt (W22.alloc (.cells #[.int .i64 1, .slice (some ⟨W21.heap.size, 0, none⟩) 1 1] 24)) (.slice (some ⟨W22.heap.size, 0, none⟩) 1 1) [(1, [1])] := path_lit W22 [(1, .slice (some ⟨W21.heap.size, 0, none⟩) 1 1, [1])] 24 (fa (a1_n.out) (fun r h => by cases h)) (by simp)
  have hba : Below W22.heap.size W22 (W22.alloc (.cells #[.int .i64 1, .slice (some ⟨W21.heap.size, 0, none⟩) 1 1] 24)) := (Below.refl _ _).alloc (Nat.le_refl _) _
  clear a1_n
  have pp_n : Hid (PathAt (W22.alloc (.cells #[.int .i64 1, .slice (some ⟨W21.heap.size, 0, none⟩) 1 1] 24)) (.slice (some ⟨W22.heap.size, 0, none⟩) 1 1) [(1, [1])]) := hP
  have HB23 : Hid (Below w.heap.size w (W22.alloc (.cells #[.int .i64 1, .slice (some ⟨W21.heap.size, 0, none⟩) 1 1] 24))) := HB22.out.trans (hba.mono HB22.out.size)
  clear hP hba HB22
  go_wp2_with fail
  generalize W22.alloc (.cells #[.int .i64 1, .slice (some ⟨W21.heap.size, 0, none⟩) 1 1] 24) = W23 at *
  refine Calls.mono (prep_all _ [(1, [1])] 7 false W23 pp_n.out (by decide)) ?_
  rintro e W24 ⟨v3, R3, rfl, hR3, ho3, hb⟩
  rw [show prepE [(1, [1])] 7 false = 0 by decide +kernel]
  rw [show prepP [(1, [1])] 7 false = [(2, [7]), (1, [1])] by decide +kernel] at hR3
  clear pp_n
  have HB24 : Hid (Below w.heap.size w W24) := HB23.out.trans (hb.mono HB23.out.size)
  have pa_n : Hid (PathAt W24 v3 [(2, [7]), (1, [1])]) := by
    have := ho3.at
    rw [hR3] at this
    exact this
  obtain ⟨dpa, cpa, rfl⟩ := pa_n.out.slc
  skip
  clear hb hR3 ho3 HB23
  go_wp2_with fail
  refine Calls.mono (seg_any 3 _ 1 1 _) ?_
  rintro e W25 ⟨rfl, hb⟩
  have hba : Below W24.heap.size W24 (W24.alloc (.cells (cellsU [5]).toArray 26)) := (Below.refl _ _).alloc (Nat.le_refl _) _
  have hc : Below W24.heap.size W24 W25 := hba.trans (hb.mono hba.size)
  have a1_n : Hid (ASAt W25 (.slice (some ⟨W24.heap.size, 0, none⟩) 1 1) [5]) := (as_lit W24 [5] 26 (by decide) (by decide)).below hb
  have HB25 : Hid (Below w.heap.size w W25) := HB24.out.trans (hc.mono HB24.out.size)
  have pa_25 : Hid (_ : Prop) := PathAt.below pa_n.out hc
  clear hb hba hc HB24 pa_n
  go_wp2_with fail
  refine Calls.mono (seg_any 2 _ 1 1 _) ?_
  rintro e W26 ⟨rfl, hb⟩
  have hba : Below W25.heap.size W25 (W25.alloc (.cells (cellsU [1]).toArray 26)) := (Below.refl _ _).alloc (Nat.le_refl _) _
  have hc : Below W25.heap.size W25 W26 := hba.trans (hb.mono hba.size)
  have a2_n : Hid (ASAt W26 (.slice (some ⟨W25.heap.size, 0, none⟩) 1 1) [1]) := (as_lit W25 [1] 26 (by decide) (by decide)).below hb
  have HB26 : Hid (Below w.heap.size w W26) := HB25.out.trans (hc.mono HB25.out.size)
  have pa_26 : Hid (_ : Prop) := PathAt.below pa_25.out hc
  have a1_26 : Hid (_ : Prop) := ASAt.below a1_n.out hc
  clear hb hba hc HB25 pa_25 a1_n
  have hP : PathAt (W26.alloc (.cells #[.int .i64 3, .slice (some ⟨W24.heap.size, 0, none⟩) 1 1, .int .i64 2, .slice (some ⟨W25.heap.size, 0, none⟩) 1 1] 24)) (.slice (some ⟨W26.heap.size, 0, none⟩) 2 2) [(3, [5]), (2, [1])] := path_lit W26 [(3, .slice (some ⟨W24.heap.size, 0, none⟩) 1 1, [5]), (2, .slice (some ⟨W25.heap.size, 0, none⟩) 1 1, [1])] 24 (fa (a1_26.out) (fa (a2_n.out) (fun r h => by cases h))) (by simp)
  have hba : Below W26.heap.size W26 (W26.alloc (.cells #[.int .i64 3, .slice (some ⟨W24.heap.size, 0, none⟩) 1 1, .int .i64 2, .slice (some ⟨W25.heap.size, 0, none⟩) 1 1] 24)) := (Below.refl _ _).alloc (Nat.le_refl _) _
  clear a1_26
  clear a2_n
  have pp_n : Hid (PathAt (W26.alloc (.cells #[.int .i64 3, .slice (some ⟨W24.heap.size, 0, none⟩) 1 1, .int .i64 2, .slice (some ⟨W25.heap.size, 0, none⟩) 1 1] 24)) (.slice (some ⟨W26.heap.size, 0, none⟩) 2 2) [(3, [5]), (2, [1])]) := hP
  have HB27 : Hid (Below w.heap.size w (W26.alloc (.cells #[.int .i64 3, .slice (some ⟨W24.heap.size, 0, none⟩) 1 1, .int .i64 2, .slice (some ⟨W25.heap.size, 0, none⟩) 1 1] 24))) := HB26.out.trans (hba.mono HB26.out.size)
  have pa_27 : Hid (_ : Prop) := PathAt.below pa_26.out hba
  clear hP hba HB26 pa_26
  go_wp2_with fail
  generalize W26.alloc (.cells #[.int .i64 3, .slice (some ⟨W24.heap.size, 0, none⟩) 1 1, .int .i64 2, .slice (some ⟨W25.heap.size, 0, none⟩) 1 1] 24) = W27 at *
  refine Calls.mono (prep_all _ [(3, [5]), (2, [1])] 7 true W27 pp_n.out (by decide)) ?_
  rintro e W28 ⟨v3, R3, rfl, hR3, ho3, hb⟩
  rw [show prepE [(3, [5]), (2, [1])] 7 true = 0 by decide +kernel]
  rw [show prepP [(3, [5]), (2, [1])] 7 true = [(3, [7, 5]), (2, [1])] by decide +kernel] at hR3
  clear pp_n
  have HB28 : Hid (Below w.heap.size w W28) := HB27.out.trans (hb.mono HB27.out.size)
  have pa_28 : Hid (_ : Prop) := PathAt.below pa_27.out hb
  have pb_n : Hid (PathAt W28 v3 [(3, [7, 5]), (2, [1])]) := by
    have := ho3.at
    rw [hR3] at this
    exact this
  obtain ⟨dpb, cpb, rfl⟩ := pb_n.out.slc
  skip
  clear hb hR3 ho3 HB27 pa_27
  have hmu := made_u
  have hms := made_s 16 (by omega)
  have hms2 : ∀ X, (Instr.makeSlice 27 (.int .i64 16) (.int .i64 16)).run Tryz.prog X = .ok (.slice (some ⟨X.heap.size, 0, none⟩) 16 16) (X.alloc (.cells (madeCells #[.int .i64 0, .slice none 0 0] 32) 24)) := hms
  clear hms
  have HK0 : Hid (MkI W28 _ _ _ 0 0) := MkI.start W28
  go_wp2
  clear hmu hms2
  have hsz : (W28.alloc (.cells (madeCells #[.int .u32 0] 255) 26)).heap.size = W28.heap.size + 1 := by simp
  generalize hP0 : W28.heap.size = pp at *
  generalize hQ0 : pp + 1 = qq at *
  generalize ((W28.alloc (.cells (madeCells #[.int .u32 0] 255) 26)).alloc (.cells (madeCells #[.int .i64 0, .slice none 0 0] 32) 24)) = W29 at *
  clear hP0 hQ0 hsz
  go_loopw [18] (fun i wr => ∃ k : Nat, k ≤ 255 ∧ i = .int .i64 k ∧ MkI W28 wr pp qq k 0) (fun i _ => 255 - (intOf i).toNat)
  case atStart => exact ⟨0, Nat.zero_le _, rfl, HK0.out⟩
  case round =>
    obtain ⟨k, hk, rfl, hq⟩ := hrel
    have HQ : Hid (MkI W28 wr pp qq k 0) := hq
    clear hq
    by_cases hlt : k < 255
    · have hc := (HQ.out.lc k hlt).1
      have hf := (HQ.out.lc k hlt).2
      have HQ1 : Hid (MkI W28 (wr.setCell ⟨pp, k, none⟩ (.int .u32 9)) pp qq (k + 1) 0) := HQ.out.put1 hlt
      have hki : (k : Int) < 255 := by omega
      clear HQ
      go_wp2
      go_roundw
      case rel => exact ⟨k + 1, by omega, by go_num, HQ1.out⟩
      case measure => simp [intOf]; omega
    · obtain rfl : k = 255 := by omega
      clear hlt hk
      rw [show ((255 : Nat) : Int) = 255 from rfl]
      go_wp2
      go_loopw [19] (fun i wr2 => ∃ m : Nat, m ≤ 16 ∧ i = .int .i64 m ∧ MkI W28 wr2 pp qq 255 m) (fun i _ => 16 - (intOf i).toNat)
      case atStart => exact ⟨0, Nat.zero_le _, rfl, HQ.out⟩
      case round =>
        obtain ⟨m, hm, rfl, hq⟩ := hrel
        have HQ2 : Hid (MkI W28 wr pp qq 255 m) := hq
        clear hq HQ
        by_cases hlt : m < 16
        · have hmi : (m : Int) < 16 := by omega
          go_wp2_with fail
          refine Calls.mono (seg_any 1 _ 1 1 _) ?_
          rintro e wn ⟨rfl, hb⟩
          have hba : Below wr.heap.size wr (wr.alloc (.cells #[.int .u32 1] 26)) := (Below.refl _ _).alloc (Nat.le_refl _) _
          have hlts := HQ2.out.lts
          have hqn := (HQ2.out.below hba).below hb
          have hz := hqn.m0 m hlt (Nat.le_refl _)
          have c0 := hz.1
          have c1 := hz.2
          have f0 := hqn.mf (m * 2) (by omega)
          have f1 := hqn.mf (m * 2 + 1) (by omega)
          have HQ3 : Hid (MkI W28 _ pp qq 255 (m + 1)) := hqn.put2 hlt (g := wr.heap.size) ⟨by omega, by omega⟩ (below_cell hb (by simp))
          clear hb hba hz hqn HQ2 hlts
          go_wp2
          go_roundw
          case rel => exact ⟨m + 1, by omega, by go_num, HQ3.out⟩
          case measure => simp [intOf]; omega
        · obtain rfl : m = 16 := by omega
          clear hlt hm
          rw [show ((16 : Nat) : Int) = 16 from rfl]
          have hbq : Below W28.heap.size W28 wr := HQ2.out.b
          have al_n : Hid (ASAt wr (.slice (some ⟨pp, 0, none⟩) 255 255) (List.replicate 255 9)) := HQ2.out.long
          have pm_n : Hid (PathAt wr (.slice (some ⟨qq, 0, none⟩) 16 16) (List.replicate 16 ((1 : Int), [1]))) := HQ2.out.many
          have HB29 : Hid (Below w.heap.size w wr) := HB28.out.trans (hbq.mono HB28.out.size)
          have pa_29 : Hid (_ : Prop) := PathAt.below pa_28.out hbq
          have pb_29 : Hid (_ : Prop) := PathAt.below pb_n.out hbq
          clear HQ2 hbq HB28 pa_28 pb_n
          generalize wr = V0 at *
          have hP : PathAt (V0.alloc (.cells #[.int .i64 2, .slice (some ⟨pp, 0, none⟩) 255 255] 24)) (.slice (some ⟨V0.heap.size, 0, none⟩) 1 1) [(2, (List.replicate 255 9))] := path_lit V0 [(2, .slice (some ⟨pp, 0, none⟩) 255 255, (List.replicate 255 9))] 24 (fa (al_n.out) (fun r h => by cases h)) (by simp)
          have hba : Below V0.heap.size V0 (V0.alloc (.cells #[.int .i64 2, .slice (some ⟨pp, 0, none⟩) 255 255] 24)) := (Below.refl _ _).alloc (Nat.le_refl _) _
          clear al_n
          have pp_n : Hid (PathAt (V0.alloc (.cells #[.int .i64 2, .slice (some ⟨pp, 0, none⟩) 255 255] 24)) (.slice (some ⟨V0.heap.size, 0, none⟩) 1 1) [(2, (List.replicate 255 9))]) := hP
          have HB30 : Hid (Below w.heap.size w (V0.alloc (.cells #[.int .i64 2, .slice (some ⟨pp, 0, none⟩) 255 255] 24))) := HB29.out.trans (hba.mono HB29.out.size)
          have pa_30 : Hid (_ : Prop) := PathAt.below pa_29.out hba
          have pb_30 : Hid (_ : Prop) := PathAt.below pb_29.out hba
          have pm_30 : Hid (_ : Prop) := PathAt.below pm_n.out hba
          clear hP hba HB29 pa_29 pb_29 pm_n
          go_wp2_with fail
          generalize V0.alloc (.cells #[.int .i64 2, .slice (some ⟨pp, 0, none⟩) 255 255] 24) = W30 at *
          refine Calls.mono (prep_all _ [(2, (List.replicate 255 9))] 7 false W30 pp_n.out (by decide)) ?_
          rintro e W31 ⟨v3, R3, rfl, hR3, ho3, hb⟩
          rw [show prepE [(2, (List.replicate 255 9))] 7 false = 0 by decide +kernel]
          rw [show prepP [(2, (List.replicate 255 9))] 7 false = [(2, [7]), (2, (List.replicate 255 9))] by decide +kernel] at hR3
          clear pp_n
          have HB31 : Hid (Below w.heap.size w W31) := HB30.out.trans (hb.mono HB30.out.size)
          have pa_31 : Hid (_ : Prop) := PathAt.below pa_30.out hb
          have pb_31 : Hid (_ : Prop) := PathAt.below pb_30.out hb
          have pm_31 : Hid (_ : Prop) := PathAt.below pm_30.out hb
          have pc_n : Hid (PathAt W31 v3 [(2, [7]), (2, (List.replicate 255 9))]) := by
            have := ho3.at
            rw [hR3] at this
            exact this
          obtain ⟨dpc, cpc, rfl⟩ := pc_n.out.slc
          skip
          clear hb hR3 ho3 HB30 pa_30 pb_30 pm_30
          go_wp2_with fail
          refine Calls.mono (prep_all _ (List.replicate 16 ((1 : Int), [1])) 7 false W31 pm_31.out (by decide)) ?_
          rintro e W32 ⟨v3, R3, rfl, hR3, ho3, hb⟩
          rw [show prepE (List.replicate 16 ((1 : Int), [1])) 7 false = 3 by decide +kernel]
          rw [show prepP (List.replicate 16 ((1 : Int), [1])) 7 false = ([] : List Sg) by decide +kernel] at hR3
          clear pm_31
          have HB32 : Hid (Below w.heap.size w W32) := HB31.out.trans (hb.mono HB31.out.size)
          have pa_32 : Hid (_ : Prop) := PathAt.below pa_31.out hb
          have pb_32 : Hid (_ : Prop) := PathAt.below pb_31.out hb
          have pc_32 : Hid (_ : Prop) := PathAt.below pc_n.out hb
          obtain ⟨dx, cx, rfl⟩ := ho3.at.slc
          clear hb hR3 ho3 HB31 pa_31 pb_31 pc_n
          go_wp2_with fail
          refine Calls.mono (seg_any 2 _ 1 1 _) ?_
          rintro e W33 ⟨rfl, hb⟩
          have hba : Below W32.heap.size W32 (W32.alloc (.cells (cellsU [1]).toArray 26)) := (Below.refl _ _).alloc (Nat.le_refl _) _
          have hc : Below W32.heap.size W32 W33 := hba.trans (hb.mono hba.size)
          have a1_n : Hid (ASAt W33 (.slice (some ⟨W32.heap.size, 0, none⟩) 1 1) [1]) := (as_lit W32 [1] 26 (by decide) (by decide)).below hb
          have HB33 : Hid (Below w.heap.size w W33) := HB32.out.trans (hc.mono HB32.out.size)
          have pa_33 : Hid (_ : Prop) := PathAt.below pa_32.out hc
          have pb_33 : Hid (_ : Prop) := PathAt.below pb_32.out hc
          have pc_33 : Hid (_ : Prop) := PathAt.below pc_32.out hc
          clear hb hba hc HB32 pa_32 pb_32 pc_32
          have hP : PathAt (W33.alloc (.cells #[.int .i64 2, .slice (some ⟨W32.heap.size, 0, none⟩) 1 1] 24)) (.slice (some ⟨W33.heap.size, 0, none⟩) 1 1) [(2, [1])] := path_lit W33 [(2, .slice (some ⟨W32.heap.size, 0, none⟩) 1 1, [1])] 24 (fa (a1_n.out) (fun r h => by cases h)) (by simp)
          have hba : Below W33.heap.size W33 (W33.alloc (.cells #[.int .i64 2, .slice (some ⟨W32.heap.size, 0, none⟩) 1 1] 24)) := (Below.refl _ _).alloc (Nat.le_refl _) _
          clear a1_n
          have pp_n : Hid (PathAt (W33.alloc (.cells #[.int .i64 2, .slice (some ⟨W32.heap.size, 0, none⟩) 1 1] 24)) (.slice (some ⟨W33.heap.size, 0, none⟩) 1 1) [(2, [1])]) := hP
          have HB34 : Hid (Below w.heap.size w (W33.alloc (.cells #[.int .i64 2, .slice (some ⟨W32.heap.size, 0, none⟩) 1 1] 24))) := HB33.out.trans (hba.mono HB33.out.size)
          have pa_34 : Hid (_ : Prop) := PathAt.below pa_33.out hba
          have pb_34 : Hid (_ : Prop) := PathAt.below pb_33.out hba
          have pc_34 : Hid (_ : Prop) := PathAt.below pc_33.out hba
          clear hP hba HB33 pa_33 pb_33 pc_33
          go_wp2_with fail
          generalize W33.alloc (.cells #[.int .i64 2, .slice (some ⟨W32.heap.size, 0, none⟩) 1 1] 24) = W34 at *
          refine Calls.mono (prep_all _ [(2, [1])] 0 false W34 pp_n.out (by decide)) ?_
          rintro e W35 ⟨v3, R3, rfl, hR3, ho3, hb⟩
          rw [show prepE [(2, [1])] 0 false = 2 by decide +kernel]
          rw [show prepP [(2, [1])] 0 false = ([] : List Sg) by decide +kernel] at hR3
          clear pp_n
          have HB35 : Hid (Below w.heap.size w W35) := HB34.out.trans (hb.mono HB34.out.size)
          have pa_35 : Hid (_ : Prop) := PathAt.below pa_34.out hb
          have pb_35 : Hid (_ : Prop) := PathAt.below pb_34.out hb
          have pc_35 : Hid (_ : Prop) := PathAt.below pc_34.out hb
          obtain ⟨dx, cx, rfl⟩ := ho3.at.slc
          clear hb hR3 ho3 HB34 pa_34 pb_34 pc_34
          go_wp2_with fail
          refine Calls.mono (seg_any 2 _ 1 1 _) ?_
          rintro e W36 ⟨rfl, hb⟩
          have hba : Below W35.heap.size W35 (W35.alloc (.cells (cellsU [7]).toArray 26)) := (Below.refl _ _).alloc (Nat.le_refl _) _
          have hc : Below W35.heap.size W35 W36 := hba.trans (hb.mono hba.size)
          have a1_n : Hid (ASAt W36 (.slice (some ⟨W35.heap.size, 0, none⟩) 1 1) [7]) := (as_lit W35 [7] 26 (by decide) (by decide)).below hb
          have HB36 : Hid (Below w.heap.size w W36) := HB35.out.trans (hc.mono HB35.out.size)
          have pa_36 : Hid (_ : Prop) := PathAt.below pa_35.out hc
          have pb_36 : Hid (_ : Prop) := PathAt.below pb_35.out hc
          have pc_36 : Hid (_ : Prop) := PathAt.below pc_35.out hc
          clear hb hba hc HB35 pa_35 pb_35 pc_35
          go_wp2_with fail
          refine Calls.mono (seg_any 1 _ 1 1 _) ?_
          rintro e W37 ⟨rfl, hb⟩
          have hba : Below W36.heap.size W36 (W36.alloc (.cells (cellsU [1]).toArray 26)) := (Below.refl _ _).alloc (Nat.le_refl _) _
          have hc : Below W36.heap.size W36 W37 := hba.trans (hb.mono hba.size)
          have a2_n : Hid (ASAt W37 (.slice (some ⟨W36.heap.size, 0, none⟩) 1 1) [1]) := (as_lit W36 [1] 26 (by decide) (by decide)).below hb
          have HB37 : Hid (Below w.heap.size w W37) := HB36.out.trans (hc.mono HB36.out.size)
          have pa_37 : Hid (_ : Prop) := PathAt.below pa_36.out hc
          have pb_37 : Hid (_ : Prop) := PathAt.below pb_36.out hc
          have pc_37 : Hid (_ : Prop) := PathAt.below pc_36.out hc
          have a1_37 : Hid (_ : Prop) := ASAt.below a1_n.out hc
          clear hb hba hc HB36 pa_36 pb_36 pc_36 a1_n
          have hP : PathAt (W37.alloc (.cells #[.int .i64 2, .slice (some ⟨W35.heap.size, 0, none⟩) 1 1, .int .i64 1, .slice (some ⟨W36.heap.size, 0, none⟩) 1 1] 24)) (.slice (some ⟨W37.heap.size, 0, none⟩) 2 2) [(2, [7]), (1, [1])] := path_lit W37 [(2, .slice (some ⟨W35.heap.size, 0, none⟩) 1 1, [7]), (1, .slice (some ⟨W36.heap.size, 0, none⟩) 1 1, [1])] 24 (fa (a1_37.out) (fa (a2_n.out) (fun r h => by cases h))) (by simp)
          have hba : Below W37.heap.size W37 (W37.alloc (.cells #[.int .i64 2, .slice (some ⟨W35.heap.size, 0, none⟩) 1 1, .int .i64 1, .slice (some ⟨W36.heap.size, 0, none⟩) 1 1] 24)) := (Below.refl _ _).alloc (Nat.le_refl _) _
          clear a1_37
          clear a2_n
          have p1_n : Hid (PathAt (W37.alloc (.cells #[.int .i64 2, .slice (some ⟨W35.heap.size, 0, none⟩) 1 1, .int .i64 1, .slice (some ⟨W36.heap.size, 0, none⟩) 1 1] 24)) (.slice (some ⟨W37.heap.size, 0, none⟩) 2 2) [(2, [7]), (1, [1])]) := hP
          have HB38 : Hid (Below w.heap.size w (W37.alloc (.cells #[.int .i64 2, .slice (some ⟨W35.heap.size, 0, none⟩) 1 1, .int .i64 1, .slice (some ⟨W36.heap.size, 0, none⟩) 1 1] 24))) := HB37.out.trans (hba.mono HB37.out.size)
          have pa_38 : Hid (_ : Prop) := PathAt.below pa_37.out hba
          have pb_38 : Hid (_ : Prop) := PathAt.below pb_37.out hba
          have pc_38 : Hid (_ : Prop) := PathAt.below pc_37.out hba
          clear hP hba HB37 pa_37 pb_37 pc_37
          go_wp2_with fail
          generalize W37.alloc (.cells #[.int .i64 2, .slice (some ⟨W35.heap.size, 0, none⟩) 1 1, .int .i64 1, .slice (some ⟨W36.heap.size, 0, none⟩) 1 1] 24) = W38 at *
          refine Calls.mono (same_any _ _ [(2, [7]), (1, [1])] [(2, [7]), (1, [1])] _ pa_38.out p1_n.out) ?_
          rintro e W39 ⟨rfl, hb⟩
          rw [show decide (([(2, [7]), (1, [1])] : List Sg) = [(2, [7]), (1, [1])]) = true from rfl]
          clear p1_n
          clear pa_38
          have HB39 : Hid (Below w.heap.size w W39) := HB38.out.trans (hb.mono HB38.out.size)
          have pb_39 : Hid (_ : Prop) := PathAt.below pb_38.out hb
          have pc_39 : Hid (_ : Prop) := PathAt.below pc_38.out hb
          clear hb HB38 pb_38 pc_38
          go_wp2_with fail
          refine Calls.mono (seg_any 3 _ 2 2 _) ?_
          rintro e W40 ⟨rfl, hb⟩
          have hba : Below W39.heap.size W39 (W39.alloc (.cells (cellsU [7, 5]).toArray 26)) := (Below.refl _ _).alloc (Nat.le_refl _) _
          have hc : Below W39.heap.size W39 W40 := hba.trans (hb.mono hba.size)
          have a1_n : Hid (ASAt W40 (.slice (some ⟨W39.heap.size, 0, none⟩) 2 2) [7, 5]) := (as_lit W39 [7, 5] 26 (by decide) (by decide)).below hb
          have HB40 : Hid (Below w.heap.size w W40) := HB39.out.trans (hc.mono HB39.out.size)
          have pb_40 : Hid (_ : Prop) := PathAt.below pb_39.out hc
          have pc_40 : Hid (_ : Prop) := PathAt.below pc_39.out hc
          clear hb hba hc HB39 pb_39 pc_39
          go_wp2_with fail
          refine Calls.mono (seg_any 2 _ 1 1 _) ?_
          rintro e W41 ⟨rfl, hb⟩
          have hba : Below W40.heap.size W40 (W40.alloc (.cells (cellsU [1]).toArray 26)) := (Below.refl _ _).alloc (Nat.le_refl _) _
          have hc : Below W40.heap.size W40 W41 := hba.trans (hb.mono hba.size)
          have a2_n : Hid (ASAt W41 (.slice (some ⟨W40.heap.size, 0, none⟩) 1 1) [1]) := (as_lit W40 [1] 26 (by decide) (by decide)).below hb
          have HB41 : Hid (Below w.heap.size w W41) := HB40.out.trans (hc.mono HB40.out.size)
          have pb_41 : Hid (_ : Prop) := PathAt.below pb_40.out hc
          have pc_41 : Hid (_ : Prop) := PathAt.below pc_40.out hc
          have a1_41 : Hid (_ : Prop) := ASAt.below a1_n.out hc
          clear hb hba hc HB40 pb_40 pc_40 a1_n
          have hP : PathAt (W41.alloc (.cells #[.int .i64 3, .slice (some ⟨W39.heap.size, 0, none⟩) 2 2, .int .i64 2, .slice (some ⟨W40.heap.size, 0, none⟩) 1 1] 24)) (.slice (some ⟨W41.heap.size, 0, none⟩) 2 2) [(3, [7, 5]), (2, [1])] := path_lit W41 [(3, .slice (some ⟨W39.heap.size, 0, none⟩) 2 2, [7, 5]), (2, .slice (some ⟨W40.heap.size, 0, none⟩) 1 1, [1])] 24 (fa (a1_41.out) (fa (a2_n.out) (fun r h => by cases h))) (by simp)
          have hba : Below W41.heap.size W41 (W41.alloc (.cells #[.int .i64 3, .slice (some ⟨W39.heap.size, 0, none⟩) 2 2, .int .i64 2, .slice (some ⟨W40.heap.size, 0, none⟩) 1 1] 24)) := (Below.refl _ _).alloc (Nat.le_refl _) _
          clear a1_41
          clear a2_n
          have p1_n : Hid (PathAt (W41.alloc (.cells #[.int .i64 3, .slice (some ⟨W39.heap.size, 0, none⟩) 2 2, .int .i64 2, .slice (some ⟨W40.heap.size, 0, none⟩) 1 1] 24)) (.slice (some ⟨W41.heap.size, 0, none⟩) 2 2) [(3, [7, 5]), (2, [1])]) := hP
          have HB42 : Hid (Below w.heap.size w (W41.alloc (.cells #[.int .i64 3, .slice (some ⟨W39.heap.size, 0, none⟩) 2 2, .int .i64 2, .slice (some ⟨W40.heap.size, 0, none⟩) 1 1] 24))) := HB41.out.trans (hba.mono HB41.out.size)
          have pb_42 : Hid (_ : Prop) := PathAt.below pb_41.out hba
          have pc_42 : Hid (_ : Prop) := PathAt.below pc_41.out hba
          clear hP hba HB41 pb_41 pc_41
          go_wp2_with fail
          generalize W41.alloc (.cells #[.int .i64 3, .slice (some ⟨W39.heap.size, 0, none⟩) 2 2, .int .i64 2, .slice (some ⟨W40.heap.size, 0, none⟩) 1 1] 24) = W42 at *
          refine Calls.mono (same_any _ _ [(3, [7, 5]), (2, [1])] [(3, [7, 5]), (2, [1])] _ pb_42.out p1_n.out) ?_
          rintro e W43 ⟨rfl, hb⟩
          rw [show decide (([(3, [7, 5]), (2, [1])] : List Sg) = [(3, [7, 5]), (2, [1])]) = true from rfl]
          clear p1_n
          clear pb_42
          have HB43 : Hid (Below w.heap.size w W43) := HB42.out.trans (hb.mono HB42.out.size)
          have pc_43 : Hid (_ : Prop) := PathAt.below pc_42.out hb
          clear hb HB42 pc_42
          obtain ⟨yd, yb, yo, yc, ye, yh, _, yr⟩ := pc_43.out
          simp only [Value.slice.injEq] at ye
          obtain ⟨rfl, _, rfl⟩ := ye
          obtain rfl : dpc = some ⟨yb, yo, none⟩ := by rcases yh with h | h; exact h; simp at h
          obtain ⟨_, yv, yq, yx, _, _, yz, yg, _⟩ := yr 0 (by simp)
          rw [yg] at yq
          simp only [Nat.zero_mul, Nat.add_zero] at yq
          clear yr yh yg pc_43
          have hS : ∀ j (h : j < badB.length), (W43.alloc (.cells #[.string ⟨#[2, 1, 0, 0, 0, 0]⟩, .string ⟨#[2, 0]⟩, .string ⟨#[5, 1, 0, 0, 0, 1]⟩, .string ⟨#[2, 2, 0, 0, 0, 1]⟩, .string ⟨#[2]⟩] 9)).cell? ⟨W43.heap.size, j, none⟩ = some (.string ⟨(badB[j]).toArray⟩) := strs_lit W43 badB 9
          have HS : Hid (∀ j (h : j < badB.length), _) := hS
          have hba : Below W43.heap.size W43 (W43.alloc (.cells #[.string ⟨#[2, 1, 0, 0, 0, 0]⟩, .string ⟨#[2, 0]⟩, .string ⟨#[5, 1, 0, 0, 0, 1]⟩, .string ⟨#[2, 2, 0, 0, 0, 1]⟩, .string ⟨#[2]⟩] 9)) := (Below.refl _ _).alloc (Nat.le_refl _) _
          have HB44 : Hid (Below w.heap.size w (W43.alloc (.cells #[.string ⟨#[2, 1, 0, 0, 0, 0]⟩, .string ⟨#[2, 0]⟩, .string ⟨#[5, 1, 0, 0, 0, 1]⟩, .string ⟨#[2, 2, 0, 0, 0, 1]⟩, .string ⟨#[2]⟩] 9))) := HB43.out.trans (hba.mono HB43.out.size)
          clear hS hba HB43
          go_wp2
          generalize W43.alloc (.cells #[.string ⟨#[2, 1, 0, 0, 0, 0]⟩, .string ⟨#[2, 0]⟩, .string ⟨#[5, 1, 0, 0, 0, 1]⟩, .string ⟨#[2, 2, 0, 0, 0, 1]⟩, .string ⟨#[2]⟩] 9) = W44 at *
          generalize W43.heap.size = gg27 at *
          go_loopw [27] (fun i wr => ∃ k : Nat, k ≤ 5 ∧ i = .int .i64 k ∧ Below W44.heap.size W44 wr) (fun i _ => 5 - (intOf i).toNat)
          case atStart => exact ⟨0, Nat.zero_le _, rfl, Below.refl _ _⟩
          case round =>
            obtain ⟨k, hk, rfl, hq⟩ := hrel
            have HQ : Hid (Below W44.heap.size W44 wr) := hq
            clear hq
            by_cases hlt : k < 5
            · have hki : (k : Int) < 5 := by omega
              have hc := below_cell HQ.out (HS.out k hlt)
              have HC : Hid (_ : Prop) := decode_bad (badB[k]) (List.getElem_mem hlt) wr
              generalize (⟨(badB[k]).toArray⟩ : ByteArray) = tx at *
              go_wp2_with fail
              refine Calls.mono HC.out ?_
              rintro e wn ⟨rfl, hb⟩
              have HQ3 : Hid (Below W44.heap.size W44 wn) := HQ.out.trans (hb.mono HQ.out.size)
              clear hb HC hc HQ
              go_wp2
              go_roundw
              case rel => exact ⟨k + 1, by omega, by go_num, HQ3.out⟩
              case measure => simp [intOf]; omega
            · obtain rfl : k = 5 := by omega
              clear hlt hk HS
              rw [show ((5 : Nat) : Int) = 5 from rfl]
              have hbq : Below W44.heap.size W44 wr := HQ.out
              have HB45 : Hid (Below w.heap.size w wr) := HB44.out.trans (hbq.mono HB44.out.size)
              clear HQ hbq HB44
              generalize wr = W45 at *
              have hS : ∀ j (h : j < badT.length), (W45.alloc (.cells #[.string ⟨#[]⟩, .string ⟨#[60, 62]⟩, .string ⟨#[60, 49, 62, 32]⟩, .string ⟨#[60, 48, 49, 62]⟩, .string ⟨#[60, 49, 62, 32, 32, 60, 50, 62]⟩, .string ⟨#[49]⟩, .string ⟨#[60, 49]⟩, .string ⟨#[60, 48, 62]⟩, .string ⟨#[60, 52, 50, 57, 52, 57, 54, 55, 50, 57, 54, 62]⟩, .string ⟨#[60, 49, 125]⟩, .string ⟨#[60, 32, 49, 62]⟩] 9)).cell? ⟨W45.heap.size, j, none⟩ = some (.string ⟨(badT[j]).toArray⟩) := strs_lit W45 badT 9
              have HS : Hid (∀ j (h : j < badT.length), _) := hS
              have hba : Below W45.heap.size W45 (W45.alloc (.cells #[.string ⟨#[]⟩, .string ⟨#[60, 62]⟩, .string ⟨#[60, 49, 62, 32]⟩, .string ⟨#[60, 48, 49, 62]⟩, .string ⟨#[60, 49, 62, 32, 32, 60, 50, 62]⟩, .string ⟨#[49]⟩, .string ⟨#[60, 49]⟩, .string ⟨#[60, 48, 62]⟩, .string ⟨#[60, 52, 50, 57, 52, 57, 54, 55, 50, 57, 54, 62]⟩, .string ⟨#[60, 49, 125]⟩, .string ⟨#[60, 32, 49, 62]⟩] 9)) := (Below.refl _ _).alloc (Nat.le_refl _) _
              have HB46 : Hid (Below w.heap.size w (W45.alloc (.cells #[.string ⟨#[]⟩, .string ⟨#[60, 62]⟩, .string ⟨#[60, 49, 62, 32]⟩, .string ⟨#[60, 48, 49, 62]⟩, .string ⟨#[60, 49, 62, 32, 32, 60, 50, 62]⟩, .string ⟨#[49]⟩, .string ⟨#[60, 49]⟩, .string ⟨#[60, 48, 62]⟩, .string ⟨#[60, 52, 50, 57, 52, 57, 54, 55, 50, 57, 54, 62]⟩, .string ⟨#[60, 49, 125]⟩, .string ⟨#[60, 32, 49, 62]⟩] 9))) := HB45.out.trans (hba.mono HB45.out.size)
              clear hS hba HB45
              go_wp2
              generalize W45.alloc (.cells #[.string ⟨#[]⟩, .string ⟨#[60, 62]⟩, .string ⟨#[60, 49, 62, 32]⟩, .string ⟨#[60, 48, 49, 62]⟩, .string ⟨#[60, 49, 62, 32, 32, 60, 50, 62]⟩, .string ⟨#[49]⟩, .string ⟨#[60, 49]⟩, .string ⟨#[60, 48, 62]⟩, .string ⟨#[60, 52, 50, 57, 52, 57, 54, 55, 50, 57, 54, 62]⟩, .string ⟨#[60, 49, 125]⟩, .string ⟨#[60, 32, 49, 62]⟩] 9) = W46 at *
              generalize W45.heap.size = gg31 at *
              go_loopw [31] (fun i wr => ∃ k : Nat, k ≤ 11 ∧ i = .int .i64 k ∧ Below W46.heap.size W46 wr) (fun i _ => 11 - (intOf i).toNat)
              case atStart => exact ⟨0, Nat.zero_le _, rfl, Below.refl _ _⟩
              case round =>
                obtain ⟨k, hk, rfl, hq⟩ := hrel
                have HQ : Hid (Below W46.heap.size W46 wr) := hq
                clear hq
                by_cases hlt : k < 11
                · have hki : (k : Int) < 11 := by omega
                  have hc := below_cell HQ.out (HS.out k hlt)
                  have HC : Hid (_ : Prop) := parse_bad (badT[k]) (List.getElem_mem hlt) wr (HT.out.below (HB46.out.trans (HQ.out.mono HB46.out.size))) (HE.out.below (HB46.out.trans (HQ.out.mono HB46.out.size)))
                  generalize (⟨(badT[k]).toArray⟩ : ByteArray) = tx at *
                  go_wp2_with fail
                  refine Calls.mono HC.out ?_
                  rintro e wn ⟨rfl, hb⟩
                  have HQ3 : Hid (Below W46.heap.size W46 wn) := HQ.out.trans (hb.mono HQ.out.size)
                  clear hb HC hc HQ
                  go_wp2
                  go_roundw
                  case rel => exact ⟨k + 1, by omega, by go_num, HQ3.out⟩
                  case measure => simp [intOf]; omega
                · obtain rfl : k = 11 := by omega
                  clear hlt hk HS
                  rw [show ((11 : Nat) : Int) = 11 from rfl]
                  have hbq : Below W46.heap.size W46 wr := HQ.out
                  have HB47 : Hid (Below w.heap.size w wr) := HB46.out.trans (hbq.mono HB46.out.size)
                  clear HQ hbq HB46
                  generalize wr = W47 at *
                  go_wp2_with fail
                  refine Calls.mono (dec_nil W47) ?_
                  rintro e W48 ⟨⟨ad1, c1, rfl⟩, hb⟩
                  have HB48 : Hid (Below w.heap.size w W48) := HB47.out.trans (hb.mono HB47.out.size)
                  clear hb HB47
                  go_wp2_with fail
                  refine Calls.mono (parse_dash W48 (HT.out.below HB48.out) (HM.out.below HB48.out)) ?_
                  rintro e W49 ⟨⟨ad2, c2, rfl⟩, hb⟩
                  have HB49 : Hid (Below w.heap.size w W49) := HB48.out.trans (hb.mono HB48.out.size)
                  clear hb HB48
                  go_wp2_with fail
                  refine Calls.mono (text_any _ [] W49 (path_nil _) rfl (HT.out.below HB49.out)) ?_
                  rintro e W50 ⟨rfl, hb⟩
                  rw [show (⟨(textOf []).toArray⟩ : ByteArray) = ⟨#[45]⟩ from rfl]
                  have HB50 : Hid (Below w.heap.size w W50) := HB49.out.trans (hb.mono HB49.out.size)
                  clear hb HB49
                  have hA : ASAt (W50.alloc (.cells #[.int .u32 1] 26)) (.slice (some ⟨W50.heap.size, 0, none⟩) 1 1) [1] := as_lit W50 [1] 26 (by decide) (by decide)
                  have hba : Below W50.heap.size W50 (W50.alloc (.cells #[.int .u32 1] 26)) := (Below.refl _ _).alloc (Nat.le_refl _) _
                  have ax_n : Hid (ASAt (W50.alloc (.cells #[.int .u32 1] 26)) _ [1]) := hA
                  have HB51 : Hid (Below w.heap.size w (W50.alloc (.cells #[.int .u32 1] 26))) := HB50.out.trans (hba.mono HB50.out.size)
                  clear hA hba HB50
                  have hP : PathAt ((W50.alloc (.cells #[.int .u32 1] 26)).alloc (.cells #[.int .i64 5, .slice (some ⟨W50.heap.size, 0, none⟩) 1 1] 24)) (.slice (some ⟨(W50.alloc (.cells #[.int .u32 1] 26)).heap.size, 0, none⟩) 1 1) [(5, [1])] := path_lit (W50.alloc (.cells #[.int .u32 1] 26)) [(5, .slice (some ⟨W50.heap.size, 0, none⟩) 1 1, [1])] 24 (fa (ax_n.out) (fun r h => by cases h)) (by simp)
                  have hba : Below (W50.alloc (.cells #[.int .u32 1] 26)).heap.size (W50.alloc (.cells #[.int .u32 1] 26)) ((W50.alloc (.cells #[.int .u32 1] 26)).alloc (.cells #[.int .i64 5, .slice (some ⟨W50.heap.size, 0, none⟩) 1 1] 24)) := (Below.refl _ _).alloc (Nat.le_refl _) _
                  clear ax_n
                  have pd_n : Hid (PathAt ((W50.alloc (.cells #[.int .u32 1] 26)).alloc (.cells #[.int .i64 5, .slice (some ⟨W50.heap.size, 0, none⟩) 1 1] 24)) (.slice (some ⟨(W50.alloc (.cells #[.int .u32 1] 26)).heap.size, 0, none⟩) 1 1) [(5, [1])]) := hP
                  have HB52 : Hid (Below w.heap.size w ((W50.alloc (.cells #[.int .u32 1] 26)).alloc (.cells #[.int .i64 5, .slice (some ⟨W50.heap.size, 0, none⟩) 1 1] 24))) := HB51.out.trans (hba.mono HB51.out.size)
                  clear hP hba HB51
                  rw [show (W50.alloc (.cells #[.int .u32 1] 26)).heap.size = W50.heap.size + 1 by simp] at pd_n
                  go_wp2_with fail
                  generalize (W50.alloc (.cells #[.int .u32 1] 26)).alloc (.cells #[.int .i64 5, .slice (some ⟨W50.heap.size, 0, none⟩) 1 1] 24) = W51 at *
                  refine Calls.mono (text_bad _ [(5, [1])] _ pd_n.out (by decide +kernel)) ?_
                  rintro e W52 ⟨rfl, hb⟩
                  have HB53 : Hid (Below w.heap.size w W52) := HB52.out.trans (hb.mono HB52.out.size)
                  have pd_53 : Hid (_ : Prop) := PathAt.below pd_n.out hb
                  clear hb HB52 pd_n
                  go_wp2_with fail
                  refine Calls.mono (encode_bad _ [(5, [1])] true _ pd_53.out (by decide +kernel)) ?_
                  rintro e W53 ⟨rfl, hb⟩
                  have HB54 : Hid (Below w.heap.size w W53) := HB53.out.trans (hb.mono HB53.out.size)
                  have pd_54 : Hid (_ : Prop) := PathAt.below pd_53.out hb
                  clear hb HB53 pd_53
                  go_wp2_with fail
                  refine Calls.mono (works_any W53 (HT.out.below HB54.out)) ?_
                  rintro e W54 ⟨rfl, hb⟩
                  have HB55 : Hid (Below w.heap.size w W54) := HB54.out.trans (hb.mono HB54.out.size)
                  have pd_55 : Hid (_ : Prop) := PathAt.below pd_54.out hb
                  clear hb HB54 pd_54
                  go_wp2_with fail
                  refine Calls.mono (check_any _ [(5, [1])] _ pd_55.out) ?_
                  rintro e W55 ⟨rfl, hb⟩
                  rw [show chkOf [(5, [1])] = 2 by decide +kernel]
                  clear pd_55
                  have HB56 : Hid (Below w.heap.size w W55) := HB55.out.trans (hb.mono HB55.out.size)
                  clear hb HB55
                  have hP : PathAt (W55.alloc (.cells #[.int .i64 1, .slice none 0 0] 24)) (.slice (some ⟨W55.heap.size, 0, none⟩) 1 1) [(1, [])] := path_lit W55 [(1, .slice none 0 0, [])] 24 (fa (as_nil _) (fun r h => by cases h)) (by simp)
                  have hba : Below W55.heap.size W55 (W55.alloc (.cells #[.int .i64 1, .slice none 0 0] 24)) := (Below.refl _ _).alloc (Nat.le_refl _) _
                  have pd_n : Hid (PathAt (W55.alloc (.cells #[.int .i64 1, .slice none 0 0] 24)) (.slice (some ⟨W55.heap.size, 0, none⟩) 1 1) [(1, [])]) := hP
                  have HB57 : Hid (Below w.heap.size w (W55.alloc (.cells #[.int .i64 1, .slice none 0 0] 24))) := HB56.out.trans (hba.mono HB56.out.size)
                  clear hP hba HB56
                  go_wp2_with fail
                  generalize W55.alloc (.cells #[.int .i64 1, .slice none 0 0] 24) = W56 at *
                  refine Calls.mono (check_any _ [(1, [])] _ pd_n.out) ?_
                  rintro e W57 ⟨rfl, hb⟩
                  rw [show chkOf [(1, [])] = 2 by decide +kernel]
                  clear pd_n
                  have HB58 : Hid (Below w.heap.size w W57) := HB57.out.trans (hb.mono HB57.out.size)
                  clear hb HB57
                  go_wp2_with fail
                  refine Calls.mono (seg_any 1 _ 1 1 _) ?_
                  rintro e W58 ⟨rfl, hb⟩
                  have hba : Below W57.heap.size W57 (W57.alloc (.cells (cellsU [0]).toArray 26)) := (Below.refl _ _).alloc (Nat.le_refl _) _
                  have hc : Below W57.heap.size W57 W58 := hba.trans (hb.mono hba.size)
                  have a1_n : Hid (ASAt W58 (.slice (some ⟨W57.heap.size, 0, none⟩) 1 1) [0]) := (as_lit W57 [0] 26 (by decide) (by decide)).below hb
                  have HB59 : Hid (Below w.heap.size w W58) := HB58.out.trans (hc.mono HB58.out.size)
                  clear hb hba hc HB58
                  have hP : PathAt (W58.alloc (.cells #[.int .i64 1, .slice (some ⟨W57.heap.size, 0, none⟩) 1 1] 24)) (.slice (some ⟨W58.heap.size, 0, none⟩) 1 1) [(1, [0])] := path_lit W58 [(1, .slice (some ⟨W57.heap.size, 0, none⟩) 1 1, [0])] 24 (fa (a1_n.out) (fun r h => by cases h)) (by simp)
                  have hba : Below W58.heap.size W58 (W58.alloc (.cells #[.int .i64 1, .slice (some ⟨W57.heap.size, 0, none⟩) 1 1] 24)) := (Below.refl _ _).alloc (Nat.le_refl _) _
                  clear a1_n
                  have pd_n : Hid (PathAt (W58.alloc (.cells #[.int .i64 1, .slice (some ⟨W57.heap.size, 0, none⟩) 1 1] 24)) (.slice (some ⟨W58.heap.size, 0, none⟩) 1 1) [(1, [0])]) := hP
                  have HB60 : Hid (Below w.heap.size w (W58.alloc (.cells #[.int .i64 1, .slice (some ⟨W57.heap.size, 0, none⟩) 1 1] 24))) := HB59.out.trans (hba.mono HB59.out.size)
                  clear hP hba HB59
                  go_wp2_with fail
                  generalize W58.alloc (.cells #[.int .i64 1, .slice (some ⟨W57.heap.size, 0, none⟩) 1 1] 24) = W59 at *
                  refine Calls.mono (check_any _ [(1, [0])] _ pd_n.out) ?_
                  rintro e W60 ⟨rfl, hb⟩
                  rw [show chkOf [(1, [0])] = 2 by decide +kernel]
                  clear pd_n
                  have HB61 : Hid (Below w.heap.size w W60) := HB60.out.trans (hb.mono HB60.out.size)
                  clear hb HB60
                  have hms : ∀ X, (Instr.makeSlice 27 (.int .i64 17) (.int .i64 17)).run Tryz.prog X = .ok (.slice (some ⟨X.heap.size, 0, none⟩) 17 17) (X.alloc (.cells (madeCells #[.int .i64 0, .slice none 0 0] 34) 24)) := made_s 17 (by omega)
                  have hba : Below W60.heap.size W60 (W60.alloc (.cells (madeCells #[.int .i64 0, .slice none 0 0] 34) 24)) := (Below.refl _ _).alloc (Nat.le_refl _) _
                  have pz_n : Hid (PathAt (W60.alloc (.cells (madeCells #[.int .i64 0, .slice none 0 0] 34) 24)) (.slice (some ⟨W60.heap.size, 0, none⟩) 17 17) (List.replicate 17 ((0 : Int), []))) := zero17 W60
                  have HB62 : Hid (Below w.heap.size w (W60.alloc (.cells (madeCells #[.int .i64 0, .slice none 0 0] 34) 24))) := HB61.out.trans (hba.mono HB61.out.size)
                  clear hba HB61
                  go_wp2_with fail
                  clear hms
                  generalize W60.alloc (.cells (madeCells #[.int .i64 0, .slice none 0 0] 34) 24) = W61 at *
                  refine Calls.mono (check_any _ (List.replicate 17 ((0 : Int), [])) _ pz_n.out) ?_
                  rintro e W62 ⟨rfl, hb⟩
                  rw [show chkOf (List.replicate 17 ((0 : Int), [])) = 2 by decide +kernel]
                  clear pz_n
                  have HB63 : Hid (Below w.heap.size w W62) := HB62.out.trans (hb.mono HB62.out.size)
                  clear hb HB62
                  go_wp2_with fail
                  refine Calls.mono (check_any _ [] _ (path_nil _)) ?_
                  rintro e W63 ⟨rfl, hb⟩
                  rw [show chkOf [] = 0 by decide +kernel]
                  have HB64 : Hid (Below w.heap.size w W63) := HB63.out.trans (hb.mono HB63.out.size)
                  clear hb HB63
                  go_wp2
                  go_ret
                  exact ⟨rfl, HB64.out⟩
end Go.Proofs.YtbdfigfjoiefiabGreatDoor
