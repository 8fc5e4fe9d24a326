/-
  How long a path counts; and the example that closes every statement.
-/
import Derived.Test.YtbdfigfjoiefiaaDoorF3
import Derived.Test.YtbdfigfjoiefiaaDoorG1
namespace Go.Proofs.YtbdfigfjoiefiaaDoor
open Go.RowKit
theorem lenOf_le (L : List Sg) (h : ∀ s ∈ L, s.2.length ≤ 35184372088832) : 0 ≤ lenOf L ∧ lenOf L ≤ L.length * 35184372088832 := by
  induction L with
  | nil => simp [lenOf]
  | cons s L ih =>
    have h1 := h s (by simp)
    obtain ⟨h2, h3⟩ := ih (fun t ht => h t (by simp [ht]))
    simp only [lenOf, List.map_cons, List.sum_cons, List.length_cons] at *
    generalize (List.map (fun (s : Sg) => if s.1 = 2 then (s.2.length : Int) else if s.1 = 1 then 1 else 0) L).sum = q at *
    split
    · omega
    · split <;> omega
theorem PathAt.le {w : World} {v : Value} {L : List Sg} (h : PathAt w v L) : ∀ s ∈ L, s.2.length ≤ 35184372088832 := by
  obtain ⟨_, _, _, _, _, _, _, hr⟩ := h
  intro s hs
  obtain ⟨j, hj, e⟩ := List.getElem_of_mem hs
  obtain ⟨_, v, _, ha⟩ := hr j hj
  obtain ⟨_, _, _, _, _, _, ⟨_, h⟩, _⟩ := ha
  rw [← e]; exact h
set_option maxRecDepth 100000 in
theorem length_any (v : Value) (L : List Sg) (w : World) (h : PathAt w v L) (hn : L.length ≤ 1000) :
    Calls Tryd.prog 15 #[v] w fun e w' => e = .returned (.int .i64 (lenOf L)) ∧ Below w.heap.size w w' := by
  have HLE : Hid (_ : Prop) := h.le
  obtain ⟨ad, b, off, cap, rfl, had, ⟨_, hl⟩, hr⟩ := h
  have HR : Hid (RowS _ _ _ _) := hr
  clear hr
  go_enter Tryd.func15, Tryd.ntmps15
  go_wp2
  go_loopw [3, 8] (fun t i wr => ∃ k : Nat, k ≤ L.length ∧ i = .int .i64 k ∧ t = .int .i64 (lenOf (L.take k)) ∧ Below w.heap.size w wr) (fun _ i _ => L.length - (intOf i).toNat)
  case atStart => exact ⟨0, Nat.zero_le _, rfl, by simp [lenOf], Below.refl _ _⟩
  case round =>
    obtain ⟨k, hk, rfl, rfl, hb⟩ := hrel
    have HB : Hid (Below _ _ _) := hb
    by_cases hlt : k < L.length
    · obtain rfl : ad = some ⟨b, off, none⟩ := by rcases had with h | h; exact h; omega
      obtain ⟨c0, va, c1, hva⟩ := (HR.out.below hb) k hlt
      have HX : Hid (lenOf (L.take (k + 1)) = lenOf (L.take k) + (if L[k].1 = 2 then (L[k].2.length : Int) else if L[k].1 = 1 then 1 else 0)) := by unfold Hid; rw [take_snoc L k hlt, lenOf_snoc]
      have hbd := lenOf_le (L.take k) (fun s hs => HLE.out s (List.mem_of_mem_take hs))
      have hle := HLE.out _ (List.getElem_mem hlt)
      have hkl : (L.take k).length = k := by simp; omega
      rw [hkl] at hbd
      clear hb had hkl
      generalize lenOf (L.take k) = q at *
      generalize L[k] = s at *
      obtain ⟨kd, av⟩ := s
      obtain ⟨ad2, b2, off2, cap2, rfl, h2⟩ := id hva
      clear h2 hva
      simp only at c0 hle
      have HB2 : ∀ o, Below w.heap.size w (wr.alloc o) := fun o => HB.out.alloc HB.out.size o
      have HB3 : Hid (_ : Prop) := HB2
      clear HB2
      by_cases h2 : kd = 2
      · subst h2
        go_wp2
        go_roundw
        case rel => exact ⟨k + 1, by omega, by go_num, by rw [HX.out]; simp, HB3.out _⟩
        case measure => simp [intOf]; omega
      · by_cases h1 : kd = 1
        · subst h1
          go_wp2
          go_roundw
          case rel => exact ⟨k + 1, by omega, by go_num, by rw [HX.out]; simp, HB3.out _⟩
          case measure => simp [intOf]; omega
        · go_wp2
          go_roundw
          case rel => exact ⟨k + 1, by omega, by go_num, by rw [HX.out]; simp [h1, h2], HB3.out _⟩
          case measure => simp [intOf]; omega
    · obtain rfl : k = L.length := by omega
      rw [List.take_length]
      go_wp2
      go_ret
      exact ⟨rfl, HB.out⟩
theorem seg_any (k : Int) (ad : Option Addr) (n c : Nat) (w : World) :
    Calls Tryd.prog 47 #[.int .i64 k, .slice ad n c] w fun e w' => e = .returned (.agg #[.int .i64 k, .slice ad n c]) ∧ Below w.heap.size w w' := by
  go_enter Tryd.func47, Tryd.ntmps47
  go_wp2
  refine bodyPost_ret (v := .agg #[.int .i64 k, .slice ad n c]) (by simp [results, Tryd.results47, go_sem]) rfl ⟨rfl, ?_⟩
  exact (Below.refl _ _).alloc (by simp) _
theorem rowU1 {w : World} {b x : Nat} (h0 : w.cell? ⟨b, 0, none⟩ = some (.int .u32 (x : Int))) (hx : x < 4294967296) : RowU w b 0 [x] := by
  intro j hj
  rcases j with _ | j
  · exact ⟨h0, hx⟩
  · exact absurd hj (by simp)
theorem rowU2 {w : World} {b x y : Nat} (h0 : w.cell? ⟨b, 0, none⟩ = some (.int .u32 (x : Int))) (h1 : w.cell? ⟨b, 1, none⟩ = some (.int .u32 (y : Int))) (hx : x < 4294967296) (hy : y < 4294967296) : RowU w b 0 [x, y] := by
  intro j hj
  rcases j with _ | _ | j
  · exact ⟨h0, hx⟩
  · exact ⟨h1, hy⟩
  · exact absurd hj (by simp)
/-- The example's path. -/
def exL : List Sg := [(2, [1, 70000]), (1, [3])]
theorem ex_ok : okPath exL = true := by decide +kernel
theorem ex_ok1 : okPath (exL.take 1) = true := by decide +kernel
theorem ex_text : textOf exL = [60, 49, 32, 55, 48, 48, 48, 48, 62, 32, 123, 51, 125] := by decide +kernel
theorem ex_enc : encOf false (exL.take 1) = [2, 2, 0, 1, 91, 160] := by decide +kernel
theorem ex_len : lenOf exL = 3 := by decide +kernel
set_option maxRecDepth 100000 in
set_option maxHeartbeats 800000 in
theorem works_any (w : World) (ht : Tabs w) :
    Calls Tryd.prog 26 #[] w fun e w' => e = .returned (.bool true) ∧ Below w.heap.size w w' := by
  go_enter Tryd.func26, Tryd.ntmps26
  go_wp2_with fail
  refine (seg_any 2 _ _ _ _).mono ?_
  rintro e w1 ⟨rfl, hb1⟩
  have hB1 : Below w.heap.size w w1 := ((Below.refl _ _).alloc (Nat.le_refl _) _).trans (hb1.mono (by simp))
  have q0 : w1.cell? ⟨w.heap.size, 0, none⟩ = some (.int .u32 1) := below_cell hb1 (by simp)
  have q1 : w1.cell? ⟨w.heap.size, 1, none⟩ = some (.int .u32 70000) := below_cell hb1 (by simp)
  have r1 : RowU w1 w.heap.size 0 [1, 70000] := by
    exact rowU2 q0 q1 (by decide) (by decide)
  have HR1 : Hid (RowU _ _ _ _) := r1
  have HB1 : Hid (Below _ _ _) := hB1
  clear hb1 q0 q1 r1 hB1
  go_wp2_with fail
  refine (seg_any 1 _ _ _ _).mono ?_
  rintro e w2 ⟨rfl, hb2⟩
  have hba : Below w1.heap.size w1 (w1.alloc (.cells #[.int .u32 3] 23)) := (Below.refl _ _).alloc (Nat.le_refl _) _
  have hB2 : Below w1.heap.size w1 w2 := hba.trans (hb2.mono (by simp))
  have q0 : w2.cell? ⟨w1.heap.size, 0, none⟩ = some (.int .u32 3) := below_cell hb2 (by simp)
  have r2 : RowU w2 w1.heap.size 0 [3] := by
    exact rowU1 q0 (by decide)
  have HR2 : Hid (RowU _ _ _ _) := r2
  have HR1' : Hid (RowU w2 w.heap.size 0 [1, 70000]) := HR1.out.below hB2
  have HB2 : Hid (Below w.heap.size w w2) := HB1.out.trans (hB2.mono HB1.out.size)
  clear hb2 q0 r2 hba hB2 HR1
  generalize w.heap.size = p1 at HR1' ⊢
  generalize w1.heap.size = p2 at HR2 ⊢
  have hP : PathAt (w2.alloc (.cells #[.int .i64 2, .slice (some ⟨p1, 0, none⟩) 2 2, .int .i64 1, .slice (some ⟨p2, 0, none⟩) 1 1] 48)) (.slice (some ⟨w2.heap.size, 0, none⟩) 2 2) exL := by
    have hba : Below w2.heap.size w2 (w2.alloc (.cells #[.int .i64 2, .slice (some ⟨p1, 0, none⟩) 2 2, .int .i64 1, .slice (some ⟨p2, 0, none⟩) 1 1] 48)) := (Below.refl _ _).alloc (Nat.le_refl _) _
    refine ⟨some ⟨w2.heap.size, 0, none⟩, w2.heap.size, 0, 2, rfl, Or.inl rfl, by decide, fun i hi => ?_⟩
    rcases i with _ | _ | i
    · exact ⟨cell_row (heap_new _ _) _ _ rfl, _, cell_row (heap_new _ _) _ _ rfl, some ⟨p1, 0, none⟩, p1, 0, 2, rfl, Or.inl rfl, by simp [exL], HR1'.out.below hba⟩
    · exact ⟨cell_row (heap_new _ _) _ _ rfl, _, cell_row (heap_new _ _) _ _ rfl, some ⟨p2, 0, none⟩, p2, 0, 1, rfl, Or.inl rfl, by simp [exL], HR2.out.below hba⟩
    · exact absurd hi (by simp [exL])
  have hB3 : Below w.heap.size w (w2.alloc (.cells #[.int .i64 2, .slice (some ⟨p1, 0, none⟩) 2 2, .int .i64 1, .slice (some ⟨p2, 0, none⟩) 1 1] 48)) := HB2.out.alloc HB2.out.size _
  have HP : Hid (PathAt _ _ _) := hP
  have HB3 : Hid (Below _ _ _) := hB3
  have HT : Hid (Tabs _) := ht.below hB3
  clear hP hB3 HR1' HR2 HB2
  go_wp2_with fail
  generalize w2.alloc (.cells #[.int .i64 2, .slice (some ⟨p1, 0, none⟩) 2 2, .int .i64 1, .slice (some ⟨p2, 0, none⟩) 1 1] 48) = w3 at *
  generalize w2.heap.size = p3 at *
  refine (text_any _ exL w3 HP.out ex_ok HT.out).mono ?_
  rintro e w4 ⟨rfl, hb4⟩
  rw [ex_text]
  have HP4 : Hid (PathAt w4 (.slice (some ⟨p3, 0, none⟩) 1 2) (exL.take 1)) := (HP.out.below hb4).first 1 (by decide)
  have HP5 : Hid (PathAt w4 (.slice (some ⟨p3, 0, none⟩) 2 2) exL) := HP.out.below hb4
  have HB4 : Hid (Below w.heap.size w w4) := HB3.out.trans (hb4.mono HB3.out.size)
  clear hb4 HP HB3 HT
  go_wp2_with fail
  refine (encode_any _ (exL.take 1) false w4 HP4.out ex_ok1).mono ?_
  rintro e w5 ⟨rfl, hb5⟩
  rw [ex_enc]
  have HP6 : Hid (PathAt w5 (.slice (some ⟨p3, 0, none⟩) 2 2) exL) := HP5.out.below hb5
  have HB5 : Hid (Below w.heap.size w w5) := HB4.out.trans (hb5.mono HB4.out.size)
  clear hb5 HP4 HP5 HB4
  go_wp2_with fail
  refine (length_any _ exL w5 HP6.out (by decide)).mono ?_
  rintro e w6 ⟨rfl, hb6⟩
  rw [ex_len]
  have hB6 := HB5.out.trans (hb6.mono HB5.out.size)
  clear hb6
  go_wp2
  go_ret
  exact ⟨rfl, hB6⟩
end Go.Proofs.YtbdfigfjoiefiaaDoor
