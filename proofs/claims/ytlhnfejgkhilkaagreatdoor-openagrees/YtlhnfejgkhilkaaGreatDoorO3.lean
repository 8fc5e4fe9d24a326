/-
  Whether an open may be.
-/
import Derived.Test.YtlhnfejgkhilkaaGreatDoorO2
set_option linter.unusedVariables false
set_option linter.unusedSimpArgs false
namespace Go.Proofs.YtlhnfejgkhilkaaGreatDoor
open Go.RowKit
def mayB (o : Opn) : Bool := decide (0 < o.asn) && (o.four || decide (o.asn ≤ 65535)) && holdB o.hold && decide (0 < o.id) && decide (0 < (o.fams.length : Int)) && risF 0 o.fams && risF 0 (o.adds.map (·.f)) && !(o.adds.any idleB) && restB o
set_option maxRecDepth 100000 in
set_option maxHeartbeats 3200000 in
theorem may_core (o : Opn) (ad : Option Addr) (nf cap : Nat) (va vk : Value) (w : World) (z3 z6 z7 z8 z9 : Bool)
    (k3 : ∀ X, Calls Tryz.prog 28 #[.int .i64 o.hold] X fun e w' => e = .returned (.bool z3) ∧ w' = X)
    (k6 : ∀ X, Below w.heap.size w X → Calls Tryz.prog 29 #[.slice ad nf cap, .func (.func 30) #[] #[]] X fun e w' => e = .returned (.bool z6) ∧ Below X.heap.size X w')
    (k7 : ∀ X, Below w.heap.size w X → Calls Tryz.prog 31 #[va, .func (.func 32) #[] #[]] X fun e w' => e = .returned (.bool z7) ∧ Below X.heap.size X w')
    (k8 : z7 = true → ∀ X, Below w.heap.size w X → Calls Tryz.prog 33 #[va, .func (.func 34) #[] #[]] X fun e w' => e = .returned (.bool z8) ∧ Below X.heap.size X w')
    (k9 : ∀ X, Below w.heap.size w X → Calls Tryz.prog 35 #[opV o (.slice ad nf cap) va vk] X fun e w' => e = .returned (.bool z9) ∧ Below X.heap.size X w') :
    Calls Tryz.prog 12 #[opV o (.slice ad nf cap) va vk] w fun e w' => e = .returned (.bool (decide (0 < o.asn) && (o.four || decide (o.asn ≤ 65535)) && z3 && decide (0 < o.id) && decide (0 < (nf : Int)) && z6 && z7 && !z8 && z9)) ∧ Below w.heap.size w w' := by
  obtain ⟨asn, hold, id, fams, four, refr, adds, gr, again, time, kept⟩ := o
  have K3 : Hid (_ : Prop) := k3
  have K6 : Hid (_ : Prop) := k6
  have K7 : Hid (_ : Prop) := k7
  have K8 : Hid (_ : Prop) := k8
  have K9 : Hid (_ : Prop) := k9
  clear k3 k6 k7 k8 k9
  have hba : Below w.heap.size w (w.alloc (.cells (opC ⟨asn, hold, id, fams, four, refr, adds, gr, again, time, kept⟩ (.slice ad nf cap) va vk) 27)) := (Below.refl _ _).alloc (Nat.le_refl _) _
  have HBA : Hid (Below _ _ _) := hba
  have HRW : Hid ((w.alloc (.cells (opC ⟨asn, hold, id, fams, four, refr, adds, gr, again, time, kept⟩ (.slice ad nf cap) va vk) 27)).heap[w.heap.size]? = _) := hp_new rfl
  clear hba
  unfold opV opC at K9
  unfold opC at HBA HRW
  unfold opV opC
  dsimp only at K3 K6 K7 K8 K9 HBA HRW ⊢
  by_cases hc0 : 0 < asn
  · skip
    have hor : (four = true) ∨ (four = false ∧ asn ≤ 65535) ∨ (four = false ∧ ¬ asn ≤ 65535) := by
      cases four
      · by_cases h : asn ≤ 65535
        · exact Or.inr (Or.inl ⟨rfl, h⟩)
        · exact Or.inr (Or.inr ⟨rfl, h⟩)
      · exact Or.inl rfl
    rcases hor with rfl | ⟨rfl, h65⟩ | ⟨rfl, h65⟩
    · skip
      cases z3 with
      | true =>
        by_cases hc3 : 0 < id
        · skip
          by_cases hc4 : 0 < (nf : Int)
          · skip
            cases z6 with
            | true =>
              cases z7 with
              | true =>
                cases z8 with
                | false =>
                  go_enter Tryz.func12, Tryz.ntmps12
                  go_wp2_with fail
                  refine Calls.mono (K3.out _) ?_
                  rintro e w0 ⟨rfl, hw0⟩
                  subst hw0
                  go_wp2_with fail
                  refine Calls.mono (K6.out _ HBA.out) ?_
                  rintro e w6 ⟨rfl, hb6⟩
                  have HB6 : Hid (Below w.heap.size w w6) := HBA.out.trans (hb6.mono HBA.out.size)
                  have HR6 : Hid (w6.heap[w.heap.size]? = _) := (hb6.block _ (by simp)).trans HRW.out
                  have c6 := cl_row (i := 6) HR6.out rfl
                  clear hb6
                  go_wp2_with fail
                  refine Calls.mono (K7.out _ HB6.out) ?_
                  rintro e w7 ⟨rfl, hb7⟩
                  have HB7 : Hid (Below w.heap.size w w7) := HB6.out.trans (hb7.mono HB6.out.size)
                  have HR7 : Hid (w7.heap[w.heap.size]? = _) := (hb7.block _ (by have := HB6.out.size; have := lt_of_heap HR6.out; omega)).trans HR6.out
                  have c6 := cl_row (i := 6) HR7.out rfl
                  clear hb7
                  go_wp2_with fail
                  refine Calls.mono (K8.out (by first | trivial | rfl) _ HB7.out) ?_
                  rintro e w8 ⟨rfl, hb8⟩
                  have HB8 : Hid (Below w.heap.size w w8) := HB7.out.trans (hb8.mono HB7.out.size)
                  have HR8 : Hid (w8.heap[w.heap.size]? = _) := (hb8.block _ (by have := HB7.out.size; have := lt_of_heap HR7.out; omega)).trans HR7.out
                  have c0 := cl_row (i := 0) HR8.out rfl
                  have c1 := cl_row (i := 1) HR8.out rfl
                  have c2 := cl_row (i := 2) HR8.out rfl
                  have c3 := cl_row (i := 3) HR8.out rfl
                  have c4 := cl_row (i := 4) HR8.out rfl
                  have c5 := cl_row (i := 5) HR8.out rfl
                  have c6 := cl_row (i := 6) HR8.out rfl
                  have c7 := cl_row (i := 7) HR8.out rfl
                  have c8 := cl_row (i := 8) HR8.out rfl
                  have c9 := cl_row (i := 9) HR8.out rfl
                  have c10 := cl_row (i := 10) HR8.out rfl
                  clear hb8
                  go_wp2_with fail
                  refine Calls.mono (K9.out _ HB8.out) ?_
                  rintro e w9 ⟨rfl, hb9⟩
                  have HB9 : Hid (Below w.heap.size w w9) := HB8.out.trans (hb9.mono HB8.out.size)
                  clear hb9
                  go_wp2
                  go_ret
                  exact ⟨ret_bool (by simp [*]), HB9.out⟩
                | true =>
                  go_enter Tryz.func12, Tryz.ntmps12
                  go_wp2_with fail
                  refine Calls.mono (K3.out _) ?_
                  rintro e w0 ⟨rfl, hw0⟩
                  subst hw0
                  go_wp2_with fail
                  refine Calls.mono (K6.out _ HBA.out) ?_
                  rintro e w6 ⟨rfl, hb6⟩
                  have HB6 : Hid (Below w.heap.size w w6) := HBA.out.trans (hb6.mono HBA.out.size)
                  have HR6 : Hid (w6.heap[w.heap.size]? = _) := (hb6.block _ (by simp)).trans HRW.out
                  have c6 := cl_row (i := 6) HR6.out rfl
                  clear hb6
                  go_wp2_with fail
                  refine Calls.mono (K7.out _ HB6.out) ?_
                  rintro e w7 ⟨rfl, hb7⟩
                  have HB7 : Hid (Below w.heap.size w w7) := HB6.out.trans (hb7.mono HB6.out.size)
                  have HR7 : Hid (w7.heap[w.heap.size]? = _) := (hb7.block _ (by have := HB6.out.size; have := lt_of_heap HR6.out; omega)).trans HR6.out
                  have c6 := cl_row (i := 6) HR7.out rfl
                  clear hb7
                  go_wp2_with fail
                  refine Calls.mono (K8.out (by first | trivial | rfl) _ HB7.out) ?_
                  rintro e w8 ⟨rfl, hb8⟩
                  have HB8 : Hid (Below w.heap.size w w8) := HB7.out.trans (hb8.mono HB7.out.size)
                  have HR8 : Hid (w8.heap[w.heap.size]? = _) := (hb8.block _ (by have := HB7.out.size; have := lt_of_heap HR7.out; omega)).trans HR7.out
                  have c0 := cl_row (i := 0) HR8.out rfl
                  have c1 := cl_row (i := 1) HR8.out rfl
                  have c2 := cl_row (i := 2) HR8.out rfl
                  have c3 := cl_row (i := 3) HR8.out rfl
                  have c4 := cl_row (i := 4) HR8.out rfl
                  have c5 := cl_row (i := 5) HR8.out rfl
                  have c6 := cl_row (i := 6) HR8.out rfl
                  have c7 := cl_row (i := 7) HR8.out rfl
                  have c8 := cl_row (i := 8) HR8.out rfl
                  have c9 := cl_row (i := 9) HR8.out rfl
                  have c10 := cl_row (i := 10) HR8.out rfl
                  clear hb8
                  go_wp2
                  go_ret
                  exact ⟨ret_bool (by simp [*]), HB8.out⟩
              | false =>
                go_enter Tryz.func12, Tryz.ntmps12
                go_wp2_with fail
                refine Calls.mono (K3.out _) ?_
                rintro e w0 ⟨rfl, hw0⟩
                subst hw0
                go_wp2_with fail
                refine Calls.mono (K6.out _ HBA.out) ?_
                rintro e w6 ⟨rfl, hb6⟩
                have HB6 : Hid (Below w.heap.size w w6) := HBA.out.trans (hb6.mono HBA.out.size)
                have HR6 : Hid (w6.heap[w.heap.size]? = _) := (hb6.block _ (by simp)).trans HRW.out
                have c6 := cl_row (i := 6) HR6.out rfl
                clear hb6
                go_wp2_with fail
                refine Calls.mono (K7.out _ HB6.out) ?_
                rintro e w7 ⟨rfl, hb7⟩
                have HB7 : Hid (Below w.heap.size w w7) := HB6.out.trans (hb7.mono HB6.out.size)
                have HR7 : Hid (w7.heap[w.heap.size]? = _) := (hb7.block _ (by have := HB6.out.size; have := lt_of_heap HR6.out; omega)).trans HR6.out
                have c6 := cl_row (i := 6) HR7.out rfl
                clear hb7
                go_wp2
                go_ret
                exact ⟨ret_bool (by simp [*]), HB7.out⟩
            | false =>
              go_enter Tryz.func12, Tryz.ntmps12
              go_wp2_with fail
              refine Calls.mono (K3.out _) ?_
              rintro e w0 ⟨rfl, hw0⟩
              subst hw0
              go_wp2_with fail
              refine Calls.mono (K6.out _ HBA.out) ?_
              rintro e w6 ⟨rfl, hb6⟩
              have HB6 : Hid (Below w.heap.size w w6) := HBA.out.trans (hb6.mono HBA.out.size)
              have HR6 : Hid (w6.heap[w.heap.size]? = _) := (hb6.block _ (by simp)).trans HRW.out
              have c6 := cl_row (i := 6) HR6.out rfl
              clear hb6
              go_wp2
              go_ret
              exact ⟨ret_bool (by simp [*]), HB6.out⟩
          · have hc4' : decide (0 < (nf : Int)) = false := by simpa using hc4
            go_enter Tryz.func12, Tryz.ntmps12
            go_wp2_with fail
            refine Calls.mono (K3.out _) ?_
            rintro e w0 ⟨rfl, hw0⟩
            subst hw0
            go_wp2
            go_ret
            exact ⟨ret_bool (by simp [*]), HBA.out⟩
        · have hc3' : decide (0 < id) = false := by simpa using hc3
          go_enter Tryz.func12, Tryz.ntmps12
          go_wp2_with fail
          refine Calls.mono (K3.out _) ?_
          rintro e w0 ⟨rfl, hw0⟩
          subst hw0
          go_wp2
          go_ret
          exact ⟨ret_bool (by simp [*]), HBA.out⟩
      | false =>
        go_enter Tryz.func12, Tryz.ntmps12
        go_wp2_with fail
        refine Calls.mono (K3.out _) ?_
        rintro e w0 ⟨rfl, hw0⟩
        subst hw0
        go_wp2
        go_ret
        exact ⟨ret_bool (by simp [*]), HBA.out⟩
    · skip
      cases z3 with
      | true =>
        by_cases hc3 : 0 < id
        · skip
          by_cases hc4 : 0 < (nf : Int)
          · skip
            cases z6 with
            | true =>
              cases z7 with
              | true =>
                cases z8 with
                | false =>
                  go_enter Tryz.func12, Tryz.ntmps12
                  go_wp2_with fail
                  refine Calls.mono (K3.out _) ?_
                  rintro e w0 ⟨rfl, hw0⟩
                  subst hw0
                  go_wp2_with fail
                  refine Calls.mono (K6.out _ HBA.out) ?_
                  rintro e w6 ⟨rfl, hb6⟩
                  have HB6 : Hid (Below w.heap.size w w6) := HBA.out.trans (hb6.mono HBA.out.size)
                  have HR6 : Hid (w6.heap[w.heap.size]? = _) := (hb6.block _ (by simp)).trans HRW.out
                  have c6 := cl_row (i := 6) HR6.out rfl
                  clear hb6
                  go_wp2_with fail
                  refine Calls.mono (K7.out _ HB6.out) ?_
                  rintro e w7 ⟨rfl, hb7⟩
                  have HB7 : Hid (Below w.heap.size w w7) := HB6.out.trans (hb7.mono HB6.out.size)
                  have HR7 : Hid (w7.heap[w.heap.size]? = _) := (hb7.block _ (by have := HB6.out.size; have := lt_of_heap HR6.out; omega)).trans HR6.out
                  have c6 := cl_row (i := 6) HR7.out rfl
                  clear hb7
                  go_wp2_with fail
                  refine Calls.mono (K8.out (by first | trivial | rfl) _ HB7.out) ?_
                  rintro e w8 ⟨rfl, hb8⟩
                  have HB8 : Hid (Below w.heap.size w w8) := HB7.out.trans (hb8.mono HB7.out.size)
                  have HR8 : Hid (w8.heap[w.heap.size]? = _) := (hb8.block _ (by have := HB7.out.size; have := lt_of_heap HR7.out; omega)).trans HR7.out
                  have c0 := cl_row (i := 0) HR8.out rfl
                  have c1 := cl_row (i := 1) HR8.out rfl
                  have c2 := cl_row (i := 2) HR8.out rfl
                  have c3 := cl_row (i := 3) HR8.out rfl
                  have c4 := cl_row (i := 4) HR8.out rfl
                  have c5 := cl_row (i := 5) HR8.out rfl
                  have c6 := cl_row (i := 6) HR8.out rfl
                  have c7 := cl_row (i := 7) HR8.out rfl
                  have c8 := cl_row (i := 8) HR8.out rfl
                  have c9 := cl_row (i := 9) HR8.out rfl
                  have c10 := cl_row (i := 10) HR8.out rfl
                  clear hb8
                  go_wp2_with fail
                  refine Calls.mono (K9.out _ HB8.out) ?_
                  rintro e w9 ⟨rfl, hb9⟩
                  have HB9 : Hid (Below w.heap.size w w9) := HB8.out.trans (hb9.mono HB8.out.size)
                  clear hb9
                  go_wp2
                  go_ret
                  exact ⟨ret_bool (by simp [*]), HB9.out⟩
                | true =>
                  go_enter Tryz.func12, Tryz.ntmps12
                  go_wp2_with fail
                  refine Calls.mono (K3.out _) ?_
                  rintro e w0 ⟨rfl, hw0⟩
                  subst hw0
                  go_wp2_with fail
                  refine Calls.mono (K6.out _ HBA.out) ?_
                  rintro e w6 ⟨rfl, hb6⟩
                  have HB6 : Hid (Below w.heap.size w w6) := HBA.out.trans (hb6.mono HBA.out.size)
                  have HR6 : Hid (w6.heap[w.heap.size]? = _) := (hb6.block _ (by simp)).trans HRW.out
                  have c6 := cl_row (i := 6) HR6.out rfl
                  clear hb6
                  go_wp2_with fail
                  refine Calls.mono (K7.out _ HB6.out) ?_
                  rintro e w7 ⟨rfl, hb7⟩
                  have HB7 : Hid (Below w.heap.size w w7) := HB6.out.trans (hb7.mono HB6.out.size)
                  have HR7 : Hid (w7.heap[w.heap.size]? = _) := (hb7.block _ (by have := HB6.out.size; have := lt_of_heap HR6.out; omega)).trans HR6.out
                  have c6 := cl_row (i := 6) HR7.out rfl
                  clear hb7
                  go_wp2_with fail
                  refine Calls.mono (K8.out (by first | trivial | rfl) _ HB7.out) ?_
                  rintro e w8 ⟨rfl, hb8⟩
                  have HB8 : Hid (Below w.heap.size w w8) := HB7.out.trans (hb8.mono HB7.out.size)
                  have HR8 : Hid (w8.heap[w.heap.size]? = _) := (hb8.block _ (by have := HB7.out.size; have := lt_of_heap HR7.out; omega)).trans HR7.out
                  have c0 := cl_row (i := 0) HR8.out rfl
                  have c1 := cl_row (i := 1) HR8.out rfl
                  have c2 := cl_row (i := 2) HR8.out rfl
                  have c3 := cl_row (i := 3) HR8.out rfl
                  have c4 := cl_row (i := 4) HR8.out rfl
                  have c5 := cl_row (i := 5) HR8.out rfl
                  have c6 := cl_row (i := 6) HR8.out rfl
                  have c7 := cl_row (i := 7) HR8.out rfl
                  have c8 := cl_row (i := 8) HR8.out rfl
                  have c9 := cl_row (i := 9) HR8.out rfl
                  have c10 := cl_row (i := 10) HR8.out rfl
                  clear hb8
                  go_wp2
                  go_ret
                  exact ⟨ret_bool (by simp [*]), HB8.out⟩
              | false =>
                go_enter Tryz.func12, Tryz.ntmps12
                go_wp2_with fail
                refine Calls.mono (K3.out _) ?_
                rintro e w0 ⟨rfl, hw0⟩
                subst hw0
                go_wp2_with fail
                refine Calls.mono (K6.out _ HBA.out) ?_
                rintro e w6 ⟨rfl, hb6⟩
                have HB6 : Hid (Below w.heap.size w w6) := HBA.out.trans (hb6.mono HBA.out.size)
                have HR6 : Hid (w6.heap[w.heap.size]? = _) := (hb6.block _ (by simp)).trans HRW.out
                have c6 := cl_row (i := 6) HR6.out rfl
                clear hb6
                go_wp2_with fail
                refine Calls.mono (K7.out _ HB6.out) ?_
                rintro e w7 ⟨rfl, hb7⟩
                have HB7 : Hid (Below w.heap.size w w7) := HB6.out.trans (hb7.mono HB6.out.size)
                have HR7 : Hid (w7.heap[w.heap.size]? = _) := (hb7.block _ (by have := HB6.out.size; have := lt_of_heap HR6.out; omega)).trans HR6.out
                have c6 := cl_row (i := 6) HR7.out rfl
                clear hb7
                go_wp2
                go_ret
                exact ⟨ret_bool (by simp [*]), HB7.out⟩
            | false =>
              go_enter Tryz.func12, Tryz.ntmps12
              go_wp2_with fail
              refine Calls.mono (K3.out _) ?_
              rintro e w0 ⟨rfl, hw0⟩
              subst hw0
              go_wp2_with fail
              refine Calls.mono (K6.out _ HBA.out) ?_
              rintro e w6 ⟨rfl, hb6⟩
              have HB6 : Hid (Below w.heap.size w w6) := HBA.out.trans (hb6.mono HBA.out.size)
              have HR6 : Hid (w6.heap[w.heap.size]? = _) := (hb6.block _ (by simp)).trans HRW.out
              have c6 := cl_row (i := 6) HR6.out rfl
              clear hb6
              go_wp2
              go_ret
              exact ⟨ret_bool (by simp [*]), HB6.out⟩
          · have hc4' : decide (0 < (nf : Int)) = false := by simpa using hc4
            go_enter Tryz.func12, Tryz.ntmps12
            go_wp2_with fail
            refine Calls.mono (K3.out _) ?_
            rintro e w0 ⟨rfl, hw0⟩
            subst hw0
            go_wp2
            go_ret
            exact ⟨ret_bool (by simp [*]), HBA.out⟩
        · have hc3' : decide (0 < id) = false := by simpa using hc3
          go_enter Tryz.func12, Tryz.ntmps12
          go_wp2_with fail
          refine Calls.mono (K3.out _) ?_
          rintro e w0 ⟨rfl, hw0⟩
          subst hw0
          go_wp2
          go_ret
          exact ⟨ret_bool (by simp [*]), HBA.out⟩
      | false =>
        go_enter Tryz.func12, Tryz.ntmps12
        go_wp2_with fail
        refine Calls.mono (K3.out _) ?_
        rintro e w0 ⟨rfl, hw0⟩
        subst hw0
        go_wp2
        go_ret
        exact ⟨ret_bool (by simp [*]), HBA.out⟩
    · have h65' : decide (asn ≤ 65535) = false := by simpa using h65
      go_enter Tryz.func12, Tryz.ntmps12
      go_wp2
      go_ret
      exact ⟨ret_bool (by simp [*]), HBA.out⟩
  · have hc0' : decide (0 < asn) = false := by simpa using hc0
    go_enter Tryz.func12, Tryz.ntmps12
    go_wp2
    go_ret
    exact ⟨ret_bool (by simp [*]), HBA.out⟩
theorem AddsAt.len {w : World} {v : Value} {L : List Ad} (h : AddsAt w v L) : ∃ ad cap, v = .slice ad L.length cap := by
  obtain ⟨ad, b, off, cap, h1, h2, h3, h4⟩ := h
  exact ⟨ad, cap, h1⟩
theorem IntsAt.len {w : World} {v : Value} {L : List Int} (h : IntsAt w v L) : ∃ ad cap, v = .slice ad L.length cap := by
  obtain ⟨ad, b, off, cap, h1, h2, h3, h4⟩ := h
  exact ⟨ad, cap, h1⟩
theorem mayBe_any (o : Opn) (vf va vk : Value) (w : World) (hg : FamSizes w) (h : ListsAt w o vf va vk) :
    Calls Tryz.prog 12 #[opV o vf va vk] w fun e w' => e = .returned (.bool (mayB o)) ∧ Below w.heap.size w w' := by
  obtain ⟨ad, cap, rfl⟩ := h.f.len
  exact may_core o ad o.fams.length cap va vk w (holdB o.hold) (risF 0 o.fams) (risF 0 (o.adds.map (·.f))) (o.adds.any idleB) (restB o)
    (fun X => isHold_any _ X) (fun X hX => rising_int _ _ X (hg.below hX) (h.f.below hX)) (fun X hX => rising_add _ _ X (hg.below hX) (h.a.below hX))
    (fun h7 X hX => containsIdle_any _ _ X (h.a.below hX) (by have := risF_length 0 _ h7 (by omega); simp at this; omega)) (fun X hX => restart_any o _ _ _ X (hg.below hX) (h.k.below hX))
end Go.Proofs.YtlhnfejgkhilkaaGreatDoor
