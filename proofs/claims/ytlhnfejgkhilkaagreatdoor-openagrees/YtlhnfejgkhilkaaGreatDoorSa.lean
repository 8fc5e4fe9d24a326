/-
  A family's place in a list that rises: slices.BinarySearchFunc.
-/
import Derived.Test.YtlhnfejgkhilkaaGreatDoorR4
import Derived.LoopN
set_option linter.unusedVariables false
set_option linter.unusedSimpArgs false
namespace Go.Proofs.YtlhnfejgkhilkaaGreatDoor
open Go.RowKit
/-- Numbers that rise, each once. -/
def Srt (K : List Int) : Prop := ∀ i j (hi : i < K.length) (hj : j < K.length), i < j → K[i] < K[j]
theorem Srt.le {K : List Int} (h : Srt K) {i j : Nat} (hi : i < K.length) (hj : j < K.length) (hij : i ≤ j) : K[i] ≤ K[j] := by
  by_cases e : i = j
  · subst e; omega
  · have := h i j hi hj (by omega); omega
theorem ordI_neg {a b : Int} : ordI a b < 0 ↔ a < b := by
  unfold ordI
  split
  · simp; omega
  · split <;> simp <;> omega
theorem ordI_zero {a b : Int} : ordI a b = 0 ↔ a = b := by
  unfold ordI
  split
  · simp; omega
  · split
    · simp; omega
    · simp; omega
/-- What a search for f answers: its place, and whether it is there. -/
def Found (K : List Int) (f : Int) (i : Nat) (z : Bool) : Prop :=
  i ≤ K.length ∧ (∀ t (h : t < K.length), t < i → K[t] < f) ∧ (∀ t (h : t < K.length), i ≤ t → f ≤ K[t]) ∧ (z = true ↔ ∃ h : i < K.length, K[i] = f)
/-- What a search ends with. -/
def SOk (K : List Int) (f : Int) (e : Ending) : Prop := ∃ (i : Nat) (z : Bool), e = .returned (.tuple #[.int .i64 (i : Int), .bool z]) ∧ Found K f i z
set_option maxHeartbeats 800000 in
theorem cmp_int (x : Int) (f : Int) (q : Nat) (w : World) (hq : w.heap[q]? = some (.cells #[.func (.func 30) #[] #[]] 64 (0, 0))) :
    Calls Tryz.prog 82 #[.int .i64 x, .int .i64 f, .pointer (some ⟨q, 0, none⟩)] w fun e w' => e = .returned (.int .i64 (ordI x f)) ∧ Below w.heap.size w w' := by
  have cb := cl_row (i := 0) hq rfl
  clear hq
  go_enter Tryz.func82, Tryz.ntmps82
  go_wp2_with (first | (go_at_call 30; refine (itself_any _ _).mono ?_; rintro e w' ⟨rfl, rfl⟩) | (go_at_call 83; refine (compare_any _ _ _).mono ?_; rintro e w' ⟨rfl, rfl⟩))
  go_ret
  exact ⟨rfl, Below.refl _ _⟩
set_option maxRecDepth 100000 in
set_option maxHeartbeats 3200000 in
theorem search_int (v : Value) (L : List Int) (f : Int) (q : Nat) (w : World) (hv : IntsAt w v L) (hs : Srt L) (hlen : L.length ≤ 1000) (hq : w.heap[q]? = some (.cells #[.func (.func 30) #[] #[]] 64 (0, 0))) :
    Calls Tryz.prog 81 #[v, .int .i64 f, .func (.func 82) #[] #[.pointer (some ⟨q, 0, none⟩)]] w fun e w' => SOk L f e ∧ Below w.heap.size w w' := by
  obtain ⟨ad, b, off, cap, rfl, had, hcap, hrow⟩ := hv
  have HR : Hid (_ : Prop) := hrow
  have HS : Hid (Srt L) := hs
  have HQ : Hid (_ = _) := hq
  have KC : Hid (∀ X h (hh : h < L.length), Below w.heap.size w X → Calls Tryz.prog 82 #[.int .i64 L[h], .int .i64 f, .pointer (some ⟨q, 0, none⟩)] X fun e w' => e = .returned (.int .i64 (ordI L[h] f)) ∧ Below X.heap.size X w') := fun X h hh hX => cmp_int L[h] f q X ((hX.block _ (lt_of_heap hq)).trans hq)
  clear hrow hs hq
  go_enter Tryz.func81, Tryz.ntmps81
  go_wp2
  go_loopw [9, 10] (fun a c wr => ∃ i j : Nat, i ≤ j ∧ j ≤ L.length ∧ a = .int .i64 i ∧ c = .int .i64 j ∧ (∀ t (h : t < L.length), t < i → L[t] < f) ∧ (∀ t (h : t < L.length), j ≤ t → f ≤ L[t]) ∧ Below w.heap.size w wr) (fun a c _ => (intOf c - intOf a).toNat)
  case atStart => exact ⟨0, L.length, Nat.zero_le _, Nat.le_refl _, rfl, rfl, fun t h ht => absurd ht (by omega), fun t h ht => absurd ht (by omega), Below.refl _ _⟩
  case round =>
    obtain ⟨i, j, hij, hjn, rfl, rfl, hlo, hhi, hb⟩ := hrel
    have HB : Hid (Below w.heap.size w wr) := hb
    have HLO : Hid (_ : Prop) := hlo
    have HHI : Hid (_ : Prop) := hhi
    clear hb hlo hhi
    by_cases hlt : i < j
    · obtain ⟨h, hh⟩ : ∃ h : Nat, h = (i + j) / 2 := ⟨_, rfl⟩
      have h1 : i ≤ h := by omega
      have h2 : h < j := by omega
      have hhl : h < L.length := by omega
      have hhe : ((i : Int) + (j : Int)) / 2 = (h : Int) := by omega
      obtain rfl : ad = some ⟨b, off, none⟩ := by
        rcases had with h | h
        · exact h
        · omega
      have c0 := (HB.out.cell (p := ⟨b, off + h, none⟩) (lt_of_cell (HR.out h hhl))).trans (HR.out h hhl)
      have K : Hid (_ : Prop) := KC.out wr h hhl HB.out
      have HSL : Hid (∀ t (ht : t < L.length), t ≤ h → L[t] ≤ L[h]) := fun t ht hth => by
        have := HS.out.le (i := t) (j := h) (by simpa using ht) (by simpa using hhl) hth
        simpa using this
      have HSG : Hid (∀ t (ht : t < L.length), h ≤ t → L[h] ≤ L[t]) := fun t ht hth => by
        have := HS.out.le (i := h) (j := t) (by simpa using hhl) (by simpa using ht) hth
        simpa using this
      clear hh
      generalize L[h] = x at *
      by_cases hx : x < f
      · have ho : ordI x f < 0 := ordI_neg.2 hx
        generalize ordI x f = oo at *
        go_wp2_with fail
        refine Calls.mono K.out ?_
        rintro e w2 ⟨rfl, hb2⟩
        have HB2 : Hid (Below w.heap.size w w2) := HB.out.trans (hb2.mono HB.out.size)
        clear hb2
        go_wp2
        go_roundw
        case rel => exact ⟨h + 1, j, by omega, hjn, by go_num, rfl, fun t ht hth => by have := HSL.out t ht (by omega); omega, HHI.out, HB2.out⟩
        case measure => simp [intOf]; omega
      · have ho : ¬ ordI x f < 0 := fun e => hx (ordI_neg.1 e)
        generalize ordI x f = oo at *
        go_wp2_with fail
        refine Calls.mono K.out ?_
        rintro e w2 ⟨rfl, hb2⟩
        have HB2 : Hid (Below w.heap.size w w2) := HB.out.trans (hb2.mono HB.out.size)
        clear hb2
        go_wp2
        go_roundw
        case rel => exact ⟨i, h, by omega, by omega, rfl, rfl, HLO.out, fun t ht hth => by have := HSG.out t ht (by omega); omega, HB2.out⟩
        case measure => simp [intOf]; omega
    · obtain rfl : i = j := by omega
      clear hlt hij
      have HFD : Hid (∀ z, (z = true ↔ ∃ h : i < L.length, L[i] = f) → Found L f i z) := fun z hz => ⟨by simpa using hjn, fun t h ht => by have := HLO.out t (by simpa using h) ht; simpa using this, fun t h ht => by have := HHI.out t (by simpa using h) ht; simpa using this, hz⟩
      clear HLO HHI
      by_cases hlt : i < L.length
      · obtain rfl : ad = some ⟨b, off, none⟩ := by
          rcases had with h | h
          · exact h
          · omega
        have c0 := (HB.out.cell (p := ⟨b, off + i, none⟩) (lt_of_cell (HR.out i hlt))).trans (HR.out i hlt)
        have K : Hid (_ : Prop) := KC.out wr i hlt HB.out
        have HE : Hid ((∃ h : i < L.length, L[i] = f) ↔ L[i] = f) := ⟨fun ⟨h, e⟩ => by simpa using e, fun e => ⟨by simpa using hlt, by simpa using e⟩⟩
        generalize L[i] = x at *
        have HOZ : Hid (ordI x f = 0 ↔ x = f) := ordI_zero
        generalize ordI x f = oo at *
        go_wp2_with fail
        refine Calls.mono K.out ?_
        rintro e w2 ⟨rfl, hb2⟩
        have HB2 : Hid (Below w.heap.size w w2) := HB.out.trans (hb2.mono HB.out.size)
        clear hb2
        go_wp2
        go_ret2
        exact ⟨⟨i, _, rfl, HFD.out _ (by rw [HE.out, ← HOZ.out]; simp)⟩, HB2.out⟩
      · have hni : ¬ ((i : Int) < (L.length : Int)) := by omega
        go_wp2
        go_ret2
        exact ⟨⟨i, _, rfl, HFD.out _ ⟨fun e => by simp at e, fun ⟨h, _⟩ => absurd h (by simpa using hlt)⟩⟩, HB.out⟩
end Go.Proofs.YtlhnfejgkhilkaaGreatDoor

set_option linter.unusedVariables false
set_option linter.unusedSimpArgs false
namespace Go.Proofs.YtlhnfejgkhilkaaGreatDoor
open Go.RowKit
set_option maxHeartbeats 800000 in
theorem cmp_kept (x : Int) (s : Bool) (f : Int) (q : Nat) (w : World) (hq : w.heap[q]? = some (.cells #[.func (.func 48) #[] #[]] 82 (0, 0))) :
    Calls Tryz.prog 86 #[.agg #[.int .i64 x, .bool s], .int .i64 f, .pointer (some ⟨q, 0, none⟩)] w fun e w' => e = .returned (.int .i64 (ordI x f)) ∧ Below w.heap.size w w' := by
  have hba : Below w.heap.size w (w.alloc (.cells #[.int .i64 x, .bool s] 40)) := (Below.refl _ _).alloc (Nat.le_refl _) _
  have cb := cl_row (i := 0) ((hba.block _ (lt_of_heap hq)).trans hq) rfl
  have HBA : Hid (Below _ _ _) := hba
  clear hq hba
  go_enter Tryz.func86, Tryz.ntmps86
  go_wp2_with fail
  refine Calls.mono (restartFam_any x s _) ?_
  rintro e w1 ⟨rfl, hb1⟩
  have HB1 : Hid (Below w.heap.size w w1) := HBA.out.trans (hb1.mono HBA.out.size)
  clear hb1
  go_wp2_with (go_at_call 83; refine (compare_any _ _ _).mono ?_; rintro e w' ⟨rfl, rfl⟩)
  go_ret
  exact ⟨rfl, HB1.out⟩
set_option maxRecDepth 100000 in
set_option maxHeartbeats 3200000 in
theorem search_kept (v : Value) (L : List Kp) (f : Int) (q : Nat) (w : World) (hv : KeptsAt w v L) (hs : Srt (L.map (·.f))) (hlen : L.length ≤ 1000) (hq : w.heap[q]? = some (.cells #[.func (.func 48) #[] #[]] 82 (0, 0))) :
    Calls Tryz.prog 85 #[v, .int .i64 f, .func (.func 86) #[] #[.pointer (some ⟨q, 0, none⟩)]] w fun e w' => SOk (L.map (·.f)) f e ∧ Below w.heap.size w w' := by
  obtain ⟨ad, b, off, cap, rfl, had, hcap, hrow⟩ := hv
  have HR : Hid (_ : Prop) := hrow
  have HS : Hid (Srt (L.map (·.f))) := hs
  have HQ : Hid (_ = _) := hq
  have KC : Hid (∀ X h (hh : h < L.length), Below w.heap.size w X → Calls Tryz.prog 86 #[.agg #[.int .i64 L[h].f, .bool L[h].k], .int .i64 f, .pointer (some ⟨q, 0, none⟩)] X fun e w' => e = .returned (.int .i64 (ordI L[h].f f)) ∧ Below X.heap.size X w') := fun X h hh hX => cmp_kept L[h].f L[h].k f q X ((hX.block _ (lt_of_heap hq)).trans hq)
  clear hrow hs hq
  go_enter Tryz.func85, Tryz.ntmps85
  go_wp2
  go_loopw [9, 10] (fun a c wr => ∃ i j : Nat, i ≤ j ∧ j ≤ L.length ∧ a = .int .i64 i ∧ c = .int .i64 j ∧ (∀ t (h : t < L.length), t < i → L[t].f < f) ∧ (∀ t (h : t < L.length), j ≤ t → f ≤ L[t].f) ∧ Below w.heap.size w wr) (fun a c _ => (intOf c - intOf a).toNat)
  case atStart => exact ⟨0, L.length, Nat.zero_le _, Nat.le_refl _, rfl, rfl, fun t h ht => absurd ht (by omega), fun t h ht => absurd ht (by omega), Below.refl _ _⟩
  case round =>
    obtain ⟨i, j, hij, hjn, rfl, rfl, hlo, hhi, hb⟩ := hrel
    have HB : Hid (Below w.heap.size w wr) := hb
    have HLO : Hid (_ : Prop) := hlo
    have HHI : Hid (_ : Prop) := hhi
    clear hb hlo hhi
    by_cases hlt : i < j
    · obtain ⟨h, hh⟩ : ∃ h : Nat, h = (i + j) / 2 := ⟨_, rfl⟩
      have h1 : i ≤ h := by omega
      have h2 : h < j := by omega
      have hhl : h < L.length := by omega
      have hhe : ((i : Int) + (j : Int)) / 2 = (h : Int) := by omega
      obtain rfl : ad = some ⟨b, off, none⟩ := by
        rcases had with h | h
        · exact h
        · omega
      have c0 := (HB.out.cell (p := ⟨b, off + h * 2, none⟩) (lt_of_cell (HR.out h hhl).1)).trans (HR.out h hhl).1
      have c1 := (HB.out.cell (p := ⟨b, off + h * 2 + 1, none⟩) (lt_of_cell (HR.out h hhl).2)).trans (HR.out h hhl).2
      have K : Hid (_ : Prop) := KC.out wr h hhl HB.out
      have HSL : Hid (∀ t (ht : t < L.length), t ≤ h → L[t].f ≤ L[h].f) := fun t ht hth => by
        have := HS.out.le (i := t) (j := h) (by simpa using ht) (by simpa using hhl) hth
        simpa using this
      have HSG : Hid (∀ t (ht : t < L.length), h ≤ t → L[h].f ≤ L[t].f) := fun t ht hth => by
        have := HS.out.le (i := h) (j := t) (by simpa using hhl) (by simpa using ht) hth
        simpa using this
      clear hh
      generalize L[h].f = x at *
      generalize L[h].k = s at *
      by_cases hx : x < f
      · have ho : ordI x f < 0 := ordI_neg.2 hx
        generalize ordI x f = oo at *
        go_wp2_with fail
        refine Calls.mono K.out ?_
        rintro e w2 ⟨rfl, hb2⟩
        have HB2 : Hid (Below w.heap.size w w2) := HB.out.trans (hb2.mono HB.out.size)
        clear hb2
        go_wp2
        go_roundw
        case rel => exact ⟨h + 1, j, by omega, hjn, by go_num, rfl, fun t ht hth => by have := HSL.out t ht (by omega); omega, HHI.out, HB2.out⟩
        case measure => simp [intOf]; omega
      · have ho : ¬ ordI x f < 0 := fun e => hx (ordI_neg.1 e)
        generalize ordI x f = oo at *
        go_wp2_with fail
        refine Calls.mono K.out ?_
        rintro e w2 ⟨rfl, hb2⟩
        have HB2 : Hid (Below w.heap.size w w2) := HB.out.trans (hb2.mono HB.out.size)
        clear hb2
        go_wp2
        go_roundw
        case rel => exact ⟨i, h, by omega, by omega, rfl, rfl, HLO.out, fun t ht hth => by have := HSG.out t ht (by omega); omega, HB2.out⟩
        case measure => simp [intOf]; omega
    · obtain rfl : i = j := by omega
      clear hlt hij
      have HFD : Hid (∀ z, (z = true ↔ ∃ h : i < (L.map (·.f)).length, (L.map (·.f))[i] = f) → Found (L.map (·.f)) f i z) := fun z hz => ⟨by simpa using hjn, fun t h ht => by have := HLO.out t (by simpa using h) ht; simpa using this, fun t h ht => by have := HHI.out t (by simpa using h) ht; simpa using this, hz⟩
      clear HLO HHI
      by_cases hlt : i < L.length
      · obtain rfl : ad = some ⟨b, off, none⟩ := by
          rcases had with h | h
          · exact h
          · omega
        have c0 := (HB.out.cell (p := ⟨b, off + i * 2, none⟩) (lt_of_cell (HR.out i hlt).1)).trans (HR.out i hlt).1
        have c1 := (HB.out.cell (p := ⟨b, off + i * 2 + 1, none⟩) (lt_of_cell (HR.out i hlt).2)).trans (HR.out i hlt).2
        have K : Hid (_ : Prop) := KC.out wr i hlt HB.out
        have HE : Hid ((∃ h : i < (L.map (·.f)).length, (L.map (·.f))[i] = f) ↔ L[i].f = f) := ⟨fun ⟨h, e⟩ => by simpa using e, fun e => ⟨by simpa using hlt, by simpa using e⟩⟩
        generalize L[i].f = x at *
        generalize L[i].k = s at *
        have HOZ : Hid (ordI x f = 0 ↔ x = f) := ordI_zero
        generalize ordI x f = oo at *
        go_wp2_with fail
        refine Calls.mono K.out ?_
        rintro e w2 ⟨rfl, hb2⟩
        have HB2 : Hid (Below w.heap.size w w2) := HB.out.trans (hb2.mono HB.out.size)
        clear hb2
        go_wp2
        go_ret2
        exact ⟨⟨i, _, rfl, HFD.out _ (by rw [HE.out, ← HOZ.out]; simp)⟩, HB2.out⟩
      · have hni : ¬ ((i : Int) < (L.length : Int)) := by omega
        go_wp2
        go_ret2
        exact ⟨⟨i, _, rfl, HFD.out _ ⟨fun e => by simp at e, fun ⟨h, _⟩ => absurd h (by simpa using hlt)⟩⟩, HB.out⟩
end Go.Proofs.YtlhnfejgkhilkaaGreatDoor

set_option linter.unusedVariables false
set_option linter.unusedSimpArgs false
namespace Go.Proofs.YtlhnfejgkhilkaaGreatDoor
open Go.RowKit
set_option maxHeartbeats 800000 in
theorem cmp_add (x : Int) (s t : Bool) (f : Int) (q : Nat) (w : World) (hq : w.heap[q]? = some (.cells #[.func (.func 32) #[] #[]] 66 (0, 0))) :
    Calls Tryz.prog 89 #[.agg #[.int .i64 x, .bool s, .bool t], .int .i64 f, .pointer (some ⟨q, 0, none⟩)] w fun e w' => e = .returned (.int .i64 (ordI x f)) ∧ Below w.heap.size w w' := by
  have hba : Below w.heap.size w (w.alloc (.cells #[.int .i64 x, .bool s, .bool t] 52)) := (Below.refl _ _).alloc (Nat.le_refl _) _
  have cb := cl_row (i := 0) ((hba.block _ (lt_of_heap hq)).trans hq) rfl
  have HBA : Hid (Below _ _ _) := hba
  clear hq hba
  go_enter Tryz.func89, Tryz.ntmps89
  go_wp2_with fail
  refine Calls.mono (addFam_any x s t _) ?_
  rintro e w1 ⟨rfl, hb1⟩
  have HB1 : Hid (Below w.heap.size w w1) := HBA.out.trans (hb1.mono HBA.out.size)
  clear hb1
  go_wp2_with (go_at_call 83; refine (compare_any _ _ _).mono ?_; rintro e w' ⟨rfl, rfl⟩)
  go_ret
  exact ⟨rfl, HB1.out⟩
set_option maxRecDepth 100000 in
set_option maxHeartbeats 3200000 in
theorem search_add (v : Value) (L : List Ad) (f : Int) (q : Nat) (w : World) (hv : AddsAt w v L) (hs : Srt (L.map (·.f))) (hlen : L.length ≤ 1000) (hq : w.heap[q]? = some (.cells #[.func (.func 32) #[] #[]] 66 (0, 0))) :
    Calls Tryz.prog 88 #[v, .int .i64 f, .func (.func 89) #[] #[.pointer (some ⟨q, 0, none⟩)]] w fun e w' => SOk (L.map (·.f)) f e ∧ Below w.heap.size w w' := by
  obtain ⟨ad, b, off, cap, rfl, had, hcap, hrow⟩ := hv
  have HR : Hid (_ : Prop) := hrow
  have HS : Hid (Srt (L.map (·.f))) := hs
  have HQ : Hid (_ = _) := hq
  have KC : Hid (∀ X h (hh : h < L.length), Below w.heap.size w X → Calls Tryz.prog 89 #[.agg #[.int .i64 L[h].f, .bool L[h].s, .bool L[h].t], .int .i64 f, .pointer (some ⟨q, 0, none⟩)] X fun e w' => e = .returned (.int .i64 (ordI L[h].f f)) ∧ Below X.heap.size X w') := fun X h hh hX => cmp_add L[h].f L[h].s L[h].t f q X ((hX.block _ (lt_of_heap hq)).trans hq)
  clear hrow hs hq
  go_enter Tryz.func88, Tryz.ntmps88
  go_wp2
  go_loopw [9, 10] (fun a c wr => ∃ i j : Nat, i ≤ j ∧ j ≤ L.length ∧ a = .int .i64 i ∧ c = .int .i64 j ∧ (∀ t (h : t < L.length), t < i → L[t].f < f) ∧ (∀ t (h : t < L.length), j ≤ t → f ≤ L[t].f) ∧ Below w.heap.size w wr) (fun a c _ => (intOf c - intOf a).toNat)
  case atStart => exact ⟨0, L.length, Nat.zero_le _, Nat.le_refl _, rfl, rfl, fun t h ht => absurd ht (by omega), fun t h ht => absurd ht (by omega), Below.refl _ _⟩
  case round =>
    obtain ⟨i, j, hij, hjn, rfl, rfl, hlo, hhi, hb⟩ := hrel
    have HB : Hid (Below w.heap.size w wr) := hb
    have HLO : Hid (_ : Prop) := hlo
    have HHI : Hid (_ : Prop) := hhi
    clear hb hlo hhi
    by_cases hlt : i < j
    · obtain ⟨h, hh⟩ : ∃ h : Nat, h = (i + j) / 2 := ⟨_, rfl⟩
      have h1 : i ≤ h := by omega
      have h2 : h < j := by omega
      have hhl : h < L.length := by omega
      have hhe : ((i : Int) + (j : Int)) / 2 = (h : Int) := by omega
      obtain rfl : ad = some ⟨b, off, none⟩ := by
        rcases had with h | h
        · exact h
        · omega
      have c0 := (HB.out.cell (p := ⟨b, off + h * 3, none⟩) (lt_of_cell (HR.out h hhl).1)).trans (HR.out h hhl).1
      have c1 := (HB.out.cell (p := ⟨b, off + h * 3 + 1, none⟩) (lt_of_cell (HR.out h hhl).2.1)).trans (HR.out h hhl).2.1
      have c2 := (HB.out.cell (p := ⟨b, off + h * 3 + 2, none⟩) (lt_of_cell (HR.out h hhl).2.2)).trans (HR.out h hhl).2.2
      have K : Hid (_ : Prop) := KC.out wr h hhl HB.out
      have HSL : Hid (∀ t (ht : t < L.length), t ≤ h → L[t].f ≤ L[h].f) := fun t ht hth => by
        have := HS.out.le (i := t) (j := h) (by simpa using ht) (by simpa using hhl) hth
        simpa using this
      have HSG : Hid (∀ t (ht : t < L.length), h ≤ t → L[h].f ≤ L[t].f) := fun t ht hth => by
        have := HS.out.le (i := h) (j := t) (by simpa using hhl) (by simpa using ht) hth
        simpa using this
      clear hh
      generalize L[h].f = x at *
      generalize L[h].s = s at *
      generalize L[h].t = t at *
      by_cases hx : x < f
      · have ho : ordI x f < 0 := ordI_neg.2 hx
        generalize ordI x f = oo at *
        go_wp2_with fail
        refine Calls.mono K.out ?_
        rintro e w2 ⟨rfl, hb2⟩
        have HB2 : Hid (Below w.heap.size w w2) := HB.out.trans (hb2.mono HB.out.size)
        clear hb2
        go_wp2
        go_roundw
        case rel => exact ⟨h + 1, j, by omega, hjn, by go_num, rfl, fun t ht hth => by have := HSL.out t ht (by omega); omega, HHI.out, HB2.out⟩
        case measure => simp [intOf]; omega
      · have ho : ¬ ordI x f < 0 := fun e => hx (ordI_neg.1 e)
        generalize ordI x f = oo at *
        go_wp2_with fail
        refine Calls.mono K.out ?_
        rintro e w2 ⟨rfl, hb2⟩
        have HB2 : Hid (Below w.heap.size w w2) := HB.out.trans (hb2.mono HB.out.size)
        clear hb2
        go_wp2
        go_roundw
        case rel => exact ⟨i, h, by omega, by omega, rfl, rfl, HLO.out, fun t ht hth => by have := HSG.out t ht (by omega); omega, HB2.out⟩
        case measure => simp [intOf]; omega
    · obtain rfl : i = j := by omega
      clear hlt hij
      have HFD : Hid (∀ z, (z = true ↔ ∃ h : i < (L.map (·.f)).length, (L.map (·.f))[i] = f) → Found (L.map (·.f)) f i z) := fun z hz => ⟨by simpa using hjn, fun t h ht => by have := HLO.out t (by simpa using h) ht; simpa using this, fun t h ht => by have := HHI.out t (by simpa using h) ht; simpa using this, hz⟩
      clear HLO HHI
      by_cases hlt : i < L.length
      · obtain rfl : ad = some ⟨b, off, none⟩ := by
          rcases had with h | h
          · exact h
          · omega
        have c0 := (HB.out.cell (p := ⟨b, off + i * 3, none⟩) (lt_of_cell (HR.out i hlt).1)).trans (HR.out i hlt).1
        have c1 := (HB.out.cell (p := ⟨b, off + i * 3 + 1, none⟩) (lt_of_cell (HR.out i hlt).2.1)).trans (HR.out i hlt).2.1
        have c2 := (HB.out.cell (p := ⟨b, off + i * 3 + 2, none⟩) (lt_of_cell (HR.out i hlt).2.2)).trans (HR.out i hlt).2.2
        have K : Hid (_ : Prop) := KC.out wr i hlt HB.out
        have HE : Hid ((∃ h : i < (L.map (·.f)).length, (L.map (·.f))[i] = f) ↔ L[i].f = f) := ⟨fun ⟨h, e⟩ => by simpa using e, fun e => ⟨by simpa using hlt, by simpa using e⟩⟩
        generalize L[i].f = x at *
        generalize L[i].s = s at *
        generalize L[i].t = t at *
        have HOZ : Hid (ordI x f = 0 ↔ x = f) := ordI_zero
        generalize ordI x f = oo at *
        go_wp2_with fail
        refine Calls.mono K.out ?_
        rintro e w2 ⟨rfl, hb2⟩
        have HB2 : Hid (Below w.heap.size w w2) := HB.out.trans (hb2.mono HB.out.size)
        clear hb2
        go_wp2
        go_ret2
        exact ⟨⟨i, _, rfl, HFD.out _ (by rw [HE.out, ← HOZ.out]; simp)⟩, HB2.out⟩
      · have hni : ¬ ((i : Int) < (L.length : Int)) := by omega
        go_wp2
        go_ret2
        exact ⟨⟨i, _, rfl, HFD.out _ ⟨fun e => by simp at e, fun ⟨h, _⟩ => absurd h (by simpa using hlt)⟩⟩, HB.out⟩
end Go.Proofs.YtlhnfejgkhilkaaGreatDoor
