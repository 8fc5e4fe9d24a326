/-
  An entry at its place in a list that rises by families: placed.
-/
import Derived.Test.YtfhapjhkjdifjaaGreatDoorIZ
import Derived.Test.YtfhapjhkjdifjaaGreatDoorSZ
import Derived.Test.YtfhapjhkjdifjaaGreatDoorFC
set_option linter.unusedVariables false
set_option linter.unusedSimpArgs false
namespace Go.Proofs.YtfhapjhkjdifjaaGreatDoor
open Go.RowKit
/-- An entry is put at its place; one of the same family is gone. -/
def plA {α : Type} (key : α → Int) (L : List α) (e : α) : List α := L.filter (fun x => decide (key x < key e)) ++ e :: L.filter (fun x => decide (key e < key x))
theorem filter_take {α : Type} (p : α → Bool) (L : List α) (i : Nat) (h1 : ∀ t (h : t < L.length), t < i → p L[t] = true) (h2 : ∀ t (h : t < L.length), i ≤ t → p L[t] = false) : L.filter p = L.take i := by
  have e : L.filter p = (L.take i ++ L.drop i).filter p := by rw [List.take_append_drop]
  rw [e, List.filter_append]
  have e1 : (L.take i).filter p = L.take i := List.filter_eq_self.2 fun x hx => by
    obtain ⟨t, ht, rfl⟩ := List.mem_iff_getElem.1 hx
    simp only [List.length_take] at ht
    rw [List.getElem_take]
    exact h1 t (by omega) (by omega)
  have e2 : (L.drop i).filter p = [] := List.filter_eq_nil_iff.2 fun x hx => by
    obtain ⟨t, ht, rfl⟩ := List.mem_iff_getElem.1 hx
    simp only [List.length_drop] at ht
    rw [List.getElem_drop]
    simp [h2 (i + t) (by omega) (by omega)]
  rw [e1, e2, List.append_nil]
theorem filter_drop {α : Type} (p : α → Bool) (L : List α) (i : Nat) (h1 : ∀ t (h : t < L.length), t < i → p L[t] = false) (h2 : ∀ t (h : t < L.length), i ≤ t → p L[t] = true) : L.filter p = L.drop i := by
  have e : L.filter p = (L.take i ++ L.drop i).filter p := by rw [List.take_append_drop]
  rw [e, List.filter_append]
  have e1 : (L.take i).filter p = [] := List.filter_eq_nil_iff.2 fun x hx => by
    obtain ⟨t, ht, rfl⟩ := List.mem_iff_getElem.1 hx
    simp only [List.length_take] at ht
    rw [List.getElem_take]
    simp [h1 t (by omega) (by omega)]
  have e2 : (L.drop i).filter p = L.drop i := List.filter_eq_self.2 fun x hx => by
    obtain ⟨t, ht, rfl⟩ := List.mem_iff_getElem.1 hx
    simp only [List.length_drop] at ht
    rw [List.getElem_drop]
    exact h2 (i + t) (by omega) (by omega)
  rw [e1, e2, List.nil_append]
theorem plA_new {α : Type} (key : α → Int) (L : List α) (e : α) (i : Nat) (hs : Srt (L.map key)) (h : Found (L.map key) (key e) i false) : plA key L e = L.take i ++ [e] ++ L.drop i := by
  obtain ⟨h0, h1, h2, h3⟩ := h
  have hno : ∀ (h : i < L.length), key L[i] ≠ key e := fun h e' => by
    have := h3.2 ⟨by simpa using h, by simpa using e'⟩
    cases this
  unfold plA
  rw [filter_take _ L i (fun t ht hti => by have := h1 t (by simpa using ht) hti; simpa using this) (fun t ht hti => by have := h2 t (by simpa using ht) hti; simpa using this),
    filter_drop _ L i (fun t ht hti => by have := h1 t (by simpa using ht) hti; simp at this ⊢; omega) (fun t ht hti => by
      have h4 := h2 t (by simpa using ht) hti
      simp at h4 ⊢
      by_cases e1 : t = i
      · subst e1
        have := hno ht
        omega
      · have h5 := hs i t (by simp; omega) (by simpa using ht) (by omega)
        have h6 := h2 i (by simp; omega) (Nat.le_refl _)
        simp at h5 h6
        omega)]
  simp
theorem plA_old {α : Type} (key : α → Int) (L : List α) (e : α) (i : Nat) (hs : Srt (L.map key)) (h : Found (L.map key) (key e) i true) : i < L.length ∧ plA key L e = L.set i e := by
  obtain ⟨h0, h1, h2, h3⟩ := h
  obtain ⟨hi, he⟩ := h3.1 rfl
  have hi' : i < L.length := by simpa using hi
  refine ⟨hi', ?_⟩
  unfold plA
  rw [filter_take _ L i (fun t ht hti => by have := h1 t (by simpa using ht) hti; simpa using this) (fun t ht hti => by have := h2 t (by simpa using ht) hti; simpa using this),
    filter_drop _ L (i + 1) (fun t ht hti => by
      simp at he ⊢
      by_cases e1 : t = i
      · subst e1; omega
      · have := h1 t (by simpa using ht) (by omega); simp at this; omega) (fun t ht hti => by
      have h5 := hs i t (by simpa using hi') (by simpa using ht) (by omega)
      simp at h5 he ⊢
      omega)]
  rw [List.set_eq_take_append_cons_drop, if_pos hi']
theorem plA_len_old {α : Type} (L : List α) (e : α) (i : Nat) : (L.set i e).length = L.length := by simp
theorem intsC_at (L : List Int) (j : Nat) (h : j < L.length) : (intsC L)[j]? = some (.int .i64 L[j]) := by simp [intsC, h]
theorem addsC_at (L : List Ad) (j : Nat) (h : j < L.length) : (addsC L)[j * 3]? = some (.int .i64 L[j].f) ∧ (addsC L)[j * 3 + 1]? = some (.bool L[j].s) ∧ (addsC L)[j * 3 + 2]? = some (.bool L[j].t) := by
  induction L generalizing j with
  | nil => simp at h
  | cons r R ih =>
    cases j with
    | zero => simp [addsC]
    | succ i =>
      have := ih i (by simpa using h)
      simp only [addsC, List.flatMap_cons, List.getElem_cons_succ] at this ⊢
      rw [show (i + 1) * 3 = 3 + i * 3 by omega]
      rw [List.getElem?_append_right (by simp <;> omega), List.getElem?_append_right (by simp <;> omega), List.getElem?_append_right (by simp <;> omega)]
      simp only [List.length_cons, List.length_nil]
      rw [show 3 + i * 3 - (0 + 1 + 1 + 1) = i * 3 by omega, show 3 + i * 3 + 1 - (0 + 1 + 1 + 1) = i * 3 + 1 by omega, show 3 + i * 3 + 2 - (0 + 1 + 1 + 1) = i * 3 + 2 by omega]
      exact this
theorem keptC_at (L : List Kp) (j : Nat) (h : j < L.length) : (keptC L)[j * 2]? = some (.int .i64 L[j].f) ∧ (keptC L)[j * 2 + 1]? = some (.bool L[j].k) := by
  induction L generalizing j with
  | nil => simp at h
  | cons r R ih =>
    cases j with
    | zero => simp [keptC]
    | succ i =>
      have := ih i (by simpa using h)
      simp only [keptC, List.flatMap_cons, List.getElem_cons_succ] at this ⊢
      rw [show (i + 1) * 2 = 2 + i * 2 by omega]
      rw [List.getElem?_append_right (by simp <;> omega), List.getElem?_append_right (by simp <;> omega)]
      simp only [List.length_cons, List.length_nil]
      rw [show 2 + i * 2 - (0 + 1 + 1) = i * 2 by omega, show 2 + i * 2 + 1 - (0 + 1 + 1) = i * 2 + 1 by omega]
      exact this
theorem intsC_app (A B : List Int) : intsC (A ++ B) = intsC A ++ intsC B := by simp [intsC]
theorem addsC_app (A B : List Ad) : addsC (A ++ B) = addsC A ++ addsC B := by simp [addsC]
theorem keptC_app (A B : List Kp) : keptC (A ++ B) = keptC A ++ keptC B := by simp [keptC]
theorem intsC_length (L : List Int) : (intsC L).length = L.length := by simp [intsC]
theorem addsC_length (L : List Ad) : (addsC L).length = L.length * 3 := by
  induction L with
  | nil => rfl
  | cons r R ih => simp [addsC] at ih ⊢; omega
theorem keptC_length (L : List Kp) : (keptC L).length = L.length * 2 := by
  induction L with
  | nil => rfl
  | cons r R ih => simp [keptC] at ih ⊢; omega
theorem one_ints (L : List Int) : ∀ v ∈ intsC L, v.oneCell' = true := by intro v hv; simp [intsC] at hv; obtain ⟨a, _, rfl⟩ := hv; rfl
theorem one_adds (L : List Ad) : ∀ v ∈ addsC L, v.oneCell' = true := by
  intro v hv; simp [addsC] at hv; obtain ⟨a, _, rfl | rfl | rfl⟩ := hv <;> rfl
theorem one_kept (L : List Kp) : ∀ v ∈ keptC L, v.oneCell' = true := by
  intro v hv; simp [keptC] at hv; obtain ⟨a, _, rfl | rfl⟩ := hv <;> rfl
theorem ints_of_owns {w : World} {base : Nat} {v : Value} {L : List Int} (h : w.ownsRow base 3 1 v L.length (intsC L)) : IntsAt w v L := by
  obtain ⟨h0, ⟨rfl, hn⟩ | ⟨g, cap, cur, rfl, hg, hk, hc, hm, hs, ht⟩⟩ := h
  · exact ⟨none, 0, 0, 0, by rw [hn], Or.inr hn, by omega, fun j hj => by omega⟩
  · refine ⟨_, g, 0, cap, rfl, Or.inl rfl, hc, fun j hj => cl_row hk ?_⟩
    rw [Nat.zero_add]
    simpa using take_of_take ht (by rw [intsC_length]; omega) j _ (intsC_at L j hj)
theorem adds_of_owns {w : World} {base : Nat} {v : Value} {L : List Ad} (h : w.ownsRow base 108 3 v L.length (addsC L)) : AddsAt w v L := by
  obtain ⟨h0, ⟨rfl, hn⟩ | ⟨g, cap, cur, rfl, hg, hk, hc, hm, hs, ht⟩⟩ := h
  · exact ⟨none, 0, 0, 0, by rw [hn], Or.inr hn, by omega, fun j hj => by omega⟩
  · refine ⟨_, g, 0, cap, rfl, Or.inl rfl, hc, fun j hj => ?_⟩
    have ha := addsC_at L j hj
    have hl : (addsC L).length = L.length * 3 := addsC_length L
    rw [Nat.zero_add]
    exact ⟨cl_row hk (by simpa using take_of_take ht hl _ _ ha.1), cl_row hk (by simpa using take_of_take ht hl _ _ ha.2.1), cl_row hk (by simpa using take_of_take ht hl _ _ ha.2.2)⟩
theorem kept_of_owns {w : World} {base : Nat} {v : Value} {L : List Kp} (h : w.ownsRow base 129 2 v L.length (keptC L)) : KeptsAt w v L := by
  obtain ⟨h0, ⟨rfl, hn⟩ | ⟨g, cap, cur, rfl, hg, hk, hc, hm, hs, ht⟩⟩ := h
  · exact ⟨none, 0, 0, 0, by rw [hn], Or.inr hn, by omega, fun j hj => by omega⟩
  · refine ⟨_, g, 0, cap, rfl, Or.inl rfl, hc, fun j hj => ?_⟩
    have ha := keptC_at L j hj
    have hl : (keptC L).length = L.length * 2 := keptC_length L
    rw [Nat.zero_add]
    exact ⟨cl_row hk (by simpa using take_of_take ht hl _ _ ha.1), cl_row hk (by simpa using take_of_take ht hl _ _ ha.2)⟩
theorem intsC_set (L : List Int) (i : Nat) (e : Int) : intsC (L.set i e) = (intsC L).set i (.int .i64 e) := by simp [intsC, List.map_set]
theorem addsC_set (L : List Ad) (i : Nat) (e : Ad) : addsC (L.set i e) = (((addsC L).set (i * 3) (.int .i64 e.f)).set (i * 3 + 1) (.bool e.s)).set (i * 3 + 2) (.bool e.t) := by
  induction L generalizing i with
  | nil => simp [addsC]
  | cons r R ih =>
    cases i with
    | zero => simp [addsC]
    | succ i =>
      have := ih i
      simp only [addsC, List.set_cons_succ, List.flatMap_cons] at this ⊢
      rw [this, show (i + 1) * 3 = i * 3 + 1 + 1 + 1 by omega]
      simp [Nat.add_assoc]
theorem keptC_set (L : List Kp) (i : Nat) (e : Kp) : keptC (L.set i e) = ((keptC L).set (i * 2) (.int .i64 e.f)).set (i * 2 + 1) (.bool e.k) := by
  induction L generalizing i with
  | nil => simp [keptC]
  | cons r R ih =>
    cases i with
    | zero => simp [keptC]
    | succ i =>
      have := ih i
      simp only [keptC, List.set_cons_succ, List.flatMap_cons] at this ⊢
      rw [this, show (i + 1) * 2 = i * 2 + 1 + 1 by omega]
      simp [Nat.add_assoc]
theorem set_take {α : Type} (l : List α) (i m : Nat) (v : α) (h : i < m) : (l.set i v).take m = (l.take m).set i v := by rw [List.take_set]
theorem Below.of_grown {w w' : World} {r : Option Nat} {B : Nat} (h : w.grownBy w' r) (hr : ∀ k, r = some k → B ≤ k) (hB : B ≤ w.heap.size) : Below B w w' :=
  ⟨h.os, h.tape, h.output, h.size, fun k hk => h.block k (by omega) (fun e => by have := hr k e.symm; omega)⟩
theorem grown_trans {a b c : World} {r : Option Nat} (h : a.grownBy b r) (k : b.grownBy c r) : a.grownBy c r :=
  ⟨k.os.trans h.os, k.tape.trans h.tape, k.output.trans h.output, Nat.le_trans h.size k.size, fun j hj hp => (k.block j (Nat.lt_of_lt_of_le hj h.size) hp).trans (h.block j hj hp)⟩
end Go.Proofs.YtfhapjhkjdifjaaGreatDoor
set_option linter.unusedVariables false
set_option linter.unusedSimpArgs false
namespace Go.Proofs.YtfhapjhkjdifjaaGreatDoor
open Go.RowKit
theorem risF_iff (l : Int) (K : List Int) : risF l K = true ↔ K.Pairwise (· < ·) ∧ ∀ f ∈ K, isF f = true ∧ l < f := by
  induction K generalizing l with
  | nil => simp [risF]
  | cons f r ih =>
    simp only [risF, Bool.and_eq_true, decide_eq_true_eq, ih, List.pairwise_cons, List.mem_cons]
    constructor
    · rintro ⟨⟨h1, h2⟩, h3, h4⟩
      exact ⟨⟨fun a ha => (h4 a ha).2, h3⟩, fun a ha => by
        rcases ha with rfl | ha
        · exact ⟨h1, h2⟩
        · exact ⟨(h4 a ha).1, by have := (h4 a ha).2; omega⟩⟩
    · rintro ⟨⟨h1, h2⟩, h3⟩
      exact ⟨h3 f (Or.inl rfl), h2, fun a ha => ⟨(h3 a (Or.inr ha)).1, h1 a ha⟩⟩
theorem srt_of {K : List Int} (h : risF 0 K = true) : Srt K := by
  have := ((risF_iff 0 K).1 h).1
  rw [List.pairwise_iff_getElem] at this
  exact fun i j hi hj hij => this i j hi hj hij
theorem len_of {K : List Int} (h : risF 0 K = true) : K.length ≤ 5 := by
  have := risF_length 0 K h (by omega)
  omega
theorem plA_map {α : Type} (key : α → Int) (L : List α) (e : α) : (plA key L e).map key = plA id (L.map key) (key e) := by
  unfold plA
  simp only [List.map_append, List.map_cons, List.filter_map, id]
  rfl
theorem ris_plA {K : List Int} {f : Int} (h : risF 0 K = true) (hf : isF f = true) : risF 0 (plA id K f) = true := by
  obtain ⟨h1, h2⟩ := (risF_iff 0 K).1 h
  have hb := isF_bd hf
  refine (risF_iff 0 _).2 ⟨?_, ?_⟩
  · unfold plA
    refine List.pairwise_append.2 ⟨h1.filter _, List.pairwise_cons.2 ⟨fun a ha => ?_, h1.filter _⟩, fun a ha b hb' => ?_⟩
    · simpa using (List.mem_filter.1 ha).2
    · have ha2 : a < f := by simpa using (List.mem_filter.1 ha).2
      rcases List.mem_cons.1 hb' with rfl | hb2
      · exact ha2
      · have hb3 : f < b := by simpa using (List.mem_filter.1 hb2).2
        omega
  · intro a ha
    unfold plA at ha
    rcases List.mem_append.1 ha with ha | ha
    · exact h2 a (List.mem_filter.1 ha).1
    · rcases List.mem_cons.1 ha with rfl | ha
      · exact ⟨hf, by omega⟩
      · exact h2 a (List.mem_filter.1 ha).1
theorem ris_plA' {α : Type} (key : α → Int) {L : List α} {e : α} (h : risF 0 (L.map key) = true) (hf : isF (key e) = true) : risF 0 ((plA key L e).map key) = true := by
  rw [plA_map]
  exact ris_plA h hf
theorem fmN_isF (x y : Int) (h : fmN x y ≠ 0) : isF (fmN x y) = true := by
  unfold fmN at h ⊢
  repeat' split
  all_goals first | rfl | (rename_i h1 h2 h3 h4 h5; simp [h1, h2, h3, h4, h5] at h)
end Go.Proofs.YtfhapjhkjdifjaaGreatDoor
set_option linter.unusedVariables false
set_option linter.unusedSimpArgs false
namespace Go.Proofs.YtfhapjhkjdifjaaGreatDoor
open Go.RowKit
theorem splitC_int (L : List Int) (e : Int) (i : Nat) (hi : i ≤ L.length) : intsC (L.take i ++ [e] ++ L.drop i) = (intsC L).take (i) ++ [.int .i64 e] ++ (intsC L).drop (i) := by
  have h1 : intsC (L.take i ++ [e] ++ L.drop i) = intsC (L.take i) ++ [.int .i64 e] ++ intsC (L.drop i) := by simp [intsC]
  have h2 : intsC L = intsC (L.take i) ++ intsC (L.drop i) := by rw [← intsC_app, List.take_append_drop]
  have h3 : (intsC (L.take i)).length = i := by rw [intsC_length, List.length_take, Nat.min_eq_left hi]
  rw [h1]
  conv => rhs; rw [h2]
  rw [List.take_left' h3, List.drop_left' h3]
set_option maxHeartbeats 3200000 in
set_option maxRecDepth 100000 in
theorem placed_int (base : Nat) (v : Value) (L : List Int) (e : Int) (w : World) (hown : w.ownsRow base 3 1 v L.length (intsC L)) (hbase : base ≤ w.heap.size) (hs : Srt L) (hlen : L.length ≤ 900) :
    Calls Tryz.prog 76 #[v, .int .i64 e, .func (.func 60) #[] #[]] w fun x w' => ∃ v', x = .returned v' ∧ w'.ownsRow base 3 1 v' (plA id L e).length (intsC (plA id L e)) ∧ w.grownBy w' v.ownBlock := by
  have hmk : L.map id = L := by simp
  have hb1 : Below w.heap.size w (w.alloc (.cells #[.func (.func 60) #[] #[]] 105)) := (Below.refl _ _).alloc (Nat.le_refl _) _
  have hq1 : (w.alloc (.cells #[.func (.func 60) #[] #[]] 105)).heap[w.heap.size]? = some (.cells #[.func (.func 60) #[] #[]] 105 (0, 0)) := hp_new (by simp)
  have HQ1 : Hid (_ = _) := hq1
  have HB1 : Hid (Below _ _ _) := hb1
  have HO0 : Hid (_ : Prop) := hown
  have HS : Hid (Srt L) := hs
  have HBS : Hid (base ≤ w.heap.size) := hbase
  have KS : Hid (∀ X, Below w.heap.size w X → X.heap[w.heap.size]? = some (.cells #[.func (.func 60) #[] #[]] 105 (0, 0)) → Calls Tryz.prog 90 #[v, .int .i64 e, .func (.func 91) #[] #[.pointer (some ⟨w.heap.size, 0, none⟩)]] X fun x w' => SOk L e x ∧ Below X.heap.size X w') := fun X hX hq => search_int v L e w.heap.size X (ints_of_owns (owns_below HO0.out hX)) HS.out (by omega) hq
  clear hown hs hbase hb1 hq1
  have cb := cl_row (i := 0) HQ1.out rfl
  go_enter Tryz.func76, Tryz.ntmps76
  go_wp2_with fail
  generalize w.alloc (.cells #[.func (.func 60) #[] #[]] 105) = W1 at *
  refine Calls.mono (itself_any e W1) ?_
  rintro x W2 ⟨rfl, hw2⟩
  obtain rfl : W1 = W2 := hw2.symm
  clear hw2
  go_wp2_with fail
  refine Calls.mono (KS.out W1 HB1.out HQ1.out) ?_
  rintro x W3 ⟨⟨i, z, rfl, hfd⟩, hb3⟩
  have HB3 : Hid (Below w.heap.size w W3) := HB1.out.trans (hb3.mono HB1.out.size)
  clear hb3 cb HQ1 HB1 KS
  have HO3 : Hid (_ : Prop) := owns_below HO0.out HB3.out
  have HI : Hid (i ≤ L.length) := by unfold Hid; have := hfd.1; simpa using this
  have hil : i ≤ 900 := by have := HI.out; omega
  cases z with
  | false =>
    have HPL : Hid (plA id L e = L.take i ++ [e] ++ L.drop i) := plA_new id L e i (by rw [hmk]; exact HS.out) (by rw [hmk]; exact hfd)
    have HPN : Hid ((L.take i ++ [e] ++ L.drop i).length = L.length + 1) := by unfold Hid; have := HI.out; simp; omega
    have hba : Below W3.heap.size W3 (W3.alloc (.cells #[.int .i64 e] 3)) := (Below.refl _ _).alloc (Nat.le_refl _) _
    have KI : Hid (_ : Prop) := ins_int base L.length i W3.heap.size v (intsC L) [.int .i64 e] (W3.alloc (.cells #[.int .i64 e] 3)) HI.out (by omega) (owns_below HO3.out hba) (by have := HBS.out; have := HB3.out.size; simp; omega) (hp_new rfl) (fun e' => by
      obtain ⟨_, ⟨rfl, _⟩ | ⟨g, cap, cur, rfl, _, hgg, _⟩⟩ := HO3.out
      · cases e'
      · have h1 := lt_of_heap hgg
        simp [Value.ownBlock] at e'
        omega) rfl (one_ints L) (by intro u hu; simp at hu; subst hu; rfl)
    have HBA : Hid (Below _ _ _) := hba
    clear hfd hba
    go_wp2_with fail
    generalize W3.alloc (.cells #[.int .i64 e] 3) = W4 at *
    refine Calls.mono KI.out ?_
    rintro x W5 ⟨v', rfl, ho5, hg5⟩
    go_wp2
    go_ret
    refine ⟨v', rfl, ?_, grown_trans (grown_trans (grown_of_below HB3.out) (grown_of_below HBA.out)) hg5⟩
    rw [HPL.out, HPN.out, splitC_int L e i HI.out]
    exact ho5
  | true =>
    obtain ⟨hlt, hpl⟩ := plA_old id L e i (by rw [hmk]; exact HS.out) (by rw [hmk]; exact hfd)
    have HPL : Hid (plA id L e = L.set i e) := hpl
    obtain ⟨hln, ⟨rfl, hz⟩ | ⟨g, cap, cur, rfl, hbg, hgg, hnc, hcm, hcsz, htk⟩⟩ := HO3.out
    · omega
    · have HG : Hid (W3.heap[g]? = some (.cells cur 3 (0, 0))) := hgg
      have hlti : (i : Int) < (L.length : Int) := by omega
      have z0 : ∃ u, W3.cell? ⟨g, i, none⟩ = some u := ⟨cur[i]'(by omega), cl_row hgg (by rw [Array.getElem?_eq_getElem])⟩
      obtain ⟨u0, k0⟩ := z0
      have f0 := fz_row (i := i) hgg
      have hh0 : (W3.setCell ⟨g, i, none⟩ (.int .i64 e)).heap[g]? = some (.cells (cur.setIfInBounds (i) (.int .i64 e)) 3 (0, 0)) := heap_setCell_same W3 g (i) cur 3 _ hgg
      have HEND : Hid ((W3.setCell ⟨g, i, none⟩ (.int .i64 e)).ownsRow base 3 1 (.slice (some ⟨g, 0, none⟩) L.length cap) (L.set i e).length (intsC (L.set i e)) ∧ Beside g W3 (W3.setCell ⟨g, i, none⟩ (.int .i64 e))) := by
        refine ⟨⟨by rw [intsC_length]; omega, Or.inr ⟨g, cap, _, by rw [List.length_set], hbg, hh0, by rw [List.length_set]; exact hnc, hcm, by simp [hcsz], ?_⟩⟩, Beside.set _ _ _⟩
        rw [List.length_set, intsC_set]
        simp only [Array.toList_setIfInBounds, List.take_set, htk]
      clear hfd hpl hgg htk hcsz hln hh0
      go_wp2
      go_ret
      rw [HPL.out]
      exact ⟨_, rfl, HEND.out.1, grown_trans (grown_of_below HB3.out) (grown_of_beside HEND.out.2)⟩
end Go.Proofs.YtfhapjhkjdifjaaGreatDoor
set_option linter.unusedVariables false
set_option linter.unusedSimpArgs false
namespace Go.Proofs.YtfhapjhkjdifjaaGreatDoor
open Go.RowKit
theorem splitC_kept (L : List Kp) (e : Kp) (i : Nat) (hi : i ≤ L.length) : keptC (L.take i ++ [e] ++ L.drop i) = (keptC L).take (i * 2) ++ [.int .i64 e.f, .bool e.k] ++ (keptC L).drop (i * 2) := by
  have h1 : keptC (L.take i ++ [e] ++ L.drop i) = keptC (L.take i) ++ [.int .i64 e.f, .bool e.k] ++ keptC (L.drop i) := by simp [keptC]
  have h2 : keptC L = keptC (L.take i) ++ keptC (L.drop i) := by rw [← keptC_app, List.take_append_drop]
  have h3 : (keptC (L.take i)).length = i * 2 := by rw [keptC_length, List.length_take, Nat.min_eq_left hi]
  rw [h1]
  conv => rhs; rw [h2]
  rw [List.take_left' h3, List.drop_left' h3]
set_option maxHeartbeats 3200000 in
set_option maxRecDepth 100000 in
theorem placed_kept (base : Nat) (v : Value) (L : List Kp) (e : Kp) (w : World) (hown : w.ownsRow base 129 2 v L.length (keptC L)) (hbase : base ≤ w.heap.size) (hs : Srt (L.map (·.f))) (hlen : L.length ≤ 900) :
    Calls Tryz.prog 79 #[v, .agg #[.int .i64 e.f, .bool e.k], .func (.func 80) #[] #[]] w fun x w' => ∃ v', x = .returned v' ∧ w'.ownsRow base 129 2 v' (plA (fun x : Kp => x.f) L e).length (keptC (plA (fun x : Kp => x.f) L e)) ∧ w.grownBy w' v.ownBlock := by
  have hb1 : Below w.heap.size w ((w.alloc (.cells #[.int .i64 e.f, .bool e.k] 129)).alloc (.cells #[.func (.func 80) #[] #[]] 130)) := ((Below.refl _ _).alloc (Nat.le_refl _) _).alloc (by simp) _
  have hq1 : ((w.alloc (.cells #[.int .i64 e.f, .bool e.k] 129)).alloc (.cells #[.func (.func 80) #[] #[]] 130)).heap[(w.heap.size + 1)]? = some (.cells #[.func (.func 80) #[] #[]] 130 (0, 0)) := hp_new (by simp)
  have hr1 : ((w.alloc (.cells #[.int .i64 e.f, .bool e.k] 129)).alloc (.cells #[.func (.func 80) #[] #[]] 130)).heap[w.heap.size]? = some (.cells #[.int .i64 e.f, .bool e.k] 129 (0, 0)) := hp_up (hp_new rfl)
  have HR1 : Hid (_ = _) := hr1
  have HQ1 : Hid (_ = _) := hq1
  have HB1 : Hid (Below _ _ _) := hb1
  have HO0 : Hid (_ : Prop) := hown
  have HS : Hid (Srt (L.map (·.f))) := hs
  have HBS : Hid (base ≤ w.heap.size) := hbase
  have KS : Hid (∀ X, Below w.heap.size w X → X.heap[(w.heap.size + 1)]? = some (.cells #[.func (.func 80) #[] #[]] 130 (0, 0)) → Calls Tryz.prog 94 #[v, .int .i64 e.f, .func (.func 95) #[] #[.pointer (some ⟨(w.heap.size + 1), 0, none⟩)]] X fun x w' => SOk (L.map (·.f)) e.f x ∧ Below X.heap.size X w') := fun X hX hq => search_kept v L e.f (w.heap.size + 1) X (kept_of_owns (owns_below HO0.out hX)) HS.out (by omega) hq
  clear hown hs hbase hb1 hq1
  have cb := cl_row (i := 0) HQ1.out rfl
  have ce0 := cl_row (i := 0) HR1.out rfl
  have ce1 := cl_row (i := 1) HR1.out rfl
  go_enter Tryz.func79, Tryz.ntmps79
  go_wp2_with fail
  generalize (w.alloc (.cells #[.int .i64 e.f, .bool e.k] 129)).alloc (.cells #[.func (.func 80) #[] #[]] 130) = W1 at *
  refine Calls.mono (restartFam_any e.f e.k W1) ?_
  rintro x W2 ⟨rfl, hb2⟩
  have HB2 : Hid (Below w.heap.size w W2) := HB1.out.trans (hb2.mono HB1.out.size)
  have HQ2 : Hid (W2.heap[(w.heap.size + 1)]? = _) := (hb2.block _ (lt_of_heap HQ1.out)).trans HQ1.out
  have HR2 : Hid (W2.heap[w.heap.size]? = _) := (hb2.block _ (lt_of_heap HR1.out)).trans HR1.out
  clear hb2 cb ce0 ce1 HQ1 HB1 HR1 hr1
  go_wp2_with fail
  refine Calls.mono (KS.out W2 HB2.out HQ2.out) ?_
  rintro x W3 ⟨⟨i, z, rfl, hfd⟩, hb3⟩
  have HB3 : Hid (Below w.heap.size w W3) := HB2.out.trans (hb3.mono HB2.out.size)
  have HR3 : Hid (W3.heap[w.heap.size]? = _) := (hb3.block _ (lt_of_heap HR2.out)).trans HR2.out
  have ce0 := cl_row (i := 0) HR3.out rfl
  have ce1 := cl_row (i := 1) HR3.out rfl
  clear hb3 HQ2 HB2 KS HR2
  have HO3 : Hid (_ : Prop) := owns_below HO0.out HB3.out
  have HI : Hid (i ≤ L.length) := by unfold Hid; have := hfd.1; simpa using this
  have hil : i ≤ 900 := by have := HI.out; omega
  cases z with
  | false =>
    have HPL : Hid (plA (fun x : Kp => x.f) L e = L.take i ++ [e] ++ L.drop i) := plA_new (fun x : Kp => x.f) L e i HS.out hfd
    have HPN : Hid ((L.take i ++ [e] ++ L.drop i).length = L.length + 1) := by unfold Hid; have := HI.out; simp; omega
    have hba : Below W3.heap.size W3 (W3.alloc (.cells #[.int .i64 e.f, .bool e.k] 129)) := (Below.refl _ _).alloc (Nat.le_refl _) _
    have KI : Hid (_ : Prop) := ins_kept base L.length i W3.heap.size v (keptC L) [.int .i64 e.f, .bool e.k] (W3.alloc (.cells #[.int .i64 e.f, .bool e.k] 129)) HI.out (by omega) (owns_below HO3.out hba) (by have := HBS.out; have := HB3.out.size; simp; omega) (hp_new rfl) (fun e' => by
      obtain ⟨_, ⟨rfl, _⟩ | ⟨g, cap, cur, rfl, _, hgg, _⟩⟩ := HO3.out
      · cases e'
      · have h1 := lt_of_heap hgg
        simp [Value.ownBlock] at e'
        omega) rfl (one_kept L) (by intro u hu; simp at hu; rcases hu with rfl | rfl <;> rfl)
    have HBA : Hid (Below _ _ _) := hba
    clear hfd hba
    go_wp2_with fail
    generalize W3.alloc (.cells #[.int .i64 e.f, .bool e.k] 129) = W4 at *
    refine Calls.mono KI.out ?_
    rintro x W5 ⟨v', rfl, ho5, hg5⟩
    go_wp2
    go_ret
    refine ⟨v', rfl, ?_, grown_trans (grown_trans (grown_of_below HB3.out) (grown_of_below HBA.out)) hg5⟩
    rw [HPL.out, HPN.out, splitC_kept L e i HI.out]
    exact ho5
  | true =>
    obtain ⟨hlt, hpl⟩ := plA_old (fun x : Kp => x.f) L e i HS.out hfd
    have HPL : Hid (plA (fun x : Kp => x.f) L e = L.set i e) := hpl
    obtain ⟨hln, ⟨rfl, hz⟩ | ⟨g, cap, cur, rfl, hbg, hgg, hnc, hcm, hcsz, htk⟩⟩ := HO3.out
    · omega
    · have HG : Hid (W3.heap[g]? = some (.cells cur 129 (0, 0))) := hgg
      have hlti : (i : Int) < (L.length : Int) := by omega
      have z0 : ∃ u, W3.cell? ⟨g, i * 2, none⟩ = some u := ⟨cur[i * 2]'(by omega), cl_row hgg (by rw [Array.getElem?_eq_getElem])⟩
      obtain ⟨u0, k0⟩ := z0
      have f0 := fz_row (i := i * 2) hgg
      have z1 : ∃ u, W3.cell? ⟨g, i * 2 + 1, none⟩ = some u := ⟨cur[i * 2 + 1]'(by omega), cl_row hgg (by rw [Array.getElem?_eq_getElem])⟩
      obtain ⟨u1, k1⟩ := z1
      have f1 := fz_row (i := i * 2 + 1) hgg
      have hh0 : (W3.setCell ⟨g, i * 2, none⟩ (.int .i64 e.f)).heap[g]? = some (.cells (cur.setIfInBounds (i * 2) (.int .i64 e.f)) 129 (0, 0)) := heap_setCell_same W3 g (i * 2) cur 129 _ hgg
      have hh1 : ((W3.setCell ⟨g, i * 2, none⟩ (.int .i64 e.f)).setCell ⟨g, i * 2 + 1, none⟩ (.bool e.k)).heap[g]? = some (.cells ((cur.setIfInBounds (i * 2) (.int .i64 e.f)).setIfInBounds (i * 2 + 1) (.bool e.k)) 129 (0, 0)) := heap_setCell_same (W3.setCell ⟨g, i * 2, none⟩ (.int .i64 e.f)) g (i * 2 + 1) (cur.setIfInBounds (i * 2) (.int .i64 e.f)) 129 _ hh0
      have HEND : Hid (((W3.setCell ⟨g, i * 2, none⟩ (.int .i64 e.f)).setCell ⟨g, i * 2 + 1, none⟩ (.bool e.k)).ownsRow base 129 2 (.slice (some ⟨g, 0, none⟩) L.length cap) (L.set i e).length (keptC (L.set i e)) ∧ Beside g W3 ((W3.setCell ⟨g, i * 2, none⟩ (.int .i64 e.f)).setCell ⟨g, i * 2 + 1, none⟩ (.bool e.k))) := by
        refine ⟨⟨by rw [keptC_length], Or.inr ⟨g, cap, _, by rw [List.length_set], hbg, hh1, by rw [List.length_set]; exact hnc, hcm, by simp [hcsz], ?_⟩⟩, (Beside.set _ _ _).trans (Beside.set _ _ _)⟩
        rw [List.length_set, keptC_set]
        simp only [Array.toList_setIfInBounds, List.take_set, htk]
      clear hfd hpl hgg htk hcsz hln hh0 hh1
      go_wp2
      go_ret
      rw [HPL.out]
      exact ⟨_, rfl, HEND.out.1, grown_trans (grown_of_below HB3.out) (grown_of_beside HEND.out.2)⟩
end Go.Proofs.YtfhapjhkjdifjaaGreatDoor
set_option linter.unusedVariables false
set_option linter.unusedSimpArgs false
namespace Go.Proofs.YtfhapjhkjdifjaaGreatDoor
open Go.RowKit
theorem splitC_add (L : List Ad) (e : Ad) (i : Nat) (hi : i ≤ L.length) : addsC (L.take i ++ [e] ++ L.drop i) = (addsC L).take (i * 3) ++ [.int .i64 e.f, .bool e.s, .bool e.t] ++ (addsC L).drop (i * 3) := by
  have h1 : addsC (L.take i ++ [e] ++ L.drop i) = addsC (L.take i) ++ [.int .i64 e.f, .bool e.s, .bool e.t] ++ addsC (L.drop i) := by simp [addsC]
  have h2 : addsC L = addsC (L.take i) ++ addsC (L.drop i) := by rw [← addsC_app, List.take_append_drop]
  have h3 : (addsC (L.take i)).length = i * 3 := by rw [addsC_length, List.length_take, Nat.min_eq_left hi]
  rw [h1]
  conv => rhs; rw [h2]
  rw [List.take_left' h3, List.drop_left' h3]
set_option maxHeartbeats 3200000 in
set_option maxRecDepth 100000 in
theorem placed_add (base : Nat) (v : Value) (L : List Ad) (e : Ad) (w : World) (hown : w.ownsRow base 108 3 v L.length (addsC L)) (hbase : base ≤ w.heap.size) (hs : Srt (L.map (·.f))) (hlen : L.length ≤ 900) :
    Calls Tryz.prog 82 #[v, .agg #[.int .i64 e.f, .bool e.s, .bool e.t], .func (.func 62) #[] #[]] w fun x w' => ∃ v', x = .returned v' ∧ w'.ownsRow base 108 3 v' (plA (fun x : Ad => x.f) L e).length (addsC (plA (fun x : Ad => x.f) L e)) ∧ w.grownBy w' v.ownBlock := by
  have hb1 : Below w.heap.size w ((w.alloc (.cells #[.int .i64 e.f, .bool e.s, .bool e.t] 108)).alloc (.cells #[.func (.func 62) #[] #[]] 109)) := ((Below.refl _ _).alloc (Nat.le_refl _) _).alloc (by simp) _
  have hq1 : ((w.alloc (.cells #[.int .i64 e.f, .bool e.s, .bool e.t] 108)).alloc (.cells #[.func (.func 62) #[] #[]] 109)).heap[(w.heap.size + 1)]? = some (.cells #[.func (.func 62) #[] #[]] 109 (0, 0)) := hp_new (by simp)
  have hr1 : ((w.alloc (.cells #[.int .i64 e.f, .bool e.s, .bool e.t] 108)).alloc (.cells #[.func (.func 62) #[] #[]] 109)).heap[w.heap.size]? = some (.cells #[.int .i64 e.f, .bool e.s, .bool e.t] 108 (0, 0)) := hp_up (hp_new rfl)
  have HR1 : Hid (_ = _) := hr1
  have HQ1 : Hid (_ = _) := hq1
  have HB1 : Hid (Below _ _ _) := hb1
  have HO0 : Hid (_ : Prop) := hown
  have HS : Hid (Srt (L.map (·.f))) := hs
  have HBS : Hid (base ≤ w.heap.size) := hbase
  have KS : Hid (∀ X, Below w.heap.size w X → X.heap[(w.heap.size + 1)]? = some (.cells #[.func (.func 62) #[] #[]] 109 (0, 0)) → Calls Tryz.prog 97 #[v, .int .i64 e.f, .func (.func 98) #[] #[.pointer (some ⟨(w.heap.size + 1), 0, none⟩)]] X fun x w' => SOk (L.map (·.f)) e.f x ∧ Below X.heap.size X w') := fun X hX hq => search_add v L e.f (w.heap.size + 1) X (adds_of_owns (owns_below HO0.out hX)) HS.out (by omega) hq
  clear hown hs hbase hb1 hq1
  have cb := cl_row (i := 0) HQ1.out rfl
  have ce0 := cl_row (i := 0) HR1.out rfl
  have ce1 := cl_row (i := 1) HR1.out rfl
  have ce2 := cl_row (i := 2) HR1.out rfl
  go_enter Tryz.func82, Tryz.ntmps82
  go_wp2_with fail
  generalize (w.alloc (.cells #[.int .i64 e.f, .bool e.s, .bool e.t] 108)).alloc (.cells #[.func (.func 62) #[] #[]] 109) = W1 at *
  refine Calls.mono (addFam_any e.f e.s e.t W1) ?_
  rintro x W2 ⟨rfl, hb2⟩
  have HB2 : Hid (Below w.heap.size w W2) := HB1.out.trans (hb2.mono HB1.out.size)
  have HQ2 : Hid (W2.heap[(w.heap.size + 1)]? = _) := (hb2.block _ (lt_of_heap HQ1.out)).trans HQ1.out
  have HR2 : Hid (W2.heap[w.heap.size]? = _) := (hb2.block _ (lt_of_heap HR1.out)).trans HR1.out
  clear hb2 cb ce0 ce1 ce2 HQ1 HB1 HR1 hr1
  go_wp2_with fail
  refine Calls.mono (KS.out W2 HB2.out HQ2.out) ?_
  rintro x W3 ⟨⟨i, z, rfl, hfd⟩, hb3⟩
  have HB3 : Hid (Below w.heap.size w W3) := HB2.out.trans (hb3.mono HB2.out.size)
  have HR3 : Hid (W3.heap[w.heap.size]? = _) := (hb3.block _ (lt_of_heap HR2.out)).trans HR2.out
  have ce0 := cl_row (i := 0) HR3.out rfl
  have ce1 := cl_row (i := 1) HR3.out rfl
  have ce2 := cl_row (i := 2) HR3.out rfl
  clear hb3 HQ2 HB2 KS HR2
  have HO3 : Hid (_ : Prop) := owns_below HO0.out HB3.out
  have HI : Hid (i ≤ L.length) := by unfold Hid; have := hfd.1; simpa using this
  have hil : i ≤ 900 := by have := HI.out; omega
  cases z with
  | false =>
    have HPL : Hid (plA (fun x : Ad => x.f) L e = L.take i ++ [e] ++ L.drop i) := plA_new (fun x : Ad => x.f) L e i HS.out hfd
    have HPN : Hid ((L.take i ++ [e] ++ L.drop i).length = L.length + 1) := by unfold Hid; have := HI.out; simp; omega
    have hba : Below W3.heap.size W3 (W3.alloc (.cells #[.int .i64 e.f, .bool e.s, .bool e.t] 108)) := (Below.refl _ _).alloc (Nat.le_refl _) _
    have KI : Hid (_ : Prop) := ins_add base L.length i W3.heap.size v (addsC L) [.int .i64 e.f, .bool e.s, .bool e.t] (W3.alloc (.cells #[.int .i64 e.f, .bool e.s, .bool e.t] 108)) HI.out (by omega) (owns_below HO3.out hba) (by have := HBS.out; have := HB3.out.size; simp; omega) (hp_new rfl) (fun e' => by
      obtain ⟨_, ⟨rfl, _⟩ | ⟨g, cap, cur, rfl, _, hgg, _⟩⟩ := HO3.out
      · cases e'
      · have h1 := lt_of_heap hgg
        simp [Value.ownBlock] at e'
        omega) rfl (one_adds L) (by intro u hu; simp at hu; rcases hu with rfl | rfl | rfl <;> rfl)
    have HBA : Hid (Below _ _ _) := hba
    clear hfd hba
    go_wp2_with fail
    generalize W3.alloc (.cells #[.int .i64 e.f, .bool e.s, .bool e.t] 108) = W4 at *
    refine Calls.mono KI.out ?_
    rintro x W5 ⟨v', rfl, ho5, hg5⟩
    go_wp2
    go_ret
    refine ⟨v', rfl, ?_, grown_trans (grown_trans (grown_of_below HB3.out) (grown_of_below HBA.out)) hg5⟩
    rw [HPL.out, HPN.out, splitC_add L e i HI.out]
    exact ho5
  | true =>
    obtain ⟨hlt, hpl⟩ := plA_old (fun x : Ad => x.f) L e i HS.out hfd
    have HPL : Hid (plA (fun x : Ad => x.f) L e = L.set i e) := hpl
    obtain ⟨hln, ⟨rfl, hz⟩ | ⟨g, cap, cur, rfl, hbg, hgg, hnc, hcm, hcsz, htk⟩⟩ := HO3.out
    · omega
    · have HG : Hid (W3.heap[g]? = some (.cells cur 108 (0, 0))) := hgg
      have hlti : (i : Int) < (L.length : Int) := by omega
      have z0 : ∃ u, W3.cell? ⟨g, i * 3, none⟩ = some u := ⟨cur[i * 3]'(by omega), cl_row hgg (by rw [Array.getElem?_eq_getElem])⟩
      obtain ⟨u0, k0⟩ := z0
      have f0 := fz_row (i := i * 3) hgg
      have z1 : ∃ u, W3.cell? ⟨g, i * 3 + 1, none⟩ = some u := ⟨cur[i * 3 + 1]'(by omega), cl_row hgg (by rw [Array.getElem?_eq_getElem])⟩
      obtain ⟨u1, k1⟩ := z1
      have f1 := fz_row (i := i * 3 + 1) hgg
      have z2 : ∃ u, W3.cell? ⟨g, i * 3 + 2, none⟩ = some u := ⟨cur[i * 3 + 2]'(by omega), cl_row hgg (by rw [Array.getElem?_eq_getElem])⟩
      obtain ⟨u2, k2⟩ := z2
      have f2 := fz_row (i := i * 3 + 2) hgg
      have hh0 : (W3.setCell ⟨g, i * 3, none⟩ (.int .i64 e.f)).heap[g]? = some (.cells (cur.setIfInBounds (i * 3) (.int .i64 e.f)) 108 (0, 0)) := heap_setCell_same W3 g (i * 3) cur 108 _ hgg
      have hh1 : ((W3.setCell ⟨g, i * 3, none⟩ (.int .i64 e.f)).setCell ⟨g, i * 3 + 1, none⟩ (.bool e.s)).heap[g]? = some (.cells ((cur.setIfInBounds (i * 3) (.int .i64 e.f)).setIfInBounds (i * 3 + 1) (.bool e.s)) 108 (0, 0)) := heap_setCell_same (W3.setCell ⟨g, i * 3, none⟩ (.int .i64 e.f)) g (i * 3 + 1) (cur.setIfInBounds (i * 3) (.int .i64 e.f)) 108 _ hh0
      have hh2 : (((W3.setCell ⟨g, i * 3, none⟩ (.int .i64 e.f)).setCell ⟨g, i * 3 + 1, none⟩ (.bool e.s)).setCell ⟨g, i * 3 + 2, none⟩ (.bool e.t)).heap[g]? = some (.cells (((cur.setIfInBounds (i * 3) (.int .i64 e.f)).setIfInBounds (i * 3 + 1) (.bool e.s)).setIfInBounds (i * 3 + 2) (.bool e.t)) 108 (0, 0)) := heap_setCell_same ((W3.setCell ⟨g, i * 3, none⟩ (.int .i64 e.f)).setCell ⟨g, i * 3 + 1, none⟩ (.bool e.s)) g (i * 3 + 2) ((cur.setIfInBounds (i * 3) (.int .i64 e.f)).setIfInBounds (i * 3 + 1) (.bool e.s)) 108 _ hh1
      have HEND : Hid ((((W3.setCell ⟨g, i * 3, none⟩ (.int .i64 e.f)).setCell ⟨g, i * 3 + 1, none⟩ (.bool e.s)).setCell ⟨g, i * 3 + 2, none⟩ (.bool e.t)).ownsRow base 108 3 (.slice (some ⟨g, 0, none⟩) L.length cap) (L.set i e).length (addsC (L.set i e)) ∧ Beside g W3 (((W3.setCell ⟨g, i * 3, none⟩ (.int .i64 e.f)).setCell ⟨g, i * 3 + 1, none⟩ (.bool e.s)).setCell ⟨g, i * 3 + 2, none⟩ (.bool e.t))) := by
        refine ⟨⟨by rw [addsC_length], Or.inr ⟨g, cap, _, by rw [List.length_set], hbg, hh2, by rw [List.length_set]; exact hnc, hcm, by simp [hcsz], ?_⟩⟩, ((Beside.set _ _ _).trans (Beside.set _ _ _)).trans (Beside.set _ _ _)⟩
        rw [List.length_set, addsC_set]
        simp only [Array.toList_setIfInBounds, List.take_set, htk]
      clear hfd hpl hgg htk hcsz hln hh0 hh1 hh2
      go_wp2
      go_ret
      rw [HPL.out]
      exact ⟨_, rfl, HEND.out.1, grown_trans (grown_of_below HB3.out) (grown_of_beside HEND.out.2)⟩
end Go.Proofs.YtfhapjhkjdifjaaGreatDoor
