/-
  Timers, plain: keys, their order, lists of timers in order.
-/
import Derived.Sort.Walk0
import Derived.WalkKit
import Derived.ChangeKeysEq
import Derived.Shelf.SlSortCmp.Insertion
set_option linter.unusedSimpArgs false
namespace Go.Proofs.Ytgplhdhnailpfaa
open Go.RowKit Go.Sort
/-- A key of a timer. -/
structure Ky where
  kind : Int
  peer : ByteArray
  fam : Int
  ok : (Lit.int .i64 kind).wf = true ∧ peer.size ≤ maxLen ∧ (Lit.int .i64 fam).wf = true
theorem Ky.eq_of {a b : Ky} (h1 : a.kind = b.kind) (h2 : a.peer = b.peer) (h3 : a.fam = b.fam) : a = b := by
  obtain ⟨k, p, f, _⟩ := a
  obtain ⟨k', p', f', _⟩ := b
  simp only at h1 h2 h3
  subst h1 h2 h3
  rfl
theorem toList_inj {a b : ByteArray} (h : a.toList = b.toList) : a = b := by
  have := congrArg List.toArray h
  apply ByteArray.ext
  simpa [ByteArray.toList_eq] using this
/-- Are two keys one? -/
def keyB (a b : Ky) : Bool := a.kind == b.kind && a.peer.toList == b.peer.toList && a.fam == b.fam
theorem keyB_iff {a b : Ky} : keyB a b = true ↔ a = b := by
  unfold keyB
  constructor
  · intro h
    simp only [Bool.and_eq_true, beq_iff_eq] at h
    exact Ky.eq_of h.1.1 (toList_inj h.1.2) h.2
  · rintro rfl; simp
theorem keyB_self (a : Ky) : keyB a a = true := keyB_iff.2 rfl
theorem keyB_ne {a b : Ky} (h : a ≠ b) : keyB a b = false := by
  cases e : keyB a b
  · rfl
  · exact absurd (keyB_iff.1 e) h
/-- A timer. -/
structure Fd where
  at' : Nat
  key : Ky
theorem Fd.eq_of {a b : Fd} (h1 : a.at' = b.at') (h2 : a.key = b.key) : a = b := by
  obtain ⟨_, _⟩ := a
  obtain ⟨_, _⟩ := b
  simp only at h1 h2
  subst h1 h2
  rfl
/-- The order of numbers. -/
def ord (a b : Int) : Int := if a < b then -1 else if b < a then 1 else 0
/-- The order of texts. -/
def ordS (a b : ByteArray) : Int := if Op.bytesLess a.toList b.toList then -1 else if Op.bytesLess b.toList a.toList then 1 else 0
/-- The first one that is not nought. -/
def firstNZ : List Int → Int
  | [] => 0
  | x :: l => if x = 0 then firstNZ l else x
theorem ord_lt {a b : Int} (h : a < b) : ord a b = -1 := by unfold ord; rw [if_pos h]
theorem ord_gt {a b : Int} (h : b < a) : ord a b = 1 := by unfold ord; rw [if_neg (by omega), if_pos h]
theorem ord_eq {a b : Int} (h1 : ¬ a < b) (h2 : ¬ b < a) : ord a b = 0 := by unfold ord; rw [if_neg h1, if_neg h2]
theorem less_iff (a b : ByteArray) : Op.bytesLess a.toList b.toList = true ↔ a.toList < b.toList := by rw [bytesLess_eq]; simp
theorem str_irrefl (a : ByteArray) : Op.bytesLess a.toList a.toList = false := by
  rw [bytesLess_eq]; simp [List.lt_irrefl]
theorem str_trans {a b c : ByteArray} (h1 : Op.bytesLess a.toList b.toList = true) (h2 : Op.bytesLess b.toList c.toList = true) : Op.bytesLess a.toList c.toList = true := by
  rw [less_iff] at *; exact List.lt_trans h1 h2
theorem str_total {a b : ByteArray} (h1 : Op.bytesLess a.toList b.toList = false) (h2 : Op.bytesLess b.toList a.toList = false) : a = b := by
  rw [bytesLess_eq] at h1 h2
  simp only [decide_eq_false_iff_not] at h1 h2
  exact toList_inj (List.le_antisymm h2 h1)
/-- The order of keys. -/
def kcmp (a b : Ky) : Int := firstNZ [ord a.kind b.kind, ordS a.peer b.peer, ord a.fam b.fam]
/-- One key ahead of another. -/
def klt (a b : Ky) : Prop := a.kind < b.kind ∨ (a.kind = b.kind ∧ (Op.bytesLess a.peer.toList b.peer.toList = true ∨ (a.peer = b.peer ∧ a.fam < b.fam)))
/-- One timer ahead of another. -/
def flt (a b : Fd) : Prop := a.at' < b.at' ∨ (a.at' = b.at' ∧ klt a.key b.key)
theorem klt_irrefl (a : Ky) : ¬ klt a a := by
  rintro (h | ⟨_, h | ⟨_, h⟩⟩)
  · omega
  · rw [str_irrefl] at h; cases h
  · omega
theorem klt_trans {a b c : Ky} (h1 : klt a b) (h2 : klt b c) : klt a c := by
  rcases h1 with h1 | ⟨e1, h1⟩
  · rcases h2 with h2 | ⟨e2, h2⟩
    · exact Or.inl (by omega)
    · exact Or.inl (by omega)
  · rcases h2 with h2 | ⟨e2, h2⟩
    · exact Or.inl (by omega)
    · refine Or.inr ⟨by omega, ?_⟩
      rcases h1 with h1 | ⟨p1, h1⟩
      · rcases h2 with h2 | ⟨p2, h2⟩
        · exact Or.inl (str_trans h1 h2)
        · exact Or.inl (p2 ▸ h1)
      · rcases h2 with h2 | ⟨p2, h2⟩
        · exact Or.inl (p1 ▸ h2)
        · exact Or.inr ⟨p1.trans p2, by omega⟩
theorem klt_total {a b : Ky} (h1 : ¬ klt a b) (h2 : ¬ klt b a) : a = b := by
  unfold klt at h1 h2
  have e1 : a.kind = b.kind := by omega
  have e2 : a.peer = b.peer := by
    apply str_total
    · cases e : Op.bytesLess a.peer.toList b.peer.toList
      · rfl
      · exact absurd (Or.inr ⟨e1, Or.inl e⟩) h1
    · cases e : Op.bytesLess b.peer.toList a.peer.toList
      · rfl
      · exact absurd (Or.inr ⟨e1.symm, Or.inl e⟩) h2
  have e3 : a.fam = b.fam := by
    have n1 : ¬ a.fam < b.fam := fun h => h1 (Or.inr ⟨e1, Or.inr ⟨e2, h⟩⟩)
    have n2 : ¬ b.fam < a.fam := fun h => h2 (Or.inr ⟨e1.symm, Or.inr ⟨e2.symm, h⟩⟩)
    omega
  exact Ky.eq_of e1 e2 e3
theorem flt_irrefl (a : Fd) : ¬ flt a a := by
  rintro (h | ⟨_, h⟩)
  · omega
  · exact klt_irrefl _ h
theorem flt_trans {a b c : Fd} (h1 : flt a b) (h2 : flt b c) : flt a c := by
  rcases h1 with h1 | ⟨e1, h1⟩ <;> rcases h2 with h2 | ⟨e2, h2⟩
  · exact Or.inl (by omega)
  · exact Or.inl (by omega)
  · exact Or.inl (by omega)
  · exact Or.inr ⟨by omega, klt_trans h1 h2⟩
theorem flt_total {a b : Fd} (h1 : ¬ flt a b) (h2 : ¬ flt b a) : a = b := by
  unfold flt at h1 h2
  have e : a.at' = b.at' := by omega
  exact Fd.eq_of e (klt_total (fun h => h1 (Or.inr ⟨e, h⟩)) (fun h => h2 (Or.inr ⟨e.symm, h⟩)))
theorem kcmp_neg (a b : Ky) : kcmp a b < 0 ↔ klt a b := by
  unfold kcmp klt firstNZ firstNZ firstNZ firstNZ ord ordS
  by_cases h1 : a.kind < b.kind
  · simp [h1]
  · by_cases h2 : b.kind < a.kind
    · simp [h1, h2]; omega
    · have e1 : a.kind = b.kind := by omega
      cases h3 : Op.bytesLess a.peer.toList b.peer.toList
      · cases h4 : Op.bytesLess b.peer.toList a.peer.toList
        · have e2 := str_total h3 h4
          by_cases h5 : a.fam < b.fam
          · simp [h1, h2, h5, e1, e2]
          · by_cases h6 : b.fam < a.fam <;> simp [h1, h2, h5, h6, e1, e2]
        · have n2 : a.peer ≠ b.peer := fun e => by rw [e, str_irrefl] at h4; cases h4
          simp [e1, n2]
      · simp [e1]
/-- The order of timers, as a number. -/
def fcmp (a b : Fd) : Int := firstNZ [ord a.at' b.at', kcmp a.key b.key]
theorem fcmp_neg (a b : Fd) : fcmp a b < 0 ↔ flt a b := by
  unfold fcmp flt
  have hk := kcmp_neg a.key b.key
  unfold firstNZ firstNZ firstNZ ord
  by_cases h1 : (a.at' : Int) < b.at'
  · simp [h1]; omega
  · by_cases h2 : (b.at' : Int) < a.at'
    · simp [h1, h2]; omega
    · have e : a.at' = b.at' := by omega
      simp only [e, Int.lt_irrefl, if_false, if_true, Nat.lt_irrefl, false_or, true_and]
      rw [← hk]
      by_cases hz : kcmp a.key b.key = 0 <;> simp [hz]
/-- Timers in order. -/
def InOrder (L : List Fd) : Prop := L.Pairwise flt
/-- Two lists in order with the same timers are one. -/
theorem order_unique : ∀ {l m : List Fd}, InOrder l → InOrder m → (∀ x, x ∈ l ↔ x ∈ m) → l = m
  | [], [], _, _, _ => rfl
  | [], b :: s, _, _, h => by have := (h b).2 (by simp); simp at this
  | a :: r, [], _, _, h => by have := (h a).1 (by simp); simp at this
  | a :: r, b :: s, h1, h2, h => by
    obtain ⟨a1, a2⟩ := List.pairwise_cons.1 h1
    obtain ⟨b1, b2⟩ := List.pairwise_cons.1 h2
    have hab : a = b := by
      rcases List.mem_cons.1 ((h a).1 (by simp)) with e | ha
      · exact e
      · rcases List.mem_cons.1 ((h b).2 (by simp)) with e | hb
        · exact e.symm
        · exact absurd (flt_trans (b1 a ha) (a1 b hb)) (flt_irrefl _)
    subst hab
    rw [order_unique a2 b2 (fun p => ⟨fun hp => by
      rcases List.mem_cons.1 ((h p).1 (by simp [hp])) with e | hp'
      · exact absurd (e ▸ a1 p hp) (flt_irrefl _)
      · exact hp', fun hp => by
      rcases List.mem_cons.1 ((h p).2 (by simp [hp])) with e | hp'
      · exact absurd (e ▸ b1 p hp) (flt_irrefl _)
      · exact hp'⟩)]
/-- Is one ahead? -/
def fltB (a b : Fd) : Bool := decide (fcmp a b < 0)
theorem fltB_iff {a b : Fd} : fltB a b = true ↔ flt a b := by unfold fltB; rw [decide_eq_true_iff, fcmp_neg]
theorem fltB_no {a b : Fd} (h : fltB a b = false) : ¬ flt a b := fun e => by rw [fltB_iff.2 e] at h; cases h
/-- A timer put in at its place. -/
def insF (x : Fd) : List Fd → List Fd
  | [] => [x]
  | y :: l => if fltB x y then x :: y :: l else y :: insF x l
theorem mem_insF {x z : Fd} : ∀ {l : List Fd}, z ∈ insF x l ↔ z = x ∨ z ∈ l
  | [] => by simp [insF]
  | y :: l => by
    unfold insF
    split
    · simp
    · simp only [List.mem_cons, mem_insF (l := l)]
      constructor
      · rintro (h | h | h) <;> simp [h]
      · rintro (h | h | h) <;> simp [h]
theorem len_insF (x : Fd) : ∀ l : List Fd, (insF x l).length = l.length + 1
  | [] => rfl
  | y :: l => by
    unfold insF
    split
    · rfl
    · simp [len_insF x l]
theorem order_insF {x : Fd} : ∀ {l : List Fd}, InOrder l → (∀ y ∈ l, y ≠ x) → InOrder (insF x l)
  | [], _, _ => by simp [insF, InOrder]
  | y :: l, h, hn => by
    obtain ⟨h1, h2⟩ := List.pairwise_cons.1 h
    unfold insF
    cases e : fltB x y
    · have hyx : flt y x := by
        have n1 := fltB_no e
        by_cases h3 : flt y x
        · exact h3
        · exact absurd (flt_total h3 n1) (hn y (by simp))
      rw [if_neg (by simp)]
      refine List.pairwise_cons.2 ⟨fun z hz => ?_, order_insF h2 (fun z hz => hn z (by simp [hz]))⟩
      rcases mem_insF.1 hz with rfl | hz
      · exact hyx
      · exact h1 z hz
    · rw [if_pos rfl]
      refine List.pairwise_cons.2 ⟨fun z hz => ?_, h⟩
      rcases List.mem_cons.1 hz with rfl | hz
      · exact fltB_iff.1 e
      · exact flt_trans (fltB_iff.1 e) (h1 z hz)
/-- The timers of a wheel: in order, each key once, none behind the last tick. -/
structure Whl (L : List Fd) : Prop where
  ord : InOrder L
  once : L.Pairwise fun x y => x.key ≠ y.key
  tick : ∀ x ∈ L, x.at' ≤ 1099511627776
theorem Whl.nil : Whl [] := ⟨List.Pairwise.nil, List.Pairwise.nil, by simp⟩
theorem Whl.filter {L : List Fd} (h : Whl L) (f : Fd → Bool) : Whl (L.filter f) :=
  ⟨h.ord.filter _, h.once.filter _, fun x hx => h.tick x (List.mem_filter.1 hx).1⟩
/-- One key has one tick. -/
theorem Whl.one {L : List Fd} (h : Whl L) {x y : Fd} (hx : x ∈ L) (hy : y ∈ L) (e : x.key = y.key) : x = y := by
  have : ∀ {l : List Fd}, l.Pairwise (fun x y => x.key ≠ y.key) → x ∈ l → y ∈ l → x = y := by
    intro l
    induction l with
    | nil => intro _ hx; cases hx
    | cons a r ih =>
      intro hp hx hy
      obtain ⟨h1, h2⟩ := List.pairwise_cons.1 hp
      rcases List.mem_cons.1 hx with ex | hx <;> rcases List.mem_cons.1 hy with ey | hy
      · rw [ex, ey]
      · exact absurd (ex ▸ e) (h1 y hy)
      · exact absurd (ey ▸ e.symm) (h1 x hx)
      · exact ih h2 hx hy
  exact this h.once hx hy
/-- The timers without a key. -/
def without (L : List Fd) (k : Ky) : List Fd := L.filter fun x => !keyB x.key k
theorem mem_without {L : List Fd} {k : Ky} {x : Fd} : x ∈ without L k ↔ x ∈ L ∧ x.key ≠ k := by
  unfold without
  rw [List.mem_filter]
  constructor
  · rintro ⟨h1, h2⟩; exact ⟨h1, fun e => by rw [e, keyB_self] at h2; cases h2⟩
  · rintro ⟨h1, h2⟩; exact ⟨h1, by rw [keyB_ne h2]; rfl⟩
/-- The timers, that of a key due at a tick. -/
def armed (L : List Fd) (k : Ky) (t : Nat) : List Fd := insF ⟨t, k⟩ (without L k)
theorem mem_armed {L : List Fd} {k : Ky} {t : Nat} {x : Fd} : x ∈ armed L k t ↔ x = ⟨t, k⟩ ∨ (x ∈ L ∧ x.key ≠ k) := by
  unfold armed; rw [mem_insF, mem_without]
theorem pair_insF {x : Fd} : ∀ {l : List Fd}, l.Pairwise (fun x y => x.key ≠ y.key) → (∀ y ∈ l, y.key ≠ x.key) → (insF x l).Pairwise (fun x y => x.key ≠ y.key)
  | [], _, _ => by simp [insF]
  | y :: l, h, hn => by
    obtain ⟨h1, h2⟩ := List.pairwise_cons.1 h
    unfold insF
    split
    · exact List.pairwise_cons.2 ⟨fun z hz => (hn z hz).symm, h⟩
    · refine List.pairwise_cons.2 ⟨fun z hz => ?_, pair_insF h2 (fun z hz => hn z (by simp [hz]))⟩
      rcases mem_insF.1 hz with rfl | hz
      · exact hn y (by simp)
      · exact h1 z hz
theorem Whl.armed {L : List Fd} (h : Whl L) (k : Ky) (t : Nat) (ht : t ≤ 1099511627776) : Whl (armed L k t) := by
  refine ⟨order_insF (h.ord.filter _) (fun y hy e => (mem_without.1 hy).2 (by rw [e])), pair_insF (h.once.filter _) (fun y hy => (mem_without.1 hy).2), fun x hx => ?_⟩
  rcases mem_armed.1 hx with rfl | ⟨hx, _⟩
  · exact ht
  · exact h.tick x hx
/-- When a key's timer is due. -/
def lookF (L : List Fd) (k : Ky) : Option Nat := (L.find? fun x => keyB x.key k).map (·.at')
theorem lookF_some {L : List Fd} {k : Ky} {t : Nat} (h : lookF L k = some t) : (⟨t, k⟩ : Fd) ∈ L := by
  unfold lookF at h
  cases e : L.find? (fun x => keyB x.key k) with
  | none => rw [e] at h; cases h
  | some x =>
    rw [e] at h
    have h1 := List.find?_some e
    have h2 := List.mem_of_find?_eq_some e
    have h3 := keyB_iff.1 h1
    simp at h
    rw [← h, ← h3]
    exact h2
theorem lookF_none {L : List Fd} {k : Ky} (h : lookF L k = none) : ∀ x ∈ L, x.key ≠ k := by
  unfold lookF at h
  cases e : L.find? (fun x => keyB x.key k) with
  | some x => rw [e] at h; cases h
  | none =>
    intro x hx hk
    have := List.find?_eq_none.1 e x hx
    rw [hk, keyB_self] at this
    simp at this
theorem Whl.look {L : List Fd} (h : Whl L) {k : Ky} {t : Nat} (hm : (⟨t, k⟩ : Fd) ∈ L) : lookF L k = some t := by
  cases e : lookF L k with
  | none => exact absurd rfl (lookF_none e _ hm)
  | some u => have := h.one (lookF_some e) hm rfl; injection this with h1; rw [h1]
theorem len_without {L : List Fd} (h : L.Pairwise fun x y => x.key ≠ y.key) (k : Ky) : (without L k).length + (if (lookF L k).isSome then 1 else 0) = L.length := by
  induction L with
  | nil => simp [without, lookF]
  | cons a r ih =>
    obtain ⟨h1, h2⟩ := List.pairwise_cons.1 h
    have ih := ih h2
    unfold without lookF at *
    by_cases e : a.key = k
    · have hb : keyB a.key k = true := keyB_iff.2 e
      have hr : r.filter (fun x => !keyB x.key k) = r := by
        refine List.filter_eq_self.2 (fun x hx => ?_)
        rw [keyB_ne (fun e' => h1 x hx (by rw [e, e']))]; rfl
      simp [List.filter_cons, List.find?_cons, hb, hr]
    · have hb : keyB a.key k = false := keyB_ne e
      simp only [List.filter_cons, List.find?_cons, hb, Bool.not_false, if_true, List.length_cons]
      omega
theorem len_armed {L : List Fd} (h : L.Pairwise fun x y => x.key ≠ y.key) (k : Ky) (t : Nat) : (armed L k t).length = if (lookF L k).isSome then L.length else L.length + 1 := by
  have := len_without h k
  unfold armed
  rw [len_insF]
  split <;> simp_all
end Go.Proofs.Ytgplhdhnailpfaa
