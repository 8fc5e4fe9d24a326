/-
  The due keys are put into order.
-/
import Derived.Test.YtgplhdhnailpfaaD3
import Derived.Test.YtgplhdhnailpfaaC3
import Derived.Test.YtgplhdhnailpfaaShelf
set_option linter.unusedSimpArgs false
set_option maxRecDepth 100000
namespace Go.Proofs.Ytgplhdhnailpfaa
open Go.RowKit Go.Maps Go.Sort Go.Shelf
/-- What is due at a tick or ahead of it. -/
def dueF (L : List Fd) (now : Nat) : List Fd := L.filter fun x => decide (x.at' ≤ now)
/-- What is left. -/
def leftF (L : List Fd) (now : Nat) : List Fd := L.filter fun x => !decide (x.at' ≤ now)
/-- A key with its tick. -/
def kfd (L : List Fd) (k : Ky) : Fd := ⟨tk L k, k⟩
theorem Whl.kfd {L : List Fd} (h : Whl L) {x : Fd} (hx : x ∈ L) : kfd L x.key = x := by
  unfold Go.Proofs.Ytgplhdhnailpfaa.kfd tk
  rw [h.look (t := x.at') (k := x.key) hx]
  rfl
theorem tcmp_eq (L : List Fd) (x y : Ky) : tcmp L x y = fcmp (kfd L x) (kfd L y) := rfl
theorem ltT (L : List Fd) (x y : Ky) : ltOf (tcmp L) x y = true ↔ flt (kfd L x) (kfd L y) := by
  unfold ltOf
  rw [decide_eq_true_iff, tcmp_eq, fcmp_neg]
theorem ltT_no (L : List Fd) (x y : Ky) : ltOf (tcmp L) x y = false ↔ ¬ flt (kfd L x) (kfd L y) := by
  rw [← ltT, Bool.not_eq_true]
theorem kfd_inj {L : List Fd} {x y : Ky} (h : kfd L x = kfd L y) : x = y := by
  unfold kfd at h
  injection h
theorem flt_ntrans {a b c : Fd} (h1 : ¬ flt a b) (h2 : ¬ flt b c) : ¬ flt a c := by
  intro h
  by_cases e1 : flt b a
  · exact h2 (flt_trans e1 h)
  · have := flt_total h1 e1
    subst this
    exact h2 h
theorem swoT (L : List Fd) : SWO (ltOf (tcmp L)) where
  irrefl x := by rw [ltT_no]; exact flt_irrefl _
  trans x y z h1 h2 := by rw [ltT] at *; exact flt_trans h1 h2
  ntrans x y z h1 h2 := by rw [ltT_no] at *; exact flt_ntrans h1 h2
theorem totT (L : List Fd) (x y : Ky) (h1 : ltOf (tcmp L) x y = false) (h2 : ltOf (tcmp L) y x = false) : x = y := by
  rw [ltT_no] at *
  exact kfd_inj (flt_total h1 h2)
/-- Keys put into order. -/
def sortT (L : List Fd) (ss : List Ky) : List Ky := ss.mergeSort fun x y => !(ltOf (tcmp L)) y x
theorem pair_sort (L : List Fd) (ss : List Ky) : (sortT L ss).Pairwise fun x y => ¬ flt (kfd L y) (kfd L x) := by
  have h := List.pairwise_mergeSort (le := fun x y => !(ltOf (tcmp L)) y x) (fun a b c h1 h2 => by
    simp only [Bool.not_eq_true'] at *
    rw [ltT_no] at *
    exact flt_ntrans h2 h1) (fun a b => by
    cases e : ltOf (tcmp L) b a
    · simp
    · simp
      rw [ltT_no]
      rw [ltT] at e
      intro h
      exact flt_irrefl _ (flt_trans e h)) ss
  refine h.imp (fun {a b} hab => ?_)
  simp only [Bool.not_eq_true'] at hab
  rwa [ltT_no] at hab
theorem sort_due {L : List Fd} (hw : Whl L) {now : Nat} {ss : List Ky} (hc : Col L now (fun _ => false) ss) : sortT L ss = (dueF L now).map (·.key) := by
  have hp : (sortT L ss).Perm ss := List.mergeSort_perm _ _
  have hn : (sortT L ss).Nodup := hp.nodup_iff.2 hc.once
  have e : (sortT L ss).map (kfd L) = dueF L now := by
    refine order_unique ?_ (hw.ord.filter _) (fun x => ?_)
    · unfold InOrder
      rw [List.pairwise_map]
      have h1 := pair_sort L ss
      refine (List.Pairwise.and h1 hn).imp (fun {a b} ⟨hab, hne⟩ => ?_)
      by_cases h : flt (kfd L a) (kfd L b)
      · exact h
      · exact absurd (kfd_inj (flt_total h hab)) hne
    · unfold dueF
      rw [List.mem_map, List.mem_filter]
      constructor
      · rintro ⟨k, hk, rfl⟩
        obtain ⟨⟨y, hy, e, ht⟩, _⟩ := (hc.mem k).1 (hp.mem_iff.1 hk)
        subst e
        rw [hw.kfd hy]
        exact ⟨hy, by simpa using ht⟩
      · rintro ⟨hx, ht⟩
        exact ⟨x.key, hp.mem_iff.2 ((hc.mem _).2 ⟨⟨x, hx, rfl, by simpa using ht⟩, rfl⟩), hw.kfd hx⟩
  rw [← e, List.map_map]
  have : ((·.key) ∘ kfd L) = id := by funext k; rfl
  rw [this, List.map_id]
/-- Keys that a slice holds. -/
structure KeysAt (w : World) (v : Value) (l : List Ky) : Prop where
  len : ∃ ad cap, v = .slice ad l.length cap
  cell : ∀ j (h : j < l.length), ∃ g cap, v = .slice (some ⟨g, 0, none⟩) l.length cap ∧ w.cell? ⟨g, j * 3, none⟩ = some (.int .i64 l[j].kind) ∧ w.cell? ⟨g, j * 3 + 1, none⟩ = some (.string l[j].peer) ∧ w.cell? ⟨g, j * 3 + 2, none⟩ = some (.int .i64 l[j].fam)
theorem KeysAt.kept {w w' : World} {v : Value} {l : List Ky} {row : Option Nat} (h : KeysAt w v l) (hg : w.grownBy w' row) (hne : ∀ r, row = some r → v.ownBlock ≠ some r) : KeysAt w' v l := by
  refine ⟨h.len, fun j hj => ?_⟩
  obtain ⟨g, cap, e, c0, c1, c2⟩ := h.cell j hj
  have hr : some g ≠ row := fun e' => hne g e'.symm (by rw [e]; rfl)
  exact ⟨g, cap, e, hg.cell c0 hr, hg.cell c1 hr, hg.cell c2 hr⟩
@[reducible] def kyInh : Inhabited Ky := ⟨⟨0, ⟨#[]⟩, 0, by decide⟩⟩
theorem grown_sorted {w : World} {g n : Nat} {os : Array Obj} (d : Array Ky) : w.grownBy (@sortWorldK Ky kyInh encK 3 w g 0 n d os) (some g) := by
  refine ⟨rfl, rfl, rfl, by simp [sortWorldK, putRowK, putRow, mapBlock, grow, Sort.ahead], fun k hk hne => ?_⟩
  unfold sortWorldK
  rw [heap_grow_old _ _ (by simpa [putRowK, putRow, mapBlock, Sort.ahead] using hk)]
  have : g ≠ k := fun e => hne (by rw [e])
  simp [putRowK, putRow, mapBlock, Sort.ahead, Array.getElem?_modify, this]
theorem row_cells {l : List Ky} : ∀ (j : Nat) (h : j < l.length) (c : Nat), c < 3 → (cellsK l)[j * 3 + c]? = (encK l[j])[c]? := by
  induction l with
  | nil => intro j h; simp at h
  | cons a r ih =>
    intro j h c hc
    have e : cellsK (a :: r) = encK a ++ cellsK r := by simp [cellsK]
    have hl : (encK a).length = 3 := rfl
    cases j with
    | zero =>
      rw [e, List.getElem?_append_left (by rw [hl]; omega)]
      simp
    | succ j =>
      rw [e, List.getElem?_append_right (by rw [hl]; omega), hl]
      have := ih j (by simpa using h) c hc
      rw [show (j + 1) * 3 + c - 3 = j * 3 + c by omega, this]
      simp
theorem own_cell {w : World} {base g cap : Nat} {l : List Ky} (h : OwnK w base (.slice (some ⟨g, 0, none⟩) l.length cap) l) (t : Nat) (ht : t < l.length * 3) : w.cell? ⟨g, t, none⟩ = (cellsK l)[t]? ∧ w.frozen? ⟨g, t, none⟩ = false := by
  obtain ⟨h0, ⟨h1, h2⟩ | ⟨g', cap', cur, e, hg, hk, h1, h2, h3, h4⟩⟩ := h
  · omega
  · injection e with e _ _
    injection e with e
    injection e with e
    subst e
    refine ⟨?_, by simp [World.frozen?, hk]⟩
    have hsz : t < cur.size := by rw [h3]; exact Nat.lt_of_lt_of_le ht (Nat.mul_le_mul_right 3 h1)
    rw [← h4, List.getElem?_take_of_lt ht]
    simp [World.cell?, hk, hsz]
theorem hold_own {w : World} {base g cap : Nat} {l : List Ky} (h : OwnK w base (.slice (some ⟨g, 0, none⟩) l.length cap) l) : @HoldsK Ky kyInh encK 3 w g 0 l.toArray := by
  intro t ht
  have ht' : t < l.length * 3 := by simpa using ht
  obtain ⟨h1, h2⟩ := own_cell h t ht'
  refine ⟨?_, by rw [Nat.zero_add]; exact h2⟩
  rw [Nat.zero_add, h1]
  rw [@get_flatK Ky kyInh encK 3 l.toArray t (by simpa using ht')]
  have hj : t / 3 < l.length := by omega
  have hc := row_cells (l := l) (t / 3) hj (t % 3) (by omega)
  rw [show t / 3 * 3 + t % 3 = t by omega] at hc
  rw [hc]
  simp only [id]
  rw [@getElem!_pos (Array Ky) Nat Ky _ _ _ kyInh l.toArray (t / 3) (by simpa using hj)]
  rw [getElem!_pos (encK l.toArray[t / 3]) (t % 3) (show t % 3 < 3 by omega)]
  simp
theorem eg33 : ∀ args w, (callFunc 33 args).run Try.prog w = .ok (.enter 33 args) w := enters_of Try.func33 (by kernel_rfl) rfl
theorem one_enc (x : Ky) : ∀ v ∈ encK x, v.oneCell' = true := three_k x
theorem lays33 {p b tb g : Nat} {L : List Fd} {w : World} (h : WhAt w p b L) (hc : w.cell? ⟨tb, 0, none⟩ = some (.func (.func 37) #[.pointer (some ⟨p, 0, none⟩)] #[])) (h1 : p ≠ g) (h2 : b ≠ g) (h3 : tb ≠ g) (n : Nat) :
    @CmpLays Ky kyInh Try.prog 33 #[.pointer (some ⟨tb, 0, none⟩)] encK 3 (tcmp L) g 0 n w := by
  intro m os dk _ x y
  have hg := grown_sorted (w := w) (g := g) (n := m) (os := os) dk
  have hW := h.kept hg (by intro e; injection e with e; exact h1 e) (by intro e; injection e with e; exact h2 e)
  have hB := hg.cell hc (by intro e; injection e with e; exact h3 e)
  exact (clos_any hW tb hB x y).mono fun e w' ⟨he, hgr⟩ => ⟨he, hgr.grow⟩
theorem sort_any {p b tb base : Nat} {L : List Fd} {w : World} {v : Value} {ss : List Ky} (h : WhAt w p b L) (hc : w.cell? ⟨tb, 0, none⟩ = some (.func (.func 37) #[.pointer (some ⟨p, 0, none⟩)] #[])) (ho : OwnK w base v ss) (h1 : v.ownBlock ≠ some p) (h2 : v.ownBlock ≠ some b) (h3 : v.ownBlock ≠ some tb) (hl : ss.length ≤ 60000) :
    Calls Try.prog 32 #[v, .func (.func 33) #[] #[.pointer (some ⟨tb, 0, none⟩)]] w fun e w' => e = .returned (.tuple #[]) ∧ KeysAt w' v (sortT L ss) ∧ w.grownBy w' v.ownBlock := by
  by_cases hz : ss.length = 0
  · have hs : ss = [] := List.length_eq_zero_iff.1 hz
    subst hs
    obtain ⟨ad, c, rfl⟩ := slice_of_owns ho
    have hcon := AnyF.slices_SortFunc_none Try.laysF0 ad c (.func (.func 33) #[] #[.pointer (some ⟨tb, 0, none⟩)]) w
    refine Calls.mono hcon ?_
    rintro e w' ⟨rfl, rfl⟩
    exact ⟨rfl, ⟨⟨ad, c, by simp [sortT]⟩, fun j hj => by simp [sortT] at hj⟩, World.grownBy.refl _ _⟩
  · obtain ⟨g, cap, rfl⟩ : ∃ g cap, v = .slice (some ⟨g, 0, none⟩) ss.length cap := by
      obtain ⟨_, ⟨_, h0⟩ | ⟨g, cap, cur, h, _⟩⟩ := id ho
      · exact absurd h0 hz
      · exact ⟨g, cap, h⟩
    have hlt := (owns_lt ho g rfl).2
    have hH := hold_own ho
    have hne : ∀ q, Value.ownBlock (.slice (some ⟨g, 0, none⟩) ss.length cap) ≠ some q → q ≠ g := fun q h e => h (by rw [e]; rfl)
    have hcon := @AnyQ.slices_SortFunc_total Try.prog Try.laysF0_ren Ky kyInh Try.laysF0 3 Try.isAgg27 Try.sizeOf27 encK (fun _ => rfl) one_enc (tcmp L) (swoT L) 33 #[.pointer (some ⟨tb, 0, none⟩)] g 0 cap ss.toArray w eg33 (lays33 h hc (hne _ h1) (hne _ h2) (hne _ h3) _) hH hlt (by simp; omega) (totT L)
    rw [List.size_toArray] at hcon
    refine Calls.mono hcon ?_
    rintro e w' ⟨rfl, n, os, rfl⟩
    have hln : (sortT L ss).length = ss.length := by simp [sortT]
    have hg := grown_sorted (w := w) (g := g) (n := n) (os := os) (sortT L ss).toArray
    refine ⟨rfl, ⟨⟨_, cap, by rw [hln]⟩, fun j hj => ?_⟩, hg⟩
    have hk : @HoldsK Ky kyInh encK 3 (@sortWorldK Ky kyInh encK 3 w g 0 n (sortT L ss).toArray os) g 0 (sortT L ss).toArray := by
      unfold sortWorldK
      refine @holdsK_grow Ky kyInh encK 3 _ os g 0 _ ?_ ?_
      · simpa [putRowK, putRow, mapBlock, Sort.ahead] using hlt
      · exact @holdsK_putRowK Ky kyInh encK 3 (Sort.ahead w n) g 0 ss.toArray (sortT L ss).toArray (@holdsK_ahead Ky kyInh encK 3 w n g 0 _ hH) (by simp [hln])
    have hj' : j < (sortT L ss).toArray.size := by simpa using hj
    have c0 := (@HoldsK.cell Ky kyInh encK 3 _ g 0 _ hk j 0 hj' (by omega)).1
    have c1 := (@HoldsK.cell Ky kyInh encK 3 _ g 0 _ hk j 1 hj' (by omega)).1
    have c2 := (@HoldsK.cell Ky kyInh encK 3 _ g 0 _ hk j 2 hj' (by omega)).1
    rw [@getElem!_pos (Array Ky) Nat Ky _ _ _ kyInh (sortT L ss).toArray j hj'] at c0 c1 c2
    simp only [Nat.zero_add, Nat.add_zero, List.getElem_toArray] at c0 c1 c2
    exact ⟨g, cap, by rw [hln], c0, c1, c2⟩
end Go.Proofs.Ytgplhdhnailpfaa
