/-
  What only reads: Index, Contains, Equal of rows of ASs, and the reference's SameAS.
-/
import Derived.Test.YtbdfigfjoiefiaaDoorS1
namespace Go.Proofs.YtbdfigfjoiefiaaDoor
open Go.RowKit
theorem ret_bool {a b : Bool} (h : a = b) : Ending.returned (.bool a) = .returned (.bool b) := by rw [h]
theorem ret_int {a b : Int} {k : IntKind} (h : a = b) : Ending.returned (.int k a) = .returned (.int k b) := by rw [h]
set_option maxRecDepth 100000 in
theorem idx_any (ad : Option Addr) (b off cap : Nat) (l : List Nat) (x : Nat) (w : World) (had : ad = some ⟨b, off, none⟩ ∨ l.length = 0) (hl : l.length ≤ 35184372088832) (hr : RowU w b off l) :
    Calls Tryd.prog 68 #[.slice ad l.length cap, .int .u32 (x : Int)] w fun e w' => (∃ i : Int, e = .returned (.int .i64 i) ∧ (0 ≤ i ↔ x ∈ l)) ∧ w' = w := by
  go_enter Tryd.func68, Tryd.ntmps68
  go_wp2
  go_loopw [8] (fun i wr => ∃ k : Nat, k ≤ l.length ∧ i = .int .i64 k ∧ wr = w ∧ ∀ j (h : j < l.length), j < k → l[j] ≠ x) (fun i _ => l.length - (intOf i).toNat)
  case atStart => exact ⟨0, Nat.zero_le _, rfl, rfl, fun j h hj => absurd hj (by omega)⟩
  case round =>
    obtain ⟨k, hk, rfl, rfl, hn⟩ := hrel
    have HN : Hid (_ : Prop) := hn
    clear hn
    by_cases hlt : k < l.length
    · obtain rfl : ad = some ⟨b, off, none⟩ := by rcases had with h | h; exact h; omega
      have hc := (hr k hlt).1
      have HR : Hid (RowU _ _ _ _) := hr
      clear hr had
      by_cases he : x = l[k]
      · have hm : x ∈ l := by rw [he]; exact List.getElem_mem hlt
        have HM : Hid (x ∈ l) := hm
        clear hm
        rw [← he] at hc
        go_wp2
        go_ret
        exact ⟨⟨k, rfl, by simp [HM.out]⟩, rfl⟩
      · have hne : ¬ ((x : Int) = (l[k] : Int)) := by omega
        generalize hv : l[k] = v at *
        go_wp2
        go_roundw
        case rel =>
          refine ⟨k + 1, by omega, by go_num, trivial, fun j h hj => ?_⟩
          by_cases e : j = k
          · subst e; rw [hv]; exact fun h => he h.symm
          · exact HN.out j h (by omega)
        case measure => simp [intOf]; omega
    · obtain rfl : k = l.length := by omega
      go_wp2
      go_ret
      refine ⟨⟨-1, rfl, ?_⟩, rfl⟩
      constructor
      · intro h; omega
      · intro h
        obtain ⟨j, hj, e⟩ := List.getElem_of_mem h
        exact absurd e (HN.out j hj hj)
theorem contains_any (v : Value) (l : List Nat) (x : Nat) (w : World) (h : ASAt w v l) :
    Calls Tryd.prog 44 #[v, .int .u32 (x : Int)] w fun e w' => e = .returned (.bool (decide (x ∈ l))) ∧ w' = w := by
  obtain ⟨ad, b, off, cap, rfl, had, ⟨_, hl⟩, hr⟩ := h
  have HR : Hid (RowU _ _ _ _) := hr
  clear hr
  go_enter Tryd.func44, Tryd.ntmps44
  go_wp2_with fail
  refine (idx_any ad b off cap l x w had hl HR.out).mono ?_
  rintro e w' ⟨⟨i, rfl, hi⟩, rfl⟩
  have HI : Hid (_ : Prop) := hi
  clear hi
  go_wp2
  go_ret
  exact ⟨ret_bool (by simp only [HI.out]), rfl⟩
theorem eq_take_succ {α : Type} {l m : List α} {k : Nat} (h : l.take k = m.take k) (h1 : k < l.length) (h2 : k < m.length) (e : l[k] = m[k]) : l.take (k + 1) = m.take (k + 1) := by
  rw [take_snoc _ _ h1, take_snoc _ _ h2, h, e]
theorem ne_of_at {α : Type} {l m : List α} {k : Nat} (h1 : k < l.length) (h2 : k < m.length) (e : l[k] ≠ m[k]) : l ≠ m := by
  intro h; subst h; exact e rfl
theorem eq_of_take {α : Type} {l m : List α} (h : l.take l.length = m.take l.length) (hn : l.length = m.length) : l = m := by
  rw [List.take_length] at h; rw [hn, List.take_length] at h; exact h
set_option maxRecDepth 100000 in
theorem eqAS_any (va vb : Value) (l m : List Nat) (w : World) (ha : ASAt w va l) (hb : ASAt w vb m) :
    Calls Tryd.prog 66 #[va, vb] w fun e w' => e = .returned (.bool (decide (l = m))) ∧ Below w.heap.size w w' := by
  obtain ⟨ad, b, off, cap, rfl, had, ⟨_, hl⟩, hr⟩ := ha
  obtain ⟨ad', b', off', cap', rfl, had', ⟨_, hl'⟩, hr'⟩ := hb
  by_cases hne : l.length = m.length
  · have HR : Hid (RowU _ _ _ _) := hr
    have HR' : Hid (RowU _ _ _ _) := hr'
    clear hr hr'
    go_enter Tryd.func66, Tryd.ntmps66
    go_wp2
    go_loopw [13] (fun i wr => ∃ k : Nat, k ≤ l.length ∧ i = .int .i64 k ∧ Below w.heap.size w wr ∧ l.take k = m.take k) (fun i _ => l.length - (intOf i).toNat)
    case atStart => exact ⟨0, Nat.zero_le _, rfl, Below.refl _ _, by simp⟩
    case round =>
      obtain ⟨k, hk, rfl, hb, hn⟩ := hrel
      have HN : Hid (_ : Prop) := hn
      clear hn
      by_cases hlt : k < l.length
      · obtain rfl : ad = some ⟨b, off, none⟩ := by rcases had with h | h; exact h; omega
        obtain rfl : ad' = some ⟨b', off', none⟩ := by rcases had' with h | h; exact h; omega
        have hlt' : k < m.length := by omega
        have c1 := ((HR.out.below hb) k hlt).1
        have c2 := ((HR'.out.below hb) k hlt').1
        clear had had'
        by_cases he : l[k] = m[k]
        · have HE : Hid (_ = _) := eq_take_succ HN.out hlt hlt' he
          rw [← he] at c2
          clear he
          generalize l[k] = x at *
          go_wp2
          go_region
          go_wp2
          go_roundw
          case rel => exact ⟨k + 1, by omega, by go_num, hb.drew, HE.out⟩
          case measure => simp [intOf]; omega
        · have HE : Hid (_ ≠ _) := ne_of_at hlt hlt' he
          have hne' : ¬ ((l[k] : Int) = (m[k] : Int)) := by omega
          clear he
          generalize l[k] = x at *
          generalize m[k] = y at *
          go_wp2
          go_region
          go_wp2
          go_ret
          exact ⟨ret_bool (by simp [HE.out]), hb.drew⟩
      · obtain rfl : k = l.length := by omega
        have HE : Hid (_ = _) := eq_of_take HN.out hne
        go_wp2
        go_ret
        exact ⟨ret_bool (by simp [HE.out]), hb⟩
  · have hne2 : ¬ ((l.length : Int) = (m.length : Int)) := by omega
    have HE : Hid (¬ l = m) := fun h => hne (by rw [h])
    go_enter Tryd.func66, Tryd.ntmps66
    go_wp2
    go_ret
    exact ⟨ret_bool (by simp [HE.out]), Below.refl _ _⟩
set_option maxRecDepth 100000 in
theorem sameAS_any (va vb : Value) (l m : List Nat) (w : World) (ha : ASAt w va l) (hb : ASAt w vb m) :
    Calls Tryd.prog 23 #[va, vb] w fun e w' => e = .returned (.bool (decide (l = m))) ∧ Below w.heap.size w w' := by
  obtain ⟨ad, b, off, cap, rfl, had, ⟨_, hl⟩, hr⟩ := ha
  obtain ⟨ad', b', off', cap', rfl, had', ⟨_, hl'⟩, hr'⟩ := hb
  by_cases hne : l.length = m.length
  · have HR : Hid (RowU _ _ _ _) := hr
    have HR' : Hid (RowU _ _ _ _) := hr'
    clear hr hr'
    go_enter Tryd.func23, Tryd.ntmps23
    go_wp2
    go_loopw [5] (fun i wr => ∃ k : Nat, k ≤ l.length ∧ i = .int .i64 k ∧ Below w.heap.size w wr ∧ l.take k = m.take k) (fun i _ => l.length - (intOf i).toNat)
    case atStart => exact ⟨0, Nat.zero_le _, rfl, Below.refl _ _, by simp⟩
    case round =>
      obtain ⟨k, hk, rfl, hb, hn⟩ := hrel
      have HN : Hid (_ : Prop) := hn
      clear hn
      by_cases hlt : k < l.length
      · obtain rfl : ad = some ⟨b, off, none⟩ := by rcases had with h | h; exact h; omega
        obtain rfl : ad' = some ⟨b', off', none⟩ := by rcases had' with h | h; exact h; omega
        have hlt' : k < m.length := by omega
        have c1 := ((HR.out.below hb) k hlt).1
        have c2 := ((HR'.out.below hb) k hlt').1
        clear had had'
        by_cases he : l[k] = m[k]
        · have HE : Hid (_ = _) := eq_take_succ HN.out hlt hlt' he
          rw [← he] at c2
          clear he
          generalize l[k] = x at *
          go_wp2
          go_region
          go_wp2
          go_roundw
          case rel => exact ⟨k + 1, by omega, by go_num, hb.drew, HE.out⟩
          case measure => simp [intOf]; omega
        · have HE : Hid (_ ≠ _) := ne_of_at hlt hlt' he
          have hne' : ¬ ((l[k] : Int) = (m[k] : Int)) := by omega
          clear he
          generalize l[k] = x at *
          generalize m[k] = y at *
          go_wp2
          go_region
          go_wp2
          go_ret
          exact ⟨ret_bool (by simp [HE.out]), hb.drew⟩
      · obtain rfl : k = l.length := by omega
        have HE : Hid (_ = _) := eq_of_take HN.out hne
        go_wp2
        go_ret
        exact ⟨ret_bool (by simp [HE.out]), hb⟩
  · have hne2 : ¬ ((l.length : Int) = (m.length : Int)) := by omega
    have HE : Hid (¬ l = m) := fun h => hne (by rw [h])
    go_enter Tryd.func23, Tryd.ntmps23
    go_wp2
    go_ret
    exact ⟨ret_bool (by simp [HE.out]), Below.refl _ _⟩
end Go.Proofs.YtbdfigfjoiefiaaDoor
