/-
  Opens: their lists, plain and in memory.
-/
import Derived.Test.YtlhnfejgkhilkaaGreatDoorFB
namespace Go.Proofs.YtlhnfejgkhilkaaGreatDoor
open Go.RowKit
/-- What is told of a family's path ids. -/
structure Ad where
  f : Int
  s : Bool
  t : Bool
/-- What is told of a family's restart. -/
structure Kp where
  f : Int
  k : Bool
/-- An open. -/
structure Opn where
  asn : Int
  hold : Int
  id : Int
  fams : List Int
  four : Bool
  refr : Bool
  adds : List Ad
  gr : Bool
  again : Bool
  time : Int
  kept : List Kp
def opC (o : Opn) (vf va vk : Value) : Array Value := #[.int .u32 o.asn, .int .i64 o.hold, .int .u32 o.id, vf, .bool o.four, .bool o.refr, va, .bool o.gr, .bool o.again, .int .i64 o.time, vk]
abbrev opV (o : Opn) (vf va vk : Value) : Value := .agg (opC o vf va vk)
theorem below_cell {w w' : World} {b i : Nat} {v : Value} (hb : Below w.heap.size w w') (h : w.cell? ⟨b, i, none⟩ = some v) : w'.cell? ⟨b, i, none⟩ = some v :=
  (hb.cell (p := ⟨b, i, none⟩) (lt_of_cell h)).trans h
/-- Whole numbers that lie in memory. -/
def IntsAt (w : World) (v : Value) (L : List Int) : Prop :=
  ∃ (ad : Option Addr) (b off cap : Nat), v = .slice ad L.length cap ∧ (ad = some ⟨b, off, none⟩ ∨ L.length = 0) ∧ L.length ≤ cap ∧ ∀ j (h : j < L.length), w.cell? ⟨b, off + j, none⟩ = some (.int .i64 L[j])
theorem IntsAt.below {w w' : World} {v : Value} {L : List Int} (h : IntsAt w v L) (hb : Below w.heap.size w w') : IntsAt w' v L := by
  obtain ⟨ad, b, off, cap, h1, h2, h3, h4⟩ := h
  exact ⟨ad, b, off, cap, h1, h2, h3, fun j hj => below_cell hb (h4 j hj)⟩
def AddsAt (w : World) (v : Value) (L : List Ad) : Prop :=
  ∃ (ad : Option Addr) (b off cap : Nat), v = .slice ad L.length cap ∧ (ad = some ⟨b, off, none⟩ ∨ L.length = 0) ∧ L.length ≤ cap ∧ ∀ j (h : j < L.length), w.cell? ⟨b, off + j * 3, none⟩ = some (.int .i64 L[j].f) ∧ w.cell? ⟨b, off + j * 3 + 1, none⟩ = some (.bool L[j].s) ∧ w.cell? ⟨b, off + j * 3 + 2, none⟩ = some (.bool L[j].t)
theorem AddsAt.below {w w' : World} {v : Value} {L : List Ad} (h : AddsAt w v L) (hb : Below w.heap.size w w') : AddsAt w' v L := by
  obtain ⟨ad, b, off, cap, h1, h2, h3, h4⟩ := h
  exact ⟨ad, b, off, cap, h1, h2, h3, fun j hj => ⟨below_cell hb (h4 j hj).1, below_cell hb (h4 j hj).2.1, below_cell hb (h4 j hj).2.2⟩⟩
def KeptsAt (w : World) (v : Value) (L : List Kp) : Prop :=
  ∃ (ad : Option Addr) (b off cap : Nat), v = .slice ad L.length cap ∧ (ad = some ⟨b, off, none⟩ ∨ L.length = 0) ∧ L.length ≤ cap ∧ ∀ j (h : j < L.length), w.cell? ⟨b, off + j * 2, none⟩ = some (.int .i64 L[j].f) ∧ w.cell? ⟨b, off + j * 2 + 1, none⟩ = some (.bool L[j].k)
theorem KeptsAt.below {w w' : World} {v : Value} {L : List Kp} (h : KeptsAt w v L) (hb : Below w.heap.size w w') : KeptsAt w' v L := by
  obtain ⟨ad, b, off, cap, h1, h2, h3, h4⟩ := h
  exact ⟨ad, b, off, cap, h1, h2, h3, fun j hj => ⟨below_cell hb (h4 j hj).1, below_cell hb (h4 j hj).2⟩⟩
/-- The lists of an open, in memory. -/
structure ListsAt (w : World) (o : Opn) (vf va vk : Value) : Prop where
  f : IntsAt w vf o.fams
  a : AddsAt w va o.adds
  k : KeptsAt w vk o.kept
theorem ListsAt.below {w w' : World} {o : Opn} {vf va vk : Value} (h : ListsAt w o vf va vk) (hb : Below w.heap.size w w') : ListsAt w' o vf va vk :=
  ⟨h.f.below hb, h.a.below hb, h.k.below hb⟩
/-- Families, each above the one ahead of it. -/
def risF : Int → List Int → Bool
  | _, [] => true
  | l, f :: r => isF f && decide (l < f) && risF f r
theorem isF_bd {f : Int} (h : isF f = true) : 1 ≤ f ∧ f ≤ 5 := by
  unfold isF at h
  simpa using h
theorem risF_length (l : Int) (L : List Int) (h : risF l L = true) (h5 : l ≤ 5) : (L.length : Int) ≤ 5 - l := by
  induction L generalizing l with
  | nil => simp; omega
  | cons f r ih =>
    simp only [risF, Bool.and_eq_true, decide_eq_true_eq] at h
    have hb := isF_bd h.1.1
    have := ih f h.2 hb.2
    simp only [List.length_cons]
    omega
theorem risF_drop (l : Int) (L : List Int) (k : Nat) (h : k < L.length) : risF l (L.drop k) = (isF L[k] && decide (l < L[k]) && risF L[k] (L.drop (k + 1))) := by
  rw [List.drop_eq_getElem_cons h]
  rfl
def holdB (h : Int) : Bool := h == 0 || decide (3 ≤ h) && decide (h ≤ 65535)
theorem isHold_any (h : Int) (w : World) : Calls Tryz.prog 28 #[.int .i64 h] w fun e w' => e = .returned (.bool (holdB h)) ∧ w' = w := by
  unfold holdB
  by_cases h0 : h = 0
  · subst h0
    go_enter Tryz.func28, Tryz.ntmps28
    go_wp2
    go_ret
    exact ⟨rfl, rfl⟩
  · have h0' : (h == 0) = false := by simpa using h0
    by_cases h3 : 3 ≤ h
    · go_enter Tryz.func28, Tryz.ntmps28
      go_wp2
      go_ret
      exact ⟨ret_bool (by rw [h0', decide_eq_true h3]; simp), rfl⟩
    · have h3' : decide (3 ≤ h) = false := by simpa using h3
      go_enter Tryz.func28, Tryz.ntmps28
      go_wp2
      go_ret
      exact ⟨rfl, rfl⟩
theorem itself_any (f : Int) (w : World) : Calls Tryz.prog 30 #[.int .i64 f] w fun e w' => e = .returned (.int .i64 f) ∧ w' = w := by
  go_enter Tryz.func30, Tryz.ntmps30
  go_wp2
  go_ret
  exact ⟨rfl, rfl⟩
theorem addFam_any (f : Int) (s t : Bool) (w : World) : Calls Tryz.prog 32 #[.agg #[.int .i64 f, .bool s, .bool t]] w fun e w' => e = .returned (.int .i64 f) ∧ Below w.heap.size w w' := by
  go_enter Tryz.func32, Tryz.ntmps32
  go_wp2
  go_ret
  exact ⟨rfl, (Below.refl _ _).alloc (Nat.le_refl _) _⟩
theorem restartFam_any (f : Int) (k : Bool) (w : World) : Calls Tryz.prog 48 #[.agg #[.int .i64 f, .bool k]] w fun e w' => e = .returned (.int .i64 f) ∧ Below w.heap.size w w' := by
  go_enter Tryz.func48, Tryz.ntmps48
  go_wp2
  go_ret
  exact ⟨rfl, (Below.refl _ _).alloc (Nat.le_refl _) _⟩
theorem idle_any (f : Int) (s t : Bool) (w : World) : Calls Tryz.prog 34 #[.agg #[.int .i64 f, .bool s, .bool t]] w fun e w' => e = .returned (.bool (!s && !t)) ∧ Below w.heap.size w w' := by
  cases s <;> cases t <;>
  · go_enter Tryz.func34, Tryz.ntmps34
    go_wp2
    go_ret
    exact ⟨rfl, (Below.refl _ _).alloc (Nat.le_refl _) _⟩
end Go.Proofs.YtlhnfejgkhilkaaGreatDoor
