/-
  WheelKnown: the keys that may not be, the thousand timers, what stands there in the end.
-/
import Derived.Test.YtgplhdhnailpfaaK1
import Derived.Test.YtgplhdhnailpfaaH1
set_option linter.unusedSimpArgs false
set_option maxRecDepth 100000
namespace Go.Proofs.Ytgplhdhnailpfaa
open Go.RowKit Go.Maps
/-- Keys that may not be. -/
def bads : List Ky := [⟨0, ⟨#[97]⟩, 0, by decide, by decide, by decide⟩, ⟨8, ⟨#[97]⟩, 0, by decide, by decide, by decide⟩, ⟨1, ⟨#[65]⟩, 0, by decide, by decide, by decide⟩, ⟨1, ⟨#[]⟩, 0, by decide, by decide, by decide⟩, ⟨1, ⟨#[97]⟩, 6, by decide, by decide, by decide⟩, ⟨1, ⟨#[97]⟩, -1, by decide, by decide, by decide⟩,
  ⟨1, ⟨#[97, 98, 99, 100, 101, 102, 103, 104, 105, 106, 107, 108, 109, 110, 111, 112, 113]⟩, 0, by decide, by decide, by decide⟩]
theorem bads_not : ∀ x ∈ bads, mayK x = false := by
  intro x hx
  simp only [bads, List.mem_cons, List.not_mem_nil, or_false] at hx
  rcases hx with rfl | rfl | rfl | rfl | rfl | rfl | rfl <;> decide
/-- The key of the first timer. -/
def k0 : Ky := ⟨1, ⟨#[97]⟩, 0, by decide, by decide, by decide⟩
def kz : Ky := ⟨2, ⟨#[122, 122]⟩, 0, by decide, by decide, by decide⟩
theorem k0_may : mayK k0 = true := by decide
theorem kz_may : mayK kz = true := by decide
/-- The name of the i-th one. -/
def nkS (i : Nat) : ByteArray := ⟨#[98, UInt8.ofNat (97 + i % 26), UInt8.ofNat (97 + i / 26 % 26), UInt8.ofNat (97 + i / 676)]⟩
def nk (i : Nat) : Ky := ⟨1 + i % 7, nkS i, i % 6, WalkArith.wf_i64 (by omega), (by show (4 : Nat) ≤ maxLen; unfold maxLen; omega), WalkArith.wf_i64 (by omega)⟩
theorem byte_inj {a b : Nat} (ha : a < 256) (hb : b < 256) (h : UInt8.ofNat a = UInt8.ofNat b) : a = b := by
  have := congrArg UInt8.toNat h
  rw [UInt8.toNat_ofNat', UInt8.toNat_ofNat'] at this
  omega
theorem nk_inj {i j : Nat} (hi : i < 1023) (hj : j < 1023) (h : nk i = nk j) : i = j := by
  have h1 : nkS i = nkS j := congrArg Ky.peer h
  unfold nkS at h1
  injection h1 with h1
  injection h1 with h1
  simp only [List.cons.injEq, and_true, true_and] at h1
  obtain ⟨e1, e2, e3⟩ := h1
  have := byte_inj (by omega) (by omega) e1
  have := byte_inj (by omega) (by omega) e2
  have := byte_inj (by omega) (by omega) e3
  omega
theorem nk_k0 (i : Nat) : nk i ≠ k0 := fun h => by
  have h1 : nkS i = ⟨#[97]⟩ := congrArg Ky.peer h
  have := congrArg ByteArray.size h1
  exact absurd this (show (4 : Nat) ≠ 1 by decide)
theorem nk_kz (i : Nat) : nk i ≠ kz := fun h => by
  have h1 : nkS i = ⟨#[122, 122]⟩ := congrArg Ky.peer h
  have := congrArg ByteArray.size h1
  exact absurd this (show (4 : Nat) ≠ 2 by decide)
theorem k0_kz : k0 ≠ kz := fun h => by have := congrArg Ky.kind h; exact absurd this (by decide)
theorem let26 : ∀ m, m < 26 → letB (UInt8.ofNat (97 + m)) = true := by decide
theorem nk_may {i : Nat} (hi : i < 1023) : mayK (nk i) = true := by
  have l1 := let26 (i % 26) (by omega)
  have l2 := let26 (i / 26 % 26) (by omega)
  have l3 := let26 (i / 676) (by omega)
  have hn : nameB (nkS i) = true := by
    unfold nameB
    have hs : (nkS i).size = 4 := rfl
    have hl : (nkS i).data.toList = [98, UInt8.ofNat (97 + i % 26), UInt8.ofNat (97 + i / 26 % 26), UInt8.ofNat (97 + i / 676)] := rfl
    rw [hs, hl]
    simp only [List.headD_cons, List.all_cons, List.all_nil, nameC, l1, l2, l3, Bool.true_or, Bool.and_self]
    decide
  unfold mayK
  rw [show (nk i).peer = nkS i from rfl, hn]
  have h1 : (1 : Int) ≤ (nk i).kind ∧ (nk i).kind ≤ 7 := by show (1 : Int) ≤ 1 + (i : Int) % 7 ∧ 1 + (i : Int) % 7 ≤ 7; omega
  have h2 : (0 : Int) ≤ (nk i).fam ∧ (nk i).fam ≤ 5 := by show (0 : Int) ≤ (i : Int) % 6 ∧ (i : Int) % 6 ≤ 5; omega
  simp [h1, h2]
/-- k timers have been armed behind the first one. -/
structure Kn (L : List Fd) (k : Nat) : Prop where
  len : L.length = k + 1
  first : (⟨1099511627776, k0⟩ : Fd) ∈ L
  all : ∀ x ∈ L, x = ⟨1099511627776, k0⟩ ∨ ∃ j, j < k ∧ x = ⟨7, nk j⟩
theorem Kn.absent {L : List Fd} {k : Nat} (h : Kn L k) (hk : k < 1023) : lookF L (nk k) = none := by
  refine look_absent (fun x hx e => ?_)
  rcases h.all x hx with rfl | ⟨j, hj, rfl⟩
  · exact nk_k0 k e.symm
  · have := nk_inj (by omega) hk e; omega
theorem Kn.next {L : List Fd} {k : Nat} (hw : Whl L) (h : Kn L k) (hk : k < 1023) : armE L (nk k) 7 = 0 ∧ Kn (armI L (nk k) 7) (k + 1) := by
  have h0 : armE L (nk k) 7 = 0 := armE_ok (nk_may hk) (by decide) (Or.inr (by rw [h.len]; omega))
  refine ⟨h0, ?_⟩
  rw [armI_ok h0]
  refine ⟨?_, ?_, fun x hx => ?_⟩
  · rw [len_armed hw.once, h.absent hk, h.len]; rfl
  · exact mem_armed.2 (Or.inr ⟨h.first, fun e => nk_k0 k e.symm⟩)
  · rcases mem_armed.1 hx with rfl | ⟨hx, _⟩
    · exact Or.inr ⟨k, by omega, rfl⟩
    · rcases h.all x hx with e | ⟨j, hj, e⟩
      · exact Or.inl e
      · exact Or.inr ⟨j, by omega, e⟩
theorem Kn.full {L : List Fd} (h : Kn L 1023) : armE L kz 7 = 7 ∧ armI L kz 7 = L := by
  have hz : lookF L kz = none := look_absent (fun x hx e => by
    rcases h.all x hx with rfl | ⟨j, _, rfl⟩
    · exact k0_kz e
    · exact nk_kz j e)
  have h0 : armE L kz 7 = 7 := armE_full kz_may (by decide) (by rw [hz]; rfl) (by rw [h.len]; omega)
  exact ⟨h0, armI_no (by rw [h0]; decide)⟩
theorem Kn.moved {L : List Fd} (hw : Whl L) (h : Kn L 1023) : armE L k0 3 = 0 ∧ armI L k0 3 = armed L k0 3 ∧ (armed L k0 3).length = 1024 ∧ nextT (armed L k0 3) = 3 ∧ (armed L k0 3).isEmpty = false ∧ dueF (armed L k0 3) 2 = [] ∧ leftF (armed L k0 3) 2 = armed L k0 3 ∧ (dueF (armed L k0 3) 3).length = 1 := by
  have hl : lookF L k0 = some 1099511627776 := hw.look h.first
  have h0 : armE L k0 3 = 0 := armE_ok k0_may (by decide) (Or.inl (by rw [hl]; rfl))
  have hw' := hw.armed k0 3 (by decide)
  have hm : ∀ x ∈ armed L k0 3, x = ⟨3, k0⟩ ∨ x.at' = 7 := fun x hx => by
    rcases mem_armed.1 hx with e | ⟨hx, hne⟩
    · exact Or.inl e
    · rcases h.all x hx with rfl | ⟨j, _, rfl⟩
      · exact absurd rfl hne
      · exact Or.inr rfl
  have h3 : (⟨3, k0⟩ : Fd) ∈ armed L k0 3 := mem_armed.2 (Or.inl rfl)
  have hge : ∀ x ∈ armed L k0 3, 3 ≤ x.at' := fun x hx => by
    rcases hm x hx with rfl | e
    · exact Nat.le_refl _
    · omega
  have hlen : (armed L k0 3).length = 1024 := by rw [len_armed hw.once, hl, h.len]; rfl
  have hd2 : dueF (armed L k0 3) 2 = [] := List.filter_eq_nil_iff.2 (fun x hx => by have := hge x hx; simp; omega)
  have hl2 : leftF (armed L k0 3) 2 = armed L k0 3 := List.filter_eq_self.2 (fun x hx => by have := hge x hx; simp; omega)
  have hd3 : dueF (armed L k0 3) 3 = [⟨3, k0⟩] := by
    refine order_unique (hw'.ord.filter _) (by simp [InOrder]) (fun x => ?_)
    unfold dueF
    rw [List.mem_filter, List.mem_singleton]
    constructor
    · rintro ⟨hx, ht⟩
      rcases hm x hx with e | e
      · exact e
      · have : x.at' ≤ 3 := by simpa using ht
        omega
    · rintro rfl; exact ⟨h3, by decide⟩
  refine ⟨h0, armI_ok h0, hlen, ?_, ?_, hd2, hl2, by rw [hd3]; rfl⟩
  · revert h3 hge
    cases e : armed L k0 3 with
    | nil => intro h3; cases h3
    | cons a r =>
      intro h3 hge
      show a.at' = 3
      have h1 := hge a (by simp)
      rcases List.mem_cons.1 h3 with e2 | h3
      · rw [← e2]
      · have := hw'.ord
        rw [e] at this
        obtain ⟨p1, _⟩ := List.pairwise_cons.1 this
        rcases p1 _ h3 with p2 | ⟨p2, _⟩
        · simp at p2; omega
        · simpa using p2
  · cases e : armed L k0 3 with
    | nil => rw [e] at h3; cases h3
    | cons a r => rfl
end Go.Proofs.Ytgplhdhnailpfaa
