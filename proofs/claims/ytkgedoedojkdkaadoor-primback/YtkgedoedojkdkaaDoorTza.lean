/-
  An address and its text.
-/
import Derived.Test.YtkgedoedojkdkaaDoorTz
set_option linter.unusedVariables false
set_option linter.unusedSimpArgs false
set_option maxRecDepth 100000
namespace Go.Proofs.YtkgedoedojkdkaaDoor
theorem m46 : Mark 46 := by unfold Mark; decide
theorem m58 : Mark 58 := by unfold Mark; decide
theorem m32 : Mark 32 := by unfold Mark; decide
theorem m47 : Mark 47 := by unfold Mark; decide
theorem ofN (n : Nat) (h : n ≤ 255) : (UInt8.ofNat n).toNat = n := by rw [UInt8.toNat_ofNat', Nat.mod_eq_of_lt (by omega)]
theorem ofHi (n : Nat) (h : n ≤ 65535) : (UInt8.ofNat (n / 256)).toNat * 256 + (UInt8.ofNat (n % 256)).toNat = n := by
  rw [ofN _ (by omega), ofN _ (by omega)]; omega
theorem adT_4 (ns : List Nat) (hl : ns.length = 4) (hm : ∀ n ∈ ns, n ≤ 255) : adT ⟨(enc1 ns).toArray⟩ = Lib.join (ns.map Lib.decDigits) [46] := by
  match ns, hl with
  | [a, b, c, d], _ =>
    have ha := hm a (by simp)
    have hb := hm b (by simp)
    have hc := hm c (by simp)
    have hd := hm d (by simp)
    have hs : (⟨(enc1 [a, b, c, d]).toArray⟩ : ByteArray).size = 4 := by rfl
    unfold adT
    rw [if_pos hs]
    congr 1
    simp only [nums4, enc1, List.map_cons, List.map_nil, show List.range 4 = [0, 1, 2, 3] from rfl, List.getD_cons_zero, List.getD_cons_succ, ofN a ha, ofN b hb, ofN c hc, ofN d hd]
theorem adT_16 (ns : List Nat) (hl : ns.length = 8) (hm : ∀ n ∈ ns, n ≤ 65535) : adT ⟨(enc2 ns).toArray⟩ = Lib.join (ns.map hexD) [58] := by
  match ns, hl with
  | [a, b, c, d, e, f, g, h], _ =>
    have ha := hm a (by simp)
    have hb := hm b (by simp)
    have hc := hm c (by simp)
    have hd := hm d (by simp)
    have he := hm e (by simp)
    have hf := hm f (by simp)
    have hg := hm g (by simp)
    have hh := hm h (by simp)
    have hs : (⟨(enc2 [a, b, c, d, e, f, g, h]).toArray⟩ : ByteArray).size = 16 := by rfl
    unfold adT
    rw [if_neg (by rw [hs]; decide), if_pos hs]
    congr 1
    simp only [nums16, enc2, List.flatMap_cons, List.flatMap_nil, List.map_cons, List.map_nil, List.cons_append, List.nil_append, show List.range 8 = [0, 1, 2, 3, 4, 5, 6, 7] from rfl, Nat.mul_zero, Nat.mul_one, Nat.zero_add, Nat.reduceMul, Nat.reduceAdd, List.getD_cons_zero, List.getD_cons_succ, ofHi a ha, ofHi b hb, ofHi c hc, ofHi d hd, ofHi e he, ofHi f hf, ofHi g hg, ofHi h hh]
theorem of_four (b : ByteArray) (h : b.size = 4) : ∃ ns : List Nat, ns.length = 4 ∧ (∀ n ∈ ns, n ≤ 255) ∧ b = ⟨(enc1 ns).toArray⟩ := by
  have hl : b.data.toList.length = 4 := by simpa using h
  refine ⟨b.data.toList.map (·.toNat), by simpa using h, fun n hn => ?_, ?_⟩
  · obtain ⟨x, _, rfl⟩ := List.mem_map.1 hn
    have := x.toNat_lt; omega
  · apply ByteArray.ext
    apply Array.toList_inj.1
    have e : (UInt8.ofNat ∘ fun x : UInt8 => x.toNat) = id := by funext x; simp
    simp only [enc1, List.map_map, e, List.map_id]
theorem pair_hi (x y : UInt8) : UInt8.ofNat ((x.toNat * 256 + y.toNat) / 256) = x ∧ UInt8.ofNat ((x.toNat * 256 + y.toNat) % 256) = y := by
  have hx := x.toNat_lt
  have hy := y.toNat_lt
  refine ⟨?_, ?_⟩
  · rw [show (x.toNat * 256 + y.toNat) / 256 = x.toNat by omega]; simp
  · rw [show (x.toNat * 256 + y.toNat) % 256 = y.toNat by omega]; simp
theorem of_sixteen (b : ByteArray) (h : b.size = 16) : ∃ ns : List Nat, ns.length = 8 ∧ (∀ n ∈ ns, n ≤ 65535) ∧ b = ⟨(enc2 ns).toArray⟩ := by
  have hl : b.data.toList.length = 16 := by simpa using h
  obtain ⟨l, hb⟩ : ∃ l, b.data.toList = l := ⟨_, rfl⟩
  rw [hb] at hl
  have pr : ∀ x y : UInt8, x.toNat * 256 + y.toNat ≤ 65535 := fun x y => by have := x.toNat_lt; have := y.toNat_lt; omega
  match l, hl with
  | [x0, x1, x2, x3, x4, x5, x6, x7, x8, x9, x10, x11, x12, x13, x14, x15], _ =>
    refine ⟨[x0.toNat * 256 + x1.toNat, x2.toNat * 256 + x3.toNat, x4.toNat * 256 + x5.toNat, x6.toNat * 256 + x7.toNat, x8.toNat * 256 + x9.toNat, x10.toNat * 256 + x11.toNat, x12.toNat * 256 + x13.toNat, x14.toNat * 256 + x15.toNat], rfl, ?_, ?_⟩
    · intro n hn
      simp only [List.mem_cons, List.not_mem_nil, or_false] at hn
      rcases hn with rfl | rfl | rfl | rfl | rfl | rfl | rfl | rfl <;> exact pr _ _
    · apply ByteArray.ext
      apply Array.toList_inj.1
      rw [hb]
      simp only [enc2, List.flatMap_cons, List.flatMap_nil, (pair_hi _ _).1, (pair_hi _ _).2, List.cons_append, List.nil_append]
/-- o is the address whose text l is. -/
structure AdP (o : Option ByteArray) (l : List UInt8) : Prop where
  sound : ∀ b, o = some b → (b.size = 4 ∨ b.size = 16) ∧ l = adT b
  full : ∀ b, (b.size = 4 ∨ b.size = 16) → l = adT b → o = some b
def adO (o4 o16 : Option (List Nat)) : Option ByteArray := match o4 with
  | some ns => some ⟨(enc1 ns).toArray⟩
  | none => match o16 with
    | some ns => some ⟨(enc2 ns).toArray⟩
    | none => none
theorem no46 (ns : List Nat) : (46 : UInt8) ∉ Lib.join (ns.map hexD) [58] := by
  intro h
  by_cases hn : ns = []
  · subst hn; rw [List.map_nil, Lib.join_nil] at h; simp at h
  · obtain ⟨A, z, rfl⟩ := last_apart ns hn
    simp only [List.map_append, List.map_cons, List.map_nil] at h
    rw [join_flat] at h
    have hf := fun u => digs16.free (by omega) (by omega) m46 u
    rcases List.mem_append.1 h with e | e
    · unfold flat at e
      obtain ⟨x, hx, hm⟩ := List.mem_flatMap.1 e
      obtain ⟨n, _, rfl⟩ := List.mem_map.1 hx
      rcases List.mem_append.1 hm with q | q
      · exact hf n q
      · simp at q
    · exact hf z e
theorem has46 (ns : List Nat) (h : ns.length = 4) : (46 : UInt8) ∈ Lib.join (ns.map Lib.decDigits) [46] := by
  match ns, h with
  | [a, b, c, d], _ =>
    rw [show [a, b, c, d].map Lib.decDigits = [Lib.decDigits a, Lib.decDigits b, Lib.decDigits c] ++ [Lib.decDigits d] by simp, join_flat, flat_cons]
    simp
theorem enc1_size (ns : List Nat) : (⟨(enc1 ns).toArray⟩ : ByteArray).size = ns.length := by
  show (enc1 ns).toArray.size = _
  rw [List.size_toArray, enc1_len]
theorem enc2_size (ns : List Nat) : (⟨(enc2 ns).toArray⟩ : ByteArray).size = 2 * ns.length := by
  show (enc2 ns).toArray.size = _
  rw [List.size_toArray, enc2_len]
theorem ad_of {l : List UInt8} {o4 o16 : Option (List Nat)} (h4 : StyP Lib.decDigits 255 4 46 l o4) (h16 : StyP hexD 65535 8 58 l o16) : AdP (adO o4 o16) l := by
  refine ⟨fun b h => ?_, fun b hs h => ?_⟩
  · cases o4 with
    | some ns =>
      obtain ⟨q1, q2, q3⟩ := h4.sound ns rfl
      obtain rfl := Option.some.inj h
      exact ⟨Or.inl (by rw [enc1_size]; exact q1), by rw [q3, adT_4 ns q1 q2]⟩
    | none =>
      cases o16 with
      | some ns =>
        obtain ⟨q1, q2, q3⟩ := h16.sound ns rfl
        obtain rfl := Option.some.inj h
        exact ⟨Or.inr (by rw [enc2_size]; omega), by rw [q3, adT_16 ns q1 q2]⟩
      | none => cases h
  · rcases hs with hs | hs
    · obtain ⟨ms, p1, p2, rfl⟩ := of_four b hs
      rw [adT_4 ms p1 p2] at h
      rw [h4.full ms p1 p2 h]; rfl
    · obtain ⟨ms, p1, p2, rfl⟩ := of_sixteen b hs
      rw [adT_16 ms p1 p2] at h
      have e4 : o4 = none := by
        cases o4 with
        | none => rfl
        | some ns =>
          obtain ⟨q1, q2, q3⟩ := h4.sound ns rfl
          have := has46 ns q1
          rw [← q3, h] at this
          exact absurd this (no46 ms)
      rw [e4, h16.full ms p1 p2 h]; rfl
theorem AdP.one {o o' : Option ByteArray} {l : List UInt8} (h : AdP o l) (h' : AdP o' l) : o = o' := by
  cases o with
  | some b => exact ((h'.full b (h.sound b rfl).1 (h.sound b rfl).2)).symm
  | none =>
    cases o' with
    | none => rfl
    | some b => exact h.full b (h'.sound b rfl).1 (h'.sound b rfl).2
end Go.Proofs.YtkgedoedojkdkaaDoor
