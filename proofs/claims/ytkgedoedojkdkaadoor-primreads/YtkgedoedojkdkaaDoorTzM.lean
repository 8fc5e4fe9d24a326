/-
  The program's Addr of every text.
-/
import Derived.Test.YtkgedoedojkdkaaDoorTy
import Derived.Test.YtkgedoedojkdkaaDoorB23
set_option linter.unusedVariables false
set_option linter.unusedSimpArgs false
set_option maxRecDepth 100000
namespace Go.Proofs.YtkgedoedojkdkaaDoor
theorem dg_are (d : Nat) (h : d < 16) : (48 ≤ (dg d).toNat ∧ (dg d).toNat ≤ 57) ∨ (97 ≤ (dg d).toNat ∧ (dg d).toNat ≤ 102) := by
  rcases (show d = 0 ∨ d = 1 ∨ d = 2 ∨ d = 3 ∨ d = 4 ∨ d = 5 ∨ d = 6 ∨ d = 7 ∨ d = 8 ∨ d = 9 ∨ d = 10 ∨ d = 11 ∨ d = 12 ∨ d = 13 ∨ d = 14 ∨ d = 15 by omega) with rfl | rfl | rfl | rfl | rfl | rfl | rfl | rfl | rfl | rfl | rfl | rfl | rfl | rfl | rfl | rfl <;> decide +kernel
theorem Digs.are {b : Nat} {D : Nat → List UInt8} (h : Digs b D) (hb : 2 ≤ b) (hb2 : b ≤ 16) (u : Nat) : ∀ c ∈ D u, (48 ≤ c.toNat ∧ c.toNat ≤ 57) ∨ (97 ≤ c.toNat ∧ c.toNat ≤ 102) := by
  induction u using Nat.strongRecOn with
  | _ u ih =>
    by_cases hl : u < b
    · rw [h.low u hl]
      intro c hc
      simp at hc; subst hc; exact dg_are u (by omega)
    · have hd : u / b < u := Nat.div_lt_self (by omega) (by omega)
      have hm : u % b < b := Nat.mod_lt _ (by omega)
      rw [h.high u hl]
      intro c hc
      rcases List.mem_append.1 hc with e | e
      · exact ih _ hd c e
      · simp at e; subst e; exact dg_are _ (by omega)
/-- A sign that is no digit's. -/
def Mark (c : UInt8) : Prop := c.toNat < 48 ∨ 57 < c.toNat ∧ c.toNat < 97
theorem Digs.free {b : Nat} {D : Nat → List UInt8} (h : Digs b D) (hb : 2 ≤ b) (hb2 : b ≤ 16) {c : UInt8} (hc : Mark c) (u : Nat) : c ∉ D u := fun hm => by
  have := h.are hb hb2 u c hm
  unfold Mark at hc
  omega
theorem Digs.inj {b : Nat} {D : Nat → List UInt8} (h : Digs b D) (hb : 2 ≤ b) (hb2 : b ≤ 16) {u v : Nat} (e : D u = D v) : u = v := by
  rw [← (h.val hb hb2 u).1, e, (h.val hb hb2 v).1]
theorem map_inj {D : Nat → List UInt8} (hD : ∀ u v, D u = D v → u = v) : ∀ ns ms : List Nat, ns.map D = ms.map D → ns = ms
  | [], [], _ => rfl
  | [], _ :: _, h => by simp at h
  | _ :: _, [], h => by simp at h
  | n :: ns, m :: ms, h => by
    simp only [List.map_cons, List.cons.injEq] at h
    rw [hD n m h.1, map_inj hD ns ms h.2]
theorem free_map {D : Nat → List UInt8} {c : UInt8} (hD : ∀ u, c ∉ D u) (ns : List Nat) : Free c (ns.map D) := by
  intro x hx
  obtain ⟨n, _, rfl⟩ := List.mem_map.1 hx
  exact hD n
/-- A list that is not empty, with its last apart. -/
theorem last_apart {α : Type} (l : List α) (h : l ≠ []) : ∃ A z, l = A ++ [z] := ⟨l.dropLast, l.getLast h, (List.dropLast_concat_getLast h).symm⟩
/-- Joined numbers are one number's list alone. -/
theorem joined_inj {b : Nat} {D : Nat → List UInt8} (h : Digs b D) (hb : 2 ≤ b) (hb2 : b ≤ 16) {c : UInt8} (hc : Mark c) (ns ms : List Nat) (h1 : ns ≠ []) (h2 : ms ≠ []) (e : Lib.join (ns.map D) [c] = Lib.join (ms.map D) [c]) : ns = ms := by
  obtain ⟨A, z, rfl⟩ := last_apart ns h1
  obtain ⟨B, y, rfl⟩ := last_apart ms h2
  have hD := fun u => h.free hb hb2 hc u
  simp only [List.map_append, List.map_cons, List.map_nil] at e
  rw [join_flat, join_flat] at e
  obtain ⟨e1, e2⟩ := flat_inj c _ _ _ _ (free_map hD A) (free_map hD B) (hD z) (hD y) e
  rw [map_inj (fun u v => h.inj hb hb2) _ _ e1, h.inj hb hb2 e2]
/-- What a text's pieces say of it. -/
structure StyP (D : Nat → List UInt8) (M cnt : Nat) (c : UInt8) (l : List UInt8) (o : Option (List Nat)) : Prop where
  sound : ∀ ns, o = some ns → ns.length = cnt ∧ (∀ n ∈ ns, n ≤ M) ∧ l = Lib.join (ns.map D) [c]
  full : ∀ ns : List Nat, ns.length = cnt → (∀ n ∈ ns, n ≤ M) → l = Lib.join (ns.map D) [c] → o = some ns
theorem all_of {f : List UInt8 → Option Nat} {D : Nat → List UInt8} {M : Nat} (hf : ∀ l, RdP D M (f l) l) {P : List ByteArray} {ns : List Nat} (h : AllRd f P ns P.length) : P.map (·.data.toList) = ns.map D ∧ ∀ n ∈ ns, n ≤ M := by
  obtain ⟨h1, h2, h3⟩ := h
  refine ⟨List.ext_getElem (by simp [h1]) fun i h4 h5 => ?_, fun n hn => ?_⟩
  · simp only [List.getElem_map]
    exact ((hf _).sound _ (h3 i (by simpa using h5) (by simpa using h4))).1
  · obtain ⟨i, hi, rfl⟩ := List.getElem_of_mem hn
    exact ((hf _).sound _ (h3 i hi (by omega))).2
theorem data_ne {s : ByteArray} {k : Nat} {c : UInt8} : (Lib.splitB ⟨#[c]⟩ 0 k s).map (·.data.toList) = Lib.splitK [c] 0 k s.data.toList := by
  rw [Lib.splitB_data]
theorem styl_of {f : List UInt8 → Option Nat} {b : Nat} {D : Nat → List UInt8} (hD : Digs b D) (hb : 2 ≤ b) (hb2 : b ≤ 16) {M : Nat} (hf : ∀ l, RdP D M (f l) l) {c : UInt8} (hc : Mark c) (cnt : Nat) (h1 : 1 ≤ cnt) (s : ByteArray) {en : List Nat → List UInt8} {e : Ending}
    (h : StA f en cnt (Lib.splitB ⟨#[c]⟩ 0 (min (cnt + 1) (s.size + 1) - 1) s) e) :
    ∃ o, StyP D M cnt c s.data.toList o ∧ e = (match o with | some ns => .returned (.tuple #[.string ⟨(en ns).toArray⟩, .bool true]) | none => .returned (.tuple #[.string ⟨#[]⟩, .bool false])) := by
  obtain ⟨A, z, e1, e2, e3, e4, e5⟩ := splitK_is c (min (cnt + 1) (s.size + 1) - 1) s.data.toList
  rw [← data_ne] at e1
  generalize hP : Lib.splitB ⟨#[c]⟩ 0 (min (cnt + 1) (s.size + 1) - 1) s = P at h e1
  have hfree := fun u => hD.free hb hb2 hc u
  -- the pieces, when the text is joined of numbers
  have back : ∀ ns : List Nat, ns.length = cnt → s.data.toList = Lib.join (ns.map D) [c] → P.map (·.data.toList) = ns.map D := by
    intro ns hl hj
    obtain ⟨B, y, rfl⟩ := last_apart ns (by intro h; rw [h] at hl; simp at hl; omega)
    simp only [List.map_append, List.map_cons, List.map_nil] at hj ⊢
    rw [join_flat] at hj
    have hlen : (B.map D).length ≤ s.size := by
      have hc1 := congrArg (List.count c) hj
      rw [count_flat c _ (free_map hfree B)] at hc1
      have hc2 : s.data.toList.count c ≤ s.data.toList.length := List.count_le_length
      have hc3 : s.data.toList.length = s.size := by simp
      omega
    simp only [List.length_append, List.length_singleton, List.length_map] at hl hlen
    rw [← hP, data_ne, hj]
    exact splitK_back c _ _ _ (free_map hfree B) (hfree y) (by simp only [List.length_map]; omega)
  rcases h with ⟨ns, hl, hA, he⟩ | ⟨hn, he⟩
  · refine ⟨some ns, ⟨fun ms h => ?_, fun ms hl2 hm hj => ?_⟩, he⟩
    · obtain rfl := Option.some.inj h
      rw [← hl] at hA
      obtain ⟨q1, q2⟩ := all_of hf hA
      refine ⟨by rw [hA.1, hl], q2, ?_⟩
      rw [← q1, e1, join_flat]; exact e2
    · rw [← hl] at hA
      have q1 := (all_of hf hA).1
      rw [back ms hl2 hj] at q1
      rw [map_inj (fun u v => hD.inj hb hb2) _ _ q1]
  · refine ⟨none, ⟨(fun ns h => by cases h), fun ms hl2 hm hj => ?_⟩, he⟩
    exfalso
    have hb := back ms hl2 hj
    have hlP : P.length = cnt := by
      have := congrArg List.length hb
      simp at this; omega
    rcases hn with hn | ⟨j, hj1, hj2⟩
    · exact hn hlP
    · have hjm : j < ms.length := by omega
      have : P[j].data.toList = D ms[j] := by
        have h3 : (P.map (·.data.toList))[j]'(by simpa using hj1) = (ms.map D)[j]'(by simpa using hjm) := by simp only [hb]
        simpa using h3
      rw [(hf _).full ms[j] (hm _ (List.getElem_mem hjm)) this] at hj2
      cases hj2
end Go.Proofs.YtkgedoedojkdkaaDoor
set_option linter.unusedVariables false
set_option linter.unusedSimpArgs false
set_option maxRecDepth 100000
namespace Go.Proofs.YtkgedoedojkdkaaDoor
theorem m46 : Mark 46 := by unfold Mark; decide
theorem m58 : Mark 58 := by unfold Mark; decide
theorem m32 : Mark 32 := by unfold Mark; decide
theorem m47 : Mark 47 := by unfold Mark; decide
theorem ofN (n : Nat) (h : n ≤ 255) : (UInt8.ofNat n).toNat = n := by rw [UInt8.toNat_ofNat', Nat.mod_eq_of_lt (by omega)]
theorem ofHi (n : Nat) (h : n ≤ 65535) : (UInt8.ofNat (n / 256)).toNat * 256 + (UInt8.ofNat (n % 256)).toNat = n := by
  rw [ofN _ (by omega), ofN _ (by omega)]; omega
theorem adT_4 (ns : List Nat) (hl : ns.length = 4) (hm : ∀ n ∈ ns, n ≤ 255) : adT ⟨(enc1 ns).toArray⟩ = Lib.join (ns.map Lib.decDigits) [46] := by
  match ns, hl with
  | [a, b, c, d], _ =>
    have ha := hm a (by simp)
    have hb := hm b (by simp)
    have hc := hm c (by simp)
    have hd := hm d (by simp)
    have hs : (⟨(enc1 [a, b, c, d]).toArray⟩ : ByteArray).size = 4 := by rfl
    unfold adT
    rw [if_pos hs]
    congr 1
    simp only [nums4, enc1, List.map_cons, List.map_nil, show List.range 4 = [0, 1, 2, 3] from rfl, List.getD_cons_zero, List.getD_cons_succ, ofN a ha, ofN b hb, ofN c hc, ofN d hd]
theorem adT_16 (ns : List Nat) (hl : ns.length = 8) (hm : ∀ n ∈ ns, n ≤ 65535) : adT ⟨(enc2 ns).toArray⟩ = Lib.join (ns.map hexD) [58] := by
  match ns, hl with
  | [a, b, c, d, e, f, g, h], _ =>
    have ha := hm a (by simp)
    have hb := hm b (by simp)
    have hc := hm c (by simp)
    have hd := hm d (by simp)
    have he := hm e (by simp)
    have hf := hm f (by simp)
    have hg := hm g (by simp)
    have hh := hm h (by simp)
    have hs : (⟨(enc2 [a, b, c, d, e, f, g, h]).toArray⟩ : ByteArray).size = 16 := by rfl
    unfold adT
    rw [if_neg (by rw [hs]; decide), if_pos hs]
    congr 1
    simp only [nums16, enc2, List.flatMap_cons, List.flatMap_nil, List.map_cons, List.map_nil, List.cons_append, List.nil_append, show List.range 8 = [0, 1, 2, 3, 4, 5, 6, 7] from rfl, Nat.mul_zero, Nat.mul_one, Nat.zero_add, Nat.reduceMul, Nat.reduceAdd, List.getD_cons_zero, List.getD_cons_succ, ofHi a ha, ofHi b hb, ofHi c hc, ofHi d hd, ofHi e he, ofHi f hf, ofHi g hg, ofHi h hh]
theorem of_four (b : ByteArray) (h : b.size = 4) : ∃ ns : List Nat, ns.length = 4 ∧ (∀ n ∈ ns, n ≤ 255) ∧ b = ⟨(enc1 ns).toArray⟩ := by
  have hl : b.data.toList.length = 4 := by simpa using h
  refine ⟨b.data.toList.map (·.toNat), by simpa using h, fun n hn => ?_, ?_⟩
  · obtain ⟨x, _, rfl⟩ := List.mem_map.1 hn
    have := x.toNat_lt; omega
  · apply ByteArray.ext
    apply Array.toList_inj.1
    have e : (UInt8.ofNat ∘ fun x : UInt8 => x.toNat) = id := by funext x; simp
    simp only [enc1, List.map_map, e, List.map_id]
theorem pair_hi (x y : UInt8) : UInt8.ofNat ((x.toNat * 256 + y.toNat) / 256) = x ∧ UInt8.ofNat ((x.toNat * 256 + y.toNat) % 256) = y := by
  have hx := x.toNat_lt
  have hy := y.toNat_lt
  refine ⟨?_, ?_⟩
  · rw [show (x.toNat * 256 + y.toNat) / 256 = x.toNat by omega]; simp
  · rw [show (x.toNat * 256 + y.toNat) % 256 = y.toNat by omega]; simp
theorem of_sixteen (b : ByteArray) (h : b.size = 16) : ∃ ns : List Nat, ns.length = 8 ∧ (∀ n ∈ ns, n ≤ 65535) ∧ b = ⟨(enc2 ns).toArray⟩ := by
  have hl : b.data.toList.length = 16 := by simpa using h
  obtain ⟨l, hb⟩ : ∃ l, b.data.toList = l := ⟨_, rfl⟩
  rw [hb] at hl
  have pr : ∀ x y : UInt8, x.toNat * 256 + y.toNat ≤ 65535 := fun x y => by have := x.toNat_lt; have := y.toNat_lt; omega
  match l, hl with
  | [x0, x1, x2, x3, x4, x5, x6, x7, x8, x9, x10, x11, x12, x13, x14, x15], _ =>
    refine ⟨[x0.toNat * 256 + x1.toNat, x2.toNat * 256 + x3.toNat, x4.toNat * 256 + x5.toNat, x6.toNat * 256 + x7.toNat, x8.toNat * 256 + x9.toNat, x10.toNat * 256 + x11.toNat, x12.toNat * 256 + x13.toNat, x14.toNat * 256 + x15.toNat], rfl, ?_, ?_⟩
    · intro n hn
      simp only [List.mem_cons, List.not_mem_nil, or_false] at hn
      rcases hn with rfl | rfl | rfl | rfl | rfl | rfl | rfl | rfl <;> exact pr _ _
    · apply ByteArray.ext
      apply Array.toList_inj.1
      rw [hb]
      simp only [enc2, List.flatMap_cons, List.flatMap_nil, (pair_hi _ _).1, (pair_hi _ _).2, List.cons_append, List.nil_append]
/-- o is the address whose text l is. -/
structure AdP (o : Option ByteArray) (l : List UInt8) : Prop where
  sound : ∀ b, o = some b → (b.size = 4 ∨ b.size = 16) ∧ l = adT b
  full : ∀ b, (b.size = 4 ∨ b.size = 16) → l = adT b → o = some b
def adO (o4 o16 : Option (List Nat)) : Option ByteArray := match o4 with
  | some ns => some ⟨(enc1 ns).toArray⟩
  | none => match o16 with
    | some ns => some ⟨(enc2 ns).toArray⟩
    | none => none
theorem no46 (ns : List Nat) : (46 : UInt8) ∉ Lib.join (ns.map hexD) [58] := by
  intro h
  by_cases hn : ns = []
  · subst hn; rw [List.map_nil, Lib.join_nil] at h; simp at h
  · obtain ⟨A, z, rfl⟩ := last_apart ns hn
    simp only [List.map_append, List.map_cons, List.map_nil] at h
    rw [join_flat] at h
    have hf := fun u => digs16.free (by omega) (by omega) m46 u
    rcases List.mem_append.1 h with e | e
    · unfold flat at e
      obtain ⟨x, hx, hm⟩ := List.mem_flatMap.1 e
      obtain ⟨n, _, rfl⟩ := List.mem_map.1 hx
      rcases List.mem_append.1 hm with q | q
      · exact hf n q
      · simp at q
    · exact hf z e
theorem has46 (ns : List Nat) (h : ns.length = 4) : (46 : UInt8) ∈ Lib.join (ns.map Lib.decDigits) [46] := by
  match ns, h with
  | [a, b, c, d], _ =>
    rw [show [a, b, c, d].map Lib.decDigits = [Lib.decDigits a, Lib.decDigits b, Lib.decDigits c] ++ [Lib.decDigits d] by simp, join_flat, flat_cons]
    simp
theorem enc1_size (ns : List Nat) : (⟨(enc1 ns).toArray⟩ : ByteArray).size = ns.length := by
  show (enc1 ns).toArray.size = _
  rw [List.size_toArray, enc1_len]
theorem enc2_size (ns : List Nat) : (⟨(enc2 ns).toArray⟩ : ByteArray).size = 2 * ns.length := by
  show (enc2 ns).toArray.size = _
  rw [List.size_toArray, enc2_len]
theorem ad_of {l : List UInt8} {o4 o16 : Option (List Nat)} (h4 : StyP Lib.decDigits 255 4 46 l o4) (h16 : StyP hexD 65535 8 58 l o16) : AdP (adO o4 o16) l := by
  refine ⟨fun b h => ?_, fun b hs h => ?_⟩
  · cases o4 with
    | some ns =>
      obtain ⟨q1, q2, q3⟩ := h4.sound ns rfl
      obtain rfl := Option.some.inj h
      exact ⟨Or.inl (by rw [enc1_size]; exact q1), by rw [q3, adT_4 ns q1 q2]⟩
    | none =>
      cases o16 with
      | some ns =>
        obtain ⟨q1, q2, q3⟩ := h16.sound ns rfl
        obtain rfl := Option.some.inj h
        exact ⟨Or.inr (by rw [enc2_size]; omega), by rw [q3, adT_16 ns q1 q2]⟩
      | none => cases h
  · rcases hs with hs | hs
    · obtain ⟨ms, p1, p2, rfl⟩ := of_four b hs
      rw [adT_4 ms p1 p2] at h
      rw [h4.full ms p1 p2 h]; rfl
    · obtain ⟨ms, p1, p2, rfl⟩ := of_sixteen b hs
      rw [adT_16 ms p1 p2] at h
      have e4 : o4 = none := by
        cases o4 with
        | none => rfl
        | some ns =>
          obtain ⟨q1, q2, q3⟩ := h4.sound ns rfl
          have := has46 ns q1
          rw [← q3, h] at this
          exact absurd this (no46 ms)
      rw [e4, h16.full ms p1 p2 h]; rfl
theorem AdP.one {o o' : Option ByteArray} {l : List UInt8} (h : AdP o l) (h' : AdP o' l) : o = o' := by
  cases o with
  | some b => exact ((h'.full b (h.sound b rfl).1 (h.sound b rfl).2)).symm
  | none =>
    cases o' with
    | none => rfl
    | some b => exact h.full b (h'.sound b rfl).1 (h'.sound b rfl).2
end Go.Proofs.YtkgedoedojkdkaaDoor
set_option linter.unusedVariables false
set_option linter.unusedSimpArgs false
set_option maxRecDepth 100000
namespace Go.Proofs.YtkgedoedojkdkaaDoor
open Go.RowKit
theorem sty_ex {b : Nat} {D : Nat → List UInt8} (hD : Digs b D) (hb : 2 ≤ b) (hb2 : b ≤ 16) (M cnt : Nat) (h1 : 1 ≤ cnt) {c : UInt8} (hc : Mark c) (l : List UInt8) : ∃ o, StyP D M cnt c l o := by
  by_cases h : ∃ ns : List Nat, ns.length = cnt ∧ (∀ n ∈ ns, n ≤ M) ∧ l = Lib.join (ns.map D) [c]
  · obtain ⟨ns, q1, q2, q3⟩ := h
    refine ⟨some ns, fun ms e => ?_, fun ms p1 p2 p3 => ?_⟩
    · obtain rfl := Option.some.inj e
      exact ⟨q1, q2, q3⟩
    · rw [joined_inj hD hb hb2 hc ns ms (by intro e; rw [e] at q1; simp at q1; omega) (by intro e; rw [e] at p1; simp at p1; omega) (by rw [← q3, p3])]
  · exact ⟨none, (fun ms e => by cases e), fun ms p1 p2 p3 => absurd ⟨ms, p1, p2, p3⟩ h⟩
def adV (o : Option ByteArray) : Value := match o with
  | some b => .tuple #[.string b, .int .i64 0]
  | none => .tuple #[.string ⟨#[]⟩, .int .i64 4]
theorem read4_any (s : ByteArray) (hs : s.size < 140737488351233) (w : World) (hE : EnvE w) :
    Calls Tryd.prog 51 #[.agg #[.string ⟨#[46]⟩, .int .i64 4, .int .i64 1, .int .i64 10], .string s] w fun e w' => (∃ o, StyP Lib.decDigits 255 4 46 s.data.toList o ∧ e = (match o with | some ns => .returned (.tuple #[.string ⟨(enc1 ns).toArray⟩, .bool true]) | none => .returned (.tuple #[.string ⟨#[]⟩, .bool false]))) ∧ Below w.heap.size w w' :=
  (read4 s hs w hE).mono fun e w' ⟨h, hb⟩ => ⟨styl_of digs10 (by omega) (by omega) (fun l => rd8 l) m46 4 (by omega) s h, hb⟩
theorem read16_any (s : ByteArray) (hs : s.size < 140737488351233) (w : World) (hE : EnvE w) :
    Calls Tryd.prog 51 #[.agg #[.string ⟨#[58]⟩, .int .i64 8, .int .i64 2, .int .i64 16], .string s] w fun e w' => (∃ o, StyP hexD 65535 8 58 s.data.toList o ∧ e = (match o with | some ns => .returned (.tuple #[.string ⟨(enc2 ns).toArray⟩, .bool true]) | none => .returned (.tuple #[.string ⟨#[]⟩, .bool false]))) ∧ Below w.heap.size w w' :=
  (read16 s hs w hE).mono fun e w' ⟨h, hb⟩ => ⟨styl_of digs16 (by omega) (by omega) (fun l => rd16 l) m58 8 (by omega) s h, hb⟩
set_option maxHeartbeats 2000000 in
theorem addr_any (s : ByteArray) (hs : s.size < 140737488351233) (w : World) (hE : EnvE w) :
    Calls Tryd.prog 26 #[.string s] w fun e w' => (∃ o, AdP o s.data.toList ∧ e = .returned (adV o)) ∧ Below w.heap.size w w' := by
  obtain ⟨t, fr, h0⟩ := hE.t.t.sty
  have H0 : Hid (w.heap[1]? = some (.cells stCells t fr)) := h0
  have HE : Hid (EnvE w) := hE
  have H4 : Hid (∀ W, EnvE W → _) := fun W h => read4_any s hs W h
  have H16 : Hid (∀ W, EnvE W → _) := fun W h => read16_any s hs W h
  have HA : Hid (∀ A, Below w.heap.size w (w.alloc (.cells A 72))) := fun A => (Below.refl _ _).alloc (Nat.le_refl _) _
  have hsx := sx0
  have hsy := sx1
  clear hE h0 hs
  go_enter Tryd.func26, Tryd.ntmps26
  go_wp2_with (refine wpList_load_row rfl 73 _ rfl 1 rfl t _ fr _ H0.out Tryd.underlying73 rfl info73 ?_)
  refine wp_loop_rounds 3 ?_
  rw [rounds_succ]
  go_wp2_with fail
  refine Calls.mono (H4.out _ (HE.out.below (HA.out _))) ?_
  rintro e w1 ⟨⟨o4, hp4, he⟩, hb1⟩
  have HB1 : Hid (Below w.heap.size w w1) := (HA.out _).trans (hb1.mono (HA.out _).size)
  have HP4 : Hid (StyP _ _ _ _ _ _) := hp4
  clear hb1 hp4 HA
  cases o4 with
  | some ns =>
    obtain rfl : e = .returned (.tuple #[.string ⟨(enc1 ns).toArray⟩, .bool true]) := he
    go_wp2
    go_ret2
    obtain ⟨o16, h16⟩ := sty_ex digs16 (by omega) (by omega) 65535 8 (by omega) m58 s.data.toList
    exact ⟨⟨some ⟨(enc1 ns).toArray⟩, ad_of HP4.out h16, rfl⟩, HB1.out⟩
  | none =>
    obtain rfl : e = .returned (.tuple #[.string ⟨#[]⟩, .bool false]) := he
    have HE1 : Hid (EnvE w1) := HE.out.below HB1.out
    have HA1 : Hid (∀ A, Below w1.heap.size w1 (w1.alloc (.cells A 72))) := fun A => (Below.refl _ _).alloc (Nat.le_refl _) _
    clear HE
    go_wp2_with fail
    rw [rounds_succ]
    go_wp2_with fail
    refine Calls.mono (H16.out _ (HE1.out.below (HA1.out _))) ?_
    rintro e w2 ⟨⟨o16, hp16, he⟩, hb2⟩
    have HB2 : Hid (Below w.heap.size w w2) := HB1.out.trans (((HA1.out _).trans (hb2.mono (HA1.out _).size)).mono HB1.out.size)
    have HP : Hid (AdP _ _) := ad_of HP4.out hp16
    clear hb2 hp16 HA1 HB1
    cases o16 with
    | some ns =>
      obtain rfl : e = .returned (.tuple #[.string ⟨(enc2 ns).toArray⟩, .bool true]) := he
      go_wp2
      go_ret2
      exact ⟨⟨some ⟨(enc2 ns).toArray⟩, HP.out, rfl⟩, HB2.out⟩
    | none =>
      obtain rfl : e = .returned (.tuple #[.string ⟨#[]⟩, .bool false]) := he
      go_wp2_with fail
      rw [rounds_succ]
      go_wp2
      go_ret2
      exact ⟨⟨none, HP.out, rfl⟩, HB2.out⟩
end Go.Proofs.YtkgedoedojkdkaaDoor
