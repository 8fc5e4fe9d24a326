/-
  Addresses' texts: plain facts.
-/
import Derived.Test.YtkgedoedojkdkaaDoorTy
set_option linter.unusedVariables false
set_option linter.unusedSimpArgs false
set_option maxRecDepth 100000
namespace Go.Proofs.YtkgedoedojkdkaaDoor
theorem dg_are (d : Nat) (h : d < 16) : (48 ≤ (dg d).toNat ∧ (dg d).toNat ≤ 57) ∨ (97 ≤ (dg d).toNat ∧ (dg d).toNat ≤ 102) := by
  rcases (show d = 0 ∨ d = 1 ∨ d = 2 ∨ d = 3 ∨ d = 4 ∨ d = 5 ∨ d = 6 ∨ d = 7 ∨ d = 8 ∨ d = 9 ∨ d = 10 ∨ d = 11 ∨ d = 12 ∨ d = 13 ∨ d = 14 ∨ d = 15 by omega) with rfl | rfl | rfl | rfl | rfl | rfl | rfl | rfl | rfl | rfl | rfl | rfl | rfl | rfl | rfl | rfl <;> decide +kernel
theorem Digs.are {b : Nat} {D : Nat → List UInt8} (h : Digs b D) (hb : 2 ≤ b) (hb2 : b ≤ 16) (u : Nat) : ∀ c ∈ D u, (48 ≤ c.toNat ∧ c.toNat ≤ 57) ∨ (97 ≤ c.toNat ∧ c.toNat ≤ 102) := by
  induction u using Nat.strongRecOn with
  | _ u ih =>
    by_cases hl : u < b
    · rw [h.low u hl]
      intro c hc
      simp at hc; subst hc; exact dg_are u (by omega)
    · have hd : u / b < u := Nat.div_lt_self (by omega) (by omega)
      have hm : u % b < b := Nat.mod_lt _ (by omega)
      rw [h.high u hl]
      intro c hc
      rcases List.mem_append.1 hc with e | e
      · exact ih _ hd c e
      · simp at e; subst e; exact dg_are _ (by omega)
/-- A sign that is no digit's. -/
def Mark (c : UInt8) : Prop := c.toNat < 48 ∨ 57 < c.toNat ∧ c.toNat < 97
theorem Digs.free {b : Nat} {D : Nat → List UInt8} (h : Digs b D) (hb : 2 ≤ b) (hb2 : b ≤ 16) {c : UInt8} (hc : Mark c) (u : Nat) : c ∉ D u := fun hm => by
  have := h.are hb hb2 u c hm
  unfold Mark at hc
  omega
theorem Digs.inj {b : Nat} {D : Nat → List UInt8} (h : Digs b D) (hb : 2 ≤ b) (hb2 : b ≤ 16) {u v : Nat} (e : D u = D v) : u = v := by
  rw [← (h.val hb hb2 u).1, e, (h.val hb hb2 v).1]
theorem map_inj {D : Nat → List UInt8} (hD : ∀ u v, D u = D v → u = v) : ∀ ns ms : List Nat, ns.map D = ms.map D → ns = ms
  | [], [], _ => rfl
  | [], _ :: _, h => by simp at h
  | _ :: _, [], h => by simp at h
  | n :: ns, m :: ms, h => by
    simp only [List.map_cons, List.cons.injEq] at h
    rw [hD n m h.1, map_inj hD ns ms h.2]
theorem free_map {D : Nat → List UInt8} {c : UInt8} (hD : ∀ u, c ∉ D u) (ns : List Nat) : Free c (ns.map D) := by
  intro x hx
  obtain ⟨n, _, rfl⟩ := List.mem_map.1 hx
  exact hD n
/-- A list that is not empty, with its last apart. -/
theorem last_apart {α : Type} (l : List α) (h : l ≠ []) : ∃ A z, l = A ++ [z] := ⟨l.dropLast, l.getLast h, (List.dropLast_concat_getLast h).symm⟩
/-- Joined numbers are one number's list alone. -/
theorem joined_inj {b : Nat} {D : Nat → List UInt8} (h : Digs b D) (hb : 2 ≤ b) (hb2 : b ≤ 16) {c : UInt8} (hc : Mark c) (ns ms : List Nat) (h1 : ns ≠ []) (h2 : ms ≠ []) (e : Lib.join (ns.map D) [c] = Lib.join (ms.map D) [c]) : ns = ms := by
  obtain ⟨A, z, rfl⟩ := last_apart ns h1
  obtain ⟨B, y, rfl⟩ := last_apart ms h2
  have hD := fun u => h.free hb hb2 hc u
  simp only [List.map_append, List.map_cons, List.map_nil] at e
  rw [join_flat, join_flat] at e
  obtain ⟨e1, e2⟩ := flat_inj c _ _ _ _ (free_map hD A) (free_map hD B) (hD z) (hD y) e
  rw [map_inj (fun u v => h.inj hb hb2) _ _ e1, h.inj hb hb2 e2]
/-- What a text's pieces say of it. -/
structure StyP (D : Nat → List UInt8) (M cnt : Nat) (c : UInt8) (l : List UInt8) (o : Option (List Nat)) : Prop where
  sound : ∀ ns, o = some ns → ns.length = cnt ∧ (∀ n ∈ ns, n ≤ M) ∧ l = Lib.join (ns.map D) [c]
  full : ∀ ns : List Nat, ns.length = cnt → (∀ n ∈ ns, n ≤ M) → l = Lib.join (ns.map D) [c] → o = some ns
theorem all_of {f : List UInt8 → Option Nat} {D : Nat → List UInt8} {M : Nat} (hf : ∀ l, RdP D M (f l) l) {P : List ByteArray} {ns : List Nat} (h : AllRd f P ns P.length) : P.map (·.data.toList) = ns.map D ∧ ∀ n ∈ ns, n ≤ M := by
  obtain ⟨h1, h2, h3⟩ := h
  refine ⟨List.ext_getElem (by simp [h1]) fun i h4 h5 => ?_, fun n hn => ?_⟩
  · simp only [List.getElem_map]
    exact ((hf _).sound _ (h3 i (by simpa using h5) (by simpa using h4))).1
  · obtain ⟨i, hi, rfl⟩ := List.getElem_of_mem hn
    exact ((hf _).sound _ (h3 i hi (by omega))).2
theorem data_ne {s : ByteArray} {k : Nat} {c : UInt8} : (Lib.splitB ⟨#[c]⟩ 0 k s).map (·.data.toList) = Lib.splitK [c] 0 k s.data.toList := by
  rw [Lib.splitB_data]
theorem styl_of {f : List UInt8 → Option Nat} {b : Nat} {D : Nat → List UInt8} (hD : Digs b D) (hb : 2 ≤ b) (hb2 : b ≤ 16) {M : Nat} (hf : ∀ l, RdP D M (f l) l) {c : UInt8} (hc : Mark c) (cnt : Nat) (h1 : 1 ≤ cnt) (s : ByteArray) {en : List Nat → List UInt8} {e : Ending}
    (h : StA f en cnt (Lib.splitB ⟨#[c]⟩ 0 (min (cnt + 1) (s.size + 1) - 1) s) e) :
    ∃ o, StyP D M cnt c s.data.toList o ∧ e = (match o with | some ns => .returned (.tuple #[.string ⟨(en ns).toArray⟩, .bool true]) | none => .returned (.tuple #[.string ⟨#[]⟩, .bool false])) := by
  obtain ⟨A, z, e1, e2, e3, e4, e5⟩ := splitK_is c (min (cnt + 1) (s.size + 1) - 1) s.data.toList
  rw [← data_ne] at e1
  generalize hP : Lib.splitB ⟨#[c]⟩ 0 (min (cnt + 1) (s.size + 1) - 1) s = P at h e1
  have hfree := fun u => hD.free hb hb2 hc u
  -- the pieces, when the text is joined of numbers
  have back : ∀ ns : List Nat, ns.length = cnt → s.data.toList = Lib.join (ns.map D) [c] → P.map (·.data.toList) = ns.map D := by
    intro ns hl hj
    obtain ⟨B, y, rfl⟩ := last_apart ns (by intro h; rw [h] at hl; simp at hl; omega)
    simp only [List.map_append, List.map_cons, List.map_nil] at hj ⊢
    rw [join_flat] at hj
    have hlen : (B.map D).length ≤ s.size := by
      have hc1 := congrArg (List.count c) hj
      rw [count_flat c _ (free_map hfree B)] at hc1
      have hc2 : s.data.toList.count c ≤ s.data.toList.length := List.count_le_length
      have hc3 : s.data.toList.length = s.size := by simp
      omega
    simp only [List.length_append, List.length_singleton, List.length_map] at hl hlen
    rw [← hP, data_ne, hj]
    exact splitK_back c _ _ _ (free_map hfree B) (hfree y) (by simp only [List.length_map]; omega)
  rcases h with ⟨ns, hl, hA, he⟩ | ⟨hn, he⟩
  · refine ⟨some ns, ⟨fun ms h => ?_, fun ms hl2 hm hj => ?_⟩, he⟩
    · obtain rfl := Option.some.inj h
      rw [← hl] at hA
      obtain ⟨q1, q2⟩ := all_of hf hA
      refine ⟨by rw [hA.1, hl], q2, ?_⟩
      rw [← q1, e1, join_flat]; exact e2
    · rw [← hl] at hA
      have q1 := (all_of hf hA).1
      rw [back ms hl2 hj] at q1
      rw [map_inj (fun u v => hD.inj hb hb2) _ _ q1]
  · refine ⟨none, ⟨(fun ns h => by cases h), fun ms hl2 hm hj => ?_⟩, he⟩
    exfalso
    have hb := back ms hl2 hj
    have hlP : P.length = cnt := by
      have := congrArg List.length hb
      simp at this; omega
    rcases hn with hn | ⟨j, hj1, hj2⟩
    · exact hn hlP
    · have hjm : j < ms.length := by omega
      have : P[j].data.toList = D ms[j] := by
        have h3 : (P.map (·.data.toList))[j]'(by simpa using hj1) = (ms.map D)[j]'(by simpa using hjm) := by simp only [hb]
        simpa using h3
      rw [(hf _).full ms[j] (hm _ (List.getElem_mem hjm)) this] at hj2
      cases hj2
end Go.Proofs.YtkgedoedojkdkaaDoor
