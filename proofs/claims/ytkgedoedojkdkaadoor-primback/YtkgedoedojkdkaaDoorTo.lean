/-
  Raw prefixes that come in.
-/
import Derived.Test.YtkgedoedojkdkaaDoorTe
import Derived.Test.YtkgedoedojkdkaaDoorB26
set_option linter.unusedVariables false
set_option linter.unusedSimpArgs false
set_option maxRecDepth 100000
namespace Go.Proofs.YtkgedoedojkdkaaDoor
open Go.ChangeShapes Go.WideShapes Go.ChangeAt Go.RowKit Go.Lib Go.Joins
theorem cs43 : Tryd.prog.cellsOf 43 = 19 := by kernel_rfl
theorem cs41 : Tryd.prog.cellsOf 41 = 16 := by kernel_rfl
theorem cs5 : Tryd.prog.cellsOf 5 = 1 := by kernel_rfl
theorem cs22 : Tryd.prog.cellsOf 22 = 1 := by kernel_rfl
theorem of_any2 (fm rd ln : Int) (a0 a1 a2 a3 a4 a5 a6 a7 a8 a9 a10 a11 a12 a13 a14 a15 : UInt8) (w : World) (h : Tabs w) (hf0 : 0 ≤ fm) (hf1 : fm ≤ 255) (hl0 : 0 ≤ ln) (hl1 : ln ≤ 255) (hrd : 0 ≤ rd) :
    Calls Tryd.prog 30 #[.agg (rawV fm rd ln a0 a1 a2 a3 a4 a5 a6 a7 a8 a9 a10 a11 a12 a13 a14 a15)] w fun e w' => ∃ (f : Int) (r : Nat) (s : ByteArray) (l : Int), e = .returned (.agg #[.int .i64 f, .int .u64 (r : Int), .string s, .int .i64 l]) ∧ r < 18446744073709551616 ∧ chk f r s l = 0 ∧ Below w.heap.size w w' := by
  have hc : fm % 5 = 0 ∨ fm % 5 = 1 ∨ fm % 5 = 2 ∨ fm % 5 = 3 ∨ fm % 5 = 4 := by omega
  have hr3 : rd % 3 = (((rd % 3).toNat : Nat) : Int) := by omega
  rcases hc with hc | hc | hc | hc | hc
  · exact (of_1 fm rd ln a0 a1 a2 a3 a4 a5 a6 a7 a8 a9 a10 a11 a12 a13 a14 a15 w h.sizes h.rds hf0 hf1 hl0 hl1 hc).mono fun e w' ⟨he, hb⟩ => ⟨_, 0, _, _, he, by omega, chk_cut 1 0 _ _ (by decide) rfl (by omega) (show ln % 33 ≤ 32 by omega) (Or.inl rfl), hb⟩
  · exact (of_2 fm rd ln a0 a1 a2 a3 a4 a5 a6 a7 a8 a9 a10 a11 a12 a13 a14 a15 w h.sizes h.rds hf0 hf1 hl0 hl1 hc).mono fun e w' ⟨he, hb⟩ => ⟨_, 0, _, _, he, by omega, chk_cut 2 0 _ _ (by decide) rfl (by omega) (show ln % 129 ≤ 128 by omega) (Or.inl rfl), hb⟩
  · exact (of_3 fm rd ln a0 a1 a2 a3 a4 a5 a6 a7 a8 a9 a10 a11 a12 a13 a14 a15 w h.sizes h.rds hf0 hf1 hl0 hl1 hc).mono fun e w' ⟨he, hb⟩ => ⟨_, 0, _, _, he, by omega, chk_cut 3 0 _ _ (by decide) rfl (by omega) (show ln % 33 ≤ 32 by omega) (Or.inl rfl), hb⟩
  · exact (of_4 fm rd ln a0 a1 a2 a3 a4 a5 a6 a7 a8 a9 a10 a11 a12 a13 a14 a15 w h.sizes h.rds hf0 hf1 hl0 hl1 hrd hc).mono fun e w' ⟨he, hb⟩ => ⟨_, (rd % 3).toNat, _, _, by rw [← hr3]; exact he, by omega, chk_cut 4 _ _ _ (by decide) rfl (by omega) (show ln % 33 ≤ 32 by omega) (Or.inr (by decide)), hb⟩
  · exact (of_5 fm rd ln a0 a1 a2 a3 a4 a5 a6 a7 a8 a9 a10 a11 a12 a13 a14 a15 w h.sizes h.rds hf0 hf1 hl0 hl1 hrd hc).mono fun e w' ⟨he, hb⟩ => ⟨_, (rd % 3).toNat, _, _, by rw [← hr3]; exact he, by omega, chk_cut 5 _ _ _ (by decide) rfl (by omega) (show ln % 129 ≤ 128 by omega) (Or.inr (by decide)), hb⟩
theorem list19 {α : Type} (l : List α) (h : l.length = 19) : ∃ c0 c1 c2 c3 c4 c5 c6 c7 c8 c9 c10 c11 c12 c13 c14 c15 c16 c17 c18, l = [c0, c1, c2, c3, c4, c5, c6, c7, c8, c9, c10, c11, c12, c13, c14, c15, c16, c17, c18] := by
  obtain _ | ⟨c0, l⟩ := l
  · simp at h
  obtain _ | ⟨c1, l⟩ := l
  · simp at h
  obtain _ | ⟨c2, l⟩ := l
  · simp at h
  obtain _ | ⟨c3, l⟩ := l
  · simp at h
  obtain _ | ⟨c4, l⟩ := l
  · simp at h
  obtain _ | ⟨c5, l⟩ := l
  · simp at h
  obtain _ | ⟨c6, l⟩ := l
  · simp at h
  obtain _ | ⟨c7, l⟩ := l
  · simp at h
  obtain _ | ⟨c8, l⟩ := l
  · simp at h
  obtain _ | ⟨c9, l⟩ := l
  · simp at h
  obtain _ | ⟨c10, l⟩ := l
  · simp at h
  obtain _ | ⟨c11, l⟩ := l
  · simp at h
  obtain _ | ⟨c12, l⟩ := l
  · simp at h
  obtain _ | ⟨c13, l⟩ := l
  · simp at h
  obtain _ | ⟨c14, l⟩ := l
  · simp at h
  obtain _ | ⟨c15, l⟩ := l
  · simp at h
  obtain _ | ⟨c16, l⟩ := l
  · simp at h
  obtain _ | ⟨c17, l⟩ := l
  · simp at h
  obtain _ | ⟨c18, l⟩ := l
  · simp at h
  obtain _ | ⟨d, l⟩ := l
  · exact ⟨c0, c1, c2, c3, c4, c5, c6, c7, c8, c9, c10, c11, c12, c13, c14, c15, c16, c17, c18, rfl⟩
  · simp at h
theorem byte_of {n : Int} (h : (Lit.int .u8 n).wf = true) : ∃ a : UInt8, n = (a.toNat : Int) := by
  have hx : 0 ≤ n ∧ n ≤ 255 := by simpa [Lit.wf, IntKind.min, IntKind.max, IntKind.signed, IntKind.bits] using h
  refine ⟨UInt8.ofNat n.toNat, ?_⟩
  rw [UInt8.toNat_ofNat']
  omega
set_option maxRecDepth 100000 in
theorem arr_u8 {H : Type} {enc : TypeId × Value → H} {w : World} {base fuel : Nat} {sp : Nat → Bool} {held : Bool} {cs : List Value} {x : DataW H × List MemPlace} (h : DataW.trod enc Tryd.prog w base sp held fuel 41 cs = some x) (k : Nat) (hk : k < 16) : ∃ a : UInt8, cs[k]? = some (.int .u8 (a.toNat : Int)) := by
  obtain ⟨xs, m, _, _, hl, hn, hel⟩ := DataW.trod_array Tryd.underlying41 h
  rw [cs41] at hl
  have h1 := hel k hk
  rw [cs5, Nat.mul_one, List.getElem?_eq_getElem (by omega : k < xs.length)] at h1
  obtain ⟨n, e, _, q⟩ := DataW.trod_int (k := .u8) Tryd.underlying5 h1
  obtain ⟨a, rfl⟩ := byte_of q
  refine ⟨a, ?_⟩
  have hk' : k < cs.length := by omega
  rw [List.drop_eq_getElem_cons hk'] at e
  simp only [List.take_succ_cons, List.take_zero, List.cons.injEq, and_true] at e
  rw [List.getElem?_eq_getElem hk', e]
set_option maxRecDepth 100000 in
/-- A raw prefix that came in, opened. -/
theorem open_raw {H : Type} {enc : TypeId × Value → H} {w : World} {base b0 : Nat} {sp : Nat → Bool} {held : Bool} {r : Reach} {v : Value} {d : DataW H} {ps : List MemPlace}
    (hval : Value.okWide Tryd.prog w r b0 43 v) (hd : DataW.Trod enc Tryd.prog w base sp held 43 v d ps) :
    ∃ X : Array Value, v = .agg X ∧ X.size = 19 ∧ ∀ w', Tabs w' → Calls Tryd.prog 30 #[.agg X] w' fun e w2 => ∃ (f : Int) (r : Nat) (s : ByteArray) (l : Int), e = .returned (.agg #[.int .i64 f, .int .u64 (r : Int), .string s, .int .i64 l]) ∧ r < 18446744073709551616 ∧ chk f r s l = 0 ∧ Below w'.heap.size w' w2 := by
  obtain ⟨cs, rfl, hc⟩ := okWide_struct Tryd.underlying43 hval
  rw [cs43] at hc
  obtain ⟨fuel, hf⟩ := hd
  obtain ⟨c0, c1, c2, c3, c4, c5, c6, c7, c8, c9, c10, c11, c12, c13, c14, c15, c16, c17, c18, hcs⟩ := list19 cs.toList (by simpa using hc)
  obtain rfl : cs = #[c0, c1, c2, c3, c4, c5, c6, c7, c8, c9, c10, c11, c12, c13, c14, c15, c16, c17, c18] := by cases cs; simp at hcs; rw [hcs]
  obtain ⟨y0, y1, y2, y3, n, _, _, h0, h1, h2, h3⟩ := trod_struct4 Tryd.underlying43 hf
  simp only [Value.cells, cs5, cs22, cs41, List.drop_zero, List.drop_succ_cons, List.take_succ_cons, List.take_zero] at h0 h1 h2 h3
  obtain ⟨fm, e0, _, q0⟩ := DataW.trod_int (k := .u8) Tryd.underlying5 h0
  obtain ⟨rd, e1, _, q1⟩ := DataW.trod_int (k := .u64) Tryd.underlying22 h1
  obtain ⟨ln, e3, _, q3⟩ := DataW.trod_int (k := .u8) Tryd.underlying5 h3
  have HA := arr_u8 h2
  obtain ⟨a0, x0⟩ := HA 0 (by omega)
  obtain ⟨a1, x1⟩ := HA 1 (by omega)
  obtain ⟨a2, x2⟩ := HA 2 (by omega)
  obtain ⟨a3, x3⟩ := HA 3 (by omega)
  obtain ⟨a4, x4⟩ := HA 4 (by omega)
  obtain ⟨a5, x5⟩ := HA 5 (by omega)
  obtain ⟨a6, x6⟩ := HA 6 (by omega)
  obtain ⟨a7, x7⟩ := HA 7 (by omega)
  obtain ⟨a8, x8⟩ := HA 8 (by omega)
  obtain ⟨a9, x9⟩ := HA 9 (by omega)
  obtain ⟨a10, x10⟩ := HA 10 (by omega)
  obtain ⟨a11, x11⟩ := HA 11 (by omega)
  obtain ⟨a12, x12⟩ := HA 12 (by omega)
  obtain ⟨a13, x13⟩ := HA 13 (by omega)
  obtain ⟨a14, x14⟩ := HA 14 (by omega)
  obtain ⟨a15, x15⟩ := HA 15 (by omega)
  simp only [List.cons.injEq, and_true] at e0 e1 e3
  simp only [List.getElem?_cons_zero, List.getElem?_cons_succ, Option.some.injEq] at x0 x1 x2 x3 x4 x5 x6 x7 x8 x9 x10 x11 x12 x13 x14 x15
  subst e0 e1 e3 x0 x1 x2 x3 x4 x5 x6 x7 x8 x9 x10 x11 x12 x13 x14 x15
  have u0 : 0 ≤ fm ∧ fm ≤ 255 := by simpa [Lit.wf, IntKind.min, IntKind.max, IntKind.signed, IntKind.bits] using q0
  have u1 : 0 ≤ rd ∧ rd ≤ 18446744073709551615 := by simpa [Lit.wf, IntKind.min, IntKind.max, IntKind.signed, IntKind.bits] using q1
  have u3 : 0 ≤ ln ∧ ln ≤ 255 := by simpa [Lit.wf, IntKind.min, IntKind.max, IntKind.signed, IntKind.bits] using q3
  refine ⟨_, rfl, hc, fun w' hT => ?_⟩
  exact (of_any2 fm rd ln a0 a1 a2 a3 a4 a5 a6 a7 a8 a9 a10 a11 a12 a13 a14 a15 w' hT u0.1 u0.2 u3.1 u3.2 u1.1)
end Go.Proofs.YtkgedoedojkdkaaDoor
