/-
  Arguments that come in: a note, a verdict.
-/
import Derived.Test.YtkaghjohkhlimaaDoorJC
import Derived.Test.YtkaghjohkhlimaaDoorME
import Derived.SizedLaws
namespace Go.Proofs.YtkaghjohkhlimaaDoor
open Go.ChangeShapes Go.WideShapes Go.ChangeAt Go.RowKit Go.Joins Go.Deep Go.WideMaps Go.WideElems
theorem zs3 : Tryd.prog.cellsOf 3 = 1 := by kernel_rfl
theorem zs5 : Tryd.prog.cellsOf 5 = 1 := by kernel_rfl
theorem zs9 : Tryd.prog.cellsOf 9 = 1 := by kernel_rfl
theorem zs25 : Tryd.prog.cellsOf 25 = 3 := by kernel_rfl
theorem zs30 : Tryd.prog.cellsOf 30 = 3 := by kernel_rfl
theorem array3 {α : Type} {a : Array α} (h : a.size = 3) : ∃ c0 c1 c2, a = #[c0, c1, c2] := by
  obtain ⟨l⟩ := a
  match l, h with
  | [c0, c1, c2], _ => exact ⟨c0, c1, c2, rfl⟩
theorem u8_wf {n : Int} (h : (Lit.int .u8 n).wf = true) : ∃ m : Nat, m < 256 ∧ n = (m : Int) := by
  have : 0 ≤ n ∧ n < 256 := by
    have hb : 0 ≤ n ∧ n ≤ 255 := by simpa [Lit.wf, IntKind.min, IntKind.max, IntKind.signed, IntKind.bits] using h
    omega
  exact ⟨n.toNat, by omega, by omega⟩
/-- What it weighs is within reach. -/
def Small {H : Type} (t : TypeId) (d : DataW H) : Prop := ∀ x ∈ d.weights Tryd.prog t, x ≤ reachBytes
/-- The weights of the arguments. -/
theorem small_each {H : Type} {ts : List TypeId} {ds : List (DataW H)} (h : (DataW.weightsEach Tryd.prog ts ds).all (· ≤ reachBytes) = true) (j : Nat) (t : TypeId) (d : DataW H) (ht : ts[j]? = some t) (hd : ds[j]? = some d) : Small t d := by
  induction ts generalizing ds j with
  | nil => simp at ht
  | cons t0 ts ih =>
    cases ds with
    | nil => simp at hd
    | cons d0 ds =>
      simp only [DataW.weightsEach, List.all_append, Bool.and_eq_true] at h
      cases j with
      | zero =>
        simp at ht hd
        subst ht hd
        intro x hx
        have := List.all_eq_true.mp h.1 x hx
        simpa using this
      | succ j => exact ih h.2 j (by simpa using ht) (by simpa using hd)
variable {H : Type} {enc : TypeId × Value → H} {w : World} {sp : Nat → Bool} {held : Bool} {fuel : Nat}
set_option maxRecDepth 100000 in
theorem open_note {b0 : Nat} {r : Reach} {v : Value} {d : DataW H} {ps : List MemPlace} (hval : Value.okWide Tryd.prog w r b0 30 v) (hd : DataW.Trod enc Tryd.prog w 0 sp held 30 v d ps) (hz : Small 30 d) :
    ∃ (c s : Nat) (l : List UInt8), v = .agg (ntC c s l) ∧ c < 256 ∧ s < 256 ∧ l.length ≤ 281474976710656 := by
  obtain ⟨cs, rfl, hc⟩ := okWide_struct Tryd.underlying30 hval
  rw [zs30] at hc
  obtain ⟨c0, c1, c2, rfl⟩ := array3 hc
  obtain ⟨fuel, hf⟩ := hd
  obtain ⟨y0, y1, y2, n, hx, _, h0, h1, h2⟩ := trod_struct3 Tryd.underlying30 hf
  simp only [zs5, zs9, Value.cells, List.drop_zero, List.drop_succ_cons, List.take_succ_cons, List.take_zero] at h0 h1 h2
  obtain ⟨a, e0, _, ha⟩ := DataW.trod_int (k := .u8) Tryd.underlying5 h0
  obtain ⟨b, e1, _, hb⟩ := DataW.trod_int (k := .u8) Tryd.underlying5 h1
  obtain ⟨s, e2, hy, _⟩ := DataW.trod_string Tryd.underlying9 h2
  have hw : s.data.toList.length ≤ reachBytes := by
    refine hz _ ?_
    obtain rfl := (Prod.mk.inj hx).1
    rw [hy]
    simp only [DataW.weights, Tryd.underlying30]
    simp [DataW.weightsEach, DataW.weights]
  simp at e0 e1 e2
  obtain ⟨a', ha1, rfl⟩ := u8_wf ha
  obtain ⟨b', hb1, rfl⟩ := u8_wf hb
  refine ⟨a', b', s.data.toList, ?_, ha1, hb1, ?_⟩
  · rw [e0, e1, e2]; unfold ntC; cases s; simp
  · have := reachBytes_lt
    omega
set_option maxRecDepth 100000 in
theorem open_vd {b0 : Nat} {r : Reach} {v : Value} {d : DataW H} {ps : List MemPlace} (hval : Value.okWide Tryd.prog w r b0 25 v) (hd : DataW.Trod enc Tryd.prog w 0 sp held 25 v d ps) :
    ∃ (a : Int) (c s : Nat), v = .agg #[.int .i64 a, .int .u8 (c : Int), .int .u8 (s : Int)] ∧ c < 256 ∧ s < 256 := by
  obtain ⟨cs, rfl, hc⟩ := okWide_struct Tryd.underlying25 hval
  rw [zs25] at hc
  obtain ⟨c0, c1, c2, rfl⟩ := array3 hc
  obtain ⟨fuel, hf⟩ := hd
  obtain ⟨y0, y1, y2, n, _, _, h0, h1, h2⟩ := trod_struct3 Tryd.underlying25 hf
  simp only [zs3, zs5, Value.cells, List.drop_zero, List.drop_succ_cons, List.take_succ_cons, List.take_zero] at h0 h1 h2
  obtain ⟨a, e0, _, _⟩ := DataW.trod_int (k := .i64) Tryd.underlying3 h0
  obtain ⟨b, e1, _, hb⟩ := DataW.trod_int (k := .u8) Tryd.underlying5 h1
  obtain ⟨s, e2, _, hs⟩ := DataW.trod_int (k := .u8) Tryd.underlying5 h2
  simp at e0 e1 e2
  obtain ⟨b', hb1, rfl⟩ := u8_wf hb
  obtain ⟨s', hs1, rfl⟩ := u8_wf hs
  exact ⟨a, b', s', by rw [e0, e1, e2], hb1, hs1⟩
end Go.Proofs.YtkaghjohkhlimaaDoor
