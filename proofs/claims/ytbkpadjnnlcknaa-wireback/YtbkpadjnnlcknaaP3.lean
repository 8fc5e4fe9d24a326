/-
  WireBack answers true whatever its arguments are, and they read behind the call as they read before. No condition.
-/
import Derived.Test.YtbkpadjnnlcknaaRows
import Derived.Test.YtbkpadjnnlcknaaK2
import Derived.WalkKit
import Derived.ProofKit
import Derived.OpenShut
import Derived.ShutString
import Derived.ChangeOld
import Derived.Below
import Derived.Carry
import Derived.SizedLaws
import Derived.Deep.SlicePairs
namespace Go.Proofs.Ytbkpadjnnlcknaa
open Go.ChangeShapes Go.WideShapes Go.ChangeAt Go.RowKit Go.Deep
open Go.ChangeMaps (open_string shut_string)
theorem own : ownKnob Try.prog.godebug = none := by kernel_rfl
theorem laidOut : laidOutB Try.prog = true := by kernel_rfl
theorem back_any (s : ByteArray) (b off len cap : Nat) (V : Nat → Nat) (S : Nat → Int) (w : World) (hs : s.size ≤ 140737488351232) (hb : b < w.heap.size) (hcap : len ≤ cap)
    (hV : ∀ i, i < len → w.cell? ⟨b, off + i * 2, none⟩ = some (.int .u64 (V i : Int)) ∧ V i < 18446744073709551616)
    (hS : ∀ i, i < len → w.cell? ⟨b, off + i * 2 + 1, none⟩ = some (.int .i64 (S i))) :
    Calls Try.prog 6 #[.string s, .slice (some ⟨b, off, none⟩) len cap] w fun e w' => e = .returned (.bool true) ∧ Below w.heap.size w w' := by
  by_cases hl : (50 : Int) < len
  · exact back_more s b off len cap V S w hs hb hl hcap hV hS
  · exact back_less s b off len cap V S w hs hb hl hcap hV hS
theorem lt_of_cell {w : World} {a : Addr} {v : Value} (h : w.cell? a = some v) : a.block < w.heap.size := by
  by_cases e : a.block < w.heap.size
  · exact e
  · rw [World.cell?] at h
    simp [Array.getElem?_eq_none (Nat.le_of_not_lt e)] at h
set_option maxRecDepth 100000 in
theorem back_lifted (os : Os) (started : os.Started) (H : Type) (enc : TypeId × Value → H) :
    ReturnsInHanded {} Try.checked os 6 .any (Rows.wireBackSpec.pre6 enc Try.prog Try.f6 Rows.wireBackRow.domain false) (Rows.wireBackSpec.post enc Try.prog Try.f6 false true false false) := by
  refine returnsInHanded_of_change_sized (C := Try.checked) own started (by kernel_rfl) Try.func6
    (ChangeSpec.witness6 (enc := enc) (C := Try.checked) false ⟨#[], #[.string ⟨#[]⟩, .slice none 0 0], []⟩ 8 (by kernel_rfl) (by kernel_rfl) (by kernel_rfl) (by kernel_rfl)) ?_
  intro W base args ds gs before hval0 hW hcnd hsz _
  have hval : ∀ (j : Nat) t v, Try.f6.params[j]? = some t → args[j]? = some v → Value.okWide Try.prog W .any base t v := hval0
  have hW' := hW
  obtain ⟨p, q, hA0, hV, rfl, hfz, hnd⟩ := hW
  have hA : DataW.TrodAll enc Try.prog W 0 (fun _ => true) true Try.f6.params.toList args.toList ds p := hA0
  rw [Try.params6] at hA hval
  obtain ⟨v0, vs0, d0, ds0, p0, q0, hargs, rfl, rfl, h0, r0⟩ := trodAll_cons hA
  obtain ⟨v1, vs1, d1, ds1, p1, q1, rfl, rfl, rfl, h1, r1⟩ := trodAll_cons r0
  obtain ⟨rfl, rfl, rfl⟩ := trodAll_nil r1
  obtain rfl : args = #[v0, v1] := by cases args; simp_all
  obtain ⟨rfl, rfl⟩ := trodVars_none hV
  obtain ⟨s0, rfl, rfl, rfl, hs0⟩ := open_string Try.underlying9 (hval 0 9 v0 rfl rfl) h0
  have hb0 : s0.data.toList.length ≤ reachBytes := sized_string hsz (j := 0) (t := 9) rfl rfl
  obtain ⟨a1, len1, cap1, rfl⟩ := okWide_slice Try.underlying47 (hval 1 47 v1 rfl rfl)
  have k1 := h1
  have lt1 : ∀ x ∈ p1, x.block < W.heap.size := by obtain ⟨m, hm⟩ := k1; exact DataW.trod_lt m _ _ _ hm
  have hs1 : s0.size ≤ 140737488351232 := by
    have e : s0.data.toList.length = s0.size := by simp
    rw [e] at hb0; exact hb0
  have walk : Calls Try.prog 6 #[.string s0, .slice a1 len1 cap1] W fun e w' => e = .returned (.bool true) ∧ Below W.heap.size W w' := by
    obtain ⟨fuel, hf⟩ := h1
    rcases open_slice_pairs Try.underlying47 Try.underlying49 (by kernel_rfl) rfl rfl (by kernel_rfl) (by kernel_rfl) hf with ⟨hcs, _⟩ | ⟨a, len, cap, m, n, V0, V1, D0, D1, P0, P1, hcs, _, hl, hm, hmm, _, hx⟩
    · simp [Value.cells] at hcs
      obtain ⟨rfl, rfl, rfl⟩ := hcs
      exact back_none s0 W
    · simp [Value.cells] at hcs
      obtain ⟨rfl, rfl, rfl⟩ := hcs
      by_cases hz : len1 = 0
      · subst hz
        exact back_empty s0 a cap1 W
      · have each : ∀ i, i < len1 → ∃ (v : Nat) (x : Int), W.cell? (a.add (i * 2)) = some (.int .u64 (v : Int)) ∧ v < 18446744073709551616 ∧ W.cell? (a.add (i * 2 + 1)) = some (.int .i64 x) := by
          intro i hi
          obtain ⟨c0, c1, t0, t1⟩ := hx i (by rw [hmm]; split <;> omega)
          obtain ⟨n0, e0, _, w0⟩ := DataW.trod_int (k := .u64) Try.underlying31 t0
          obtain ⟨n1, e1, _, _⟩ := DataW.trod_int (k := .i64) Try.underlying3 t1
          simp only [List.cons.injEq, and_true] at e0 e1
          rw [e0] at c0
          rw [e1] at c1
          have hb : 0 ≤ n0 ∧ n0 ≤ 18446744073709551615 := by simpa [Lit.wf, IntKind.min, IntKind.max, IntKind.signed, IntKind.bits] using w0
          obtain ⟨v, rfl⟩ := Int.eq_ofNat_of_zero_le hb.1
          exact ⟨v, n1, c0, by omega, c1⟩
        obtain ⟨V, hV⟩ := choose_lt each
        obtain ⟨S, hS⟩ := choose_lt hV
        obtain ⟨b, off, spot⟩ := a
        have hspot : spot = none := by
          have := (hS 0 (by omega)).1
          simpa [Addr.add] using World.cell?_spot this
        subst hspot
        have hadd : ∀ i, Addr.add ⟨b, off, none⟩ i = ⟨b, off + i, none⟩ := fun i => by unfold Addr.add; by_cases e : i = 0 <;> simp [e]
        refine back_any s0 b off len1 cap1 V S W hs1 ?_ hl (fun i hi => ⟨?_, (hS i hi).2.1⟩) (fun i hi => ?_)
        · exact lt_of_cell (hS 0 (by omega)).1
        · rw [← hadd]; exact (hS i hi).1
        · rw [Nat.add_assoc, ← hadd]; exact (hS i hi).2.2
  clear hA0 hval0
  refine walk.mono fun e W' ⟨he, bel⟩ => ?_
  subst he
  exact ⟨_, rfl, _, _, _, [], _, [], hW', trodAll_mk1 (shut_bool Try.underlying4 _), (trodAll_cons_mk (shut_string Try.underlying9 hs0) (trodAll_cons_mk (Below.trod laidOut (by kernel_rfl) (of_decide_eq_true (by kernel_rfl)) k1 bel lt1) trodAll_mk0)), rfl, bel.frame _, fun h => by cases h⟩
theorem back_over : Rows.wireBackRow.holds Try.pinned (OpenSpec.ofChange Rows.wireBackSpec) :=
  OpenClaim.holds_of_wide 6 Try.f6 rfl rfl rfl rfl rfl rfl rfl ⟨rfl, rfl, rfl, rfl, rfl⟩ rfl rfl rfl rfl rfl (by kernel_rfl) Try.func6 (by kernel_rfl)
    (of_decide_eq_true (by kernel_rfl)) (by unfold Func.isWrapper; first | (rw [if_pos (by decide +kernel)]; kernel_rfl) | (rw [if_neg (by decide +kernel)]; exact ⟨rfl, rfl⟩))
    (fun os started H enc _ => back_lifted os started H enc)
theorem wireBack_holds : Rows.WireBackSaid := back_over
#print axioms wireBack_holds
end Go.Proofs.Ytbkpadjnnlcknaa
