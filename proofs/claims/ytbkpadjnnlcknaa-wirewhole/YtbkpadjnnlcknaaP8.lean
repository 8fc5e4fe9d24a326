/-
  WireWhole answers true whatever its arguments are, and they read behind the call as they read before. No other condition.
-/
import Derived.Test.YtbkpadjnnlcknaaRows
import Derived.Test.YtbkpadjnnlcknaaW3
import Derived.WalkKit
import Derived.ProofKit
import Derived.OpenShut
import Derived.ShutString
import Derived.ChangeOld
import Derived.Below
import Derived.Carry
import Derived.JoinedCond
import Derived.SizedLaws
namespace Go.Proofs.Ytbkpadjnnlcknaa
open Go.ChangeShapes Go.WideShapes Go.ChangeAt Go.RowKit Go.Lib
open Go.ChangeMaps (open_string shut_string)
theorem own : ownKnob Try.prog.godebug = none := by kernel_rfl
theorem laidOut : laidOutB Try.prog = true := by kernel_rfl
theorem lt_of_cell {w : World} {a : Addr} {v : Value} (h : w.cell? a = some v) : a.block < w.heap.size := by
  by_cases e : a.block < w.heap.size
  · exact e
  · rw [World.cell?] at h
    simp [Array.getElem?_eq_none (Nat.le_of_not_lt e)] at h
set_option maxRecDepth 100000 in
set_option maxHeartbeats 800000 in
theorem whole_zero (s : ByteArray) (a : Option Addr) (cap : Nat) (w : World) (hs : s.size ≤ 140737488351232) :
    Calls Try.prog 7 #[.string s, .slice a 0 cap] w fun e w' => e = .returned (.bool true) ∧ Below w.heap.size w w' := by
  obtain ⟨i0, hi, hz0, hz1, hz2⟩ := info_parts info5'
  go_enter Try.func7, Try.ntmps7
  go_wp2_with fail
  refine (works_any _).mono ?_
  rintro e w0 ⟨rfl, hb0⟩
  go_wp2_with fail
  refine (new_any _ w0).mono ?_
  rintro e w1 ⟨rfl, hr1, hb1, _⟩
  have hpw := hb0.size
  have hb2 := hb0.trans (hb1.mono hpw)
  generalize w0.heap.size = p at *
  clear hb1 hb0
  have hq : WholeAt w w1 p (.slice none 0 0) s s [] := ⟨hr1, World.ownsRow_nil _ _ _ _, by simp, hb2⟩
  have HQ : Hid (WholeAt _ _ _ _ _ _ _) := hq
  clear hq hr1 hb2
  go_wp2_with fail
  refine wp_loop_rounds 1 ?_
  rw [rounds_succ]
  go_wp2_with fail
  refine (rest_any p s _ HQ.out.rdr).mono ?_
  rintro e w2 ⟨rfl, rfl⟩
  obtain ⟨hr2, ho2, hb2⟩ := HQ.out.taken hpw ByteArray.empty
  generalize w1.setCell ⟨p, 1, none⟩ (.string ByteArray.empty) = w2 at *
  go_wp2_with (at_builtin; refine wpList_append_own_string _ rfl _ _ 52 9 rfl (p + 1) 5 i0 Try.underlying52 Try.underlying9 hi hz0 hz1 hz2 _ _ _ rfl ho2 s rfl (by unfold maxLen; simp; omega) (by simp; omega) hr2.lt ?_; intro v4 w4 ho4 hg4 _)
  have hq4 : WholeAt w w4 p v4 s ByteArray.empty ([] ++ s.data.toList) := WholeAt.put hr2 ho2 hb2 hpw HQ.out.all (by simp) ho4 hg4
  have e1 : [] ++ s.data.toList = s.data.toList := by simp
  rw [e1] at hq4
  have H4 : Hid (WholeAt _ _ _ _ _ _ _) := hq4
  clear hq4 ho4 hg4 hr2 ho2 hb2 HQ e1
  refine (hex_big s _ hs).mono ?_
  rintro e w5 ⟨rfl, hb5⟩
  go_wp2_with fail
  refine (unhex_big _ _ (by show (hexL s.data.toList).length ≤ _; rw [hexL_length]; simp; omega)).mono ?_
  rintro e w6 ⟨rfl, hb6⟩
  rw [unOut_hex]
  have hb7 : Below w4.heap.size w4 w6 := hb5.trans (hb6.mono hb5.size)
  have hback := conv_own s.data.toList (ownsRow_below H4.out.own hb7)
  have hrd7 := H4.out.rdr.kept hb7 H4.out.rdr.lt
  rw [show (ByteArray.mk s.data.toList.toArray) = s from by apply ByteArray.ext; simp] at hback
  go_wp2_with fail
  refine (left_any p _ _ hrd7).mono ?_
  rintro e w7 ⟨rfl, rfl⟩
  go_wp2
  go_ret
  exact ⟨rfl, H4.out.bel.trans (hb7.mono H4.out.bel.size)⟩
set_option maxRecDepth 100000 in
theorem whole_lifted (os : Os) (started : os.Started) (H : Type) (enc : TypeId × Value → H) :
    ReturnsInHanded {} Try.checked os 7 .any (Rows.wireWholeSpec.pre6 enc Try.prog Try.f7 Rows.wireWholeRow.domain false) (Rows.wireWholeSpec.post enc Try.prog Try.f7 false true false false) := by
  refine returnsInHanded_of_change_sized (C := Try.checked) own started (by kernel_rfl) Try.func7
    (ChangeSpec.witness6 (enc := enc) (C := Try.checked) false ⟨#[], #[.string ⟨#[]⟩, .slice none 0 0], []⟩ 8 (by kernel_rfl) (by kernel_rfl) (by kernel_rfl) (by kernel_rfl)) ?_
  intro W base args ds gs before hval0 hW hcnd hsz0 _
  have hval : ∀ (j : Nat) t v, Try.f7.params[j]? = some t → args[j]? = some v → Value.okWide Try.prog W .any base t v := hval0
  have hW' := hW
  obtain ⟨p, q, hA0, hV, rfl, hfz, hnd⟩ := hW
  have hA : DataW.TrodAll enc Try.prog W 0 (fun _ => true) true Try.f7.params.toList args.toList ds p := hA0
  rw [Try.params7] at hA hval
  obtain ⟨v0, vs0, d0, ds0, p0, q0, hargs, rfl, rfl, h0, r0⟩ := trodAll_cons hA
  obtain ⟨v1, vs1, d1, ds1, p1, q1, rfl, rfl, rfl, h1, r1⟩ := trodAll_cons r0
  obtain ⟨rfl, rfl, rfl⟩ := trodAll_nil r1
  obtain rfl : args = #[v0, v1] := by cases args; simp_all
  obtain ⟨rfl, rfl⟩ := trodVars_none hV
  obtain ⟨s0, rfl, rfl, rfl, hs0⟩ := open_string Try.underlying9 (hval 0 9 v0 rfl rfl) h0
  obtain ⟨a1, len1, cap1, rfl⟩ := okWide_slice Try.underlying51 (hval 1 51 v1 rfl rfl)
  have k1 := h1
  have lt1 : ∀ x ∈ p1, x.block < W.heap.size := by obtain ⟨m, hm⟩ := k1; exact DataW.trod_lt m _ _ _ hm
  clear hA0 hval0
  have hb0 : s0.data.toList.length ≤ reachBytes := sized_string hsz0 (j := 0) (t := 9) rfl rfl
  have hsz : s0.size ≤ 140737488351232 := by
    have e : s0.data.toList.length = s0.size := by simp
    rw [e] at hb0; exact hb0
  have walk : Calls Try.prog 7 #[.string s0, .slice a1 len1 cap1] W fun e w' => e = .returned (.bool true) ∧ Below W.heap.size W w' := by
    obtain ⟨fuel, hf⟩ := h1
    by_cases hz : len1 = 0
    · subst hz
      exact whole_zero s0 a1 cap1 W hsz
    rcases open_ints Try.underlying51 Try.underlying3 (by kernel_rfl) hf with ⟨hcs, _⟩ | ⟨x, l, c, zs, hcs, _, hl, hm, hzl, _, hcell, _⟩
    · simp [Value.cells] at hcs
      exact absurd hcs.2.1 hz
    · simp [Value.cells] at hcs
      obtain ⟨rfl, rfl, rfl⟩ := hcs
      have hlz : zs.length = cap1 := by simpa using hzl
      obtain ⟨b, off, spot⟩ := x
      have hspot : spot = none := by
        have := hcell 0 (by omega)
        simpa [Addr.add] using World.cell?_spot this
      subst hspot
      have hadd : ∀ i, Addr.add ⟨b, off, none⟩ i = ⟨b, off + i, none⟩ := fun i => by unfold Addr.add; by_cases e : i = 0 <;> simp [e]
      refine whole_walkB s0 b off len1 cap1 (fun i => zs.getD i 0) W hsz ?_ (fun i hi => ?_)
      · exact lt_of_cell (hcell 0 (by omega))
      · rw [← hadd]; exact hcell i (by omega)
  refine walk.mono fun e W' ⟨he, bel⟩ => ?_
  subst he
  exact ⟨_, rfl, _, _, _, [], _, [], hW', trodAll_mk1 (shut_bool Try.underlying4 _), (trodAll_cons_mk (shut_string Try.underlying9 hs0) (trodAll_cons_mk (Below.trod laidOut (by kernel_rfl) (of_decide_eq_true (by kernel_rfl)) k1 bel lt1) trodAll_mk0)), rfl, bel.frame _, fun h => by cases h⟩
theorem whole_over : Rows.wireWholeRow.holds Try.pinned (OpenSpec.ofChange Rows.wireWholeSpec) :=
  OpenClaim.holds_of_wide 7 Try.f7 rfl rfl rfl rfl rfl rfl rfl ⟨rfl, rfl, rfl, rfl, rfl⟩ rfl rfl rfl rfl rfl (by kernel_rfl) Try.func7 (by kernel_rfl)
    (of_decide_eq_true (by kernel_rfl)) (by unfold Func.isWrapper; first | (rw [if_pos (by decide +kernel)]; kernel_rfl) | (rw [if_neg (by decide +kernel)]; exact ⟨rfl, rfl⟩))
    (fun os started H enc _ => whole_lifted os started H enc)
theorem wireWhole_holds : Rows.WireWholeSaid := whole_over
#print axioms wireWhole_holds
end Go.Proofs.Ytbkpadjnnlcknaa
