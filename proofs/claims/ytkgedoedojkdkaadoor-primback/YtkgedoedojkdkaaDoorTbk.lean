/-
  PrimBack answers true: prefixes and addresses come back from their texts.
-/
import Derived.Test.YtkgedoedojkdkaaDoorTpc
import Derived.Test.YtkgedoedojkdkaaDoorB25
import Derived.Laws.StructEq
import Derived.Laws.Rows
set_option linter.unusedVariables false
set_option linter.unusedSimpArgs false
set_option maxRecDepth 100000
namespace Go.Proofs.YtkgedoedojkdkaaDoor
open Go.RowKit
theorem info43b : (Tryd.prog.info? 43).map (·.size) = some 19 := by kernel_rfl
theorem pf_len (f : Int) (r : Nat) (hr : r < 18446744073709551616) (s : ByteArray) (l : Nat) (hl : l ≤ 255) : (pfT f r s l).length ≤ 1000 := by
  have h1 := fw_len f.toNat
  have h2 := dig_len64 r hr
  have h3 := adT_len s
  have h4 := dig_len64 l (by omega)
  unfold pfT rdT
  split <;> simp only [List.length_append, List.length_cons, List.length_nil] <;> omega
set_option maxHeartbeats 4000000 in
theorem back_walk (X : Array Value) (hX : X.size = 19) (hof : ∀ w', Tabs w' → Calls Tryd.prog 30 #[.agg X] w' fun e w2 => ∃ (f : Int) (r : Nat) (s : ByteArray) (l : Int), e = .returned (.agg #[.int .i64 f, .int .u64 (r : Int), .string s, .int .i64 l]) ∧ r < 18446744073709551616 ∧ chk f r s l = 0 ∧ Below w'.heap.size w' w2)
    (w : World) (hE : EnvE w) : Calls Tryd.prog 8 #[.agg X] w fun e w' => e = .returned (.bool true) ∧ Below w.heap.size w w' := by
  have hB : Below w.heap.size w (w.alloc (.cells X 43)) := (Below.refl _ _).alloc (Nat.le_refl _) _
  have HB : Hid (Below _ _ _) := hB
  have HE : Hid (EnvE (w.alloc (.cells X 43))) := hE.below hB
  have HX : Hid ((w.alloc (.cells X 43)).heap[w.heap.size]? = some (.cells X 43 (0, 0))) := by unfold Hid; simp only [heap_alloc_new]
  have HOf : Hid (∀ w', Tabs w' → _) := hof
  have HI : Hid ((Tryd.prog.info? 43).map (·.size) = some X.size) := by unfold Hid; rw [hX]; exact info43b
  have H19 : Hid (∀ W, Tabs W → _) := fun W h => works_any W h
  clear hB hE hof hX
  go_enter Tryd.func8, Tryd.ntmps8
  go_wp2_with (refine wpList_load_row rfl 43 _ rfl w.heap.size rfl 43 X (0, 0) _ HX.out Tryd.underlying43 rfl HI.out ?_)
  refine Calls.mono (HOf.out _ HE.out.t.t) ?_
  rintro e w1 ⟨f, r, s, l, rfl, hr, hc, hb1⟩
  have HB1 : Hid (Below w.heap.size w w1) := HB.out.trans (hb1.mono HB.out.size)
  have HE1 : Hid (EnvE w1) := HE.out.below hb1
  obtain ⟨n, m, rfl, rfl, hv⟩ := vp_of hr hc
  have HT : Hid (∀ W, EnvT W → _) := fun W h => text_any n r hr s m W h
  rw [hc, show txA n r s m = ⟨(pfT n r s m).toArray⟩ by unfold txA; rw [if_pos hc, Int.toNat_natCast]] at HT
  have HPr : Hid (∀ W, EnvE W → _) := fun W h => parse_any (pfT n r s m) (Nat.lt_of_le_of_lt (pf_len n r hr s m (by have := hv.k8; omega)) (by decide)) W h
  have HPf : Hid (∀ o, PfP o (pfT n r s m) → o = some ((n : Int), r, s, (m : Int))) := fun o h => h.full n r s m hr hc (by rw [Int.toNat_natCast])
  have HAt : Hid (∀ W, EnvT W → _) := fun W h => addrText_any s W h (by unfold maxLen; rcases hv.ad with e | e <;> omega)
  have hAE : adE s = 0 := by unfold adE isAd; rcases hv.ad with e | e <;> simp [e]
  rw [hAE] at HAt
  have HAd : Hid (∀ W, EnvE W → _) := fun W h => addrL (adT s) (Nat.lt_of_le_of_lt (adT_len s) (by decide)) W h
  have HAf : Hid (∀ o, AdP o (adT s) → o = some s) := fun o h => h.full s hv.ad rfl
  have HA1 : Hid (Below w1.heap.size w1 (w1.alloc (.cells #[.int .i64 (n : Int), .int .u64 (r : Int), .string s, .int .i64 (m : Int)] 24))) := (Below.refl _ _).alloc (Nat.le_refl _) _
  have HP1 : Hid (PfxAt _ _ _ _ _ _) := PfxAt.of_alloc w1 _ n r s m rfl
  clear hb1 hAE hv hc hr HE HX HI HOf HB
  generalize pfT n r s m = tx at *
  generalize adT s = ad at *
  go_wp2_with fail
  refine Calls.mono (HT.out _ (HE1.out.below HA1.out).t) ?_
  rintro e w2 ⟨rfl, hb2⟩
  have HW2 : Hid (Below w1.heap.size w1 w2) := HA1.out.trans (hb2.mono HA1.out.size)
  have HP2 : Hid (PfxAt w2 w1.heap.size n r s m) := HP1.out.kept hb2 (by simp)
  have HE2 : Hid (EnvE w2) := HE1.out.below HW2.out
  clear hb2 HP1 HA1
  go_wp2_with fail
  refine Calls.mono (HPr.out _ HE2.out) ?_
  rintro e w3 ⟨⟨o, ho, he⟩, hb3⟩
  obtain rfl := HPf.out o ho
  obtain rfl : e = .returned (.tuple #[.agg #[.int .i64 (n : Int), .int .u64 (r : Int), .string s, .int .i64 (m : Int)], .int .i64 0]) := he
  have HW3 : Hid (Below w1.heap.size w1 w3) := HW2.out.trans (hb3.mono HW2.out.size)
  have HP3 : Hid (PfxAt w3 w1.heap.size n r s m) := HP2.out.kept hb3 (lt_of_cell HP2.out.c0)
  have HE3 : Hid (EnvE w3) := HE2.out.below hb3
  have c2 := HP3.out.c2
  have hs3 : w1.heap.size < w3.heap.size := lt_of_cell c2
  have HA3 : Hid (Below w3.heap.size w3 (w3.alloc (.cells #[.int .i64 (n : Int), .int .u64 (r : Int), .string s, .int .i64 (m : Int)] 24))) := (Below.refl _ _).alloc (Nat.le_refl _) _
  have HQ3 : Hid (PfxAt _ _ _ _ _ _) := PfxAt.of_alloc w3 _ n r s m rfl
  clear hb3 ho HP2 HE2 HW2
  go_wp2_with fail
  refine Calls.mono (HAt.out _ (HE3.out.below HA3.out).t) ?_
  rintro e w4 ⟨rfl, hb4⟩
  have HW4 : Hid (Below w3.heap.size w3 w4) := HA3.out.trans (hb4.mono HA3.out.size)
  have HQ4 : Hid (PfxAt w4 w3.heap.size n r s m) := HQ3.out.kept hb4 (by simp)
  have HP4 : Hid (PfxAt w4 w1.heap.size n r s m) := HP3.out.kept HW4.out hs3
  have HE4 : Hid (EnvE w4) := HE3.out.below HW4.out
  clear hb4 HQ3 HP3 HE3 HA3 c2 hs3
  go_wp2_with fail
  refine Calls.mono (HAd.out _ HE4.out) ?_
  rintro e w5 ⟨⟨o, ho, he⟩, hb5⟩
  obtain rfl := HAf.out o ho
  obtain rfl : e = .returned (.tuple #[.string s, .int .i64 0]) := he
  obtain ⟨c0, c1, c2, c3, _, _, _, _⟩ := HP4.out.kept hb5 (lt_of_cell HP4.out.c0)
  obtain ⟨d0, d1, d2, d3, _, _, _, _⟩ := HQ4.out.kept hb5 (lt_of_cell HQ4.out.c0)
  have HW5 : Hid (Below w.heap.size w w5) := (HB1.out.trans (HW3.out.mono HB1.out.size)).trans (((HW4.out.trans (hb5.mono HW4.out.size))).mono (Nat.le_trans HB1.out.size HW3.out.size))
  have HE5 : Hid (EnvE w5) := HE4.out.below hb5
  clear hb5 ho HW4 HP4 HQ4 HE4
  go_wp2_with fail
  refine Calls.mono (H19.out _ HE5.out.t.t) ?_
  rintro e w6 ⟨rfl, hb6⟩
  go_wp2
  go_ret
  exact ⟨rfl, HW5.out.trans (hb6.mono HW5.out.size)⟩
end Go.Proofs.YtkgedoedojkdkaaDoor
