/-
  The program's Parse of every text: the prefix whose text it is.
-/
import Derived.Test.YtkgedoedojkdkaaDoorTpb
import Derived.Test.YtkgedoedojkdkaaDoorTr
set_option linter.unusedVariables false
set_option linter.unusedSimpArgs false
set_option maxRecDepth 100000
namespace Go.Proofs.YtkgedoedojkdkaaDoor
open Go.RowKit
/-- o is the prefix whose text l is. -/
structure PfP (o : Option (Int × Nat × ByteArray × Int)) (l : List UInt8) : Prop where
  sound : ∀ f r b k, o = some (f, r, b, k) → r < 18446744073709551616 ∧ chk f r b k = 0 ∧ l = pfT f r b k.toNat
  full : ∀ f r b k, r < 18446744073709551616 → chk f (r : Nat) b k = 0 → l = pfT f r b k.toNat → o = some (f, r, b, k)
theorem vp_of {f : Int} {r : Nat} {b : ByteArray} {k : Int} (hr : r < 18446744073709551616) (h : chk f r b k = 0) : ∃ n m : Nat, f = n ∧ k = m ∧ VP n r b m := by
  obtain ⟨n, m, rfl, rfl, h1, h2, h3, h4⟩ := chk_fam h
  have hz := (chk_zero h).2.2.2.2.1
  exact ⟨n, m, rfl, rfl, h1, h2, fun h => by omega, by omega, by omega, hr⟩
def pfV (o : Option (Int × Nat × ByteArray × Int)) : Value := match o with
  | some (f, r, b, k) => .tuple #[.agg #[.int .i64 f, .int .u64 (r : Int), .string b, .int .i64 k], .int .i64 0]
  | none => .tuple #[.agg #[.int .i64 0, .int .u64 0, .string ⟨#[]⟩, .int .i64 0], .int .i64 4]
theorem pfP_none {l : List UInt8} (h : ∀ n r' b' k', VP n r' b' k' → l ≠ pfT n r' b' k') : PfP none l := by
  refine ⟨(fun f r b k e => by cases e), fun f r b k hr hc e => ?_⟩
  obtain ⟨n, m, rfl, rfl, hv⟩ := vp_of hr hc
  rw [Int.toNat_natCast] at e
  exact absurd e (h n r b m hv)
theorem pfP_some {l : List UInt8} {n r : Nat} {b : ByteArray} {k : Nat} (h : VP n r b k) (hl : l = pfT n r b k) (hc : chk n r b k = 0) : PfP (some (n, r, b, k)) l := by
  refine ⟨fun f r' b' k' e => ?_, fun f r' b' k' hr hc e => ?_⟩
  · simp only [Option.some.injEq, Prod.mk.injEq] at e
    obtain ⟨rfl, rfl, rfl, rfl⟩ := e
    exact ⟨h.r64, hc, by rw [Int.toNat_natCast]; exact hl⟩
  · obtain ⟨n', m, rfl, rfl, hv⟩ := vp_of hr hc
    rw [Int.toNat_natCast] at e
    obtain ⟨rfl, rfl, rfl, rfl⟩ := pf_inj h hv (by rw [← hl, e])
    rfl
theorem pfP_bad {l : List UInt8} {n r : Nat} {b : ByteArray} {k : Nat} (h : VP n r b k) (hl : l = pfT n r b k) (hc : chk n r b k ≠ 0) : PfP none l := by
  refine ⟨(fun f r b k e => by cases e), fun f r' b' k' hr hc' e => ?_⟩
  obtain ⟨n', m, rfl, rfl, hv⟩ := vp_of hr hc'
  rw [Int.toNat_natCast] at e
  obtain ⟨rfl, rfl, rfl, rfl⟩ := pf_inj h hv (by rw [← hl, e])
  exact absurd hc' hc
theorem PfP.one {o o' : Option (Int × Nat × ByteArray × Int)} {l : List UInt8} (h : PfP o l) (h' : PfP o' l) : o = o' := by
  cases o with
  | some x =>
    obtain ⟨f, r, b, k⟩ := x
    obtain ⟨q1, q2, q3⟩ := h.sound f r b k rfl
    exact (h'.full f r b k q1 q2 q3).symm
  | none =>
    cases o' with
    | none => rfl
    | some x =>
      obtain ⟨f, r, b, k⟩ := x
      obtain ⟨q1, q2, q3⟩ := h'.sound f r b k rfl
      exact h.full f r b k q1 q2 q3
set_option maxHeartbeats 4000000 in
theorem parse_any (l : List UInt8) (hl : l.length < 140737488351233) (w : World) (hE : EnvE w) :
    Calls Tryd.prog 24 #[.string ⟨l.toArray⟩] w fun e w' => (∃ o, PfP o l ∧ e = .returned (pfV o)) ∧ Below w.heap.size w w' := by
  have HPr : Hid (∀ W, EnvE W → _) := fun W h => prefix_any l hl W h
  have HCk : Hid (∀ (f r : Int) (b : ByteArray) (k : Int) W, Tabs W → _) := fun f r b k W h => check_any f r b k W h.sizes h.rds
  have HW0 : Hid (PrW w _) := PrW.start hE
  clear hE hl
  go_enter Tryd.func24, Tryd.ntmps24
  go_wp2_with fail
  refine Calls.mono (HPr.out _ HW0.out.e) ?_
  rintro e w1 ⟨⟨f, r, b, k, ok, hk, hr, rfl, hy, hn⟩, hb1⟩
  have HW1 : Hid (PrW w w1) := HW0.out.next hb1
  have HY : Hid (ok = true → _) := hy
  have HN : Hid (ok = false → _) := hn
  have HK : Hid (k < 256 ∧ r < 18446744073709551616) := ⟨hk, hr⟩
  clear hb1 hy hn hk hr HW0
  have HA : Hid (PrW w (w1.alloc (.cells #[.int .i64 f, .int .u64 (r : Int), .string b, .int .i64 (k : Int)] 24))) := HW1.out.next ((Below.refl _ _).alloc (Nat.le_refl _) _)
  cases ok with
  | false =>
    have HP : Hid (PfP none l) := pfP_none (HN.out rfl)
    obtain ⟨d0, d1, d2, d3, g0, g1, g2, g3⟩ := HW1.out.r
    have hsz : w.heap.size < w1.heap.size := lt_of_cell d0
    clear HY HN
    go_wp2
    refine bodyPost_ret (v := .tuple #[.agg #[.int .i64 0, .int .u64 0, .string ⟨#[]⟩, .int .i64 0], .int .i64 4]) (by simp [results, Tryd.results24, go_sem, World.cell?_alloc_old, hsz, d0, d1, d2, d3]) rfl ⟨⟨none, HP.out, rfl⟩, ?_⟩
    exact ((((HW1.out.b.setCell (by simp) _).setCell (by simp) _).setCell (by simp) _).setCell (by simp) _).alloc (by simp; omega) _
  | true =>
    obtain ⟨n, rfl, hv, hlt⟩ := HY.out rfl
    have HV : Hid (VP n r b k ∧ l = pfT n r b k) := ⟨hv, hlt⟩
    have hsz : w.heap.size < w1.heap.size := lt_of_cell HW1.out.r.c0
    have HQ : Hid (PfxAt (w1.alloc (.cells #[.int .i64 (n : Int), .int .u64 (r : Int), .string b, .int .i64 (k : Int)] 24)) w1.heap.size n r b k) := PfxAt.of_alloc w1 _ n r b k rfl
    clear HY HN hv hlt
    go_wp2_with fail
    refine Calls.mono (HCk.out n r b k _ HA.out.e.t.t) ?_
    rintro e w2 ⟨rfl, hb2⟩
    have HW2 : Hid (PrW w w2) := HA.out.next hb2
    obtain ⟨d0, d1, d2, d3, g0, g1, g2, g3⟩ := HW2.out.r
    obtain ⟨c0, c1, c2, c3, _, _, _, _⟩ := HQ.out.kept hb2 (by simp)
    have hs2 : w.heap.size < w2.heap.size := lt_of_cell d0
    have hs3 : w1.heap.size < w2.heap.size := lt_of_cell c0
    clear hb2 HA HW1 HQ
    by_cases hc : chk n r b k = 0
    · have HP : Hid (PfP (some ((n : Int), r, b, (k : Int))) l) := pfP_some HV.out.1 HV.out.2 hc
      rw [hc]
      clear hc HV
      go_wp2
      refine bodyPost_ret (v := .tuple #[.agg #[.int .i64 (n : Int), .int .u64 (r : Int), .string b, .int .i64 (k : Int)], .int .i64 0]) (by simp [results, Tryd.results24, go_sem, d0, d1, d2, d3]) rfl ⟨⟨_, HP.out, rfl⟩, ?_⟩
      exact (((HW2.out.b.setCell (by simp) _).setCell (by simp) _).setCell (by simp) _).setCell (by simp) _
    · have HP : Hid (PfP none l) := pfP_bad HV.out.1 HV.out.2 hc
      rw [chk_two hc]
      clear hc HV
      go_wp2
      refine bodyPost_ret (v := .tuple #[.agg #[.int .i64 0, .int .u64 0, .string ⟨#[]⟩, .int .i64 0], .int .i64 4]) (by simp [results, Tryd.results24, go_sem, d0, d1, d2, d3]) rfl ⟨⟨none, HP.out, rfl⟩, ?_⟩
      exact (((HW2.out.b.setCell (by simp) _).setCell (by simp) _).setCell (by simp) _).setCell (by simp) _
end Go.Proofs.YtkgedoedojkdkaaDoor
