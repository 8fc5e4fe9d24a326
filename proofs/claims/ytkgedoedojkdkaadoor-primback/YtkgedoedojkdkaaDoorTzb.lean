/-
  The program's Addr of every text.
-/
import Derived.Test.YtkgedoedojkdkaaDoorTza
import Derived.Test.YtkgedoedojkdkaaDoorB23
set_option linter.unusedVariables false
set_option linter.unusedSimpArgs false
set_option maxRecDepth 100000
namespace Go.Proofs.YtkgedoedojkdkaaDoor
open Go.RowKit
theorem sty_ex {b : Nat} {D : Nat → List UInt8} (hD : Digs b D) (hb : 2 ≤ b) (hb2 : b ≤ 16) (M cnt : Nat) (h1 : 1 ≤ cnt) {c : UInt8} (hc : Mark c) (l : List UInt8) : ∃ o, StyP D M cnt c l o := by
  by_cases h : ∃ ns : List Nat, ns.length = cnt ∧ (∀ n ∈ ns, n ≤ M) ∧ l = Lib.join (ns.map D) [c]
  · obtain ⟨ns, q1, q2, q3⟩ := h
    refine ⟨some ns, fun ms e => ?_, fun ms p1 p2 p3 => ?_⟩
    · obtain rfl := Option.some.inj e
      exact ⟨q1, q2, q3⟩
    · rw [joined_inj hD hb hb2 hc ns ms (by intro e; rw [e] at q1; simp at q1; omega) (by intro e; rw [e] at p1; simp at p1; omega) (by rw [← q3, p3])]
  · exact ⟨none, (fun ms e => by cases e), fun ms p1 p2 p3 => absurd ⟨ms, p1, p2, p3⟩ h⟩
def adV (o : Option ByteArray) : Value := match o with
  | some b => .tuple #[.string b, .int .i64 0]
  | none => .tuple #[.string ⟨#[]⟩, .int .i64 4]
theorem read4_any (s : ByteArray) (hs : s.size < 4294967281) (w : World) (hE : EnvE w) :
    Calls Tryd.prog 51 #[.agg #[.string ⟨#[46]⟩, .int .i64 4, .int .i64 1, .int .i64 10], .string s] w fun e w' => (∃ o, StyP Lib.decDigits 255 4 46 s.data.toList o ∧ e = (match o with | some ns => .returned (.tuple #[.string ⟨(enc1 ns).toArray⟩, .bool true]) | none => .returned (.tuple #[.string ⟨#[]⟩, .bool false]))) ∧ Below w.heap.size w w' :=
  (read4 s hs w hE).mono fun e w' ⟨h, hb⟩ => ⟨styl_of digs10 (by omega) (by omega) (fun l => rd8 l) m46 4 (by omega) s h, hb⟩
theorem read16_any (s : ByteArray) (hs : s.size < 4294967281) (w : World) (hE : EnvE w) :
    Calls Tryd.prog 51 #[.agg #[.string ⟨#[58]⟩, .int .i64 8, .int .i64 2, .int .i64 16], .string s] w fun e w' => (∃ o, StyP hexD 65535 8 58 s.data.toList o ∧ e = (match o with | some ns => .returned (.tuple #[.string ⟨(enc2 ns).toArray⟩, .bool true]) | none => .returned (.tuple #[.string ⟨#[]⟩, .bool false]))) ∧ Below w.heap.size w w' :=
  (read16 s hs w hE).mono fun e w' ⟨h, hb⟩ => ⟨styl_of digs16 (by omega) (by omega) (fun l => rd16 l) m58 8 (by omega) s h, hb⟩
set_option maxHeartbeats 2000000 in
theorem addr_any (s : ByteArray) (hs : s.size < 4294967281) (w : World) (hE : EnvE w) :
    Calls Tryd.prog 26 #[.string s] w fun e w' => (∃ o, AdP o s.data.toList ∧ e = .returned (adV o)) ∧ Below w.heap.size w w' := by
  obtain ⟨t, fr, h0⟩ := hE.t.t.sty
  have H0 : Hid (w.heap[1]? = some (.cells stCells t fr)) := h0
  have HE : Hid (EnvE w) := hE
  have H4 : Hid (∀ W, EnvE W → _) := fun W h => read4_any s hs W h
  have H16 : Hid (∀ W, EnvE W → _) := fun W h => read16_any s hs W h
  have HA : Hid (∀ A, Below w.heap.size w (w.alloc (.cells A 72))) := fun A => (Below.refl _ _).alloc (Nat.le_refl _) _
  have hsx := sx0
  have hsy := sx1
  clear hE h0 hs
  go_enter Tryd.func26, Tryd.ntmps26
  go_wp2_with (refine wpList_load_row rfl 73 _ rfl 1 rfl t _ fr _ H0.out Tryd.underlying73 rfl info73 ?_)
  refine wp_loop_rounds 3 ?_
  rw [rounds_succ]
  go_wp2_with fail
  refine Calls.mono (H4.out _ (HE.out.below (HA.out _))) ?_
  rintro e w1 ⟨⟨o4, hp4, he⟩, hb1⟩
  have HB1 : Hid (Below w.heap.size w w1) := (HA.out _).trans (hb1.mono (HA.out _).size)
  have HP4 : Hid (StyP _ _ _ _ _ _) := hp4
  clear hb1 hp4 HA
  cases o4 with
  | some ns =>
    obtain rfl : e = .returned (.tuple #[.string ⟨(enc1 ns).toArray⟩, .bool true]) := he
    go_wp2
    go_ret2
    obtain ⟨o16, h16⟩ := sty_ex digs16 (by omega) (by omega) 65535 8 (by omega) m58 s.data.toList
    exact ⟨⟨some ⟨(enc1 ns).toArray⟩, ad_of HP4.out h16, rfl⟩, HB1.out⟩
  | none =>
    obtain rfl : e = .returned (.tuple #[.string ⟨#[]⟩, .bool false]) := he
    have HE1 : Hid (EnvE w1) := HE.out.below HB1.out
    have HA1 : Hid (∀ A, Below w1.heap.size w1 (w1.alloc (.cells A 72))) := fun A => (Below.refl _ _).alloc (Nat.le_refl _) _
    clear HE
    go_wp2_with fail
    rw [rounds_succ]
    go_wp2_with fail
    refine Calls.mono (H16.out _ (HE1.out.below (HA1.out _))) ?_
    rintro e w2 ⟨⟨o16, hp16, he⟩, hb2⟩
    have HB2 : Hid (Below w.heap.size w w2) := HB1.out.trans (((HA1.out _).trans (hb2.mono (HA1.out _).size)).mono HB1.out.size)
    have HP : Hid (AdP _ _) := ad_of HP4.out hp16
    clear hb2 hp16 HA1 HB1
    cases o16 with
    | some ns =>
      obtain rfl : e = .returned (.tuple #[.string ⟨(enc2 ns).toArray⟩, .bool true]) := he
      go_wp2
      go_ret2
      exact ⟨⟨some ⟨(enc2 ns).toArray⟩, HP.out, rfl⟩, HB2.out⟩
    | none =>
      obtain rfl : e = .returned (.tuple #[.string ⟨#[]⟩, .bool false]) := he
      go_wp2_with fail
      rw [rounds_succ]
      go_wp2
      go_ret2
      exact ⟨⟨none, HP.out, rfl⟩, HB2.out⟩
end Go.Proofs.YtkgedoedojkdkaaDoor
