/-
  The program's reader of a prefix' text.
-/
import Derived.Test.YtkgedoedojkdkaaDoorTp
set_option linter.unusedVariables false
set_option linter.unusedSimpArgs false
set_option maxRecDepth 100000
namespace Go.Proofs.YtkgedoedojkdkaaDoor
open Go.RowKit
theorem lst_size (x : List UInt8) : (⟨x.toArray⟩ : ByteArray).size = x.length := List.size_toArray ..
theorem cutL (x : List UInt8) (c : UInt8) (hx : x.length < 4294967281) (w : World) (hE : EnvE w) :
    Calls Tryd.prog 59 #[.string ⟨x.toArray⟩, .string ⟨#[c]⟩] w fun e w' => (∃ a b m, Lib.cut x [c] = (a, b, m) ∧ a.length ≤ x.length ∧ b.length ≤ x.length ∧ e = .returned (.tuple #[.string ⟨a.toArray⟩, .string ⟨b.toArray⟩, .bool m])) ∧ Below w.heap.size w w' := by
  obtain ⟨m0, hm⟩ := hE.t.t.max
  have h := Tryd.strings_Cut ⟨x.toArray⟩ ⟨#[c]⟩ m0 w (by rw [lst_size]; exact hx) hm
  rcases hq : Lib.cut x [c] with ⟨a, b, m⟩
  have hq' : Lib.cut (⟨x.toArray⟩ : ByteArray).data.toList (⟨#[c]⟩ : ByteArray).data.toList = (a, b, m) := hq
  rw [hq'] at h
  refine h.mono ?_
  rintro e w' ⟨rfl, n, rfl⟩
  refine ⟨⟨a, b, m, rfl, ?_, ?_, rfl⟩, below_drewN' (Below.refl _ _) n⟩
  · rcases cut_eq hq with ⟨_, _, h3⟩ | ⟨_, _, h3, h4⟩
    · rw [h3]; simp
    · rw [h3]; exact Nat.le_refl _
  · rcases cut_eq hq with ⟨_, _, h3⟩ | ⟨_, _, h3, h4⟩
    · rw [h3]; simp; omega
    · rw [h4]; simp
theorem rnL64 (x : List UInt8) (hx : x.length < 4294967281) (w : World) (hE : EnvE w) :
    Calls Tryd.prog 61 #[.string ⟨x.toArray⟩, .int .i64 10, .int .i64 64] w fun e w' => (∃ o, RdP Lib.decDigits 18446744073709551615 o x ∧ e = .returned (RnV o)) ∧ Below w.heap.size w w' :=
  (rn64 ⟨x.toArray⟩ (by rw [lst_size]; omega) w hE.e hE.t.p).mono fun e w' ⟨h, hb⟩ => ⟨⟨_, rd64 x, h⟩, hb⟩
theorem rnL8 (x : List UInt8) (hx : x.length < 4294967281) (w : World) (hE : EnvE w) :
    Calls Tryd.prog 61 #[.string ⟨x.toArray⟩, .int .i64 10, .int .i64 8] w fun e w' => (∃ o, RdP Lib.decDigits 255 o x ∧ e = .returned (RnV o)) ∧ Below w.heap.size w w' :=
  (rn8 ⟨x.toArray⟩ (by rw [lst_size]; omega) w hE.e hE.t.p).mono fun e w' ⟨h, hb⟩ => ⟨⟨_, rd8 x, h⟩, hb⟩
theorem addrL (x : List UInt8) (hx : x.length < 4294967281) (w : World) (hE : EnvE w) :
    Calls Tryd.prog 26 #[.string ⟨x.toArray⟩] w fun e w' => (∃ o, AdP o x ∧ e = .returned (adV o)) ∧ Below w.heap.size w w' :=
  addr_any ⟨x.toArray⟩ (by rw [lst_size]; exact hx) w hE
theorem namedL (x : List UInt8) (w : World) (hE : EnvE w) :
    Calls Tryd.prog 60 #[.string ⟨x.toArray⟩] w fun e w' => e = .returned (.int .i64 (famOf x)) ∧ Below w.heap.size w w' := by
  have h := named_any ⟨x.toArray⟩ w hE.t.t
  rw [ByteArray.toList_eq] at h
  exact h
/-- What stands behind the name and the distinguisher. -/
theorem tail_of {t ad sz : List UInt8} {m : Bool} {o : Option ByteArray} {o8 : Option Nat} (hc : Lib.cut t [47] = (ad, sz, m)) (ho : AdP o ad) (h8 : RdP Lib.decDigits 255 o8 sz) :
    (∀ b k, o = some b → o8 = some k → (b.size = 4 ∨ b.size = 16) ∧ k ≤ 255 ∧ t = adT b ++ 47 :: Lib.decDigits k) ∧ (∀ b k, (b.size = 4 ∨ b.size = 16) → k ≤ 255 → t = adT b ++ 47 :: Lib.decDigits k → o = some b ∧ o8 = some k) := by
  refine ⟨fun b k h1 h2 => ?_, fun b k h1 h2 h3 => ?_⟩
  · obtain ⟨q1, q2⟩ := ho.sound b h1
    obtain ⟨p1, p2⟩ := h8.sound k h2
    refine ⟨q1, p2, ?_⟩
    rcases cut_eq hc with ⟨_, _, h3⟩ | ⟨_, _, _, h4⟩
    · rw [h3, q2, p1]
    · rw [h4] at p1; exact absurd p1.symm (dec_ne k)
  · obtain ⟨q1, q2⟩ := cut_at hc (adT_free m47 (by decide) (by decide) b h1) h3
    exact ⟨ho.full b h1 q1, h8.full k h2 q2⟩
/-- What the reader answers. -/
def RpA (l : List UInt8) (e : Ending) : Prop :=
  ∃ (f : Int) (r : Nat) (b : ByteArray) (k : Nat) (ok : Bool), k < 256 ∧ r < 18446744073709551616 ∧ e = .returned (.tuple #[.agg #[.int .i64 f, .int .u64 (r : Int), .string b, .int .i64 (k : Int)], .bool ok]) ∧
    (ok = true → ∃ n : Nat, f = n ∧ VP n r b k ∧ l = pfT n r b k) ∧ (ok = false → ∀ n r' b' k', VP n r' b' k' → l ≠ pfT n r' b' k')
theorem rpA_no {l : List UInt8} (h : ∀ n r' b' k', VP n r' b' k' → l ≠ pfT n r' b' k') : RpA l (.returned (.tuple #[.agg #[.int .i64 0, .int .u64 0, .string ⟨#[]⟩, .int .i64 0], .bool false])) :=
  ⟨0, 0, ⟨#[]⟩, 0, false, by omega, by omega, rfl, (fun h => by cases h), fun _ => h⟩
/-- The head of a prefix' text. -/
theorem pf_head {l nm rest : List UInt8} {m : Bool} (hc : Lib.cut l [32] = (nm, rest, m)) {n r : Nat} {b : ByteArray} {k : Nat} (h : VP n r b k) (e : l = pfT n r b k) :
    famOf nm = n ∧ (n < 4 → rest = adT b ++ 47 :: Lib.decDigits k) ∧ (¬ n < 4 → rest = Lib.decDigits r ++ 32 :: (adT b ++ 47 :: Lib.decDigits k)) := by
  obtain ⟨q1, q2⟩ := fam_of_name n h.f1 h.f5
  by_cases hl : n < 4
  · rw [pfT_low hl] at e
    obtain ⟨rfl, rfl⟩ := cut_at hc q2 e
    exact ⟨q1, fun _ => rfl, fun h => absurd hl h⟩
  · rw [pfT_high hl] at e
    obtain ⟨rfl, rfl⟩ := cut_at hc q2 e
    exact ⟨q1, fun h => absurd h hl, fun _ => rfl⟩
theorem rp_zero {l nm rest : List UInt8} {m : Bool} (hc : Lib.cut l [32] = (nm, rest, m)) (h0 : famOf nm = 0) : ∀ n r' b' k', VP n r' b' k' → l ≠ pfT n r' b' k' := fun n r b k h e => by
  have := (pf_head hc h e).1
  have := h.f1
  omega
theorem rp_rd {l nm rest wd bh : List UInt8} {m m2 : Bool} (hc : Lib.cut l [32] = (nm, rest, m)) (hf : 4 ≤ famOf nm) (hc2 : Lib.cut rest [32] = (wd, bh, m2)) (hr : RdP Lib.decDigits 18446744073709551615 none wd) : ∀ n r' b' k', VP n r' b' k' → l ≠ pfT n r' b' k' := fun n r b k h e => by
  obtain ⟨q1, _, q3⟩ := pf_head hc h e
  have h3 := q3 (by omega)
  obtain ⟨e1, _⟩ := cut_at hc2 (dfree m32 r) h3
  have := hr.full r (by have := h.r64; omega) e1
  cases this
/-- The end, for a family without distinguishers. -/
theorem rp_low {l nm rest ad sz : List UInt8} {m m3 : Bool} {n : Nat} {o : Option ByteArray} {o8 : Option Nat} (hc : Lib.cut l [32] = (nm, rest, m)) (hn : famOf nm = n) (h1 : 1 ≤ n) (h4 : n < 4)
    (hc3 : Lib.cut rest [47] = (ad, sz, m3)) (ho : AdP o ad) (h8 : RdP Lib.decDigits 255 o8 sz) :
    (∀ b k, o = some b → o8 = some k → VP n 0 b k ∧ l = pfT n 0 b k) ∧ ((o = none ∨ o8 = none) → ∀ n r' b' k', VP n r' b' k' → l ≠ pfT n r' b' k') := by
  obtain ⟨t1, t2⟩ := tail_of hc3 ho h8
  obtain ⟨n', p1, p2, p3, p4⟩ := fam_inv nm (by omega)
  obtain rfl : n' = n := by omega
  refine ⟨fun b k e1 e2 => ?_, fun h n2 r b k hv e => ?_⟩
  · obtain ⟨q1, q2, q3⟩ := t1 b k e1 e2
    refine ⟨⟨p1, p2, fun _ => rfl, q1, q2, by omega⟩, ?_⟩
    rw [pfT_low h4]
    rcases cut_eq hc with ⟨_, _, h3⟩ | ⟨_, _, _, h5⟩
    · rw [h3, p4, q3]
    · rw [h5] at q3
      exact absurd q3 (by simp)
  · obtain ⟨q1, q2, _⟩ := pf_head hc hv e
    obtain rfl : n2 = n' := by omega
    obtain ⟨g1, g2⟩ := t2 b k hv.ad hv.k8 (q2 h4)
    rcases h with h | h
    · rw [h] at g1; cases g1
    · rw [h] at g2; cases g2
theorem rp_high {l nm rest wd bh ad sz : List UInt8} {m m2 m3 : Bool} {n r : Nat} {o : Option ByteArray} {o8 : Option Nat} (hc : Lib.cut l [32] = (nm, rest, m)) (hn : famOf nm = n) (h4 : ¬ n < 4)
    (hc2 : Lib.cut rest [32] = (wd, bh, m2)) (hr : RdP Lib.decDigits 18446744073709551615 (some r) wd) (hc3 : Lib.cut bh [47] = (ad, sz, m3)) (ho : AdP o ad) (h8 : RdP Lib.decDigits 255 o8 sz) :
    (∀ b k, o = some b → o8 = some k → VP n r b k ∧ l = pfT n r b k) ∧ ((o = none ∨ o8 = none) → ∀ n r' b' k', VP n r' b' k' → l ≠ pfT n r' b' k') := by
  obtain ⟨t1, t2⟩ := tail_of hc3 ho h8
  obtain ⟨n', p1, p2, p3, p4⟩ := fam_inv nm (by omega)
  obtain rfl : n' = n := by omega
  obtain ⟨r1, r2⟩ := hr.sound r rfl
  refine ⟨fun b k e1 e2 => ?_, fun h n2 r' b k hv e => ?_⟩
  · obtain ⟨q1, q2, q3⟩ := t1 b k e1 e2
    refine ⟨⟨p1, p2, fun h => absurd h h4, q1, q2, by omega⟩, ?_⟩
    rw [pfT_high h4]
    rcases cut_eq hc2 with ⟨_, _, h3⟩ | ⟨_, _, _, h5⟩
    · rcases cut_eq hc with ⟨_, _, g3⟩ | ⟨_, _, _, g5⟩
      · rw [g3, p4, h3, r1, q3]
      · rw [g5] at h3
        exact absurd h3 (by simp)
    · rw [h5] at q3
      exact absurd q3 (by simp)
  · obtain ⟨q1, _, q2⟩ := pf_head hc hv e
    obtain rfl : n2 = n' := by omega
    obtain ⟨_, e4⟩ := cut_at hc2 (dfree m32 r') (q2 h4)
    obtain ⟨g1, g2⟩ := t2 b k hv.ad hv.k8 e4
    rcases h with h | h
    · rw [h] at g1; cases g1
    · rw [h] at g2; cases g2
end Go.Proofs.YtkgedoedojkdkaaDoor
