/-
  The program's reader of a prefix' text.
-/
import Derived.Test.YtkgedoedojkdkaaDoorTzM
import Derived.Test.YtkgedoedojkdkaaDoorTt
set_option linter.unusedVariables false
set_option linter.unusedSimpArgs false
set_option maxRecDepth 100000
namespace Go.Proofs.YtkgedoedojkdkaaDoor
theorem cut_eq {c : UInt8} {l x r : List UInt8} {m : Bool} (h : Lib.cut l [c] = (x, r, m)) : (m = true ∧ c ∉ x ∧ l = x ++ c :: r) ∨ (m = false ∧ c ∉ l ∧ x = l ∧ r = []) := by
  rcases cut_is c l with ⟨h1, h2⟩ | ⟨y, t, h1, h2, h3⟩
  · rw [h2] at h
    simp only [Prod.mk.injEq] at h
    obtain ⟨rfl, rfl, rfl⟩ := h
    exact Or.inr ⟨rfl, h1, rfl, rfl⟩
  · rw [h3] at h
    simp only [Prod.mk.injEq] at h
    obtain ⟨rfl, rfl, rfl⟩ := h
    exact Or.inl ⟨rfl, h1, h2⟩
theorem cut_at {c : UInt8} {l x r y t : List UInt8} {m : Bool} (h : Lib.cut l [c] = (x, r, m)) (hy : c ∉ y) (e : l = y ++ c :: t) : x = y ∧ r = t := by
  rcases cut_eq h with ⟨_, h2, h3⟩ | ⟨_, h2, _, _⟩
  · exact head_inj c x y r t h2 hy (by rw [← h3, e])
  · exact absurd (by rw [e]; simp) h2
theorem fam_inv (l : List UInt8) (h : famOf l ≠ 0) : ∃ n : Nat, 1 ≤ n ∧ n ≤ 5 ∧ famOf l = n ∧ l = fwL.getD n [] := by
  unfold famOf at h ⊢
  by_cases h0 : ([] == l) = true
  · simp [h0] at h
  · by_cases h1 : ([118, 52] == l) = true
    · refine ⟨1, by omega, by omega, by simp [h0, h1], ?_⟩
      rw [← beq_iff_eq.1 h1]; rfl
    · by_cases h2 : ([118, 54] == l) = true
      · refine ⟨2, by omega, by omega, by simp [h0, h1, h2], ?_⟩
        rw [← beq_iff_eq.1 h2]; rfl
      · by_cases h3 : ([108, 52] == l) = true
        · refine ⟨3, by omega, by omega, by simp [h0, h1, h2, h3], ?_⟩
          rw [← beq_iff_eq.1 h3]; rfl
        · by_cases h4 : ([118, 112, 110, 52] == l) = true
          · refine ⟨4, by omega, by omega, by simp [h0, h1, h2, h3, h4], ?_⟩
            rw [← beq_iff_eq.1 h4]; rfl
          · by_cases h5 : ([118, 112, 110, 54] == l) = true
            · refine ⟨5, by omega, by omega, by simp [h0, h1, h2, h3, h4, h5], ?_⟩
              rw [← beq_iff_eq.1 h5]; rfl
            · simp [h0, h1, h2, h3, h4, h5] at h
theorem fam_of_name (n : Nat) (h1 : 1 ≤ n) (h2 : n ≤ 5) : famOf (fwL.getD n []) = n ∧ (32 : UInt8) ∉ fwL.getD n [] := by
  rcases (show n = 1 ∨ n = 2 ∨ n = 3 ∨ n = 4 ∨ n = 5 by omega) with rfl | rfl | rfl | rfl | rfl <;> exact ⟨by decide +kernel, by decide +kernel⟩
/-- Parts that may stand in a text. -/
structure VP (n r : Nat) (b : ByteArray) (k : Nat) : Prop where
  f1 : 1 ≤ n
  f5 : n ≤ 5
  rd : n < 4 → r = 0
  ad : b.size = 4 ∨ b.size = 16
  k8 : k ≤ 255
  r64 : r < 18446744073709551616
theorem joined_free {b : Nat} {D : Nat → List UInt8} (h : Digs b D) (hb : 2 ≤ b) (hb2 : b ≤ 16) {c d : UInt8} (hc : Mark c) (hcd : c ≠ d) (ns : List Nat) : c ∉ Lib.join (ns.map D) [d] := by
  intro hm
  by_cases hn : ns = []
  · subst hn; rw [List.map_nil, Lib.join_nil] at hm; simp at hm
  · obtain ⟨A, z, rfl⟩ := last_apart ns hn
    simp only [List.map_append, List.map_cons, List.map_nil] at hm
    rw [join_flat] at hm
    have hf := fun u => h.free hb hb2 hc u
    rcases List.mem_append.1 hm with e | e
    · unfold flat at e
      obtain ⟨x, hx, hm⟩ := List.mem_flatMap.1 e
      obtain ⟨n, _, rfl⟩ := List.mem_map.1 hx
      rcases List.mem_append.1 hm with q | q
      · exact hf n q
      · simp at q; exact hcd q
    · exact hf z e
theorem adT_free {c : UInt8} (hc : Mark c) (h1 : c ≠ 46) (h2 : c ≠ 58) (b : ByteArray) (hb : b.size = 4 ∨ b.size = 16) : c ∉ adT b := by
  rcases hb with h | h
  · obtain ⟨ns, p1, p2, rfl⟩ := of_four b h
    rw [adT_4 ns p1 p2]
    exact joined_free digs10 (by omega) (by omega) hc h1 ns
  · obtain ⟨ns, p1, p2, rfl⟩ := of_sixteen b h
    rw [adT_16 ns p1 p2]
    exact joined_free digs16 (by omega) (by omega) hc h2 ns
theorem adT_nonil (b : ByteArray) (hb : b.size = 4 ∨ b.size = 16) : adT b ≠ [] := by
  have hx : ∀ (x y : List UInt8) (r : List (List UInt8)) (c : UInt8), Lib.join (x :: y :: r) [c] ≠ [] := fun x y r c => by
    rw [Lib.join_cons]; simp [Lib.joinTail]
  rcases hb with h | h
  · obtain ⟨ns, p1, p2, rfl⟩ := of_four b h
    rw [adT_4 ns p1 p2]
    match ns, p1 with
    | [a, b, c, d], _ => exact hx _ _ _ _
  · obtain ⟨ns, p1, p2, rfl⟩ := of_sixteen b h
    rw [adT_16 ns p1 p2]
    match ns, p1 with
    | [a, b, c, d, e, f, g, h], _ => exact hx _ _ _ _
theorem adT_inj {b b' : ByteArray} (h : b.size = 4 ∨ b.size = 16) (h' : b'.size = 4 ∨ b'.size = 16) (e : adT b = adT b') : b = b' := by
  obtain ⟨o4, h4⟩ := sty_ex digs10 (by omega) (by omega) 255 4 (by omega) m46 (adT b)
  obtain ⟨o16, h16⟩ := sty_ex digs16 (by omega) (by omega) 65535 8 (by omega) m58 (adT b)
  have hA := ad_of h4 h16
  have e1 := hA.full b h rfl
  rw [hA.full b' h' e] at e1
  exact (Option.some.inj e1).symm
theorem dec_ne (u : Nat) : Lib.decDigits u ≠ [] := by
  have := Digs.ne digs10 (by omega) u
  intro h; rw [h] at this; simp at this
/-- The text's first cut, and what is behind. -/
def pfR (n r : Nat) (b : ByteArray) (k : Nat) : List UInt8 := adT b ++ 47 :: Lib.decDigits k
theorem pfT_low {n r : Nat} {b : ByteArray} {k : Nat} (h : n < 4) : pfT n r b k = fwL.getD n [] ++ 32 :: (adT b ++ 47 :: Lib.decDigits k) := by
  unfold pfT rdT
  rw [if_neg (by omega), Int.toNat_natCast]; simp
theorem pfT_high {n r : Nat} {b : ByteArray} {k : Nat} (h : ¬ n < 4) : pfT n r b k = fwL.getD n [] ++ 32 :: (Lib.decDigits r ++ 32 :: (adT b ++ 47 :: Lib.decDigits k)) := by
  unfold pfT rdT
  rw [if_pos (by omega), Int.toNat_natCast]; simp
theorem dfree {c : UInt8} (hc : Mark c) (u : Nat) : c ∉ Lib.decDigits u := digs10.free (by omega) (by omega) hc u
theorem pf_inj {n r : Nat} {b : ByteArray} {k : Nat} {n' r' : Nat} {b' : ByteArray} {k' : Nat} (h : VP n r b k) (h' : VP n' r' b' k') (e : pfT n r b k = pfT n' r' b' k') : n = n' ∧ r = r' ∧ b = b' ∧ k = k' := by
  have e0 : ∀ {n r : Nat} {b : ByteArray} {k : Nat}, ∃ t, pfT n r b k = fwL.getD n [] ++ 32 :: t := fun {n r b k} => by
    by_cases hn : n < 4
    · exact ⟨_, pfT_low hn⟩
    · exact ⟨_, pfT_high hn⟩
  obtain ⟨t, ht⟩ := @e0 n r b k
  obtain ⟨t', ht'⟩ := @e0 n' r' b' k'
  have h1 := head_inj 32 _ _ _ _ (fam_of_name n h.f1 h.f5).2 (fam_of_name n' h'.f1 h'.f5).2 (by rw [← ht, e, ht'])
  have hn : n = n' := by
    have q1 := (fam_of_name n h.f1 h.f5).1
    have q2 := (fam_of_name n' h'.f1 h'.f5).1
    rw [h1.1] at q1
    omega
  subst hn
  have tail : ∀ {b b' : ByteArray} {k k' : Nat}, (b.size = 4 ∨ b.size = 16) → (b'.size = 4 ∨ b'.size = 16) → adT b ++ 47 :: Lib.decDigits k = adT b' ++ 47 :: Lib.decDigits k' → b = b' ∧ k = k' := fun {b b' k k'} hb hb' q => by
    obtain ⟨q1, q2⟩ := head_inj 47 _ _ _ _ (adT_free m47 (by decide) (by decide) b hb) (adT_free m47 (by decide) (by decide) b' hb') q
    exact ⟨adT_inj hb hb' q1, digs10.inj (by omega) (by omega) q2⟩
  by_cases hl : n < 4
  · rw [pfT_low hl, pfT_low hl] at e
    have q := (head_inj 32 _ _ _ _ (fam_of_name n h.f1 h.f5).2 (fam_of_name n h.f1 h.f5).2 e).2
    obtain ⟨rfl, rfl⟩ := tail h.ad h'.ad q
    exact ⟨rfl, by rw [h.rd hl, h'.rd hl], rfl, rfl⟩
  · rw [pfT_high hl, pfT_high hl] at e
    have q := (head_inj 32 _ _ _ _ (fam_of_name n h.f1 h.f5).2 (fam_of_name n h.f1 h.f5).2 e).2
    obtain ⟨q1, q2⟩ := head_inj 32 _ _ _ _ (dfree m32 r) (dfree m32 r') q
    obtain ⟨rfl, rfl⟩ := tail h.ad h'.ad q2
    exact ⟨rfl, digs10.inj (by omega) (by omega) q1, rfl, rfl⟩
end Go.Proofs.YtkgedoedojkdkaaDoor
set_option linter.unusedVariables false
set_option linter.unusedSimpArgs false
set_option maxRecDepth 100000
namespace Go.Proofs.YtkgedoedojkdkaaDoor
open Go.RowKit
theorem lst_size (x : List UInt8) : (⟨x.toArray⟩ : ByteArray).size = x.length := List.size_toArray ..
theorem cutL (x : List UInt8) (c : UInt8) (hx : x.length < 140737488351233) (w : World) (hE : EnvE w) :
    Calls Tryd.prog 59 #[.string ⟨x.toArray⟩, .string ⟨#[c]⟩] w fun e w' => (∃ a b m, Lib.cut x [c] = (a, b, m) ∧ a.length ≤ x.length ∧ b.length ≤ x.length ∧ e = .returned (.tuple #[.string ⟨a.toArray⟩, .string ⟨b.toArray⟩, .bool m])) ∧ Below w.heap.size w w' := by
  have h := scut_c ⟨x.toArray⟩ c (by rw [lst_size]; exact hx) w
  rcases hq : Lib.cut x [c] with ⟨a, b, m⟩
  have hq' : Lib.cut (⟨x.toArray⟩ : ByteArray).data.toList [c] = (a, b, m) := hq
  rw [hq'] at h
  refine h.mono ?_
  rintro e w' ⟨rfl, n, rfl⟩
  refine ⟨⟨a, b, m, rfl, ?_, ?_, rfl⟩, below_drewN' (Below.refl _ _) n⟩
  · rcases cut_eq hq with ⟨_, _, h3⟩ | ⟨_, _, h3, h4⟩
    · rw [h3]; simp
    · rw [h3]; exact Nat.le_refl _
  · rcases cut_eq hq with ⟨_, _, h3⟩ | ⟨_, _, h3, h4⟩
    · rw [h3]; simp; omega
    · rw [h4]; simp
theorem rnL64 (x : List UInt8) (hx : x.length < 140737488351233) (w : World) (hE : EnvE w) :
    Calls Tryd.prog 61 #[.string ⟨x.toArray⟩, .int .i64 10, .int .i64 64] w fun e w' => (∃ o, RdP Lib.decDigits 18446744073709551615 o x ∧ e = .returned (RnV o)) ∧ Below w.heap.size w w' :=
  (rn64 ⟨x.toArray⟩ (by rw [lst_size]; omega) w hE.e hE.t.p).mono fun e w' ⟨h, hb⟩ => ⟨⟨_, rd64 x, h⟩, hb⟩
theorem rnL8 (x : List UInt8) (hx : x.length < 140737488351233) (w : World) (hE : EnvE w) :
    Calls Tryd.prog 61 #[.string ⟨x.toArray⟩, .int .i64 10, .int .i64 8] w fun e w' => (∃ o, RdP Lib.decDigits 255 o x ∧ e = .returned (RnV o)) ∧ Below w.heap.size w w' :=
  (rn8 ⟨x.toArray⟩ (by rw [lst_size]; omega) w hE.e hE.t.p).mono fun e w' ⟨h, hb⟩ => ⟨⟨_, rd8 x, h⟩, hb⟩
theorem addrL (x : List UInt8) (hx : x.length < 140737488351233) (w : World) (hE : EnvE w) :
    Calls Tryd.prog 26 #[.string ⟨x.toArray⟩] w fun e w' => (∃ o, AdP o x ∧ e = .returned (adV o)) ∧ Below w.heap.size w w' :=
  addr_any ⟨x.toArray⟩ (by rw [lst_size]; exact hx) w hE
theorem namedL (x : List UInt8) (w : World) (hE : EnvE w) :
    Calls Tryd.prog 60 #[.string ⟨x.toArray⟩] w fun e w' => e = .returned (.int .i64 (famOf x)) ∧ Below w.heap.size w w' := by
  have h := named_any ⟨x.toArray⟩ w hE.t.t
  rw [ByteArray.toList_eq] at h
  exact h
/-- What stands behind the name and the distinguisher. -/
theorem tail_of {t ad sz : List UInt8} {m : Bool} {o : Option ByteArray} {o8 : Option Nat} (hc : Lib.cut t [47] = (ad, sz, m)) (ho : AdP o ad) (h8 : RdP Lib.decDigits 255 o8 sz) :
    (∀ b k, o = some b → o8 = some k → (b.size = 4 ∨ b.size = 16) ∧ k ≤ 255 ∧ t = adT b ++ 47 :: Lib.decDigits k) ∧ (∀ b k, (b.size = 4 ∨ b.size = 16) → k ≤ 255 → t = adT b ++ 47 :: Lib.decDigits k → o = some b ∧ o8 = some k) := by
  refine ⟨fun b k h1 h2 => ?_, fun b k h1 h2 h3 => ?_⟩
  · obtain ⟨q1, q2⟩ := ho.sound b h1
    obtain ⟨p1, p2⟩ := h8.sound k h2
    refine ⟨q1, p2, ?_⟩
    rcases cut_eq hc with ⟨_, _, h3⟩ | ⟨_, _, _, h4⟩
    · rw [h3, q2, p1]
    · rw [h4] at p1; exact absurd p1.symm (dec_ne k)
  · obtain ⟨q1, q2⟩ := cut_at hc (adT_free m47 (by decide) (by decide) b h1) h3
    exact ⟨ho.full b h1 q1, h8.full k h2 q2⟩
/-- What the reader answers. -/
def RpA (l : List UInt8) (e : Ending) : Prop :=
  ∃ (f : Int) (r : Nat) (b : ByteArray) (k : Nat) (ok : Bool), k < 256 ∧ r < 18446744073709551616 ∧ e = .returned (.tuple #[.agg #[.int .i64 f, .int .u64 (r : Int), .string b, .int .i64 (k : Int)], .bool ok]) ∧
    (ok = true → ∃ n : Nat, f = n ∧ VP n r b k ∧ l = pfT n r b k) ∧ (ok = false → ∀ n r' b' k', VP n r' b' k' → l ≠ pfT n r' b' k')
theorem rpA_no {l : List UInt8} (h : ∀ n r' b' k', VP n r' b' k' → l ≠ pfT n r' b' k') : RpA l (.returned (.tuple #[.agg #[.int .i64 0, .int .u64 0, .string ⟨#[]⟩, .int .i64 0], .bool false])) :=
  ⟨0, 0, ⟨#[]⟩, 0, false, by omega, by omega, rfl, (fun h => by cases h), fun _ => h⟩
/-- The head of a prefix' text. -/
theorem pf_head {l nm rest : List UInt8} {m : Bool} (hc : Lib.cut l [32] = (nm, rest, m)) {n r : Nat} {b : ByteArray} {k : Nat} (h : VP n r b k) (e : l = pfT n r b k) :
    famOf nm = n ∧ (n < 4 → rest = adT b ++ 47 :: Lib.decDigits k) ∧ (¬ n < 4 → rest = Lib.decDigits r ++ 32 :: (adT b ++ 47 :: Lib.decDigits k)) := by
  obtain ⟨q1, q2⟩ := fam_of_name n h.f1 h.f5
  by_cases hl : n < 4
  · rw [pfT_low hl] at e
    obtain ⟨rfl, rfl⟩ := cut_at hc q2 e
    exact ⟨q1, fun _ => rfl, fun h => absurd hl h⟩
  · rw [pfT_high hl] at e
    obtain ⟨rfl, rfl⟩ := cut_at hc q2 e
    exact ⟨q1, fun h => absurd h hl, fun _ => rfl⟩
theorem rp_zero {l nm rest : List UInt8} {m : Bool} (hc : Lib.cut l [32] = (nm, rest, m)) (h0 : famOf nm = 0) : ∀ n r' b' k', VP n r' b' k' → l ≠ pfT n r' b' k' := fun n r b k h e => by
  have := (pf_head hc h e).1
  have := h.f1
  omega
theorem rp_rd {l nm rest wd bh : List UInt8} {m m2 : Bool} (hc : Lib.cut l [32] = (nm, rest, m)) (hf : 4 ≤ famOf nm) (hc2 : Lib.cut rest [32] = (wd, bh, m2)) (hr : RdP Lib.decDigits 18446744073709551615 none wd) : ∀ n r' b' k', VP n r' b' k' → l ≠ pfT n r' b' k' := fun n r b k h e => by
  obtain ⟨q1, _, q3⟩ := pf_head hc h e
  have h3 := q3 (by omega)
  obtain ⟨e1, _⟩ := cut_at hc2 (dfree m32 r) h3
  have := hr.full r (by have := h.r64; omega) e1
  cases this
/-- The end, for a family without distinguishers. -/
theorem rp_low {l nm rest ad sz : List UInt8} {m m3 : Bool} {n : Nat} {o : Option ByteArray} {o8 : Option Nat} (hc : Lib.cut l [32] = (nm, rest, m)) (hn : famOf nm = n) (h1 : 1 ≤ n) (h4 : n < 4)
    (hc3 : Lib.cut rest [47] = (ad, sz, m3)) (ho : AdP o ad) (h8 : RdP Lib.decDigits 255 o8 sz) :
    (∀ b k, o = some b → o8 = some k → VP n 0 b k ∧ l = pfT n 0 b k) ∧ ((o = none ∨ o8 = none) → ∀ n r' b' k', VP n r' b' k' → l ≠ pfT n r' b' k') := by
  obtain ⟨t1, t2⟩ := tail_of hc3 ho h8
  obtain ⟨n', p1, p2, p3, p4⟩ := fam_inv nm (by omega)
  obtain rfl : n' = n := by omega
  refine ⟨fun b k e1 e2 => ?_, fun h n2 r b k hv e => ?_⟩
  · obtain ⟨q1, q2, q3⟩ := t1 b k e1 e2
    refine ⟨⟨p1, p2, fun _ => rfl, q1, q2, by omega⟩, ?_⟩
    rw [pfT_low h4]
    rcases cut_eq hc with ⟨_, _, h3⟩ | ⟨_, _, _, h5⟩
    · rw [h3, p4, q3]
    · rw [h5] at q3
      exact absurd q3 (by simp)
  · obtain ⟨q1, q2, _⟩ := pf_head hc hv e
    obtain rfl : n2 = n' := by omega
    obtain ⟨g1, g2⟩ := t2 b k hv.ad hv.k8 (q2 h4)
    rcases h with h | h
    · rw [h] at g1; cases g1
    · rw [h] at g2; cases g2
theorem rp_high {l nm rest wd bh ad sz : List UInt8} {m m2 m3 : Bool} {n r : Nat} {o : Option ByteArray} {o8 : Option Nat} (hc : Lib.cut l [32] = (nm, rest, m)) (hn : famOf nm = n) (h4 : ¬ n < 4)
    (hc2 : Lib.cut rest [32] = (wd, bh, m2)) (hr : RdP Lib.decDigits 18446744073709551615 (some r) wd) (hc3 : Lib.cut bh [47] = (ad, sz, m3)) (ho : AdP o ad) (h8 : RdP Lib.decDigits 255 o8 sz) :
    (∀ b k, o = some b → o8 = some k → VP n r b k ∧ l = pfT n r b k) ∧ ((o = none ∨ o8 = none) → ∀ n r' b' k', VP n r' b' k' → l ≠ pfT n r' b' k') := by
  obtain ⟨t1, t2⟩ := tail_of hc3 ho h8
  obtain ⟨n', p1, p2, p3, p4⟩ := fam_inv nm (by omega)
  obtain rfl : n' = n := by omega
  obtain ⟨r1, r2⟩ := hr.sound r rfl
  refine ⟨fun b k e1 e2 => ?_, fun h n2 r' b k hv e => ?_⟩
  · obtain ⟨q1, q2, q3⟩ := t1 b k e1 e2
    refine ⟨⟨p1, p2, fun h => absurd h h4, q1, q2, by omega⟩, ?_⟩
    rw [pfT_high h4]
    rcases cut_eq hc2 with ⟨_, _, h3⟩ | ⟨_, _, _, h5⟩
    · rcases cut_eq hc with ⟨_, _, g3⟩ | ⟨_, _, _, g5⟩
      · rw [g3, p4, h3, r1, q3]
      · rw [g5] at h3
        exact absurd h3 (by simp)
    · rw [h5] at q3
      exact absurd q3 (by simp)
  · obtain ⟨q1, _, q2⟩ := pf_head hc hv e
    obtain rfl : n2 = n' := by omega
    obtain ⟨_, e4⟩ := cut_at hc2 (dfree m32 r') (q2 h4)
    obtain ⟨g1, g2⟩ := t2 b k hv.ad hv.k8 e4
    rcases h with h | h
    · rw [h] at g1; cases g1
    · rw [h] at g2; cases g2
end Go.Proofs.YtkgedoedojkdkaaDoor
