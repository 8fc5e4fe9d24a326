/-
  A told prefix of bytes: what take answers.
-/
import Derived.Test.YtfhbgpepkplbaaaGreatDoorN6a
import Derived.Test.YtfhbgpepkplbaaaGreatDoorN6b
import Derived.Test.YtfhbgpepkplbaaaGreatDoorN6c
import Derived.Test.YtfhbgpepkplbaaaGreatDoorN6d
import Derived.Test.YtfhbgpepkplbaaaGreatDoorN6e
import Derived.Test.YtfhbgpepkplbaaaGreatDoorN6f
namespace Go.Proofs.YtfhbgpepkplbaaaGreatDoor
open Go.RowKit
/-- A told prefix. -/
structure Nl where
  f : Int
  r : Int
  s : ByteArray
  l : Int
  id : Int
  lb : Int
/-- How many bytes stand ahead of the address, the count's own behind the id. -/
def hdN (f : Int) (add : Bool) : Nat := idN add + 1 + lbN f + rdN f
/-- The count of bits that the first told prefix's bytes tell. -/
def bitI' (f : Int) (add : Bool) (l : List UInt8) : Int := (worth ((l.drop (idN add)).take 1) : Int) - exN f
def labV (f : Int) (add : Bool) (l : List UInt8) : Nat := worth ((l.drop (idN add + 1)).take (lbN f))
/-- Are these bytes, at their beginning, a told prefix's? -/
def okI (f : Int) (add : Bool) (l : List UInt8) : Prop :=
  idN add + 1 ≤ l.length ∧ 0 ≤ bitI' f add l ∧ bitI' f add l ≤ 8 * szOf f ∧ (hdN f add : Int) + byN (bitI' f add l) ≤ l.length ∧ (lbN f = 0 ∨ (labI (labV f add l)).2 = true)
/-- The first told prefix of bytes. -/
def nlI (f : Int) (add : Bool) (l : List UInt8) : Nl :=
  ⟨f, (worth ((l.drop (idN add + 1 + lbN f)).take (rdN f)) : Nat), ⟨(adr ((l.drop (hdN f add)).take (byN (bitI' f add l)).toNat) (bitI' f add l).toNat (szOf f).toNat).toArray⟩, bitI' f add l, (worth (l.take (idN add)) : Nat), ((labI (labV f add l)).1 : Nat)⟩
/-- The bytes behind it. -/
def restI (f : Int) (add : Bool) (l : List UInt8) : List UInt8 := l.drop (hdN f add + (byN (bitI' f add l)).toNat)
theorem tk_ok (n : Nat) (bad : Bool) (l : List UInt8) (h : n ≤ l.length) : tk n bad l = (l.take n, bad, l.drop n) := by
  unfold tk; rw [if_pos (by omega)]; simp
theorem tk_fail (n : Int) (bad : Bool) (l : List UInt8) (h : n < 0 ∨ (l.length : Int) < n) : tk n bad l = ([], true, l) := by
  unfold tk; rw [if_neg (by omega)]
theorem tk_sub {n : Int} {bad : Bool} {l m l' : List UInt8} {bad' : Bool} (h : tk n bad l = (m, bad', l')) : m.length ≤ l.length ∧ l'.length ≤ l.length := by
  unfold tk at h
  split at h
  · obtain ⟨rfl, h2⟩ := Prod.mk.inj h
    obtain ⟨_, rfl⟩ := Prod.mk.inj h2
    simp; omega
  · obtain ⟨rfl, h2⟩ := Prod.mk.inj h
    obtain ⟨_, rfl⟩ := Prod.mk.inj h2
    simp
/-- What take answers, whatever the bytes are. -/
theorem take_form (p : Nat) (f : Int) (add : Bool) (l : List UInt8) (w : World) (hr : RdrAt w p ⟨l.toArray⟩) (hle : l.length ≤ 1000000) :
    ∃ (ma mc md me le : List UInt8) (be : Bool) (bits : Int), (be = true ∧ ¬ okI f add l ∨ be = false ∧ okI f add l ∧ bits = bitI' f add l ∧ ma = l.take (idN add) ∧ mc = (l.drop (idN add + 1)).take (lbN f) ∧ md = (l.drop (idN add + 1 + lbN f)).take (rdN f) ∧ me = (l.drop (hdN f add)).take (byN bits).toNat ∧ le = restI f add l) ∧
      Calls Tryz.prog 44 #[shp f add, .pointer (some ⟨p, 0, none⟩)] w fun e w' => TakeOk p ma mc md me le f be bits w e w' := by
  rcases hA : tk (idN add) false l with ⟨ma, ba, la⟩
  rcases hB : tk 1 ba la with ⟨mb, bb, l2⟩
  generalize hbits : (worth mb : Int) - exN f = bits
  rcases hC : tk (lbN f) (bb || !(decide (0 ≤ bits) && decide (bits ≤ 8 * szOf f))) l2 with ⟨mc, bc, lc⟩
  rcases hD : tk (rdN f) (bc || !((labI (worth mc)).2 || decide (lbN f = 0))) lc with ⟨md, bd, ld⟩
  rcases hE : tk (byN bits) bd ld with ⟨me, be, le⟩
  have hml : me.length ≤ 1000000 := by
    have h1 := (tk_sub hA).2
    have h2 := (tk_sub hB).2
    have h3 := (tk_sub hC).2
    have h4 := (tk_sub hD).2
    have h5 := (tk_sub hE).1
    omega
  have key : (be = true ∧ ¬ okI f add l ∨ be = false ∧ okI f add l ∧ bits = bitI' f add l ∧ ma = l.take (idN add) ∧ mc = (l.drop (idN add + 1)).take (lbN f) ∧ md = (l.drop (idN add + 1 + lbN f)).take (rdN f) ∧ me = (l.drop (hdN f add)).take (byN bits).toNat ∧ le = restI f add l) := by
    by_cases c1 : idN add ≤ l.length
    · rw [tk_ok _ _ _ c1] at hA
      obtain ⟨rfl, rfl, rfl⟩ : l.take (idN add) = ma ∧ false = ba ∧ l.drop (idN add) = la := by simpa using hA
      by_cases c2 : idN add + 1 ≤ l.length
      · have hB' := tk_ok 1 false (l.drop (idN add)) (by simp; omega)
        rw [show ((1 : Nat) : Int) = 1 from rfl] at hB'
        rw [hB'] at hB
        obtain ⟨rfl, rfl, rfl⟩ : (l.drop (idN add)).take 1 = mb ∧ false = bb ∧ (l.drop (idN add)).drop 1 = l2 := by simpa using hB
        rw [List.drop_drop] at hC
        have hbe : bits = bitI' f add l := by unfold bitI'; omega
        by_cases c3 : 0 ≤ bits ∧ bits ≤ 8 * szOf f
        · rw [decide_eq_true c3.1, decide_eq_true c3.2] at hC
          simp only [Bool.and_self, Bool.not_true, Bool.or_false] at hC
          have hby : byN bits = ((byN bits).toNat : Int) := by rw [byN_eq _ c3.1]; omega
          by_cases c4 : lbN f ≤ (l.drop (idN add + 1)).length
          · rw [tk_ok _ _ _ c4] at hC
            obtain ⟨rfl, rfl, rfl⟩ : (l.drop (idN add + 1)).take (lbN f) = mc ∧ false = bc ∧ (l.drop (idN add + 1)).drop (lbN f) = lc := by simpa using hC
            rw [List.drop_drop] at hD
            by_cases c5 : lbN f = 0 ∨ (labI (labV f add l)).2 = true
            · have hc5 : ((labI (worth ((l.drop (idN add + 1)).take (lbN f)))).2 || decide (lbN f = 0)) = true := by
                rcases c5 with h | h
                · simp [h]
                · unfold labV at h; rw [h]; simp
              rw [hc5] at hD
              simp only [Bool.not_true, Bool.or_false] at hD
              by_cases c6 : rdN f ≤ (l.drop (idN add + 1 + lbN f)).length
              · rw [tk_ok _ _ _ c6] at hD
                obtain ⟨rfl, rfl, rfl⟩ : (l.drop (idN add + 1 + lbN f)).take (rdN f) = md ∧ false = bd ∧ (l.drop (idN add + 1 + lbN f)).drop (rdN f) = ld := by simpa using hD
                rw [List.drop_drop] at hE
                by_cases c7 : (byN bits).toNat ≤ (l.drop (hdN f add)).length
                · rw [hby, show idN add + 1 + lbN f + rdN f = hdN f add from rfl, tk_ok _ _ _ c7] at hE
                  obtain ⟨rfl, rfl, rfl⟩ : (l.drop (hdN f add)).take (byN bits).toNat = me ∧ false = be ∧ (l.drop (hdN f add)).drop (byN bits).toNat = le := by simpa using hE
                  refine Or.inr ⟨rfl, ⟨c2, by omega, by omega, ?_, c5⟩, hbe, rfl, rfl, rfl, rfl, ?_⟩
                  · rw [← hbe, hby]
                    simp only [List.length_drop] at c7
                    have : hdN f add ≤ l.length := by unfold hdN; simp only [List.length_drop] at c6 c4; omega
                    omega
                  · rw [restI, List.drop_drop, ← hbe]
                · rw [show idN add + 1 + lbN f + rdN f = hdN f add from rfl, tk_fail _ _ _ (Or.inr (by omega))] at hE
                  obtain ⟨_, rfl, _⟩ : [] = me ∧ true = be ∧ l.drop (hdN f add) = le := by simpa using hE
                  refine Or.inl ⟨rfl, fun h => ?_⟩
                  have := h.2.2.2.1
                  rw [← hbe, hby] at this
                  simp only [List.length_drop] at c7
                  omega
              · rw [tk_fail _ _ _ (Or.inr (by omega))] at hD
                obtain ⟨_, rfl, _⟩ : [] = md ∧ true = bd ∧ _ = ld := by simpa using hD
                refine Or.inl ⟨tk_sticky hE, fun h => ?_⟩
                have := h.2.2.2.1
                rw [← hbe, hby] at this
                unfold hdN at this
                simp only [List.length_drop] at c6
                omega
            · have hc5 : ((labI (worth ((l.drop (idN add + 1)).take (lbN f)))).2 || decide (lbN f = 0)) = false := by
                rw [not_or] at c5
                unfold labV at c5
                simp [c5.1, c5.2]
              rw [hc5] at hD
              simp only [Bool.not_false, Bool.or_true] at hD
              obtain rfl := tk_sticky hD
              exact Or.inl ⟨tk_sticky hE, fun h => c5 h.2.2.2.2⟩
          · rw [tk_fail _ _ _ (Or.inr (by omega))] at hC
            obtain ⟨_, rfl, _⟩ : [] = mc ∧ true = bc ∧ _ = lc := by simpa using hC
            simp only [Bool.true_or] at hD
            obtain rfl := tk_sticky hD
            refine Or.inl ⟨tk_sticky hE, fun h => ?_⟩
            have := h.2.2.2.1
            rw [← hbe, hby] at this
            unfold hdN at this
            simp only [List.length_drop] at c4
            omega
        · have : (decide (0 ≤ bits) && decide (bits ≤ 8 * szOf f)) = false := by
            by_cases h : 0 ≤ bits
            · have : ¬ bits ≤ 8 * szOf f := fun h2 => c3 ⟨h, h2⟩
              simp [this]
            · simp [h]
          rw [this] at hC
          simp only [Bool.not_false, Bool.or_true] at hC
          obtain rfl := tk_sticky hC
          simp only [Bool.true_or] at hD
          obtain rfl := tk_sticky hD
          exact Or.inl ⟨tk_sticky hE, fun h => c3 (by rw [hbe]; exact ⟨h.2.1, h.2.2.1⟩)⟩
      · rw [tk_fail _ _ _ (Or.inr (by simp; omega))] at hB
        obtain ⟨_, rfl, _⟩ : [] = mb ∧ true = bb ∧ _ = l2 := by simpa using hB
        simp only [Bool.true_or] at hC
        obtain rfl := tk_sticky hC
        simp only [Bool.true_or] at hD
        obtain rfl := tk_sticky hD
        exact Or.inl ⟨tk_sticky hE, fun h => c2 h.1⟩
    · rw [tk_fail _ _ _ (Or.inr (by omega))] at hA
      obtain ⟨_, rfl, _⟩ : [] = ma ∧ true = ba ∧ _ = la := by simpa using hA
      obtain rfl := tk_sticky hB
      simp only [Bool.true_or] at hC
      obtain rfl := tk_sticky hC
      simp only [Bool.true_or] at hD
      obtain rfl := tk_sticky hD
      exact Or.inl ⟨tk_sticky hE, fun h => by have := h.1; omega⟩
  refine ⟨ma, mc, md, me, le, be, bits, key, ?_⟩
  have hok : be = false → 0 ≤ bits ∧ bits ≤ 8 * szOf f := by
    intro h
    rcases key with k | k
    · rw [k.1] at h; exact absurd h (by decide)
    · rw [k.2.2.1]; exact ⟨k.2.1.2.1, k.2.1.2.2.1⟩
  by_cases g7 : 0 ≤ bits
  · by_cases g8 : (labI (worth mc)).2 = true
    · exact take_a p f add l ma la mb l2 mc lc md ld me le ba bb bc bd be bits w hr hA hB hbits hC hD hE hml g7 g8 hok
    · by_cases g9 : lbN f = 0
      · exact take_b p f add l ma la mb l2 mc lc md ld me le ba bb bc bd be bits w hr hA hB hbits hC hD hE hml g7 ⟨by simpa using g8, g9⟩ hok
      · exact take_c p f add l ma la mb l2 mc lc md ld me le ba bb bc bd be bits w hr hA hB hbits hC hD hE hml g7 ⟨by simpa using g8, g9⟩ hok
  · by_cases g8 : (labI (worth mc)).2 = true
    · exact take_d p f add l ma la mb l2 mc lc md ld me le ba bb bc bd be bits w hr hA hB hbits hC hD hE hml (by omega) g8 hok
    · by_cases g9 : lbN f = 0
      · exact take_e p f add l ma la mb l2 mc lc md ld me le ba bb bc bd be bits w hr hA hB hbits hC hD hE hml (by omega) ⟨by simpa using g8, g9⟩ hok
      · exact take_f p f add l ma la mb l2 mc lc md ld me le ba bb bc bd be bits w hr hA hB hbits hC hD hE hml (by omega) ⟨by simpa using g8, g9⟩ hok
theorem takeN_no (p : Nat) (f : Int) (add : Bool) (l : List UInt8) (w : World) (hr : RdrAt w p ⟨l.toArray⟩) (hle : l.length ≤ 1000000) (h : ¬ okI f add l) :
    Calls Tryz.prog 44 #[shp f add, .pointer (some ⟨p, 0, none⟩)] w fun e w' => e = .returned (.tuple #[.agg #[.int .i64 0, .int .u64 0, .string ⟨#[]⟩, .int .i64 0, .int .u32 0, .int .u32 0], .int .i64 4]) ∧ Beside p w w' := by
  obtain ⟨ma, mc, md, me, le, be, bits, k, hc⟩ := take_form p f add l w hr hle
  rcases k with ⟨rfl, _⟩ | ⟨_, k, _⟩
  · exact hc.mono fun e w' h => ⟨h.2, h.1⟩
  · exact absurd k h
theorem takeN_yes (p : Nat) (f : Int) (add : Bool) (l : List UInt8) (w : World) (hr : RdrAt w p ⟨l.toArray⟩) (hle : l.length ≤ 1000000) (h : okI f add l) :
    Calls Tryz.prog 44 #[shp f add, .pointer (some ⟨p, 0, none⟩)] w fun e w' => e = .returned (.tuple #[.agg #[.int .i64 0, .int .u64 (nlI f add l).r, .string (nlI f add l).s, .int .i64 (nlI f add l).l, .int .u32 (nlI f add l).id, .int .u32 (nlI f add l).lb], .int .i64 0]) ∧ RdrAt w' p ⟨(restI f add l).toArray⟩ ∧ Beside p w w' := by
  obtain ⟨ma, mc, md, me, le, be, bits, k, hc⟩ := take_form p f add l w hr hle
  rcases k with ⟨_, k⟩ | ⟨rfl, _, rfl, rfl, rfl, rfl, rfl, rfl⟩
  · exact absurd h k
  · exact hc.mono fun e w' h => ⟨h.2.1, h.2.2, h.1⟩
end Go.Proofs.YtfhbgpepkplbaaaGreatDoor
