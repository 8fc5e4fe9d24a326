/-
  A prefix and an address reckoned out of a text.
-/
import Derived.Test.YtkgedoedojkdkabDoorTpc
set_option linter.unusedVariables false
set_option linter.unusedSimpArgs false
set_option maxRecDepth 100000
namespace Go.Proofs.YtkgedoedojkdkabDoor
def rdL (f : List UInt8 → Option Nat) : List (List UInt8) → Option (List Nat)
  | [] => some []
  | x :: r => match f x, rdL f r with
    | some n, some ns => some (n :: ns)
    | _, _ => none
theorem rdL_sound {f : List UInt8 → Option Nat} {D : Nat → List UInt8} {M : Nat} (hf : ∀ l, RdP D M (f l) l) : ∀ (P : List (List UInt8)) (ns : List Nat), rdL f P = some ns → P = ns.map D ∧ ∀ n ∈ ns, n ≤ M
  | [], ns, h => by
    obtain rfl := Option.some.inj h
    exact ⟨rfl, fun n h => by simp at h⟩
  | x :: P, ns, h => by
    simp only [rdL] at h
    cases h1 : f x with
    | none => rw [h1] at h; cases h
    | some n =>
      cases h2 : rdL f P with
      | none => rw [h1, h2] at h; cases h
      | some ms =>
        rw [h1, h2] at h
        obtain rfl := Option.some.inj h
        obtain ⟨q1, q2⟩ := rdL_sound hf P ms h2
        obtain ⟨p1, p2⟩ := (hf x).sound n h1
        refine ⟨by rw [List.map_cons, ← q1, ← p1], fun m hm => ?_⟩
        rcases List.mem_cons.1 hm with e | e
        · rw [e]; exact p2
        · exact q2 m e
theorem rdL_full {f : List UInt8 → Option Nat} {D : Nat → List UInt8} {M : Nat} (hf : ∀ l, RdP D M (f l) l) : ∀ (ns : List Nat), (∀ n ∈ ns, n ≤ M) → rdL f (ns.map D) = some ns
  | [], _ => rfl
  | n :: ns, h => by
    simp only [List.map_cons, rdL]
    rw [(hf (D n)).full n (h n (by simp)) rfl, rdL_full hf ns (fun m hm => h m (List.mem_cons_of_mem _ hm))]
def stC (f : List UInt8 → Option Nat) (c : UInt8) (cnt : Nat) (l : List UInt8) : Option (List Nat) := if (Lib.splitK [c] 0 cnt l).length = cnt then rdL f (Lib.splitK [c] 0 cnt l) else none
theorem stC_P {f : List UInt8 → Option Nat} {b : Nat} {D : Nat → List UInt8} (hD : Digs b D) (hb : 2 ≤ b) (hb2 : b ≤ 16) {M : Nat} (hf : ∀ l, RdP D M (f l) l) {c : UInt8} (hc : Mark c) (cnt : Nat) (h1 : 1 ≤ cnt) (l : List UInt8) : StyP D M cnt c l (stC f c cnt l) := by
  obtain ⟨A, z, e1, e2, e3, e4, e5⟩ := splitK_is c cnt l
  have hfree := fun u => hD.free hb hb2 hc u
  refine ⟨fun ns h => ?_, fun ns p1 p2 p3 => ?_⟩
  · unfold stC at h
    split at h
    · rename_i hl
      obtain ⟨q1, q2⟩ := rdL_sound hf _ ns h
      refine ⟨?_, q2, ?_⟩
      · have := congrArg List.length q1
        rw [List.length_map, hl] at this
        exact this.symm
      · rw [← q1, e1, join_flat]; exact e2
    · cases h
  · obtain ⟨B, y, rfl⟩ := last_apart ns (by intro e; rw [e] at p1; simp at p1; omega)
    have hs : Lib.splitK [c] 0 cnt l = (B ++ [y]).map D := by
      simp only [List.map_append, List.map_cons, List.map_nil] at p3 ⊢
      rw [join_flat] at p3
      rw [p3]
      exact splitK_back c cnt _ _ (free_map hfree B) (hfree y) (by simp at p1 ⊢; omega)
    unfold stC
    rw [hs, if_pos (by rw [List.length_map]; exact p1)]
    exact rdL_full hf _ p2
def adC (l : List UInt8) : Option ByteArray := adO (stC (fun l => rdN Lib.decDigits (o10 8 l) l) 46 4 l) (stC (fun l => rdN hexD (o16 l) l) 58 8 l)
theorem adC_P (l : List UInt8) : AdP (adC l) l := ad_of (stC_P digs10 (by omega) (by omega) (fun l => rd8 l) m46 4 (by omega) l) (stC_P digs16 (by omega) (by omega) (fun l => rd16 l) m58 8 (by omega) l)
def fin (f : Int) (r : Nat) (t : List UInt8) : Option (Int × Nat × ByteArray × Int) := match adC (Lib.cut t [47]).1, rdN Lib.decDigits (o10 8 (Lib.cut t [47]).2.1) (Lib.cut t [47]).2.1 with
  | some b, some k => if chk f r b k = 0 then some (f, r, b, (k : Int)) else none
  | _, _ => none
def pfC (l : List UInt8) : Option (Int × Nat × ByteArray × Int) :=
  if famOf (Lib.cut l [32]).1 = 0 then none
  else if famOf (Lib.cut l [32]).1 < 4 then fin (famOf (Lib.cut l [32]).1) 0 (Lib.cut l [32]).2.1
  else match rdN Lib.decDigits (o10 64 (Lib.cut (Lib.cut l [32]).2.1 [32]).1) (Lib.cut (Lib.cut l [32]).2.1 [32]).1 with
    | some r => fin (famOf (Lib.cut l [32]).1) r (Lib.cut (Lib.cut l [32]).2.1 [32]).2.1
    | none => none
theorem fin_P {l t : List UInt8} {n r : Nat} (H : ∀ (ad sz : List UInt8) (m3 : Bool) (o : Option ByteArray) (o8 : Option Nat), Lib.cut t [47] = (ad, sz, m3) → AdP o ad → RdP Lib.decDigits 255 o8 sz →
    (∀ b k, o = some b → o8 = some k → VP n r b k ∧ l = pfT n r b k) ∧ ((o = none ∨ o8 = none) → ∀ n r' b' k', VP n r' b' k' → l ≠ pfT n r' b' k')) : PfP (fin n r t) l := by
  obtain ⟨h1, h2⟩ := H (Lib.cut t [47]).1 (Lib.cut t [47]).2.1 (Lib.cut t [47]).2.2 _ _ rfl (adC_P _) (rd8 _)
  unfold fin
  cases ha : adC (Lib.cut t [47]).1 with
  | none => exact pfP_none (h2 (Or.inl ha))
  | some b =>
    cases h8 : rdN Lib.decDigits (o10 8 (Lib.cut t [47]).2.1) (Lib.cut t [47]).2.1 with
    | none => exact pfP_none (h2 (Or.inr h8))
    | some k =>
      obtain ⟨q1, q2⟩ := h1 b k ha h8
      simp only []
      split
      · rename_i hc
        exact pfP_some q1 q2 hc
      · rename_i hc
        exact pfP_bad q1 q2 hc
theorem pfC_P (l : List UInt8) : PfP (pfC l) l := by
  have hc : Lib.cut l [32] = ((Lib.cut l [32]).1, (Lib.cut l [32]).2.1, (Lib.cut l [32]).2.2) := rfl
  unfold pfC
  split
  · rename_i h0
    exact pfP_none (rp_zero hc h0)
  · rename_i h0
    obtain ⟨n, n1, n5, hn, _⟩ := fam_inv _ h0
    split
    · rename_i h4
      rw [hn]
      exact fin_P fun ad sz m3 o o8 hc3 ho h8 => rp_low hc hn n1 (by omega) hc3 ho h8
    · rename_i h4
      have hc2 : Lib.cut (Lib.cut l [32]).2.1 [32] = ((Lib.cut (Lib.cut l [32]).2.1 [32]).1, (Lib.cut (Lib.cut l [32]).2.1 [32]).2.1, (Lib.cut (Lib.cut l [32]).2.1 [32]).2.2) := rfl
      cases h64 : rdN Lib.decDigits (o10 64 (Lib.cut (Lib.cut l [32]).2.1 [32]).1) (Lib.cut (Lib.cut l [32]).2.1 [32]).1 with
      | none => exact pfP_none (rp_rd hc (by omega) hc2 (by rw [← h64]; exact rd64 _))
      | some r =>
        simp only []
        rw [hn]
        exact fin_P fun ad sz m3 o o8 hc3 ho h8 => rp_high hc hn (by omega) hc2 (by rw [← h64]; exact rd64 _) hc3 ho h8
end Go.Proofs.YtkgedoedojkdkabDoor
