/-
  The bytes of an open that may be are read as it.
-/
import Derived.Test.YtfhapjhkjdifjaaGreatDoorN1
set_option linter.unusedVariables false
set_option linter.unusedSimpArgs false
namespace Go.Proofs.YtfhapjhkjdifjaaGreatDoor
open Go.RowKit
theorem laid1 (v : Nat) : laid v 1 = [byteAt v 0] := rfl
theorem byteAt0 {v : Nat} (h : v < 256) : (byteAt v 0).toNat = v := by
  unfold byteAt
  rw [UInt8.toNat_ofNat']
  simp
  omega
theorem pcL_cons (c : Nat) (v : List UInt8) : pcL c v = byteAt c 0 :: byteAt v.length 0 :: v := rfl
theorem runL_pc (step : Opn → Nat → List UInt8 → Except Nat Opn) (c : Nat) (v rest : List UInt8) (o o' : Opn) (hc : c < 256) (hv : v.length < 256) (hs : step o c v = .ok o') : runL step (pcL c v ++ rest) o = runL step rest o' := by
  rw [pcL_cons]
  have hn : (byteAt v.length 0).toNat = v.length := byteAt0 hv
  have h := runL_ok step (byteAt c 0) (byteAt v.length 0) (v ++ rest) o o' (by rw [hn]; simp) (by rw [hn, byteAt0 hc, List.take_left' rfl]; exact hs)
  rw [hn, List.drop_left' rfl] at h
  exact h
/-- One above all that is there is put at the end. -/
theorem plA_end {α : Type} (key : α → Int) (A : List α) (e : α) (h : ∀ x ∈ A, key x < key e) : plA key A e = A ++ [e] := by
  unfold plA
  rw [List.filter_eq_self.2 (fun x hx => by simpa using h x hx), List.filter_eq_nil_iff.2 (fun x hx => by have := h x hx; simp; omega)]
theorem fam4_of {f : Int} (h : isF f = true) : fam4 (laid (afN f) 2 ++ laid (sfN f) 2) = f := by
  rcases isF_cases h with rfl | rfl | rfl | rfl | rfl <;> decide +kernel
theorem worth4_ent (a s n : Nat) (ha : a < 65536) (hs : s < 256) (hn : n < 256) : worth (laid a 2 ++ laid s 1 ++ laid n 1) = a * 65536 + s * 256 + n := by
  have h1 : worth (laid a 2 ++ laid s 1 ++ laid n 1) = (worth (laid a 2) * 256 + (byteAt s 0).toNat) * 256 + (byteAt n 0).toNat := by
    rw [laid1 s, laid1 n, worth_snoc, worth_snoc]
  rw [h1, worth_laid, byteAt0 hs, byteAt0 hn, Nat.mod_eq_of_lt (by omega)]
  omega
theorem ent_of {f : Int} {n : Nat} (rest : List UInt8) (h : isF f = true) (hn : n < 256) : ent4 (entL f n ++ rest) = f ∧ entB (entL f n ++ rest) = n := by
  have ha := afN_bd f
  have hs := sfN_bd f
  have ht : (entL f n ++ rest).take 4 = entL f n := List.take_left' (entL_length f n)
  unfold ent4 entB
  rw [ht]
  unfold entL
  rw [worth4_ent _ _ _ ha hs hn]
  refine ⟨?_, by omega⟩
  rw [show (afN f * 65536 + sfN f * 256 + n) / 65536 = afN f by omega, show (afN f * 65536 + sfN f * 256 + n) / 256 % 256 = sfN f by omega]
  rcases isF_cases h with rfl | rfl | rfl | rfl | rfl <;> decide +kernel
theorem entsL_ent (st : Opn → Int → Nat → Opn) (f : Int) (n : Nat) (rest : List UInt8) (o : Opn) (h : isF f = true) (hn : n < 256) : entsL st (entL f n ++ rest) o = entsL st rest (st o f n) := by
  rw [entsL_go st _ _ (by simp [entL_length]), List.drop_left' (entL_length f n), (ent_of rest h hn).1, (ent_of rest h hn).2, if_neg (by have := isF_bd h; omega)]
theorem ris_lt {A B : List Int} {f : Int} (h : risF 0 (A ++ f :: B) = true) : isF f = true ∧ ∀ x ∈ A, x < f := by
  obtain ⟨h1, h2⟩ := (risF_iff 0 _).1 h
  refine ⟨(h2 f (by simp)).1, fun x hx => ?_⟩
  exact (List.pairwise_append.1 h1).2.2 x hx f (by simp)
theorem run_fams (L : List Int) : ∀ (A : List Int) (rest : List UInt8) (o : Opn), risF 0 (A ++ L) = true → runL stepC (fcL L ++ rest) { o with fams := A } = runL stepC rest { o with fams := A ++ L } := by
  induction L with
  | nil => intro A rest o _; simp [fcL]
  | cons f L ih =>
    intro A rest o h
    obtain ⟨hf, hl⟩ := ris_lt h
    have hv : (laid (afN f) 2 ++ laid (sfN f) 2).length = 4 := by simp [laid_length]
    have hs : stepC { o with fams := A } 1 (laid (afN f) 2 ++ laid (sfN f) 2) = .ok { o with fams := A ++ [f] } := by
      unfold stepC
      rw [hv, if_neg (by decide), if_pos rfl]
      unfold famsI
      rw [fam4_of hf, if_neg (by have := isF_bd hf; omega), plA_end id A f hl]
    have e1 : fcL (f :: L) ++ rest = pcL 1 (laid (afN f) 2 ++ laid (sfN f) 2) ++ (fcL L ++ rest) := by simp [fcL, fcP]
    rw [e1, runL_pc stepC 1 _ _ _ _ (by omega) (by omega) hs, ih (A ++ [f]) rest o (by simpa using h)]
    simp
theorem ents_kept (L : List Kp) : ∀ (A : List Kp) (o : Opn), risF 0 ((A ++ L).map (·.f)) = true → entsL stK (kpL L) { o with kept := A } = { o with kept := A ++ L } := by
  induction L with
  | nil => intro A o _; rw [List.append_nil]; exact entsL_stop _ _ _ (by simp [kpL])
  | cons k L ih =>
    intro A o h
    rw [List.map_append, List.map_cons] at h
    obtain ⟨hf, hl⟩ := ris_lt h
    have hn : kpN k < 256 := by unfold kpN; split <;> omega
    have e1 : kpL (k :: L) = entL k.f (kpN k) ++ kpL L := by simp [kpL]
    have hs : stK { o with kept := A } k.f (kpN k) = { o with kept := A ++ [k] } := by
      unfold stK
      have hk : (⟨k.f, decide (128 ≤ kpN k)⟩ : Kp) = k := by
        obtain ⟨f, b⟩ := k
        cases b <;> simp [kpN]
      rw [hk, plA_end _ A k (fun x hx => hl x.f (List.mem_map.2 ⟨x, hx, rfl⟩))]
    rw [e1, entsL_ent _ _ _ _ _ hf hn, hs, ih (A ++ [k]) o (by rw [List.append_assoc, List.map_append]; simpa using h)]
    simp
theorem ents_adds (L : List Ad) : ∀ (A : List Ad) (o : Opn), risF 0 ((A ++ L).map (·.f)) = true → (∀ x ∈ L, idleB x = false) → entsL stA (adL L) { o with adds := A } = { o with adds := A ++ L } := by
  induction L with
  | nil => intro A o _ _; rw [List.append_nil]; exact entsL_stop _ _ _ (by simp [adL])
  | cons k L ih =>
    intro A o h hz
    rw [List.map_append, List.map_cons] at h
    obtain ⟨hf, hl⟩ := ris_lt h
    have hn : adN k < 256 := by unfold adN; split <;> split <;> omega
    have e1 : adL (k :: L) = entL k.f (adN k) ++ adL L := by simp [adL]
    have hzk := hz k (by simp)
    have hs : stA { o with adds := A } k.f (adN k) = { o with adds := A ++ [k] } := by
      have hk : (1 ≤ adN k ∧ adN k ≤ 3) ∧ (⟨k.f, decide (adN k / 2 % 2 = 1), decide (adN k % 2 = 1)⟩ : Ad) = k := by
        obtain ⟨f, s, t⟩ := k
        cases s <;> cases t <;> simp [adN, idleB] at hzk ⊢
      unfold stA
      rw [if_pos hk.1, hk.2, plA_end _ A k (fun x hx => hl x.f (List.mem_map.2 ⟨x, hx, rfl⟩))]
    rw [e1, entsL_ent _ _ _ _ _ hf hn, hs, ih (A ++ [k]) o (by rw [List.append_assoc, List.map_append]; simpa using h) (fun x hx => hz x (by simp [hx]))]
    simp
end Go.Proofs.YtfhapjhkjdifjaaGreatDoor
