/-
  Terms come back from their texts: the walk.
-/
import Derived.Test.YthaebbmekonacaaGreatDoorRCz
import Derived.Test.YthaebbmekonacaaGreatDoorRAz
import Derived.Test.YthaebbmekonacaaGreatDoorPWF
import Derived.Test.YthaebbmekonacaaGreatDoorRTM
import Derived.Test.YthaebbmekonacaaGreatDoorS2
import Derived.Deep.RegionHeld
import Derived.BigQuiet
set_option linter.unusedVariables false
set_option linter.unusedSimpArgs false
set_option maxRecDepth 100000
namespace Go.Proofs.YthaebbmekonacaaGreatDoor
open Go.RowKit
theorem empty_of {s : ByteArray} (h : s.toList = []) : s = ⟨#[]⟩ := by
  rw [ByteArray.toList_eq] at h
  apply ByteArray.ext
  apply Array.toList_inj.1
  exact h
set_option maxHeartbeats 1000000 in
theorem readC_ok (c : Cd) (hc : okC c = true) (pl ps : Nat) (r : List (List UInt8)) (W0 X : World) (hX : Std0 W0 X pl ps) (hR : Rd X pl ps (wC c ++ r)) : Calls Tryz.prog 88 #[clo pl ps] X fun e w' => e = .returned (cdV c) ∧ Left X w' pl ps r := by
  obtain ⟨k, nt, nm, n⟩ := c
  rcases ok_kinds hc with ⟨hk, _, h0⟩ | ⟨hk, he, h1, h2⟩ | ⟨hk, he, h1, h2⟩ | ⟨hk, he, h1, h2⟩
  · dsimp only at hk h0
    subst h0
    rcases hk with rfl | rfl | rfl | rfl
    · cases nt
      · have q := readC1 nm.data.toList pl ps r W0 X hX (show Rd X pl ps ([112, 114, 101, 102, 105, 120] :: nm.data.toList :: r) from hR)
        rw [bytes_eta] at q
        exact q
      · have q := readC1n nm.data.toList pl ps r W0 X hX (show Rd X pl ps ([110, 111, 116] :: [112, 114, 101, 102, 105, 120] :: nm.data.toList :: r) from hR)
        rw [bytes_eta] at q
        exact q
    · cases nt
      · have q := readC2 nm.data.toList pl ps r W0 X hX (show Rd X pl ps ([99, 111, 109, 109] :: nm.data.toList :: r) from hR)
        rw [bytes_eta] at q
        exact q
      · have q := readC2n nm.data.toList pl ps r W0 X hX (show Rd X pl ps ([110, 111, 116] :: [99, 111, 109, 109] :: nm.data.toList :: r) from hR)
        rw [bytes_eta] at q
        exact q
    · cases nt
      · have q := readC3 nm.data.toList pl ps r W0 X hX (show Rd X pl ps ([112, 97, 116, 104] :: nm.data.toList :: r) from hR)
        rw [bytes_eta] at q
        exact q
      · have q := readC3n nm.data.toList pl ps r W0 X hX (show Rd X pl ps ([110, 111, 116] :: [112, 97, 116, 104] :: nm.data.toList :: r) from hR)
        rw [bytes_eta] at q
        exact q
    · cases nt
      · have q := readC4 nm.data.toList pl ps r W0 X hX (show Rd X pl ps ([112, 101, 101, 114] :: nm.data.toList :: r) from hR)
        rw [bytes_eta] at q
        exact q
      · have q := readC4n nm.data.toList pl ps r W0 X hX (show Rd X pl ps ([110, 111, 116] :: [112, 101, 101, 114] :: nm.data.toList :: r) from hR)
        rw [bytes_eta] at q
        exact q
  · dsimp only at hk he h1 h2
    subst hk
    obtain rfl := empty_of he
    rcases (show n = 0 ∨ n = 1 ∨ n = 2 by omega) with rfl | rfl | rfl
    · cases nt
      · exact readC5 [105, 103, 112] 0 (by decide) (by decide) (by decide +kernel) pl ps r W0 X hX (show Rd X pl ps ([111, 114, 105, 103, 105, 110] :: [105, 103, 112] :: r) from hR)
      · exact readC5n [105, 103, 112] 0 (by decide) (by decide) (by decide +kernel) pl ps r W0 X hX (show Rd X pl ps ([110, 111, 116] :: [111, 114, 105, 103, 105, 110] :: [105, 103, 112] :: r) from hR)
    · cases nt
      · exact readC5 [101, 103, 112] 1 (by decide) (by decide) (by decide +kernel) pl ps r W0 X hX (show Rd X pl ps ([111, 114, 105, 103, 105, 110] :: [101, 103, 112] :: r) from hR)
      · exact readC5n [101, 103, 112] 1 (by decide) (by decide) (by decide +kernel) pl ps r W0 X hX (show Rd X pl ps ([110, 111, 116] :: [111, 114, 105, 103, 105, 110] :: [101, 103, 112] :: r) from hR)
    · cases nt
      · exact readC5 [105, 110, 99, 111, 109, 112, 108, 101, 116, 101] 2 (by decide) (by decide) (by decide +kernel) pl ps r W0 X hX (show Rd X pl ps ([111, 114, 105, 103, 105, 110] :: [105, 110, 99, 111, 109, 112, 108, 101, 116, 101] :: r) from hR)
      · exact readC5n [105, 110, 99, 111, 109, 112, 108, 101, 116, 101] 2 (by decide) (by decide) (by decide +kernel) pl ps r W0 X hX (show Rd X pl ps ([110, 111, 116] :: [111, 114, 105, 103, 105, 110] :: [105, 110, 99, 111, 109, 112, 108, 101, 116, 101] :: r) from hR)
  · dsimp only at hk he h1 h2
    subst hk
    obtain rfl := empty_of he
    obtain ⟨m, rfl⟩ : ∃ m : Nat, n = (m : Int) := ⟨n.toNat, by omega⟩
    cases nt
    · exact readC6 (Lib.decDigits m) m (by omega) rfl pl ps r W0 X hX (show Rd X pl ps ([108, 101, 110, 103, 116, 104] :: Lib.decDigits m :: r) from hR)
    · exact readC6n (Lib.decDigits m) m (by omega) rfl pl ps r W0 X hX (show Rd X pl ps ([110, 111, 116] :: [108, 101, 110, 103, 116, 104] :: Lib.decDigits m :: r) from hR)
  · dsimp only at hk he h1 h2
    subst hk
    obtain rfl := empty_of he
    rcases (show n = 1 ∨ n = 2 ∨ n = 3 ∨ n = 4 ∨ n = 5 by omega) with rfl | rfl | rfl | rfl | rfl
    · cases nt
      · exact readC7 [118, 52] 1 (by decide) (by decide) (by decide +kernel) pl ps r W0 X hX (show Rd X pl ps ([102, 97, 109] :: [118, 52] :: r) from hR)
      · exact readC7n [118, 52] 1 (by decide) (by decide) (by decide +kernel) pl ps r W0 X hX (show Rd X pl ps ([110, 111, 116] :: [102, 97, 109] :: [118, 52] :: r) from hR)
    · cases nt
      · exact readC7 [118, 54] 2 (by decide) (by decide) (by decide +kernel) pl ps r W0 X hX (show Rd X pl ps ([102, 97, 109] :: [118, 54] :: r) from hR)
      · exact readC7n [118, 54] 2 (by decide) (by decide) (by decide +kernel) pl ps r W0 X hX (show Rd X pl ps ([110, 111, 116] :: [102, 97, 109] :: [118, 54] :: r) from hR)
    · cases nt
      · exact readC7 [108, 52] 3 (by decide) (by decide) (by decide +kernel) pl ps r W0 X hX (show Rd X pl ps ([102, 97, 109] :: [108, 52] :: r) from hR)
      · exact readC7n [108, 52] 3 (by decide) (by decide) (by decide +kernel) pl ps r W0 X hX (show Rd X pl ps ([110, 111, 116] :: [102, 97, 109] :: [108, 52] :: r) from hR)
    · cases nt
      · exact readC7 [118, 112, 110, 52] 4 (by decide) (by decide) (by decide +kernel) pl ps r W0 X hX (show Rd X pl ps ([102, 97, 109] :: [118, 112, 110, 52] :: r) from hR)
      · exact readC7n [118, 112, 110, 52] 4 (by decide) (by decide) (by decide +kernel) pl ps r W0 X hX (show Rd X pl ps ([110, 111, 116] :: [102, 97, 109] :: [118, 112, 110, 52] :: r) from hR)
    · cases nt
      · exact readC7 [118, 112, 110, 54] 5 (by decide) (by decide) (by decide +kernel) pl ps r W0 X hX (show Rd X pl ps ([102, 97, 109] :: [118, 112, 110, 54] :: r) from hR)
      · exact readC7n [118, 112, 110, 54] 5 (by decide) (by decide) (by decide +kernel) pl ps r W0 X hX (show Rd X pl ps ([110, 111, 116] :: [102, 97, 109] :: [118, 112, 110, 54] :: r) from hR)
theorem rdsC (L : List Cd) (h : ∀ c ∈ L, okC c = true) (W0 : World) (pl ps : Nat) : RdsC W0 pl ps (L.map wC) L := fun k hk hk' X r hX hR => by
  rw [List.getElem_map] at hR
  exact readC_ok L[k] (h _ (List.getElem_mem hk)) pl ps r W0 X hX hR
theorem dig_not (n : Nat) : ¬ (Lib.decDigits n = []) := digits_ne n
theorem com_not (n : Nat) : ¬ (comT n = []) := by
  unfold comT
  split
  · simp
  split
  · simp
  split
  · simp
  · simp
theorem adT_not (b : ByteArray) (h : b.size = 4 ∨ b.size = 16) : ¬ (adT b = []) := by
  rcases h with h | h
  · obtain ⟨ns, h1, h2, rfl⟩ := Ad.of_four b h
    rw [Ad.adT_4 ns h1 h2]
    match ns, h1 with
    | [a, b, c, d], _ => simp [Lib.join]
  · obtain ⟨ns, h1, h2, rfl⟩ := Ad.of_sixteen b h
    rw [Ad.adT_16 ns h1 h2]
    match ns, h1 with
    | [a, b, c, d, e, f, g, i], _ => simp [Lib.join]
theorem name_not {s : ByteArray} (h : nameB s = true) : ¬ (s.data.toList = []) := fun e => by
  have : s = ⟨#[]⟩ := by apply ByteArray.ext; apply Array.toList_inj.1; exact e
  subst this
  revert h
  decide +kernel
set_option maxHeartbeats 1000000 in
theorem readA_ok (a : Ac) (ha : okA' a = true) (hn : a.n < 4294967296) (pl ps : Nat) (r : List (List UInt8)) (W0 X : World) (hE : ErrsAt W0) (hX : Std0 W0 X pl ps) (hR : Rd X pl ps (wA a ++ r)) : Calls Tryz.prog 91 #[clo pl ps] X fun e w' => e = .returned (acV a) ∧ Left X w' pl ps r := by
  obtain ⟨k, nm, n, ad⟩ := a
  rcases okA_kinds ha with ⟨hk, e1, e2, e3⟩ | ⟨hk, e1, e3⟩ | ⟨hk, e2, e3, e1⟩ | ⟨hk, e1, e2, e3⟩ | ⟨hk, e1, e3, e2⟩
  · dsimp only at hk e1 e2 e3
    obtain rfl := empty_of e1
    obtain rfl := empty_of e3
    subst e2
    rcases hk with rfl | rfl | rfl
    · exact readA1 pl ps r W0 X hX (show Rd X pl ps ([97, 99, 99, 101, 112, 116] :: r) from hR)
    · exact readA2 pl ps r W0 X hX (show Rd X pl ps ([114, 101, 106, 101, 99, 116] :: r) from hR)
    · exact readA5 pl ps r W0 X hX (show Rd X pl ps ([110, 111, 45, 109, 101, 100] :: r) from hR)
  · dsimp only at hk e1 e3 hn
    obtain rfl := empty_of e1
    obtain rfl := empty_of e3
    rcases hk with rfl | rfl | rfl | rfl
    · have e : wA ⟨3, ⟨#[]⟩, n, ⟨#[]⟩⟩ = [[112, 114, 101, 102], Lib.decDigits n] := by show _ :: (if Lib.decDigits n = [] then _ else _) = _; rw [if_neg (dig_not n)]; rfl
      rw [e] at hR
      exact readA3 (Lib.decDigits n) n hn rfl pl ps r W0 X hX hR
    · have e : wA ⟨4, ⟨#[]⟩, n, ⟨#[]⟩⟩ = [[109, 101, 100], Lib.decDigits n] := by show _ :: (if Lib.decDigits n = [] then _ else _) = _; rw [if_neg (dig_not n)]; rfl
      rw [e] at hR
      exact readA4 (Lib.decDigits n) n hn rfl pl ps r W0 X hX hR
    · have e : wA ⟨6, ⟨#[]⟩, n, ⟨#[]⟩⟩ = [[97, 100, 100], comT n] := by show _ :: (if comT n = [] then _ else _) = _; rw [if_neg (com_not n)]; rfl
      rw [e] at hR
      exact readA6 (comT n) n hn rfl pl ps r W0 X hX hR
    · have e : wA ⟨8, ⟨#[]⟩, n, ⟨#[]⟩⟩ = [[112, 114, 101, 112, 101, 110, 100], Lib.decDigits n] := by show _ :: (if Lib.decDigits n = [] then _ else _) = _; rw [if_neg (dig_not n)]; rfl
      rw [e] at hR
      exact readA8 (Lib.decDigits n) n hn rfl pl ps r W0 X hX hR
  · dsimp only at hk e1 e2 e3
    obtain rfl := empty_of e3
    subst e2 hk
    have e : wA ⟨7, nm, 0, ⟨#[]⟩⟩ = [[100, 101, 108], nm.data.toList] := by show _ :: (if nm.data.toList = [] then _ else _) = _; rw [if_neg (name_not e1)]; rfl
    rw [e] at hR
    have q := readA7 nm.data.toList pl ps r W0 X hX hR
    rw [bytes_eta] at q
    exact q
  · dsimp only at hk e1 e2 e3
    obtain rfl := empty_of e1
    subst e2 hk
    have e : wA ⟨9, ⟨#[]⟩, 0, ad⟩ = [[110, 101, 120, 116], adT ad] := by show _ :: (if adT ad = [] then _ else _) = _; rw [if_neg (adT_not ad e3)]; rfl
    rw [e] at hR
    exact readA9 (adT ad) ad e3 rfl pl ps r W0 X hX hE hR
  · dsimp only at hk e1 e2 e3
    obtain rfl := empty_of e1
    obtain rfl := empty_of e3
    subst hk
    rcases (show n = 0 ∨ n = 1 ∨ n = 2 by omega) with rfl | rfl | rfl
    · exact readA10 [105, 103, 112] 0 (by decide) (by decide) (by decide +kernel) pl ps r W0 X hX (show Rd X pl ps ([111, 114, 105, 103, 105, 110] :: [105, 103, 112] :: r) from hR)
    · exact readA10 [101, 103, 112] 1 (by decide) (by decide) (by decide +kernel) pl ps r W0 X hX (show Rd X pl ps ([111, 114, 105, 103, 105, 110] :: [101, 103, 112] :: r) from hR)
    · exact readA10 [105, 110, 99, 111, 109, 112, 108, 101, 116, 101] 2 (by decide) (by decide) (by decide +kernel) pl ps r W0 X hX (show Rd X pl ps ([111, 114, 105, 103, 105, 110] :: [105, 110, 99, 111, 109, 112, 108, 101, 116, 101] :: r) from hR)
theorem rdsA (L : List Ac) (h : ∀ c ∈ L, okA' c = true) (hn : ∀ c ∈ L, c.n < 4294967296) (W0 : World) (hE : ErrsAt W0) (pl ps : Nat) : RdsA W0 pl ps (L.map wA) L := fun k hk hk' X r hX hR => by
  rw [List.getElem_map] at hR
  exact readA_ok L[k] (h _ (List.getElem_mem hk)) (hn _ (List.getElem_mem hk)) pl ps r W0 X hE hX hR
end Go.Proofs.YthaebbmekonacaaGreatDoor
set_option linter.unusedVariables false
set_option linter.unusedSimpArgs false
set_option maxRecDepth 100000
namespace Go.Proofs.YthaebbmekonacaaGreatDoor
open Go.RowKit
theorem TsAt.one {w : World} {b : Nat} {vc va : Value} {T : Tm} (h0 : w.cell? ⟨b, 0, none⟩ = some vc) (h1 : w.cell? ⟨b, 1, none⟩ = some va) (hc : CdAt w vc T.cs) (ha : AcAt w va T.acs) : TsAt w (.slice (some ⟨b, 0, none⟩) 1 1) [T] := by
  refine ⟨_, b, 0, 1, rfl, Or.inl rfl, Nat.le_refl _, fun j hj => ?_⟩
  obtain rfl : j = 0 := by simpa using hj
  exact ⟨vc, va, h0, h1, hc, ha⟩
set_option maxHeartbeats 2000000 in
theorem same_one (u v : Value) (T : Tm) (w : World) (hu : TmAt w u T) (hv : TmAt w v T) (hl : LenT T) : Calls Tryz.prog 27 #[u, v] w fun e w' => e = .returned (.bool true) ∧ Below w.heap.size w w' := by
  obtain ⟨uc, ua, rfl, huc, hua⟩ := hu
  obtain ⟨vc, va, rfl, hvc, hva⟩ := hv
  obtain ⟨x1, y1, e1⟩ := huc.len
  obtain ⟨x2, y2, e2⟩ := hua.len
  obtain ⟨x3, y3, e3⟩ := hvc.len
  obtain ⟨x4, y4, e4⟩ := hva.len
  subst e1 e2 e3 e4
  have HUC : Hid (CdAt w (.slice x1 T.cs.length y1) T.cs) := huc
  have HUA : Hid (AcAt w (.slice x2 T.acs.length y2) T.acs) := hua
  have HVC : Hid (CdAt w (.slice x3 T.cs.length y3) T.cs) := hvc
  have HVA : Hid (AcAt w (.slice x4 T.acs.length y4) T.acs) := hva
  have HS : Hid (∀ X p q, PoAt X p ⟨⟨#[]⟩, [T], false⟩ → PoAt X q ⟨⟨#[]⟩, [T], false⟩ → Calls Tryz.prog 26 #[p, q] X fun e w' => e = .returned (.bool true) ∧ Below X.heap.size X w') := fun X p q hp hq => by
    have h1 : LenP ⟨⟨#[]⟩, [T], false⟩ := ⟨by simp, fun t ht => by rw [List.mem_singleton.1 ht]; exact hl⟩
    have := same_any p q _ _ X hp hq h1 h1
    rw [eqP_refl] at this
    exact this
  clear huc hua hvc hva hl
  generalize T.cs.length = n at *
  generalize T.acs.length = m at *
  obtain ⟨W1, hW1⟩ : ∃ W1, (w.alloc (.cells #[.slice x1 n y1, .slice x2 m y2] 63)).alloc (.cells #[.slice x3 n y3, .slice x4 m y4] 63) = W1 := ⟨_, rfl⟩
  have hsz : (w.alloc (.cells #[.slice x1 n y1, .slice x2 m y2] 63)).heap.size = w.heap.size + 1 := by simp
  have b1 : Below w.heap.size w W1 := by rw [← hW1]; exact ((Below.refl _ _).alloc (Nat.le_refl _) _).alloc (by rw [hsz]; omega) _
  have c1 : C2 W1 w.heap.size (.slice x1 n y1) (.slice x2 m y2) := by rw [← hW1]; exact (C2.new w 63 _ _).below ((Below.refl _ _).alloc (Nat.le_refl _) _)
  have d1 : C2 W1 (w.heap.size + 1) (.slice x3 n y3) (.slice x4 m y4) := by rw [← hW1, ← hsz]; exact C2.new _ 63 _ _
  have p0 := c1.c0
  have p1 := c1.c1
  have q0 := d1.c0
  have q1 := d1.c1
  obtain ⟨W2, hW2⟩ : ∃ W2, W1.alloc (.cells #[.slice x1 n y1, .slice x2 m y2] 63) = W2 := ⟨_, rfl⟩
  have b2 : Below W1.heap.size W1 W2 := by rw [← hW2]; exact (Below.refl _ _).alloc (Nat.le_refl _) _
  have e2 : C2 W2 W1.heap.size (.slice x1 n y1) (.slice x2 m y2) := by rw [← hW2]; exact C2.new _ 63 _ _
  have q0' := below_cell b2 q0
  have q1' := below_cell b2 q1
  obtain ⟨W3, hW3⟩ : ∃ W3, W2.alloc (.cells #[.slice x3 n y3, .slice x4 m y4] 63) = W3 := ⟨_, rfl⟩
  have b3 : Below W2.heap.size W2 W3 := by rw [← hW3]; exact (Below.refl _ _).alloc (Nat.le_refl _) _
  have f3 : C2 W3 W2.heap.size (.slice x3 n y3) (.slice x4 m y4) := by rw [← hW3]; exact C2.new _ 63 _ _
  have e3 := e2.below b3
  have hb : Below w.heap.size w W3 := (b1.trans (b2.mono b1.size)).trans (b3.mono (b1.trans (b2.mono b1.size)).size)
  have HK : Hid (Calls Tryz.prog 26 #[.agg #[.string ⟨#[]⟩, .slice (some ⟨W1.heap.size, 0, none⟩) 1 1, .bool false], .agg #[.string ⟨#[]⟩, .slice (some ⟨W2.heap.size, 0, none⟩) 1 1, .bool false]] W3 fun e w' => e = .returned (.bool true) ∧ Below W3.heap.size W3 w') := HS.out W3 _ _ ⟨_, rfl, TsAt.one e3.c0 e3.c1 (HUC.out.below hb) (HUA.out.below hb)⟩ ⟨_, rfl, TsAt.one f3.c0 f3.c1 (HVC.out.below hb) (HVA.out.below hb)⟩
  have HB : Hid (Below w.heap.size w W3) := hb
  clear hsz b1 c1 d1 b2 e2 e3 b3 f3 hb HS HUC HUA HVC HVA
  go_enter Tryz.func27, Tryz.ntmps27
  go_wp2_with fail
  refine Calls.mono HK.out ?_
  rintro e W4 ⟨rfl, hb4⟩
  go_wp2
  go_ret
  exact ⟨rfl, HB.out.trans (hb4.mono HB.out.size)⟩
end Go.Proofs.YthaebbmekonacaaGreatDoor
set_option linter.unusedVariables false
set_option linter.unusedSimpArgs false
set_option maxRecDepth 100000
namespace Go.Proofs.YthaebbmekonacaaGreatDoor
open Go.RowKit
set_option maxHeartbeats 2000000 in
theorem back_bad (vc va : Value) (w : World) (HV : ∃ a n k b m d, vc = .slice a n k ∧ va = .slice b m d)
    (K18 : ∀ X, Below w.heap.size w X → Calls Tryz.prog 18 #[] X fun e w' => e = .returned (.bool true) ∧ Below X.heap.size X w')
    (K20 : ∀ X, Below w.heap.size w X → Calls Tryz.prog 20 #[.agg #[vc, va]] X fun e w' => e = .returned (.tuple #[.string ⟨#[]⟩, .int .i64 2]) ∧ Below X.heap.size X w') :
    Calls Tryz.prog 7 #[.agg #[vc, va]] w fun e w' => e = .returned (.bool true) ∧ Below w.heap.size w w' := by
  obtain ⟨a, n, k, b, m, d, rfl, rfl⟩ := HV
  obtain ⟨W1, hW1⟩ : ∃ W1, w.alloc (.cells #[.slice a n k, .slice b m d] 63) = W1 := ⟨_, rfl⟩
  have HB1 : Hid (Below w.heap.size w W1) := by unfold Hid; rw [← hW1]; exact (Below.refl _ _).alloc (Nat.le_refl _) _
  have HC1 : Hid (C2 W1 w.heap.size (.slice a n k) (.slice b m d)) := by unfold Hid; rw [← hW1]; exact C2.new w 63 _ _
  have H18 : Hid (∀ X, Below w.heap.size w X → _) := K18
  have H20 : Hid (∀ X, Below w.heap.size w X → _) := K20
  clear K18 K20
  go_enter Tryz.func7, Tryz.ntmps7
  go_wp2_with fail
  refine Calls.mono (H18.out W1 HB1.out) ?_
  rintro e W2 ⟨rfl, hb2⟩
  have HB2 : Hid (Below w.heap.size w W2) := HB1.out.trans (hb2.mono HB1.out.size)
  have c2 := HC1.out.below hb2
  have p0 := c2.c0
  have p1 := c2.c1
  clear hb2 c2 HC1 HB1
  go_wp2_with fail
  refine Calls.mono (H20.out W2 HB2.out) ?_
  rintro e W3 ⟨rfl, hb3⟩
  have HB3 : Hid (Below w.heap.size w W3) := HB2.out.trans (hb3.mono HB2.out.size)
  clear hb3 p0 p1 HB2
  go_wp2
  go_ret
  exact ⟨rfl, HB3.out⟩
set_option maxHeartbeats 4000000 in
theorem back_good (T : Tm) (vc va : Value) (w : World) (hvc : CdAt w vc T.cs) (hva : AcAt w va T.acs) (s s2 s3 : ByteArray)
    (hs2 : ∀ X, (Op.stringOp .add s ⟨#[32]⟩).run Tryz.prog X = .ok (.string s2) X) (hs3 : ∀ X, (Op.stringOp .add ⟨#[32]⟩ s).run Tryz.prog X = .ok (.string s3) X)
    (K18 : ∀ X, Below w.heap.size w X → Calls Tryz.prog 18 #[] X fun e w' => e = .returned (.bool true) ∧ Below X.heap.size X w')
    (K20 : ∀ X, Below w.heap.size w X → Calls Tryz.prog 20 #[.agg #[vc, va]] X fun e w' => e = .returned (.tuple #[.string s, .int .i64 0]) ∧ Below X.heap.size X w')
    (K23 : ∀ X, Below w.heap.size w X → Calls Tryz.prog 23 #[.string s] X fun e w' => TermOk X w' T.cs T.acs e)
    (K23b : ∀ X, Below w.heap.size w X → Calls Tryz.prog 23 #[.string s2] X fun e w' => (∃ p, e = .returned (.tuple #[.agg #[.slice none 0 0, .slice none 0 0], .iface 97 p])) ∧ Below X.heap.size X w')
    (K23c : ∀ X, Below w.heap.size w X → Calls Tryz.prog 23 #[.string s3] X fun e w' => (∃ p, e = .returned (.tuple #[.agg #[.slice none 0 0, .slice none 0 0], .iface 97 p])) ∧ Below X.heap.size X w')
    (K27 : ∀ X u, Below w.heap.size w X → TmAt X u T → Calls Tryz.prog 27 #[u, .agg #[vc, va]] X fun e w' => e = .returned (.bool true) ∧ Below X.heap.size X w') :
    Calls Tryz.prog 7 #[.agg #[vc, va]] w fun e w' => e = .returned (.bool true) ∧ Below w.heap.size w w' := by
  obtain ⟨a, k, rfl⟩ := hvc.len
  obtain ⟨b, d, rfl⟩ := hva.len
  have H18 : Hid (∀ X, Below w.heap.size w X → _) := K18
  have H20 : Hid (∀ X, Below w.heap.size w X → _) := K20
  have H23 : Hid (∀ X, Below w.heap.size w X → _) := K23
  have H23b : Hid (∀ X, Below w.heap.size w X → _) := K23b
  have H23c : Hid (∀ X, Below w.heap.size w X → _) := K23c
  have H27 : Hid (∀ X u, Below w.heap.size w X → _) := K27
  clear K18 K20 K23 K23b K23c K27 hvc hva
  obtain ⟨W1, hW1⟩ : ∃ W1, w.alloc (.cells #[.slice a T.cs.length k, .slice b T.acs.length d] 63) = W1 := ⟨_, rfl⟩
  have HB1 : Hid (Below w.heap.size w W1) := by unfold Hid; rw [← hW1]; exact (Below.refl _ _).alloc (Nat.le_refl _) _
  have HC1 : Hid (C2 W1 w.heap.size (.slice a T.cs.length k) (.slice b T.acs.length d)) := by unfold Hid; rw [← hW1]; exact C2.new w 63 _ _
  go_enter Tryz.func7, Tryz.ntmps7
  go_wp2_with fail
  refine Calls.mono (H18.out W1 HB1.out) ?_
  rintro e W2 ⟨rfl, hb2⟩
  have HB2 : Hid (Below w.heap.size w W2) := HB1.out.trans (hb2.mono HB1.out.size)
  have HC2 : Hid (C2 W2 w.heap.size _ _) := HC1.out.below hb2
  have p0 := HC2.out.c0
  have p1 := HC2.out.c1
  clear hb2 HC1 HB1
  go_wp2_with fail
  refine Calls.mono (H20.out W2 HB2.out) ?_
  rintro e W3 ⟨rfl, hb3⟩
  have HB3 : Hid (Below w.heap.size w W3) := HB2.out.trans (hb3.mono HB2.out.size)
  have HC3 : Hid (C2 W3 w.heap.size _ _) := HC2.out.below hb3
  clear hb3 p0 p1 HB2 HC2
  go_wp2_with fail
  refine Calls.mono (H23.out W3 HB3.out) ?_
  rintro e W4 ⟨⟨uc, ua, rfl, huc, hua⟩, hb4⟩
  have HU : Hid (CdAt W4 uc T.cs ∧ AcAt W4 ua T.acs) := ⟨huc, hua⟩
  obtain ⟨a4, k4, rfl⟩ := huc.len
  obtain ⟨b4, d4, rfl⟩ := hua.len
  have HB4 : Hid (Below w.heap.size w W4) := HB3.out.trans (hb4.mono HB3.out.size)
  have HC4 : Hid (C2 W4 w.heap.size _ _) := HC3.out.below hb4
  clear hb4 HB3 HC3 huc hua
  obtain ⟨W5, hW5⟩ : ∃ W5, W4.alloc (.cells #[.slice a4 T.cs.length k4, .slice b4 T.acs.length d4] 63) = W5 := ⟨_, rfl⟩
  have HBA : Hid (Below W4.heap.size W4 W5) := by unfold Hid; rw [← hW5]; exact (Below.refl _ _).alloc (Nat.le_refl _) _
  have HCA : Hid (C2 W5 W4.heap.size (.slice a4 T.cs.length k4) (.slice b4 T.acs.length d4)) := by unfold Hid; rw [← hW5]; exact C2.new _ 63 _ _
  go_wp2_with fail
  clear hW5
  have HB5 : Hid (Below w.heap.size w W5) := HB4.out.trans (HBA.out.mono HB4.out.size)
  have HC5 : Hid (C2 W5 w.heap.size _ _) := HC4.out.below HBA.out
  have HU5 : Hid (CdAt W5 (.slice a4 T.cs.length k4) T.cs ∧ AcAt W5 (.slice b4 T.acs.length d4) T.acs) := ⟨HU.out.1.below HBA.out, HU.out.2.below HBA.out⟩
  generalize W4.heap.size = g4 at *
  clear HB4 HC4 HU HBA
  refine Calls.mono (H23b.out W5 HB5.out) ?_
  rintro e W6 ⟨⟨p6, rfl⟩, hb6⟩
  have HB6 : Hid (Below w.heap.size w W6) := HB5.out.trans (hb6.mono HB5.out.size)
  have HC6 : Hid (C2 W6 w.heap.size _ _) := HC5.out.below hb6
  have HD6 : Hid (C2 W6 g4 _ _) := HCA.out.below hb6
  have HU6 : Hid (CdAt W6 (.slice a4 T.cs.length k4) T.cs ∧ AcAt W6 (.slice b4 T.acs.length d4) T.acs) := ⟨HU5.out.1.below hb6, HU5.out.2.below hb6⟩
  clear hb6 HB5 HC5 HCA HU5
  have hbz7 : Below W6.heap.size W6 (W6.alloc (.cells #[.slice none 0 0, .slice none 0 0] 63)) := (Below.refl _ _).alloc (Nat.le_refl _) _
  have HB7 : Hid (Below w.heap.size w (W6.alloc (.cells #[.slice none 0 0, .slice none 0 0] 63))) := HB6.out.trans (hbz7.mono HB6.out.size)
  have HC7 : Hid (C2 (W6.alloc (.cells #[.slice none 0 0, .slice none 0 0] 63)) w.heap.size _ _) := HC6.out.below hbz7
  have HD7 : Hid (C2 (W6.alloc (.cells #[.slice none 0 0, .slice none 0 0] 63)) g4 _ _) := HD6.out.below hbz7
  have HU7 : Hid (CdAt (W6.alloc (.cells #[.slice none 0 0, .slice none 0 0] 63)) (.slice a4 T.cs.length k4) T.cs ∧ AcAt (W6.alloc (.cells #[.slice none 0 0, .slice none 0 0] 63)) (.slice b4 T.acs.length d4) T.acs) := ⟨HU6.out.1.below hbz7, HU6.out.2.below hbz7⟩
  clear hbz7 HB6 HC6 HD6 HU6
  go_wp2_with fail
  generalize W6.alloc (.cells #[.slice none 0 0, .slice none 0 0] 63) = W7 at *
  refine Calls.mono (H23c.out W7 HB7.out) ?_
  rintro e W8 ⟨⟨p8, rfl⟩, hb8⟩
  have HB8 : Hid (Below w.heap.size w W8) := HB7.out.trans (hb8.mono HB7.out.size)
  have HC8 : Hid (C2 W8 w.heap.size _ _) := HC7.out.below hb8
  have HD8 : Hid (C2 W8 g4 _ _) := HD7.out.below hb8
  have HU8 : Hid (CdAt W8 (.slice a4 T.cs.length k4) T.cs ∧ AcAt W8 (.slice b4 T.acs.length d4) T.acs) := ⟨HU7.out.1.below hb8, HU7.out.2.below hb8⟩
  clear hb8 HB7 HC7 HD7 HU7
  have hbz9 : Below W8.heap.size W8 (W8.alloc (.cells #[.slice none 0 0, .slice none 0 0] 63)) := (Below.refl _ _).alloc (Nat.le_refl _) _
  have HB9 : Hid (Below w.heap.size w (W8.alloc (.cells #[.slice none 0 0, .slice none 0 0] 63))) := HB8.out.trans (hbz9.mono HB8.out.size)
  have HC9 : Hid (C2 (W8.alloc (.cells #[.slice none 0 0, .slice none 0 0] 63)) w.heap.size _ _) := HC8.out.below hbz9
  have HD9 : Hid (C2 (W8.alloc (.cells #[.slice none 0 0, .slice none 0 0] 63)) g4 _ _) := HD8.out.below hbz9
  have HU9 : Hid (CdAt (W8.alloc (.cells #[.slice none 0 0, .slice none 0 0] 63)) (.slice a4 T.cs.length k4) T.cs ∧ AcAt (W8.alloc (.cells #[.slice none 0 0, .slice none 0 0] 63)) (.slice b4 T.acs.length d4) T.acs) := ⟨HU8.out.1.below hbz9, HU8.out.2.below hbz9⟩
  clear hbz9 HB8 HC8 HD8 HU8
  have p0 := HC9.out.c0
  have p1 := HC9.out.c1
  have q0 := HD9.out.c0
  have q1 := HD9.out.c1
  go_wp2_with fail
  generalize W8.alloc (.cells #[.slice none 0 0, .slice none 0 0] 63) = W9 at *
  refine Calls.mono (H27.out W9 _ HB9.out ⟨_, _, rfl, HU9.out.1, HU9.out.2⟩) ?_
  rintro e W10 ⟨rfl, hb10⟩
  have HBz : Hid (Below w.heap.size w W10) := HB9.out.trans (hb10.mono HB9.out.size)
  clear hb10 p0 p1 q0 q1
  go_wp2
  go_ret
  exact ⟨rfl, HBz.out⟩
end Go.Proofs.YthaebbmekonacaaGreatDoor
set_option linter.unusedVariables false
set_option linter.unusedSimpArgs false
set_option maxRecDepth 100000
namespace Go.Proofs.YthaebbmekonacaaGreatDoor
open Go.RowKit
theorem wt_if (T : Tm) (h : T.cs ≠ []) (t : List (List UInt8)) : wT T ++ t = ifW :: flatW (T.cs.map wC) (thenW :: flatW (T.acs.map wA) t) := by
  unfold wT
  rw [if_neg h, flatW_app (T.cs.map wC) (thenW :: flatW (T.acs.map wA) t), flatW_app (T.acs.map wA) t]
  simp [ifW, ifT, thenW, thT]
theorem wt_no (T : Tm) (h : T.cs = []) (t : List (List UInt8)) : wT T ++ t = thenW :: flatW (T.acs.map wA) t := by
  unfold wT
  rw [if_pos h, flatW_app (T.acs.map wA) t]
  simp [thenW, thT]
theorem term_back (T : Tm) (hok : okT T = true) (hsm : SmT T) (hn : ∀ a ∈ T.acs, a.n < 4294967296) (w : World) (he : EnvX w) (hE : ErrsAt w) : Calls Tryz.prog 23 #[.string ⟨(tT T).toArray⟩] w fun e w' => TermOk w w' T.cs T.acs e := by
  have o := ok_term hok
  refine term_gen (tT T) (by have := tT_len T hok hn; omega) T.cs T.acs w fun W1 hb1 X hX hR => ?_
  rw [spl_t T hok] at hR
  have hS : Std0 W1 X (W1.heap.size + 1) W1.heap.size := ⟨he.below hb1, hX, by omega, Nat.le_refl _⟩
  have hA := rdsA T.acs o.2.2.2.2.1 hn W1 (hE.below hb1) (W1.heap.size + 1) W1.heap.size
  by_cases hc : T.cs = []
  · have e := wt_no T hc []
    rw [List.append_nil] at e
    rw [e] at hR
    have q := readTerm_no (T.acs.map wA) T.acs (by simp) (by obtain ⟨cs, acs⟩ := T; subst hc; exact hok) (by obtain ⟨cs, acs⟩ := T; subst hc; exact hsm) _ _ W1 X hS hR hA
    rw [hc]
    exact q
  · have e := wt_if T hc []
    rw [List.append_nil] at e
    rw [e] at hR
    exact readTerm_if (T.cs.map wC) (T.acs.map wA) T.cs T.acs (by simp) (by simp) (by cases h : T.cs with
      | nil => exact absurd h hc
      | cons a b => simp) hok hsm _ _ W1 X hS hR (rdsC T.cs o.2.2.2.1 W1 _ _) hA
theorem term_behind (T : Tm) (hok : okT T = true) (hsm : SmT T) (hn : ∀ a ∈ T.acs, a.n < 4294967296) (w : World) (he : EnvX w) (hE : ErrsAt w) : Calls Tryz.prog 23 #[.string ⟨(tT T ++ [32]).toArray⟩] w fun e w' => (∃ p, e = .returned (.tuple #[.agg #[.slice none 0 0, .slice none 0 0], .iface 97 p])) ∧ Below w.heap.size w w' := by
  have o := ok_term hok
  have hl := tT_len T hok hn
  have hsp := spl_tb T hok
  generalize tT T = s at *
  have hl2 : (s ++ [32]).length < 140737488351233 := by rw [List.length_append]; simp; omega
  refine term_bad (s ++ [32]) hl2 w fun W1 hb1 X hX hR => ?_
  rw [hsp] at hR
  have hS : Std0 W1 X (W1.heap.size + 1) W1.heap.size := ⟨he.below hb1, hX, by omega, Nat.le_refl _⟩
  have hA := rdsA T.acs o.2.2.2.2.1 hn W1 (hE.below hb1) (W1.heap.size + 1) W1.heap.size
  by_cases hc : T.cs = []
  · rw [wt_no T hc [[]]] at hR
    exact readTerm_mno (T.acs.map wA) T.acs (by simp) (by obtain ⟨cs, acs⟩ := T; subst hc; exact hok) (by obtain ⟨cs, acs⟩ := T; subst hc; exact hsm) _ _ W1 X hS hR hA
  · rw [wt_if T hc [[]]] at hR
    exact readTerm_mif (T.cs.map wC) (T.acs.map wA) T.cs T.acs (by simp) (by simp) (by cases h : T.cs with
      | nil => exact absurd h hc
      | cons a b => simp) hok hsm _ _ W1 X hS hR (rdsC T.cs o.2.2.2.1 W1 _ _) hA
theorem term_ahead (T : Tm) (hok : okT T = true) (hn : ∀ a ∈ T.acs, a.n < 4294967296) (w : World) (he : EnvX w) : Calls Tryz.prog 23 #[.string ⟨(32 :: tT T).toArray⟩] w fun e w' => (∃ p, e = .returned (.tuple #[.agg #[.slice none 0 0, .slice none 0 0], .iface 97 p])) ∧ Below w.heap.size w w' := by
  have hl := tT_len T hok hn
  have hsp := spl_ta T hok
  generalize tT T = s at *
  generalize wT T = ws at *
  have hl2 : (32 :: s).length < 140737488351233 := by rw [List.length_cons]; omega
  refine term_bad (32 :: s) hl2 w fun W1 hb1 X hX hR => ?_
  rw [hsp] at hR
  exact readTerm_ahead ws _ _ W1 X ⟨he.below hb1, hX, by omega, Nat.le_refl _⟩ hR
theorem back_walk (v : Value) (T : Tm) (w : World) (he : EnvX w) (hE : ErrsAt w) (hv : TmAt w v T) (hsm : SmT T) (hn : ∀ a ∈ T.acs, a.n < 4294967296) (hl : LenT T) : Calls Tryz.prog 7 #[v] w fun e w' => e = .returned (.bool true) ∧ Below w.heap.size w w' := by
  have hv' := hv
  obtain ⟨vc, va, rfl, hvc, hva⟩ := hv
  have K18 : ∀ X, Below w.heap.size w X → Calls Tryz.prog 18 #[] X fun e w' => e = .returned (.bool true) ∧ Below X.heap.size X w' := fun X hX => works_any X (he.below hX)
  have K20 : ∀ X, Below w.heap.size w X → Calls Tryz.prog 20 #[.agg #[vc, va]] X fun e w' => e = .returned (.tuple #[.string ⟨(ttS T).toArray⟩, .int .i64 (ttE T)]) ∧ Below X.heap.size X w' := fun X hX => termText_any _ T X (he.below hX) (hv'.below hX) hsm hn
  cases hok : okT T with
  | false =>
    rw [show ttS T = [] by unfold ttS; rw [hok]; rfl, show ttE T = 2 by unfold ttE; rw [hok]; rfl] at K20
    refine back_bad vc va w ?_ K18 K20
    obtain ⟨a, k, rfl⟩ := hvc.len
    obtain ⟨b, d, rfl⟩ := hva.len
    exact ⟨_, _, _, _, _, _, rfl, rfl⟩
  | true =>
    rw [show ttS T = tT T by unfold ttS; rw [hok]; rfl, show ttE T = 0 by unfold ttE; rw [hok]; rfl] at K20
    have hlen := tT_len T hok hn
    obtain ⟨s, hs⟩ : ∃ s, tT T = s := ⟨_, rfl⟩
    have T1 : ∀ X, Below w.heap.size w X → Calls Tryz.prog 23 #[.string ⟨s.toArray⟩] X fun e w' => TermOk X w' T.cs T.acs e := fun X hX => by rw [← hs]; exact term_back T hok hsm hn X (he.below hX) (hE.below hX)
    have T2 : ∀ X, Below w.heap.size w X → Calls Tryz.prog 23 #[.string ⟨(s ++ [32]).toArray⟩] X fun e w' => (∃ p, e = .returned (.tuple #[.agg #[.slice none 0 0, .slice none 0 0], .iface 97 p])) ∧ Below X.heap.size X w' := fun X hX => by rw [← hs]; exact term_behind T hok hsm hn X (he.below hX) (hE.below hX)
    have T3 : ∀ X, Below w.heap.size w X → Calls Tryz.prog 23 #[.string ⟨(32 :: s).toArray⟩] X fun e w' => (∃ p, e = .returned (.tuple #[.agg #[.slice none 0 0, .slice none 0 0], .iface 97 p])) ∧ Below X.heap.size X w' := fun X hX => by rw [← hs]; exact term_ahead T hok hn X (he.below hX)
    have T4 : ∀ X u, Below w.heap.size w X → TmAt X u T → Calls Tryz.prog 27 #[u, .agg #[vc, va]] X fun e w' => e = .returned (.bool true) ∧ Below X.heap.size X w' := fun X u hX hu => same_one u (.agg #[vc, va]) T X hu (hv'.below hX) hl
    rw [hs] at K20 hlen
    clear hs
    have A2 : ∀ X, (Op.stringOp .add (⟨s.toArray⟩ : ByteArray) ⟨#[32]⟩).run Tryz.prog X = .ok (.string ⟨(s ++ [32]).toArray⟩) X := fun X => add_l s [32] (by simp; omega) X
    have A3 : ∀ X, (Op.stringOp .add (⟨#[32]⟩ : ByteArray) ⟨s.toArray⟩).run Tryz.prog X = .ok (.string ⟨(32 :: s).toArray⟩) X := fun X => add_l [32] s (by simp; omega) X
    generalize (⟨(s ++ [32]).toArray⟩ : ByteArray) = s2 at *
    generalize (⟨(32 :: s).toArray⟩ : ByteArray) = s3 at *
    generalize (⟨s.toArray⟩ : ByteArray) = s1 at *
    exact back_good T vc va w hvc hva s1 s2 s3 A2 A3 K18 K20 T1 T2 T3 T4
end Go.Proofs.YthaebbmekonacaaGreatDoor
