/-
  What may be is read from its words.
-/
import Derived.Test.YthaebbmekonacaaGreatDoorRCz
import Derived.Test.YthaebbmekonacaaGreatDoorRAz
import Derived.Test.YthaebbmekonacaaGreatDoorPWF
import Derived.Test.YthaebbmekonacaaGreatDoorRTM
set_option linter.unusedVariables false
set_option linter.unusedSimpArgs false
set_option maxRecDepth 100000
namespace Go.Proofs.YthaebbmekonacaaGreatDoor
open Go.RowKit
theorem empty_of {s : ByteArray} (h : s.toList = []) : s = ⟨#[]⟩ := by
  rw [ByteArray.toList_eq] at h
  apply ByteArray.ext
  apply Array.toList_inj.1
  exact h
set_option maxHeartbeats 1000000 in
theorem readC_ok (c : Cd) (hc : okC c = true) (pl ps : Nat) (r : List (List UInt8)) (W0 X : World) (hX : Std0 W0 X pl ps) (hR : Rd X pl ps (wC c ++ r)) : Calls Tryz.prog 88 #[clo pl ps] X fun e w' => e = .returned (cdV c) ∧ Left X w' pl ps r := by
  obtain ⟨k, nt, nm, n⟩ := c
  rcases ok_kinds hc with ⟨hk, _, h0⟩ | ⟨hk, he, h1, h2⟩ | ⟨hk, he, h1, h2⟩ | ⟨hk, he, h1, h2⟩
  · dsimp only at hk h0
    subst h0
    rcases hk with rfl | rfl | rfl | rfl
    · cases nt
      · have q := readC1 nm.data.toList pl ps r W0 X hX (show Rd X pl ps ([112, 114, 101, 102, 105, 120] :: nm.data.toList :: r) from hR)
        rw [bytes_eta] at q
        exact q
      · have q := readC1n nm.data.toList pl ps r W0 X hX (show Rd X pl ps ([110, 111, 116] :: [112, 114, 101, 102, 105, 120] :: nm.data.toList :: r) from hR)
        rw [bytes_eta] at q
        exact q
    · cases nt
      · have q := readC2 nm.data.toList pl ps r W0 X hX (show Rd X pl ps ([99, 111, 109, 109] :: nm.data.toList :: r) from hR)
        rw [bytes_eta] at q
        exact q
      · have q := readC2n nm.data.toList pl ps r W0 X hX (show Rd X pl ps ([110, 111, 116] :: [99, 111, 109, 109] :: nm.data.toList :: r) from hR)
        rw [bytes_eta] at q
        exact q
    · cases nt
      · have q := readC3 nm.data.toList pl ps r W0 X hX (show Rd X pl ps ([112, 97, 116, 104] :: nm.data.toList :: r) from hR)
        rw [bytes_eta] at q
        exact q
      · have q := readC3n nm.data.toList pl ps r W0 X hX (show Rd X pl ps ([110, 111, 116] :: [112, 97, 116, 104] :: nm.data.toList :: r) from hR)
        rw [bytes_eta] at q
        exact q
    · cases nt
      · have q := readC4 nm.data.toList pl ps r W0 X hX (show Rd X pl ps ([112, 101, 101, 114] :: nm.data.toList :: r) from hR)
        rw [bytes_eta] at q
        exact q
      · have q := readC4n nm.data.toList pl ps r W0 X hX (show Rd X pl ps ([110, 111, 116] :: [112, 101, 101, 114] :: nm.data.toList :: r) from hR)
        rw [bytes_eta] at q
        exact q
  · dsimp only at hk he h1 h2
    subst hk
    obtain rfl := empty_of he
    rcases (show n = 0 ∨ n = 1 ∨ n = 2 by omega) with rfl | rfl | rfl
    · cases nt
      · exact readC5 [105, 103, 112] 0 (by decide) (by decide) (by decide +kernel) pl ps r W0 X hX (show Rd X pl ps ([111, 114, 105, 103, 105, 110] :: [105, 103, 112] :: r) from hR)
      · exact readC5n [105, 103, 112] 0 (by decide) (by decide) (by decide +kernel) pl ps r W0 X hX (show Rd X pl ps ([110, 111, 116] :: [111, 114, 105, 103, 105, 110] :: [105, 103, 112] :: r) from hR)
    · cases nt
      · exact readC5 [101, 103, 112] 1 (by decide) (by decide) (by decide +kernel) pl ps r W0 X hX (show Rd X pl ps ([111, 114, 105, 103, 105, 110] :: [101, 103, 112] :: r) from hR)
      · exact readC5n [101, 103, 112] 1 (by decide) (by decide) (by decide +kernel) pl ps r W0 X hX (show Rd X pl ps ([110, 111, 116] :: [111, 114, 105, 103, 105, 110] :: [101, 103, 112] :: r) from hR)
    · cases nt
      · exact readC5 [105, 110, 99, 111, 109, 112, 108, 101, 116, 101] 2 (by decide) (by decide) (by decide +kernel) pl ps r W0 X hX (show Rd X pl ps ([111, 114, 105, 103, 105, 110] :: [105, 110, 99, 111, 109, 112, 108, 101, 116, 101] :: r) from hR)
      · exact readC5n [105, 110, 99, 111, 109, 112, 108, 101, 116, 101] 2 (by decide) (by decide) (by decide +kernel) pl ps r W0 X hX (show Rd X pl ps ([110, 111, 116] :: [111, 114, 105, 103, 105, 110] :: [105, 110, 99, 111, 109, 112, 108, 101, 116, 101] :: r) from hR)
  · dsimp only at hk he h1 h2
    subst hk
    obtain rfl := empty_of he
    obtain ⟨m, rfl⟩ : ∃ m : Nat, n = (m : Int) := ⟨n.toNat, by omega⟩
    cases nt
    · exact readC6 (Lib.decDigits m) m (by omega) rfl pl ps r W0 X hX (show Rd X pl ps ([108, 101, 110, 103, 116, 104] :: Lib.decDigits m :: r) from hR)
    · exact readC6n (Lib.decDigits m) m (by omega) rfl pl ps r W0 X hX (show Rd X pl ps ([110, 111, 116] :: [108, 101, 110, 103, 116, 104] :: Lib.decDigits m :: r) from hR)
  · dsimp only at hk he h1 h2
    subst hk
    obtain rfl := empty_of he
    rcases (show n = 1 ∨ n = 2 ∨ n = 3 ∨ n = 4 ∨ n = 5 by omega) with rfl | rfl | rfl | rfl | rfl
    · cases nt
      · exact readC7 [118, 52] 1 (by decide) (by decide) (by decide +kernel) pl ps r W0 X hX (show Rd X pl ps ([102, 97, 109] :: [118, 52] :: r) from hR)
      · exact readC7n [118, 52] 1 (by decide) (by decide) (by decide +kernel) pl ps r W0 X hX (show Rd X pl ps ([110, 111, 116] :: [102, 97, 109] :: [118, 52] :: r) from hR)
    · cases nt
      · exact readC7 [118, 54] 2 (by decide) (by decide) (by decide +kernel) pl ps r W0 X hX (show Rd X pl ps ([102, 97, 109] :: [118, 54] :: r) from hR)
      · exact readC7n [118, 54] 2 (by decide) (by decide) (by decide +kernel) pl ps r W0 X hX (show Rd X pl ps ([110, 111, 116] :: [102, 97, 109] :: [118, 54] :: r) from hR)
    · cases nt
      · exact readC7 [108, 52] 3 (by decide) (by decide) (by decide +kernel) pl ps r W0 X hX (show Rd X pl ps ([102, 97, 109] :: [108, 52] :: r) from hR)
      · exact readC7n [108, 52] 3 (by decide) (by decide) (by decide +kernel) pl ps r W0 X hX (show Rd X pl ps ([110, 111, 116] :: [102, 97, 109] :: [108, 52] :: r) from hR)
    · cases nt
      · exact readC7 [118, 112, 110, 52] 4 (by decide) (by decide) (by decide +kernel) pl ps r W0 X hX (show Rd X pl ps ([102, 97, 109] :: [118, 112, 110, 52] :: r) from hR)
      · exact readC7n [118, 112, 110, 52] 4 (by decide) (by decide) (by decide +kernel) pl ps r W0 X hX (show Rd X pl ps ([110, 111, 116] :: [102, 97, 109] :: [118, 112, 110, 52] :: r) from hR)
    · cases nt
      · exact readC7 [118, 112, 110, 54] 5 (by decide) (by decide) (by decide +kernel) pl ps r W0 X hX (show Rd X pl ps ([102, 97, 109] :: [118, 112, 110, 54] :: r) from hR)
      · exact readC7n [118, 112, 110, 54] 5 (by decide) (by decide) (by decide +kernel) pl ps r W0 X hX (show Rd X pl ps ([110, 111, 116] :: [102, 97, 109] :: [118, 112, 110, 54] :: r) from hR)
theorem rdsC (L : List Cd) (h : ∀ c ∈ L, okC c = true) (W0 : World) (pl ps : Nat) : RdsC W0 pl ps (L.map wC) L := fun k hk hk' X r hX hR => by
  rw [List.getElem_map] at hR
  exact readC_ok L[k] (h _ (List.getElem_mem hk)) pl ps r W0 X hX hR
theorem dig_not (n : Nat) : ¬ (Lib.decDigits n = []) := digits_ne n
theorem com_not (n : Nat) : ¬ (comT n = []) := by
  unfold comT
  split
  · simp
  split
  · simp
  split
  · simp
  · simp
theorem adT_not (b : ByteArray) (h : b.size = 4 ∨ b.size = 16) : ¬ (adT b = []) := by
  rcases h with h | h
  · obtain ⟨ns, h1, h2, rfl⟩ := Ad.of_four b h
    rw [Ad.adT_4 ns h1 h2]
    match ns, h1 with
    | [a, b, c, d], _ => simp [Lib.join]
  · obtain ⟨ns, h1, h2, rfl⟩ := Ad.of_sixteen b h
    rw [Ad.adT_16 ns h1 h2]
    match ns, h1 with
    | [a, b, c, d, e, f, g, i], _ => simp [Lib.join]
theorem name_not {s : ByteArray} (h : nameB s = true) : ¬ (s.data.toList = []) := fun e => by
  have : s = ⟨#[]⟩ := by apply ByteArray.ext; apply Array.toList_inj.1; exact e
  subst this
  revert h
  decide +kernel
set_option maxHeartbeats 1000000 in
theorem readA_ok (a : Ac) (ha : okA' a = true) (hn : a.n < 4294967296) (pl ps : Nat) (r : List (List UInt8)) (W0 X : World) (hE : ErrsAt W0) (hX : Std0 W0 X pl ps) (hR : Rd X pl ps (wA a ++ r)) : Calls Tryz.prog 91 #[clo pl ps] X fun e w' => e = .returned (acV a) ∧ Left X w' pl ps r := by
  obtain ⟨k, nm, n, ad⟩ := a
  rcases okA_kinds ha with ⟨hk, e1, e2, e3⟩ | ⟨hk, e1, e3⟩ | ⟨hk, e2, e3, e1⟩ | ⟨hk, e1, e2, e3⟩ | ⟨hk, e1, e3, e2⟩
  · dsimp only at hk e1 e2 e3
    obtain rfl := empty_of e1
    obtain rfl := empty_of e3
    subst e2
    rcases hk with rfl | rfl | rfl
    · exact readA1 pl ps r W0 X hX (show Rd X pl ps ([97, 99, 99, 101, 112, 116] :: r) from hR)
    · exact readA2 pl ps r W0 X hX (show Rd X pl ps ([114, 101, 106, 101, 99, 116] :: r) from hR)
    · exact readA5 pl ps r W0 X hX (show Rd X pl ps ([110, 111, 45, 109, 101, 100] :: r) from hR)
  · dsimp only at hk e1 e3 hn
    obtain rfl := empty_of e1
    obtain rfl := empty_of e3
    rcases hk with rfl | rfl | rfl | rfl
    · have e : wA ⟨3, ⟨#[]⟩, n, ⟨#[]⟩⟩ = [[112, 114, 101, 102], Lib.decDigits n] := by show _ :: (if Lib.decDigits n = [] then _ else _) = _; rw [if_neg (dig_not n)]; rfl
      rw [e] at hR
      exact readA3 (Lib.decDigits n) n hn rfl pl ps r W0 X hX hR
    · have e : wA ⟨4, ⟨#[]⟩, n, ⟨#[]⟩⟩ = [[109, 101, 100], Lib.decDigits n] := by show _ :: (if Lib.decDigits n = [] then _ else _) = _; rw [if_neg (dig_not n)]; rfl
      rw [e] at hR
      exact readA4 (Lib.decDigits n) n hn rfl pl ps r W0 X hX hR
    · have e : wA ⟨6, ⟨#[]⟩, n, ⟨#[]⟩⟩ = [[97, 100, 100], comT n] := by show _ :: (if comT n = [] then _ else _) = _; rw [if_neg (com_not n)]; rfl
      rw [e] at hR
      exact readA6 (comT n) n hn rfl pl ps r W0 X hX hR
    · have e : wA ⟨8, ⟨#[]⟩, n, ⟨#[]⟩⟩ = [[112, 114, 101, 112, 101, 110, 100], Lib.decDigits n] := by show _ :: (if Lib.decDigits n = [] then _ else _) = _; rw [if_neg (dig_not n)]; rfl
      rw [e] at hR
      exact readA8 (Lib.decDigits n) n hn rfl pl ps r W0 X hX hR
  · dsimp only at hk e1 e2 e3
    obtain rfl := empty_of e3
    subst e2 hk
    have e : wA ⟨7, nm, 0, ⟨#[]⟩⟩ = [[100, 101, 108], nm.data.toList] := by show _ :: (if nm.data.toList = [] then _ else _) = _; rw [if_neg (name_not e1)]; rfl
    rw [e] at hR
    have q := readA7 nm.data.toList pl ps r W0 X hX hR
    rw [bytes_eta] at q
    exact q
  · dsimp only at hk e1 e2 e3
    obtain rfl := empty_of e1
    subst e2 hk
    have e : wA ⟨9, ⟨#[]⟩, 0, ad⟩ = [[110, 101, 120, 116], adT ad] := by show _ :: (if adT ad = [] then _ else _) = _; rw [if_neg (adT_not ad e3)]; rfl
    rw [e] at hR
    exact readA9 (adT ad) ad e3 rfl pl ps r W0 X hX hE hR
  · dsimp only at hk e1 e2 e3
    obtain rfl := empty_of e1
    obtain rfl := empty_of e3
    subst hk
    rcases (show n = 0 ∨ n = 1 ∨ n = 2 by omega) with rfl | rfl | rfl
    · exact readA10 [105, 103, 112] 0 (by decide) (by decide) (by decide +kernel) pl ps r W0 X hX (show Rd X pl ps ([111, 114, 105, 103, 105, 110] :: [105, 103, 112] :: r) from hR)
    · exact readA10 [101, 103, 112] 1 (by decide) (by decide) (by decide +kernel) pl ps r W0 X hX (show Rd X pl ps ([111, 114, 105, 103, 105, 110] :: [101, 103, 112] :: r) from hR)
    · exact readA10 [105, 110, 99, 111, 109, 112, 108, 101, 116, 101] 2 (by decide) (by decide) (by decide +kernel) pl ps r W0 X hX (show Rd X pl ps ([111, 114, 105, 103, 105, 110] :: [105, 110, 99, 111, 109, 112, 108, 101, 116, 101] :: r) from hR)
theorem rdsA (L : List Ac) (h : ∀ c ∈ L, okA' c = true) (hn : ∀ c ∈ L, c.n < 4294967296) (W0 : World) (hE : ErrsAt W0) (pl ps : Nat) : RdsA W0 pl ps (L.map wA) L := fun k hk hk' X r hX hR => by
  rw [List.getElem_map] at hR
  exact readA_ok L[k] (h _ (List.getElem_mem hk)) (hn _ (List.getElem_mem hk)) pl ps r W0 X hE hX hR
end Go.Proofs.YthaebbmekonacaaGreatDoor
