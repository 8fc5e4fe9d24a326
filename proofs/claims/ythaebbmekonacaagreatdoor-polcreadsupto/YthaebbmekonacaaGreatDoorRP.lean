/-
  Conditions, actions, their lists and terms, read whatever the words are.
-/
import Derived.Test.YthaebbmekonacaaGreatDoorQQ
import Derived.Test.YthaebbmekonacaaGreatDoorRYa
import Derived.Test.YthaebbmekonacaaGreatDoorRYc
import Derived.Test.YthaebbmekonacaaGreatDoorZAa
import Derived.Test.YthaebbmekonacaaGreatDoorZAc
set_option linter.unusedVariables false
set_option linter.unusedSimpArgs false
set_option maxRecDepth 100000
namespace Go.Proofs.YthaebbmekonacaaGreatDoor
open Go.RowKit
/-- A condition's words behind a not, or without one. -/
def rdC2 (nt : Bool) (u : List (List UInt8)) : Option (Cd × List (List UInt8)) :=
  match plc cwL (u.headD [32]) with
  | none => none
  | some k =>
    if k = 5 then match plc owL (u.tail.headD [32]) with
      | none => none
      | some n => some (⟨5, nt, ⟨#[]⟩, (n : Int)⟩, u.tail.tail)
    else if k = 6 then match nmO (u.tail.headD [32]) with
      | none => none
      | some n => some (⟨6, nt, ⟨#[]⟩, (n : Int)⟩, u.tail.tail)
    else if k = 7 then match plc fwL (u.tail.headD [32]) with
      | none => none
      | some n => some (⟨7, nt, ⟨#[]⟩, (n : Int)⟩, u.tail.tail)
    else some (⟨(k : Int), nt, ⟨(u.tail.headD [32]).toArray⟩, 0⟩, u.tail.tail)
def rdC (ws : List (List UInt8)) : Option (Cd × List (List UInt8)) := if ws.headD [32] = notW then rdC2 true ws.tail else rdC2 false ws
def CdR (o : Option (Cd × List (List UInt8))) (w w' : World) (pl ps : Nat) (e : Ending) : Prop := match o with
  | some (c, r) => e = .returned (cdV c) ∧ Left w w' pl ps r
  | none => Pan w w' pl ps e
/-- Communities and addresses, told by any functions that know them. -/
structure Knows (cm : List UInt8 → Option Nat) (ad : List UInt8 → Option ByteArray) : Prop where
  c1 : ∀ x n, cm x = some n → n < 4294967296 ∧ x = comT n
  c2 : ∀ x, cm x = none → ∀ c, c < 4294967296 → ¬ (comT c = x)
  a1 : ∀ x b, ad x = some b → (b.size = 4 ∨ b.size = 16) ∧ x = adT b
  a2 : ∀ x, ad x = none → ∀ b : ByteArray, (b.size = 4 ∨ b.size = 16) → ¬ (x = adT b)
theorem knows_ex : ∃ cm ad, Knows cm ad := by
  have h1 : ∀ x : List UInt8, ∃ o : Option Nat, (∀ n, o = some n → n < 4294967296 ∧ x = comT n) ∧ (o = none → ∀ c, c < 4294967296 → ¬ (comT c = x)) := fun x => by
    by_cases h : ∃ n, n < 4294967296 ∧ x = comT n
    · obtain ⟨n, hn⟩ := h
      exact ⟨some n, fun m e => by rw [← Option.some.inj e]; exact hn, fun e => by cases e⟩
    · exact ⟨none, (fun m e => by cases e), fun _ c hc e => h ⟨c, hc, e.symm⟩⟩
  have h2 : ∀ x : List UInt8, ∃ o : Option ByteArray, (∀ b, o = some b → (b.size = 4 ∨ b.size = 16) ∧ x = adT b) ∧ (o = none → ∀ b : ByteArray, (b.size = 4 ∨ b.size = 16) → ¬ (x = adT b)) := fun x => by
    by_cases h : ∃ b : ByteArray, (b.size = 4 ∨ b.size = 16) ∧ x = adT b
    · obtain ⟨n, hn⟩ := h
      exact ⟨some n, fun m e => by rw [← Option.some.inj e]; exact hn, fun e => by cases e⟩
    · exact ⟨none, (fun m e => by cases e), fun _ c hc e => h ⟨c, hc, e⟩⟩
  obtain ⟨f, hf⟩ := Classical.axiomOfChoice h1
  obtain ⟨g, hg⟩ := Classical.axiomOfChoice h2
  exact ⟨f, g, fun x n e => (hf x).1 n e, fun x e => (hf x).2 e, fun x b e => (hg x).1 b e, fun x e => (hg x).2 e⟩
def rdA (cm : List UInt8 → Option Nat) (ad : List UInt8 → Option ByteArray) (ws : List (List UInt8)) : Option (Ac × List (List UInt8)) :=
  match plc awL (ws.headD [32]) with
  | none => none
  | some k =>
    if k = 3 ∨ k = 4 ∨ k = 8 then match nmO (ws.tail.headD [32]) with
      | none => none
      | some n => some (⟨(k : Int), ⟨#[]⟩, n, ⟨#[]⟩⟩, ws.tail.tail)
    else if k = 6 then match cm (ws.tail.headD [32]) with
      | none => none
      | some n => some (⟨6, ⟨#[]⟩, n, ⟨#[]⟩⟩, ws.tail.tail)
    else if k = 7 then some (⟨7, ⟨(ws.tail.headD [32]).toArray⟩, 0, ⟨#[]⟩⟩, ws.tail.tail)
    else if k = 9 then match ad (ws.tail.headD [32]) with
      | none => none
      | some b => some (⟨9, ⟨#[]⟩, 0, b⟩, ws.tail.tail)
    else if k = 10 then match plc owL (ws.tail.headD [32]) with
      | none => none
      | some n => some (⟨10, ⟨#[]⟩, n, ⟨#[]⟩⟩, ws.tail.tail)
    else some (⟨(k : Int), ⟨#[]⟩, 0, ⟨#[]⟩⟩, ws.tail)
def AcR (o : Option (Ac × List (List UInt8))) (w w' : World) (pl ps : Nat) (e : Ending) : Prop := match o with
  | some (c, r) => e = .returned (acV c) ∧ Left w w' pl ps r
  | none => Pan w w' pl ps e
theorem hd_of {t : List (List UInt8)} {x : List UInt8} (h : t.headD [32] = x) (hx : x ≠ [32]) : t = x :: t.tail := by
  cases t with
  | nil => exact absurd h.symm hx
  | cons a b => simp at h; rw [h]; rfl
theorem Rd.tl_len {w : World} {pl ps : Nat} {x : List UInt8} {t : List (List UInt8)} (h : Rd w pl ps (x :: t)) : (t.headD [32]).length < 140737488351233 := by
  obtain ⟨ne, b, s, h1, h2, h3, h4, h5, h6⟩ := h
  rcases h6 with ⟨_, h6⟩ | ⟨_, h6⟩
  · obtain ⟨x', s', l', hc, hs, hl, hx⟩ := cut_spl s
    rw [h6] at hs
    injection hs with _ e
    rw [e]
    cases l' with
    | false => simp
    | true =>
      simp only [if_true] at hl ⊢
      obtain ⟨y, s2, l2, _, hs2, _, hy⟩ := cut_spl s'
      rw [hs2]
      show y.length < _
      omega
  · cases h6
theorem spl_hd {s : List UInt8} {x : List UInt8} {t : List (List UInt8)} (h : spl s = x :: t) : (t.headD [32]).length ≤ s.length + 1 := by
  obtain ⟨x', s', l', hc, hs, hl, hx⟩ := cut_spl s
  rw [h] at hs
  injection hs with _ e
  rw [e]
  cases l' with
  | false => simp
  | true =>
    simp only [if_true] at hl ⊢
    obtain ⟨y, s2, l2, _, hs2, _, hy⟩ := cut_spl s'
    rw [hs2]
    show y.length ≤ _
    omega
theorem Rd.tl_len2 {w : World} {pl ps : Nat} {x y : List UInt8} {t : List (List UInt8)} (h : Rd w pl ps (x :: y :: t)) : (t.headD [32]).length < 140737488351233 := by
  obtain ⟨ne, b, s, h1, h2, h3, h4, h5, h6⟩ := h
  rcases h6 with ⟨_, h6⟩ | ⟨_, h6⟩
  · obtain ⟨x', s', l', hc, hs, hl, hx⟩ := cut_spl s
    rw [h6] at hs
    injection hs with _ e
    cases l' with
    | false => cases e
    | true =>
      simp only [if_true] at hl e
      have := spl_hd e.symm
      omega
  · cases h6
theorem rdC2_yes (u : List (List UInt8)) (pl ps : Nat) (W0 w : World) (h0 : Std0 W0 w pl ps) (hE : ErrsAt W0) (hr : Rd w pl ps ([110, 111, 116] :: u)) : Calls Tryz.prog 88 #[clo pl ps] w fun e w' => CdR (rdC2 true u) w w' pl ps e := by
  unfold rdC2
  cases hp : plc cwL (u.headD [32]) with
  | none => exact rcPn (u.headD [32]) u u.tail rfl rfl pl ps W0 w hp h0 hr
  | some k =>
    obtain ⟨h1, h2, h3⟩ := plc_some hp
    have h1 : k < 8 := h1
    rcases (show k = 0 ∨ k = 1 ∨ k = 2 ∨ k = 3 ∨ k = 4 ∨ k = 5 ∨ k = 6 ∨ k = 7 by omega) with rfl | rfl | rfl | rfl | rfl | rfl | rfl | rfl
    · exact absurd h2.symm h3
    · have e : u = [112, 114, 101, 102, 105, 120] :: u.tail := hd_of h2.symm (by decide)
      rw [e] at hr
      exact rc1n _ u.tail _ rfl rfl pl ps W0 w h0 hr
    · have e : u = [99, 111, 109, 109] :: u.tail := hd_of h2.symm (by decide)
      rw [e] at hr
      exact rc2n _ u.tail _ rfl rfl pl ps W0 w h0 hr
    · have e : u = [112, 97, 116, 104] :: u.tail := hd_of h2.symm (by decide)
      rw [e] at hr
      exact rc3n _ u.tail _ rfl rfl pl ps W0 w h0 hr
    · have e : u = [112, 101, 101, 114] :: u.tail := hd_of h2.symm (by decide)
      rw [e] at hr
      exact rc4n _ u.tail _ rfl rfl pl ps W0 w h0 hr
    · have e : u = [111, 114, 105, 103, 105, 110] :: u.tail := hd_of h2.symm (by decide)
      rw [e] at hr
      show Calls _ _ _ _ fun e w' => CdR (match plc owL (u.tail.headD [32]) with | none => none | some n => some (⟨5, true, ⟨#[]⟩, (n : Int)⟩, u.tail.tail)) w w' pl ps e
      cases hq : plc owL (u.tail.headD [32]) with
      | none => exact rc5nx _ u.tail _ rfl rfl pl ps W0 w hq h0 hr
      | some n => exact rc5n _ u.tail _ rfl rfl pl ps W0 w n (by have := (plc_some hq).1; have : n < 3 := this; omega) hq h0 hr
    · have e : u = [108, 101, 110, 103, 116, 104] :: u.tail := hd_of h2.symm (by decide)
      rw [e] at hr
      have hx := Rd.tl_len2 hr
      show Calls _ _ _ _ fun e w' => CdR (match nmO (u.tail.headD [32]) with | none => none | some n => some (⟨6, true, ⟨#[]⟩, (n : Int)⟩, u.tail.tail)) w w' pl ps e
      cases hq : nmO (u.tail.headD [32]) with
      | none => exact rc6nx _ u.tail _ rfl rfl pl ps W0 w hq (by omega) hE h0 hr
      | some n => exact rc6n _ u.tail _ rfl rfl pl ps W0 w n (nmO_some hq).1 hq (by omega) hE h0 hr
    · have e : u = [102, 97, 109] :: u.tail := hd_of h2.symm (by decide)
      rw [e] at hr
      show Calls _ _ _ _ fun e w' => CdR (match plc fwL (u.tail.headD [32]) with | none => none | some n => some (⟨7, true, ⟨#[]⟩, (n : Int)⟩, u.tail.tail)) w w' pl ps e
      cases hq : plc fwL (u.tail.headD [32]) with
      | none => exact rc7nx _ u.tail _ rfl rfl pl ps W0 w hq h0 hr
      | some n => exact rc7n _ u.tail _ rfl rfl pl ps W0 w n (by have := (plc_some hq).1; have : n < 6 := this; omega) hq h0 hr
theorem rdC2_no (u : List (List UInt8)) (pl ps : Nat) (W0 w : World) (h0 : Std0 W0 w pl ps) (hE : ErrsAt W0) (hr : Rd w pl ps (u)) (hn : u.headD [32] ≠ notW) : Calls Tryz.prog 88 #[clo pl ps] w fun e w' => CdR (rdC2 false u) w w' pl ps e := by
  unfold rdC2
  cases hp : plc cwL (u.headD [32]) with
  | none => exact rcP (u.headD [32]) u u.tail rfl rfl pl ps W0 w hp (beq_eq_false_iff_ne.2 hn) h0 hr
  | some k =>
    obtain ⟨h1, h2, h3⟩ := plc_some hp
    have h1 : k < 8 := h1
    rcases (show k = 0 ∨ k = 1 ∨ k = 2 ∨ k = 3 ∨ k = 4 ∨ k = 5 ∨ k = 6 ∨ k = 7 by omega) with rfl | rfl | rfl | rfl | rfl | rfl | rfl | rfl
    · exact absurd h2.symm h3
    · have e : u = [112, 114, 101, 102, 105, 120] :: u.tail := hd_of h2.symm (by decide)
      rw [e] at hr
      exact rc1 _ u.tail _ rfl rfl pl ps W0 w h0 hr
    · have e : u = [99, 111, 109, 109] :: u.tail := hd_of h2.symm (by decide)
      rw [e] at hr
      exact rc2 _ u.tail _ rfl rfl pl ps W0 w h0 hr
    · have e : u = [112, 97, 116, 104] :: u.tail := hd_of h2.symm (by decide)
      rw [e] at hr
      exact rc3 _ u.tail _ rfl rfl pl ps W0 w h0 hr
    · have e : u = [112, 101, 101, 114] :: u.tail := hd_of h2.symm (by decide)
      rw [e] at hr
      exact rc4 _ u.tail _ rfl rfl pl ps W0 w h0 hr
    · have e : u = [111, 114, 105, 103, 105, 110] :: u.tail := hd_of h2.symm (by decide)
      rw [e] at hr
      show Calls _ _ _ _ fun e w' => CdR (match plc owL (u.tail.headD [32]) with | none => none | some n => some (⟨5, false, ⟨#[]⟩, (n : Int)⟩, u.tail.tail)) w w' pl ps e
      cases hq : plc owL (u.tail.headD [32]) with
      | none => exact rc5x _ u.tail _ rfl rfl pl ps W0 w hq h0 hr
      | some n => exact rc5 _ u.tail _ rfl rfl pl ps W0 w n (by have := (plc_some hq).1; have : n < 3 := this; omega) hq h0 hr
    · have e : u = [108, 101, 110, 103, 116, 104] :: u.tail := hd_of h2.symm (by decide)
      rw [e] at hr
      have hx := Rd.tl_len hr
      show Calls _ _ _ _ fun e w' => CdR (match nmO (u.tail.headD [32]) with | none => none | some n => some (⟨6, false, ⟨#[]⟩, (n : Int)⟩, u.tail.tail)) w w' pl ps e
      cases hq : nmO (u.tail.headD [32]) with
      | none => exact rc6x _ u.tail _ rfl rfl pl ps W0 w hq (by omega) hE h0 hr
      | some n => exact rc6 _ u.tail _ rfl rfl pl ps W0 w n (nmO_some hq).1 hq (by omega) hE h0 hr
    · have e : u = [102, 97, 109] :: u.tail := hd_of h2.symm (by decide)
      rw [e] at hr
      show Calls _ _ _ _ fun e w' => CdR (match plc fwL (u.tail.headD [32]) with | none => none | some n => some (⟨7, false, ⟨#[]⟩, (n : Int)⟩, u.tail.tail)) w w' pl ps e
      cases hq : plc fwL (u.tail.headD [32]) with
      | none => exact rc7x _ u.tail _ rfl rfl pl ps W0 w hq h0 hr
      | some n => exact rc7 _ u.tail _ rfl rfl pl ps W0 w n (by have := (plc_some hq).1; have : n < 6 := this; omega) hq h0 hr
theorem readCond_any (ws : List (List UInt8)) (pl ps : Nat) (W0 w : World) (h0 : Std0 W0 w pl ps) (hE : ErrsAt W0) (hr : Rd w pl ps ws) : Calls Tryz.prog 88 #[clo pl ps] w fun e w' => CdR (rdC ws) w w' pl ps e := by
  unfold rdC
  by_cases hn : ws.headD [32] = notW
  · rw [if_pos hn]
    have e : ws = notW :: ws.tail := hd_of hn (by decide)
    rw [e] at hr
    exact rdC2_yes ws.tail pl ps W0 w h0 hE hr
  · rw [if_neg hn]
    exact rdC2_no ws pl ps W0 w h0 hE hr hn
set_option maxHeartbeats 1000000 in
theorem readAction_any (cm : List UInt8 → Option Nat) (ad : List UInt8 → Option ByteArray) (K : Knows cm ad) (ws : List (List UInt8)) (pl ps : Nat) (W0 w : World) (h0 : Std0 W0 w pl ps) (hE : ErrsAt W0) (hr : Rd w pl ps ws) : Calls Tryz.prog 91 #[clo pl ps] w fun e w' => AcR (rdA cm ad ws) w w' pl ps e := by
  unfold rdA
  cases hp : plc awL (ws.headD [32]) with
  | none => exact raP (ws.headD [32]) ws ws.tail rfl rfl pl ps W0 w hp h0 hr
  | some k =>
    obtain ⟨h1, h2, h3⟩ := plc_some hp
    have h1 : k < 11 := h1
    rcases (show k = 0 ∨ k = 1 ∨ k = 2 ∨ k = 3 ∨ k = 4 ∨ k = 5 ∨ k = 6 ∨ k = 7 ∨ k = 8 ∨ k = 9 ∨ k = 10 by omega) with rfl | rfl | rfl | rfl | rfl | rfl | rfl | rfl | rfl | rfl | rfl
    · exact absurd h2.symm h3
    · have e : ws = [97, 99, 99, 101, 112, 116] :: ws.tail := hd_of h2.symm (by decide)
      rw [e] at hr
      exact ra1 ws.tail pl ps W0 w h0 hr
    · have e : ws = [114, 101, 106, 101, 99, 116] :: ws.tail := hd_of h2.symm (by decide)
      rw [e] at hr
      exact ra2 ws.tail pl ps W0 w h0 hr
    · have e : ws = [112, 114, 101, 102] :: ws.tail := hd_of h2.symm (by decide)
      rw [e] at hr
      have hx := Rd.tl_len hr
      show Calls _ _ _ _ fun e w' => AcR (match nmO (ws.tail.headD [32]) with | none => none | some n => some (⟨3, ⟨#[]⟩, n, ⟨#[]⟩⟩, ws.tail.tail)) w w' pl ps e
      cases hq : nmO (ws.tail.headD [32]) with
      | none => exact ra3x _ ws.tail _ rfl rfl pl ps W0 w hq (by omega) hE h0 hr
      | some n => exact ra3 _ ws.tail _ rfl rfl pl ps W0 w n (nmO_some hq).1 hq (by omega) hE h0 hr
    · have e : ws = [109, 101, 100] :: ws.tail := hd_of h2.symm (by decide)
      rw [e] at hr
      have hx := Rd.tl_len hr
      show Calls _ _ _ _ fun e w' => AcR (match nmO (ws.tail.headD [32]) with | none => none | some n => some (⟨4, ⟨#[]⟩, n, ⟨#[]⟩⟩, ws.tail.tail)) w w' pl ps e
      cases hq : nmO (ws.tail.headD [32]) with
      | none => exact ra4x _ ws.tail _ rfl rfl pl ps W0 w hq (by omega) hE h0 hr
      | some n => exact ra4 _ ws.tail _ rfl rfl pl ps W0 w n (nmO_some hq).1 hq (by omega) hE h0 hr
    · have e : ws = [110, 111, 45, 109, 101, 100] :: ws.tail := hd_of h2.symm (by decide)
      rw [e] at hr
      exact ra5 ws.tail pl ps W0 w h0 hr
    · have e : ws = [97, 100, 100] :: ws.tail := hd_of h2.symm (by decide)
      rw [e] at hr
      have hx := Rd.tl_len hr
      show Calls _ _ _ _ fun e w' => AcR (match cm (ws.tail.headD [32]) with | none => none | some n => some (⟨6, ⟨#[]⟩, n, ⟨#[]⟩⟩, ws.tail.tail)) w w' pl ps e
      cases hq : cm (ws.tail.headD [32]) with
      | none => exact ra6x _ ws.tail _ rfl rfl pl ps W0 w (K.c2 _ hq) hx hE h0 hr
      | some n => exact ra6 _ ws.tail _ rfl rfl pl ps W0 w n (K.c1 _ n hq).1 (K.c1 _ n hq).2 h0 hr
    · have e : ws = [100, 101, 108] :: ws.tail := hd_of h2.symm (by decide)
      rw [e] at hr
      exact ra7 _ ws.tail _ rfl rfl pl ps W0 w h0 hr
    · have e : ws = [112, 114, 101, 112, 101, 110, 100] :: ws.tail := hd_of h2.symm (by decide)
      rw [e] at hr
      have hx := Rd.tl_len hr
      show Calls _ _ _ _ fun e w' => AcR (match nmO (ws.tail.headD [32]) with | none => none | some n => some (⟨8, ⟨#[]⟩, n, ⟨#[]⟩⟩, ws.tail.tail)) w w' pl ps e
      cases hq : nmO (ws.tail.headD [32]) with
      | none => exact ra8x _ ws.tail _ rfl rfl pl ps W0 w hq (by omega) hE h0 hr
      | some n => exact ra8 _ ws.tail _ rfl rfl pl ps W0 w n (nmO_some hq).1 hq (by omega) hE h0 hr
    · have e : ws = [110, 101, 120, 116] :: ws.tail := hd_of h2.symm (by decide)
      rw [e] at hr
      have hx := Rd.tl_len hr
      show Calls _ _ _ _ fun e w' => AcR (match ad (ws.tail.headD [32]) with | none => none | some n => some (⟨9, ⟨#[]⟩, 0, n⟩, ws.tail.tail)) w w' pl ps e
      cases hq : ad (ws.tail.headD [32]) with
      | none => exact ra9x _ ws.tail _ rfl rfl pl ps W0 w (K.a2 _ hq) hx hE h0 hr
      | some n => exact ra9 _ ws.tail _ rfl rfl pl ps W0 w n (K.a1 _ n hq).1 (K.a1 _ n hq).2 hE h0 hr
    · have e : ws = [111, 114, 105, 103, 105, 110] :: ws.tail := hd_of h2.symm (by decide)
      rw [e] at hr
      have hx := Rd.tl_len hr
      show Calls _ _ _ _ fun e w' => AcR (match plc owL (ws.tail.headD [32]) with | none => none | some n => some (⟨10, ⟨#[]⟩, n, ⟨#[]⟩⟩, ws.tail.tail)) w w' pl ps e
      cases hq : plc owL (ws.tail.headD [32]) with
      | none => exact ra10x _ ws.tail _ rfl rfl pl ps W0 w hq h0 hr
      | some n => exact ra10 _ ws.tail _ rfl rfl pl ps W0 w n (by have := (plc_some hq).1; have : n < 3 := this; omega) hq h0 hr
end Go.Proofs.YthaebbmekonacaaGreatDoor
set_option linter.unusedVariables false
set_option linter.unusedSimpArgs false
set_option maxRecDepth 100000
namespace Go.Proofs.YthaebbmekonacaaGreatDoor
open Go.RowKit
/-- Several, with the word and between two: what there is, the word behind, what is left. -/
def goL {α : Type} (rd : List (List UInt8) → Option (α × List (List UInt8))) : Nat → List (List UInt8) → Option (List α × List UInt8 × List (List UInt8))
  | 0, _ => none
  | f + 1, ws => match rd ws with
    | none => none
    | some (c, r) => if r.headD [32] = andW then match goL rd f r.tail with
        | none => none
        | some (l, y, q) => some (c :: l, y, q)
      else some ([c], r.headD [32], r.tail)
def preL {α : Type} (L : List α) : Option (List α × List UInt8 × List (List UInt8)) → Option (List α × List UInt8 × List (List UInt8))
  | none => none
  | some (l, y, q) => some (L ++ l, y, q)
theorem preL_nil {α : Type} (o : Option (List α × List UInt8 × List (List UInt8))) : preL [] o = o := by
  cases o with
  | none => rfl
  | some x => obtain ⟨l, y, q⟩ := x; rfl
theorem goL_none {α : Type} {rd : List (List UInt8) → Option (α × List (List UInt8))} {L : List α} {f : Nat} {ws : List (List UInt8)} (h : rd ws = none) : preL L (goL rd (f + 1) ws) = none := by
  unfold goL; rw [h]; rfl
theorem goL_more {α : Type} {rd : List (List UInt8) → Option (α × List (List UInt8))} {L : List α} {f : Nat} {ws r : List (List UInt8)} {c : α} (h : rd ws = some (c, r)) (ha : r.headD [32] = andW) : preL L (goL rd (f + 1) ws) = preL (L ++ [c]) (goL rd f r.tail) := by
  rw [goL, h]
  simp only []
  rw [if_pos ha]
  cases goL rd f r.tail with
  | none => rfl
  | some x => obtain ⟨l, y, q⟩ := x; simp [preL]
theorem goL_last {α : Type} {rd : List (List UInt8) → Option (α × List (List UInt8))} {L : List α} {f : Nat} {ws r : List (List UInt8)} {c : α} (h : rd ws = some (c, r)) (ha : r.headD [32] ≠ andW) : preL L (goL rd (f + 1) ws) = some (L ++ [c], r.headD [32], r.tail) := by
  rw [goL, h]
  simp only []
  rw [if_neg ha]; rfl
def LsC (o : Option (List Cd × List UInt8 × List (List UInt8))) (w w' : World) (pl ps : Nat) (e : Ending) : Prop := match o with
  | some (L, y, q) => (∃ v, e = .returned (.tuple #[v, .string ⟨y.toArray⟩]) ∧ OwnCd w' w.heap.size v L) ∧ Left w w' pl ps q
  | none => Pan w w' pl ps e
theorem LsC.some {L : List Cd} {y : List UInt8} {q : List (List UInt8)} {w w' : World} {pl ps : Nat} {e : Ending} (h : (∃ v, e = .returned (.tuple #[v, .string ⟨y.toArray⟩]) ∧ OwnCd w' w.heap.size v L) ∧ Left w w' pl ps q) : LsC (some (L, y, q)) w w' pl ps e := h
theorem LsC.none {w w' : World} {pl ps : Nat} {e : Ending} (h : Pan w w' pl ps e) : LsC none w w' pl ps e := h
set_option maxHeartbeats 2000000 in
theorem readListC_any (ws : List (List UInt8)) (pl ps : Nat) (W0 w : World) (h0 : Std0 W0 w pl ps) (hE : ErrsAt W0) (hr : Rd w pl ps ws) :
    Calls Tryz.prog 87 #[clo pl ps, .func (.func 88) #[] #[]] w fun e w' => LsC (goL rdC 64 ws) w w' pl ps e := by
  have HPl : Hid (pl < w.heap.size ∧ ps < w.heap.size) := hr.lt
  have HS : Hid (Std0 W0 w pl ps) := h0
  have HR0 : Hid (Rd w pl ps ws) := hr
  have HRR : Hid (∀ X us, Std0 W0 X pl ps → Rd X pl ps us → Calls Tryz.prog 88 #[clo pl ps] X fun e w' => CdR (rdC us) X w' pl ps e) := fun X us hX hU => readCond_any us pl ps W0 X hX hE hU
  obtain ⟨G, hG⟩ : ∃ G, goL rdC 64 ws = G := ⟨_, rfl⟩
  have HG0 : Hid (preL [] (goL rdC (64 - 0) ws) = G) := by unfold Hid; rw [preL_nil]; exact hG
  rw [hG]
  generalize rdC = RD at *
  clear h0 hr hE hG
  unfold clo at HRR ⊢
  go_enter Tryz.func87, Tryz.ntmps87
  go_wp2
  go_loopw [6, 7] (fun x6 x7 wr => ∃ (L : List Cd) (us : List (List UInt8)), L.length ≤ 64 ∧ OwnCd wr w.heap.size x6 L ∧ Rd wr pl ps us ∧ Bs2 pl ps w wr ∧ preL L (goL RD (64 - L.length) us) = G) (fun x6 _ _ => 64 - lenV x6)
  case atStart => exact ⟨[], ws, by simp, OwnCd.nil _ _, HR0.out, Bs2.refl _ _ _, HG0.out⟩
  case round =>
    obtain ⟨L, us, hk, ho, hrd, hbs, hgl⟩ := hrel
    obtain ⟨av, cv, ev, hcv⟩ := own_len ho
    subst ev
    have HO : Hid (OwnCd wr w.heap.size (.slice av L.length cv) L) := ho
    have HB : Hid (Bs2 pl ps w wr) := hbs
    have HRw : Hid (Rd wr pl ps us) := hrd
    obtain ⟨k, hkk⟩ : ∃ k, L.length = k := ⟨_, rfl⟩
    have HL : Hid (L.length = k) := hkk
    rw [hkk] at hk hgl HO ⊢
    clear ho hbs hrd hkk hcv
    by_cases hlast : k = 64
    · subst hlast
      have hz : none = G := by rw [← hgl]; rfl
      subst hz
      clear hgl hk
      go_wp2_with fail
      refine Calls.mono (need_no _) ?_
      rintro e w1 ⟨rfl, hw1⟩
      subst w1
      have HZ : Hid (LsC none w wr pl ps (.panicked PAN)) := LsC.none ⟨rfl, HB.out⟩
      go_wp2_with fail
      exact ⟨rfl, HZ.out⟩
    · have q1 : (k : Int) < 64 := by omega
      obtain ⟨f, hf⟩ : ∃ f, 64 - k = f + 1 := ⟨64 - k - 1, by omega⟩
      have hf2 : 64 - (k + 1) = f := by omega
      rw [hf] at hgl
      have HF : Hid (64 - (k + 1) = f ∧ k + 1 ≤ 64) := ⟨hf2, by omega⟩
      have HGL : Hid (preL L (goL RD (f + 1) us) = G) := hgl
      clear hf hf2 hgl hlast hk
      go_wp2_with fail
      refine Calls.mono (need_yes _) ?_
      rintro e w1 ⟨rfl, hw1⟩
      subst w1
      go_wp2_with fail
      refine Calls.mono (HRR.out _ us (HS.out.bs2 HB.out) HRw.out) ?_
      intro e w2 hcr
      cases hrc : RD us with
      | none =>
        rw [hrc] at hcr
        obtain ⟨rfl, hbp⟩ := (show Pan wr w2 pl ps e from hcr)
        have hz : none = G := by rw [← HGL.out]; exact (goL_none hrc).symm
        subst hz
        have HZ : Hid (LsC none w w2 pl ps (.panicked PAN)) := LsC.none ⟨rfl, HB.out.trans hbp⟩
        clear hcr hbp hrc HGL
        go_wp2_with fail
        exact ⟨rfl, HZ.out⟩
      | some cr =>
        obtain ⟨lk, r⟩ := cr
        rw [hrc] at hcr
        obtain ⟨rfl, hl2⟩ := (show e = .returned (cdV lk) ∧ Left wr w2 pl ps r from hcr)
        have HRC : Hid (RD us = some (lk, r)) := hrc
        have HO2 : Hid (OwnCd w2 w.heap.size (.slice av k cv) L) := HO.out.bs2 hl2.bs HPl.out.1 HPl.out.2
        have HB2 : Hid (Bs2 pl ps w w2) := HB.out.trans hl2.bs
        have HR2 : Hid (Rd w2 pl ps r) := hl2.rd
        have HA : Hid (∀ A, Below w2.heap.size w2 (w2.alloc (.cells A 37))) := fun A => (Below.refl _ _).alloc (Nat.le_refl _) _
        have HC1 : Hid (∀ X : World, CdAt (X.alloc (.cells #[.int .i64 lk.k, .bool lk.nt, .string lk.nm, .int .i64 lk.n] 37)) (.slice (some ⟨X.heap.size, 0, none⟩) 1 1) [lk]) := fun X => oneCd X lk
        have HP2 : Hid (pl < w2.heap.size ∧ ps < w2.heap.size) := hl2.rd.lt
        unfold cdV
        clear hcr hl2 HO HB HRw hrc
        go_wp2_with (at_builtin; refine wpList_append_Cd _ rfl _ _ rfl w.heap.size _ _ L [_] (by first | rfl | (rw [HL.out]; rfl)) rfl ((HO2.out.below (HA.out _))) (HC1.out w2) (by rw [HL.out]; simp; omega) (by have := HB2.out.size; have := (HA.out #[]).size; simp; omega) ?_; intro v6 w6 hown6 hb6)
        have HB6 : Hid (Bs2 pl ps w w6) := (HB2.out.trans (Bs2.of_below (HA.out _))).of_belowB hb6 (Nat.le_refl _)
        have HR6 : Hid (Rd w6 pl ps r) := (HR2.out.below (HA.out _)).belowB hb6 HPl.out.1 HPl.out.2
        have HO6 : Hid (OwnCd w6 w.heap.size v6 (L ++ [lk])) := hown6
        obtain ⟨av6, cv6, ev6, hcv6⟩ := own_len hown6
        rw [List.length_append, HL.out, List.length_singleton] at ev6 hcv6
        have HL6 : Hid ((L ++ [lk]).length = k + 1) := by unfold Hid; rw [List.length_append, HL.out, List.length_singleton]
        clear hown6 hb6 HO2 HB2 HR2 HA HC1
        subst ev6
        refine Calls.mono (next_any pl ps r w6 HR6.out (HS.out.bs2 HB6.out).max) ?_
        rintro e w7 ⟨rfl, hl7⟩
        have HO7 : Hid (OwnCd w7 w.heap.size (.slice av6 (k + 1) cv6) (L ++ [lk])) := HO6.out.bs2 hl7.bs HPl.out.1 HPl.out.2
        have HB7 : Hid (Bs2 pl ps w w7) := HB6.out.trans hl7.bs
        have HR7 : Hid (Rd w7 pl ps r.tail) := hl7.rd
        clear hl7 HO6 HB6 HR6
        by_cases hand : r.headD [32] = andW
        · have HG7 : Hid (preL (L ++ [lk]) (goL RD f r.tail) = G) := by unfold Hid; rw [← HGL.out]; exact (goL_more HRC.out hand).symm
          rw [hand]
          have haw : (andW == ([97, 110, 100] : List UInt8)) = true := by decide
          clear hand HGL HRC
          go_wp2
          refine ⟨⟨L ++ [lk], r.tail, by rw [HL6.out]; exact HF.out.2, HO7.out, HR7.out, HB7.out, by rw [HL6.out, HF.out.1]; exact HG7.out⟩, ?_⟩
          have := HF.out.2
          simp [lenV]; omega
        · have hz : some (L ++ [lk], r.headD [32], r.tail) = G := by rw [← HGL.out]; exact (goL_last HRC.out hand).symm
          subst hz
          obtain ⟨sw, hsw⟩ : ∃ sw, r.headD [32] = sw := ⟨_, rfl⟩
          rw [hsw] at hand ⊢
          have htne3 : ¬ sw = [97, 110, 100] := hand
          have htne4 : (sw == ([97, 110, 100] : List UInt8)) = false := beq_eq_false_iff_ne.2 hand
          have HZ : Hid (LsC (some (L ++ [lk], r.headD [32], r.tail)) w w7 pl ps (.returned (.tuple #[.slice av6 (k + 1) cv6, .string ⟨sw.toArray⟩]))) := by unfold Hid; rw [hsw]; exact LsC.some ⟨⟨_, rfl, HO7.out⟩, HR7.out, HB7.out⟩
          clear hand hsw HGL HRC
          go_wp2
          go_ret2
          exact HZ.out
def LsA (o : Option (List Ac × List UInt8 × List (List UInt8))) (w w' : World) (pl ps : Nat) (e : Ending) : Prop := match o with
  | some (L, y, q) => (∃ v, e = .returned (.tuple #[v, .string ⟨y.toArray⟩]) ∧ OwnAc w' w.heap.size v L) ∧ Left w w' pl ps q
  | none => Pan w w' pl ps e
theorem LsA.some {L : List Ac} {y : List UInt8} {q : List (List UInt8)} {w w' : World} {pl ps : Nat} {e : Ending} (h : (∃ v, e = .returned (.tuple #[v, .string ⟨y.toArray⟩]) ∧ OwnAc w' w.heap.size v L) ∧ Left w w' pl ps q) : LsA (some (L, y, q)) w w' pl ps e := h
theorem LsA.none {w w' : World} {pl ps : Nat} {e : Ending} (h : Pan w w' pl ps e) : LsA none w w' pl ps e := h
set_option maxHeartbeats 2000000 in
theorem readListA_any (cm : List UInt8 → Option Nat) (ad : List UInt8 → Option ByteArray) (K : Knows cm ad) (ws : List (List UInt8)) (pl ps : Nat) (W0 w : World) (h0 : Std0 W0 w pl ps) (hE : ErrsAt W0) (hr : Rd w pl ps ws) :
    Calls Tryz.prog 90 #[clo pl ps, .func (.func 91) #[] #[]] w fun e w' => LsA (goL (rdA cm ad) 64 ws) w w' pl ps e := by
  have HPl : Hid (pl < w.heap.size ∧ ps < w.heap.size) := hr.lt
  have HS : Hid (Std0 W0 w pl ps) := h0
  have HR0 : Hid (Rd w pl ps ws) := hr
  have HRR : Hid (∀ X us, Std0 W0 X pl ps → Rd X pl ps us → Calls Tryz.prog 91 #[clo pl ps] X fun e w' => AcR ((rdA cm ad) us) X w' pl ps e) := fun X us hX hU => readAction_any cm ad K us pl ps W0 X hX hE hU
  obtain ⟨G, hG⟩ : ∃ G, goL (rdA cm ad) 64 ws = G := ⟨_, rfl⟩
  have HG0 : Hid (preL [] (goL (rdA cm ad) (64 - 0) ws) = G) := by unfold Hid; rw [preL_nil]; exact hG
  rw [hG]
  generalize rdA cm ad = RD at *
  clear h0 hr hE hG
  unfold clo at HRR ⊢
  go_enter Tryz.func90, Tryz.ntmps90
  go_wp2
  go_loopw [6, 7] (fun x6 x7 wr => ∃ (L : List Ac) (us : List (List UInt8)), L.length ≤ 64 ∧ OwnAc wr w.heap.size x6 L ∧ Rd wr pl ps us ∧ Bs2 pl ps w wr ∧ preL L (goL RD (64 - L.length) us) = G) (fun x6 _ _ => 64 - lenV x6)
  case atStart => exact ⟨[], ws, by simp, OwnAc.nil _ _, HR0.out, Bs2.refl _ _ _, HG0.out⟩
  case round =>
    obtain ⟨L, us, hk, ho, hrd, hbs, hgl⟩ := hrel
    obtain ⟨av, cv, ev, hcv⟩ := own_len ho
    subst ev
    have HO : Hid (OwnAc wr w.heap.size (.slice av L.length cv) L) := ho
    have HB : Hid (Bs2 pl ps w wr) := hbs
    have HRw : Hid (Rd wr pl ps us) := hrd
    obtain ⟨k, hkk⟩ : ∃ k, L.length = k := ⟨_, rfl⟩
    have HL : Hid (L.length = k) := hkk
    rw [hkk] at hk hgl HO ⊢
    clear ho hbs hrd hkk hcv
    by_cases hlast : k = 64
    · subst hlast
      have hz : none = G := by rw [← hgl]; rfl
      subst hz
      clear hgl hk
      go_wp2_with fail
      refine Calls.mono (need_no _) ?_
      rintro e w1 ⟨rfl, hw1⟩
      subst w1
      have HZ : Hid (LsA none w wr pl ps (.panicked PAN)) := LsA.none ⟨rfl, HB.out⟩
      go_wp2_with fail
      exact ⟨rfl, HZ.out⟩
    · have q1 : (k : Int) < 64 := by omega
      obtain ⟨f, hf⟩ : ∃ f, 64 - k = f + 1 := ⟨64 - k - 1, by omega⟩
      have hf2 : 64 - (k + 1) = f := by omega
      rw [hf] at hgl
      have HF : Hid (64 - (k + 1) = f ∧ k + 1 ≤ 64) := ⟨hf2, by omega⟩
      have HGL : Hid (preL L (goL RD (f + 1) us) = G) := hgl
      clear hf hf2 hgl hlast hk
      go_wp2_with fail
      refine Calls.mono (need_yes _) ?_
      rintro e w1 ⟨rfl, hw1⟩
      subst w1
      go_wp2_with fail
      refine Calls.mono (HRR.out _ us (HS.out.bs2 HB.out) HRw.out) ?_
      intro e w2 hcr
      cases hrc : RD us with
      | none =>
        rw [hrc] at hcr
        obtain ⟨rfl, hbp⟩ := (show Pan wr w2 pl ps e from hcr)
        have hz : none = G := by rw [← HGL.out]; exact (goL_none hrc).symm
        subst hz
        have HZ : Hid (LsA none w w2 pl ps (.panicked PAN)) := LsA.none ⟨rfl, HB.out.trans hbp⟩
        clear hcr hbp hrc HGL
        go_wp2_with fail
        exact ⟨rfl, HZ.out⟩
      | some cr =>
        obtain ⟨lk, r⟩ := cr
        rw [hrc] at hcr
        obtain ⟨rfl, hl2⟩ := (show e = .returned (acV lk) ∧ Left wr w2 pl ps r from hcr)
        have HRC : Hid (RD us = some (lk, r)) := hrc
        have HO2 : Hid (OwnAc w2 w.heap.size (.slice av k cv) L) := HO.out.bs2 hl2.bs HPl.out.1 HPl.out.2
        have HB2 : Hid (Bs2 pl ps w w2) := HB.out.trans hl2.bs
        have HR2 : Hid (Rd w2 pl ps r) := hl2.rd
        have HA : Hid (∀ A, Below w2.heap.size w2 (w2.alloc (.cells A 40))) := fun A => (Below.refl _ _).alloc (Nat.le_refl _) _
        have HC1 : Hid (∀ X : World, AcAt (X.alloc (.cells #[.int .i64 lk.k, .string lk.nm, .int .u32 (lk.n : Int), .string lk.ad] 40)) (.slice (some ⟨X.heap.size, 0, none⟩) 1 1) [lk]) := fun X => oneAc X lk
        have HP2 : Hid (pl < w2.heap.size ∧ ps < w2.heap.size) := hl2.rd.lt
        unfold acV
        clear hcr hl2 HO HB HRw hrc
        go_wp2_with (at_builtin; refine wpList_append_Ac _ rfl _ _ rfl w.heap.size _ _ L [_] (by first | rfl | (rw [HL.out]; rfl)) rfl ((HO2.out.below (HA.out _))) (HC1.out w2) (by rw [HL.out]; simp; omega) (by have := HB2.out.size; have := (HA.out #[]).size; simp; omega) ?_; intro v6 w6 hown6 hb6)
        have HB6 : Hid (Bs2 pl ps w w6) := (HB2.out.trans (Bs2.of_below (HA.out _))).of_belowB hb6 (Nat.le_refl _)
        have HR6 : Hid (Rd w6 pl ps r) := (HR2.out.below (HA.out _)).belowB hb6 HPl.out.1 HPl.out.2
        have HO6 : Hid (OwnAc w6 w.heap.size v6 (L ++ [lk])) := hown6
        obtain ⟨av6, cv6, ev6, hcv6⟩ := own_len hown6
        rw [List.length_append, HL.out, List.length_singleton] at ev6 hcv6
        have HL6 : Hid ((L ++ [lk]).length = k + 1) := by unfold Hid; rw [List.length_append, HL.out, List.length_singleton]
        clear hown6 hb6 HO2 HB2 HR2 HA HC1
        subst ev6
        refine Calls.mono (next_any pl ps r w6 HR6.out (HS.out.bs2 HB6.out).max) ?_
        rintro e w7 ⟨rfl, hl7⟩
        have HO7 : Hid (OwnAc w7 w.heap.size (.slice av6 (k + 1) cv6) (L ++ [lk])) := HO6.out.bs2 hl7.bs HPl.out.1 HPl.out.2
        have HB7 : Hid (Bs2 pl ps w w7) := HB6.out.trans hl7.bs
        have HR7 : Hid (Rd w7 pl ps r.tail) := hl7.rd
        clear hl7 HO6 HB6 HR6
        by_cases hand : r.headD [32] = andW
        · have HG7 : Hid (preL (L ++ [lk]) (goL RD f r.tail) = G) := by unfold Hid; rw [← HGL.out]; exact (goL_more HRC.out hand).symm
          rw [hand]
          have haw : (andW == ([97, 110, 100] : List UInt8)) = true := by decide
          clear hand HGL HRC
          go_wp2
          refine ⟨⟨L ++ [lk], r.tail, by rw [HL6.out]; exact HF.out.2, HO7.out, HR7.out, HB7.out, by rw [HL6.out, HF.out.1]; exact HG7.out⟩, ?_⟩
          have := HF.out.2
          simp [lenV]; omega
        · have hz : some (L ++ [lk], r.headD [32], r.tail) = G := by rw [← HGL.out]; exact (goL_last HRC.out hand).symm
          subst hz
          obtain ⟨sw, hsw⟩ : ∃ sw, r.headD [32] = sw := ⟨_, rfl⟩
          rw [hsw] at hand ⊢
          have htne3 : ¬ sw = [97, 110, 100] := hand
          have htne4 : (sw == ([97, 110, 100] : List UInt8)) = false := beq_eq_false_iff_ne.2 hand
          have HZ : Hid (LsA (some (L ++ [lk], r.headD [32], r.tail)) w w7 pl ps (.returned (.tuple #[.slice av6 (k + 1) cv6, .string ⟨sw.toArray⟩]))) := by unfold Hid; rw [hsw]; exact LsA.some ⟨⟨_, rfl, HO7.out⟩, HR7.out, HB7.out⟩
          clear hand hsw HGL HRC
          go_wp2
          go_ret2
          exact HZ.out
end Go.Proofs.YthaebbmekonacaaGreatDoor
set_option linter.unusedVariables false
set_option linter.unusedSimpArgs false
set_option maxRecDepth 100000
namespace Go.Proofs.YthaebbmekonacaaGreatDoor
open Go.RowKit
/-- All words are short. -/
def Sml (ws : List (List UInt8)) : Prop := ∀ x ∈ ws, x.length < 140737488351233
theorem spl_small : ∀ (s : List UInt8), ∀ x ∈ spl s, x.length ≤ s.length
  | [], x, hx => by
    have : x = [] := by simpa [spl] using hx
    rw [this]; simp
  | c :: l, x, hx => by
    unfold spl at hx
    split at hx
    · rcases List.mem_cons.1 hx with e | e
      · rw [e]; simp
      · have := spl_small l x e
        rw [List.length_cons]; omega
    · split at hx
      · have : x = [c] := by simpa using hx
        rw [this]; simp
      · next y r hy =>
        rcases List.mem_cons.1 hx with e | e
        · have := spl_small l y (by rw [hy]; simp)
          rw [e]; simp; omega
        · have := spl_small l x (by rw [hy]; simp [e])
          rw [List.length_cons]; omega
theorem Rd.sml {w : World} {pl ps : Nat} {ws : List (List UInt8)} (h : Rd w pl ps ws) : Sml ws := by
  obtain ⟨ne, b, s, h1, h2, h3, h4, h5, h6⟩ := h
  rcases h6 with ⟨_, h6⟩ | ⟨_, h6⟩
  · intro x hx
    rw [← h6] at hx
    have := spl_small s x hx
    omega
  · rw [h6]; intro x hx; simp at hx
theorem Sml.hd {ws : List (List UInt8)} (h : Sml ws) : (ws.headD [32]).length < 140737488351233 := by
  cases ws with
  | nil => simp
  | cons a b => exact h a (by simp)
theorem Sml.tl {ws : List (List UInt8)} (h : Sml ws) : Sml ws.tail := fun x hx => h x (List.mem_of_mem_tail hx)
def smC (c : Cd) : Prop := c.nm.size < 140737488351233
def smA (a : Ac) : Prop := a.nm.size < 140737488351233 ∧ a.ad.size ≤ 16 ∧ a.n < 4294967296
theorem rdC2_small {nt : Bool} {u r : List (List UInt8)} {c : Cd} (h : rdC2 nt u = some (c, r)) (hs : Sml u) : smC c ∧ Sml r := by
  have h0 : smC ⟨5, nt, ⟨#[]⟩, 0⟩ := by show (0 : Nat) < _; omega
  unfold rdC2 at h
  split at h
  · cases h
  · split at h
    · split at h
      · cases h
      · obtain ⟨rfl, rfl⟩ := Prod.mk.inj (Option.some.inj h); exact ⟨h0, hs.tl.tl⟩
    split at h
    · split at h
      · cases h
      · obtain ⟨rfl, rfl⟩ := Prod.mk.inj (Option.some.inj h); exact ⟨h0, hs.tl.tl⟩
    split at h
    · split at h
      · cases h
      · obtain ⟨rfl, rfl⟩ := Prod.mk.inj (Option.some.inj h); exact ⟨h0, hs.tl.tl⟩
    · obtain ⟨rfl, rfl⟩ := Prod.mk.inj (Option.some.inj h)
      refine ⟨?_, hs.tl.tl⟩
      show (List.toArray _).size < _
      rw [List.size_toArray]
      exact hs.tl.hd
theorem rdC_small {ws r : List (List UInt8)} {c : Cd} (h : rdC ws = some (c, r)) (hs : Sml ws) : smC c ∧ Sml r := by
  unfold rdC at h
  split at h
  · exact rdC2_small h hs.tl
  · exact rdC2_small h hs
theorem rdA_small {cm : List UInt8 → Option Nat} {ad : List UInt8 → Option ByteArray} (K : Knows cm ad) {ws r : List (List UInt8)} {c : Ac} (h : rdA cm ad ws = some (c, r)) (hs : Sml ws) : smA c ∧ Sml r := by
  have h0 : ∀ k n, n < 4294967296 → smA ⟨k, ⟨#[]⟩, n, ⟨#[]⟩⟩ := fun k n hn => ⟨(by show (0 : Nat) < _; omega), (by show (0 : Nat) ≤ _; omega), hn⟩
  unfold rdA at h
  split at h
  · cases h
  · split at h
    · split at h
      · cases h
      · next n hq => obtain ⟨rfl, rfl⟩ := Prod.mk.inj (Option.some.inj h); exact ⟨h0 _ _ (nmO_some hq).1, hs.tl.tl⟩
    split at h
    · split at h
      · cases h
      · next n hq => obtain ⟨rfl, rfl⟩ := Prod.mk.inj (Option.some.inj h); exact ⟨h0 _ _ (K.c1 _ _ hq).1, hs.tl.tl⟩
    split at h
    · obtain ⟨rfl, rfl⟩ := Prod.mk.inj (Option.some.inj h)
      refine ⟨⟨?_, (by show (0 : Nat) ≤ _; omega), (by show (0 : Nat) < _; omega)⟩, hs.tl.tl⟩
      show (List.toArray _).size < _
      rw [List.size_toArray]
      exact hs.tl.hd
    split at h
    · split at h
      · cases h
      · next b hq =>
        obtain ⟨rfl, rfl⟩ := Prod.mk.inj (Option.some.inj h)
        refine ⟨⟨(by show (0 : Nat) < _; omega), ?_, (by show (0 : Nat) < _; omega)⟩, hs.tl.tl⟩
        have := (K.a1 _ _ hq).1
        show b.size ≤ 16
        omega
    split at h
    · split at h
      · cases h
      · next n hq =>
        obtain ⟨rfl, rfl⟩ := Prod.mk.inj (Option.some.inj h)
        refine ⟨h0 _ _ ?_, hs.tl.tl⟩
        have := (plc_some hq).1
        have : n < 3 := this
        omega
    · obtain ⟨rfl, rfl⟩ := Prod.mk.inj (Option.some.inj h); exact ⟨h0 _ _ (by omega), hs.tl⟩
theorem goL_small {α : Type} {rd : List (List UInt8) → Option (α × List (List UInt8))} {P : α → Prop} (hP : ∀ ws c r, rd ws = some (c, r) → Sml ws → P c ∧ Sml r) : ∀ (f : Nat) (ws : List (List UInt8)) (L : List α) (y : List UInt8) (q : List (List UInt8)), goL rd f ws = some (L, y, q) → Sml ws → (∀ c ∈ L, P c) ∧ L.length ≤ f ∧ Sml q
  | 0, _, _, _, _, h, _ => by cases h
  | f + 1, ws, L, y, q, h, hs => by
    unfold goL at h
    split at h
    · cases h
    · next c r hr =>
      obtain ⟨h1, h2⟩ := hP ws c r hr hs
      split at h
      · split at h
        · cases h
        · next l y' q' hg =>
          obtain ⟨rfl, e⟩ := Prod.mk.inj (Option.some.inj h)
          obtain ⟨rfl, rfl⟩ := Prod.mk.inj e
          obtain ⟨g1, g2, g3⟩ := goL_small hP f r.tail l _ _ hg h2.tl
          refine ⟨fun x hx => ?_, by rw [List.length_cons]; omega, g3⟩
          rcases List.mem_cons.1 hx with e | e
          · rw [e]; exact h1
          · exact g1 x e
      · obtain ⟨rfl, e⟩ := Prod.mk.inj (Option.some.inj h)
        obtain ⟨rfl, rfl⟩ := Prod.mk.inj e
        exact ⟨fun x hx => by rw [List.mem_singleton.1 hx]; exact h1, by simp, h2.tl⟩
theorem small_term {cs : List Cd} {acs : List Ac} (hc : ∀ c ∈ cs, smC c) (ha : ∀ a ∈ acs, smA a) (lc : cs.length ≤ 64) (la : acs.length ≤ 64) : SmT ⟨cs, acs⟩ := by
  refine ⟨fun c h => ?_, fun a h => ?_, (by show cs.length ≤ _; omega), (by show acs.length ≤ _; omega)⟩
  · have := hc c h
    unfold smC at this
    show _ ≤ (9223372036854775807 : Nat)
    omega
  · have := ha a h
    unfold smA at this
    exact ⟨(by show _ ≤ (9223372036854775807 : Nat); omega), (by show _ ≤ (9223372036854775807 : Nat); omega)⟩
/-- A term's words behind the conditions. -/
def rdT2 (cm : List UInt8 → Option Nat) (ad : List UInt8 → Option ByteArray) (cs : List Cd) (y : List UInt8) (q : List (List UInt8)) : Option Tm :=
  if y = thenW then match goL (rdA cm ad) 64 q with
    | none => none
    | some (acs, z, q2) => if z = [32] ∧ okT ⟨cs, acs⟩ = true then some ⟨cs, acs⟩ else none
  else none
def rdT1 (cm : List UInt8 → Option Nat) (ad : List UInt8 → Option ByteArray) : Option (List Cd × List UInt8 × List (List UInt8)) → Option Tm
  | none => none
  | some (cs, y, q) => rdT2 cm ad cs y q
def rdT (cm : List UInt8 → Option Nat) (ad : List UInt8 → Option ByteArray) (ws : List (List UInt8)) : Option Tm :=
  if ws.headD [32] = ifW then rdT1 cm ad (goL rdC 64 ws.tail) else rdT2 cm ad [] (ws.headD [32]) ws.tail
def TmR (o : Option Tm) (w w' : World) (pl ps : Nat) (e : Ending) : Prop := match o with
  | some T => (∃ vc va, e = .returned (.agg #[vc, va]) ∧ OwnCd w' w.heap.size vc T.cs ∧ OwnAc w' w.heap.size va T.acs) ∧ Bs2 pl ps w w'
  | none => Pan w w' pl ps e
theorem TmR.none {w w' : World} {pl ps : Nat} {e : Ending} (h : Pan w w' pl ps e) : TmR none w w' pl ps e := h
theorem TmR.some {T : Tm} {w w' : World} {pl ps : Nat} {e : Ending} (h : (∃ vc va, e = .returned (.agg #[vc, va]) ∧ OwnCd w' w.heap.size vc T.cs ∧ OwnAc w' w.heap.size va T.acs) ∧ Bs2 pl ps w w') : TmR (some T) w w' pl ps e := h
theorem rdT2_not {cm : List UInt8 → Option Nat} {ad : List UInt8 → Option ByteArray} {cs : List Cd} {y : List UInt8} {q : List (List UInt8)} (h : y ≠ thenW) : rdT2 cm ad cs y q = none := by unfold rdT2; rw [if_neg h]
theorem rdT2_none {cm : List UInt8 → Option Nat} {ad : List UInt8 → Option ByteArray} {cs : List Cd} {q : List (List UInt8)} (h : goL (rdA cm ad) 64 q = none) : rdT2 cm ad cs thenW q = none := by unfold rdT2; rw [if_pos rfl, h]
theorem rdT2_some {cm : List UInt8 → Option Nat} {ad : List UInt8 → Option ByteArray} {cs : List Cd} {q q2 : List (List UInt8)} {acs : List Ac} {z : List UInt8} (h : goL (rdA cm ad) 64 q = some (acs, z, q2)) : rdT2 cm ad cs thenW q = if z = [32] ∧ okT ⟨cs, acs⟩ = true then some ⟨cs, acs⟩ else none := by unfold rdT2; rw [if_pos rfl, h]
set_option maxHeartbeats 4000000 in
theorem readTerm_aif (cm : List UInt8 → Option Nat) (ad : List UInt8 → Option ByteArray) (K : Knows cm ad) (x : List UInt8) (t ws : List (List UInt8)) (hx : ws.headD [32] = x) (hxi : x = ifW) (ht : ws.tail = t) (R : Option Tm) (hR : rdT1 cm ad (goL rdC 64 t) = R) (pl ps : Nat) (W0 w : World) (h0 : Std0 W0 w pl ps) (hE : ErrsAt W0) (hr : Rd w pl ps ws) : Calls Tryz.prog 49 #[clo pl ps] w fun e w' => TmR R w w' pl ps e := by
  have HSm : Hid (Sml t) := by unfold Hid; rw [← ht]; exact hr.sml.tl
  obtain ⟨W1, hW1⟩ : ∃ W1, (w.alloc (.cells #[.slice none 0 0, .slice none 0 0] 63)).alloc (.cells #[.slice none 0 0, .slice none 0 0] 63) = W1 := ⟨_, rfl⟩
  have hsz : (w.alloc (.cells #[.slice none 0 0, .slice none 0 0] 63)).heap.size = w.heap.size + 1 := by simp
  have bb1 : Below w.heap.size w W1 := by rw [← hW1]; exact ((Below.refl _ _).alloc (Nat.le_refl _) _).alloc (by rw [hsz]; omega) _
  have d1 : C2 W1 w.heap.size (.slice none 0 0) (.slice none 0 0) := by rw [← hW1]; exact (C2.new w 63 _ _).below ((Below.refl _ _).alloc (Nat.le_refl _) _)
  have c1 : C2 W1 (w.heap.size + 1) (.slice none 0 0) (.slice none 0 0) := by rw [← hW1, ← hsz]; exact C2.new _ 63 _ _
  have hl := hr.lt
  have HNl : Hid (w.heap.size ≠ pl ∧ w.heap.size ≠ ps ∧ w.heap.size + 1 ≠ pl ∧ w.heap.size + 1 ≠ ps) := ⟨by omega, by omega, by omega, by omega⟩
  have HPl : Hid (pl < w.heap.size ∧ ps < w.heap.size) := hl
  have HS : Hid (Std0 W0 w pl ps) := h0
  have HX : Hid (ws.headD [32] = x) := hx
  have HT : Hid (ws.tail = t) := ht
  have HB1 : Hid (Bs2 pl ps w W1) := Bs2.of_below bb1
  have HR1 : Hid (Rd W1 pl ps ws) := hr.below bb1
  have HD1 : Hid (C2 W1 w.heap.size _ _) := d1
  have HC1 : Hid (C2 W1 (w.heap.size + 1) _ _) := c1
  have HKc : Hid (∀ X us, Std0 W0 X pl ps → Rd X pl ps us → Calls Tryz.prog 87 #[.func (.func 92) #[] #[.pointer (some ⟨pl, 0, none⟩), .pointer (some ⟨ps, 0, none⟩)], .func (.func 88) #[] #[]] X fun e w' => LsC (goL rdC 64 us) X w' pl ps e) := fun X us hX hU => readListC_any us pl ps W0 X hX hE hU
  have HKa : Hid (∀ X us, Std0 W0 X pl ps → Rd X pl ps us → Calls Tryz.prog 90 #[.func (.func 92) #[] #[.pointer (some ⟨pl, 0, none⟩), .pointer (some ⟨ps, 0, none⟩)], .func (.func 91) #[] #[]] X fun e w' => LsA (goL (rdA cm ad) 64 us) X w' pl ps e) := fun X us hX hU => readListA_any cm ad K us pl ps W0 X hX hE hU
  have HSc : Hid (∀ us L y q, goL rdC 64 us = some (L, y, q) → Sml us → (∀ c ∈ L, smC c) ∧ L.length ≤ 64 ∧ Sml q) := fun us L y q h hs => goL_small (fun ws c r => rdC_small) 64 us L y q h hs
  have HSa : Hid (∀ us L y q, goL (rdA cm ad) 64 us = some (L, y, q) → Sml us → (∀ c ∈ L, smA c) ∧ L.length ≤ 64 ∧ Sml q) := fun us L y q h hs => goL_small (fun ws c r => rdA_small K) 64 us L y q h hs
  have HM : Hid (∀ X vc va cs acs, EnvX X → CdAt X vc cs → AcAt X va acs → SmT ⟨cs, acs⟩ → Calls Tryz.prog 40 #[.agg #[vc, va]] X fun e w' => e = .returned (.bool (okT ⟨cs, acs⟩)) ∧ Below X.heap.size X w') := fun X vc va cs acs hX hc ha hs => mayTerm_any (.agg #[vc, va]) ⟨cs, acs⟩ X hX.e ⟨vc, va, rfl, hc, ha⟩ hs
  have HR : Hid (rdT1 cm ad (goL rdC 64 t) = R) := hR
  clear hx ht hl h0 hE hr hsz bb1 d1 c1 K hR
  subst hxi
  unfold clo
  go_enter Tryz.func49, Tryz.ntmps49
  go_wp2_with fail
  refine Calls.mono (next_gen pl ps ifW t ws HX.out HT.out W1 HR1.out (HS.out.bs2 HB1.out).max) ?_
  rintro e W2 ⟨rfl, hr2, hb2⟩
  have HR2 : Hid (_ : Prop) := hr2
  have HB2 : Hid (Bs2 pl ps w W2) := HB1.out.trans hb2
  have HD2 : Hid (_ : Prop) := HD1.out.bs2 hb2 HNl.out.1 HNl.out.2.1
  have HC2 : Hid (_ : Prop) := HC1.out.bs2 hb2 HNl.out.2.2.1 HNl.out.2.2.2
  clear hr2 hb2 HR1 HB1 HD1 HC1 HX HT
  have hif : (ifW == ([105, 102] : List UInt8)) = true := by decide
  go_wp2_with fail
  refine Calls.mono (HKc.out _ t (HS.out.bs2 HB2.out) HR2.out) ?_
  intro e W3 hcr
  cases hgc : goL rdC 64 t with
  | none =>
    rw [hgc] at hcr
    obtain ⟨rfl, hbp⟩ := (show Pan W2 W3 pl ps e from hcr)
    have HZ : Hid (TmR R w W3 pl ps (.panicked PAN)) := by unfold Hid; rw [← HR.out, hgc]; exact TmR.none ⟨rfl, HB2.out.trans hbp⟩
    clear hcr hbp hgc
    go_wp2_with fail
    exact ⟨rfl, HZ.out⟩
  | some lyq =>
  obtain ⟨cs, y, q⟩ := lyq
  rw [hgc] at hcr
  obtain ⟨⟨v3, rfl, ho3⟩, hl3⟩ := (show (∃ v, e = .returned (.tuple #[v, .string ⟨y.toArray⟩]) ∧ OwnCd W3 W2.heap.size v cs) ∧ Left W2 W3 pl ps q from hcr)
  have HQ : Hid ((∀ c ∈ cs, smC c) ∧ cs.length ≤ 64 ∧ Sml q) := HSc.out _ _ _ _ hgc HSm.out
  have HR2' : Hid (rdT2 cm ad cs y q = R) := by unfold Hid; rw [← HR.out, hgc]; rfl
  clear hcr hgc
  have hbase : w.heap.size + 1 < W2.heap.size := lt_of_cell HC2.out.c0
  have HR3 : Hid (_ : Prop) := hl3.rd
  have HB3 : Hid (Bs2 pl ps w W3) := HB2.out.trans hl3.bs
  have HD3 : Hid (_ : Prop) := HD2.out.bs2 hl3.bs HNl.out.1 HNl.out.2.1
  have HC3 : Hid (_ : Prop) := HC2.out.bs2 hl3.bs HNl.out.2.2.1 HNl.out.2.2.2
  obtain ⟨a3, k3, e3, hk3⟩ := own_len ho3
  subst e3
  have HBs : Hid (w.heap.size + 1 < W2.heap.size) := hbase
  have HO3 : Hid (OwnCd W3 W2.heap.size (.slice a3 cs.length k3) cs) := ho3
  clear hl3 ho3 hbase HR2 HB2 HD2 HC2
  obtain ⟨W4, hW4⟩ : ∃ W, W3.setCell ⟨w.heap.size + 1, 0, none⟩ (.slice a3 cs.length k3) = W := ⟨_, rfl⟩
  have HR4 : Hid (Rd W4 pl ps q) := by unfold Hid; rw [← hW4]; exact HR3.out.set HNl.out.2.2.1 HNl.out.2.2.2
  have HB4 : Hid (Bs2 pl ps w W4) := by unfold Hid; rw [← hW4]; exact HB3.out.set (by omega)
  have HD4 : Hid (C2 W4 w.heap.size (.slice none 0 0) (.slice none 0 0)) := by unfold Hid; rw [← hW4]; exact HD3.out.other (by omega)
  have HC4 : Hid (C2 W4 (w.heap.size + 1) (.slice a3 cs.length k3) (.slice none 0 0)) := by unfold Hid; rw [← hW4]; exact HC3.out.set0
  have HO4 : Hid (OwnCd W4 W2.heap.size (.slice a3 cs.length k3) cs) := by unfold Hid; rw [← hW4]; exact HO3.out.set HBs.out
  have z0 := HC3.out.c0
  have z1 := HC3.out.f 0
  clear HR3 HB3 HD3 HC3 HO3
  by_cases hth : y = thenW
  · subst hth
    have hth2 : (thenW == ([116, 104, 101, 110] : List UInt8)) = true := by decide
    go_wp2_with fail
    clear z0 z1
    refine Calls.mono (need_yes _) ?_
    rintro e Wq ⟨rfl, hq⟩
    subst Wq
    go_wp2_with fail
    refine Calls.mono (HKa.out _ q (HS.out.bs2 HB4.out) HR4.out) ?_
    intro e W5 hcr
    cases hga : goL (rdA cm ad) 64 q with
    | none =>
      rw [hga] at hcr
      obtain ⟨rfl, hbp⟩ := (show Pan W4 W5 pl ps e from hcr)
      have hz : rdT2 cm ad cs thenW q = none := rdT2_none hga
      have HZ : Hid (TmR R w W5 pl ps (.panicked PAN)) := by unfold Hid; rw [← HR2'.out, hz]; exact TmR.none ⟨rfl, HB4.out.trans hbp⟩
      clear hcr hbp hga hz
      go_wp2_with fail
      exact ⟨rfl, HZ.out⟩
    | some lyq2 =>
    obtain ⟨acs, z, q2⟩ := lyq2
    rw [hga] at hcr
    obtain ⟨⟨v5, rfl, ho5⟩, hl5⟩ := (show (∃ v, e = .returned (.tuple #[v, .string ⟨z.toArray⟩]) ∧ OwnAc W5 W4.heap.size v acs) ∧ Left W4 W5 pl ps q2 from hcr)
    have hq5 := HSa.out _ _ _ _ hga HQ.out.2.2
    have HGA : Hid ((if z = [32] ∧ okT ⟨cs, acs⟩ = true then some ⟨cs, acs⟩ else none) = R) := by unfold Hid; rw [← HR2'.out]; exact (rdT2_some hga).symm
    have HSM : Hid (SmT ⟨cs, acs⟩) := small_term HQ.out.1 hq5.1 HQ.out.2.1 hq5.2.1
    clear hcr hga hq5 HQ
    have hbase : w.heap.size + 1 < W4.heap.size := lt_of_cell HC4.out.c0
    have HR5 : Hid (_ : Prop) := hl5.rd
    have HB5 : Hid (Bs2 pl ps w W5) := HB4.out.trans hl5.bs
    have HD5 : Hid (_ : Prop) := HD4.out.bs2 hl5.bs HNl.out.1 HNl.out.2.1
    have HC5 : Hid (_ : Prop) := HC4.out.bs2 hl5.bs HNl.out.2.2.1 HNl.out.2.2.2
    have HO5 : Hid (OwnCd W5 W2.heap.size (.slice a3 cs.length k3) cs) := HO4.out.bs2 hl5.bs (by have := HPl.out; have := HBs.out; omega) (by have := HPl.out; have := HBs.out; omega)
    obtain ⟨a5, k5, e5, hk5⟩ := own_len ho5
    subst e5
    have HBs4 : Hid (w.heap.size + 1 < W4.heap.size) := hbase
    have HP5 : Hid (OwnAc W5 W4.heap.size (.slice a5 acs.length k5) acs) := ho5
    clear hl5 ho5 hbase HR4 HB4 HD4 HC4 HO4
    obtain ⟨W6, hW6⟩ : ∃ W, W5.setCell ⟨w.heap.size + 1, 1, none⟩ (.slice a5 acs.length k5) = W := ⟨_, rfl⟩
    have HR6 : Hid (Rd W6 pl ps q2) := by unfold Hid; rw [← hW6]; exact HR5.out.set HNl.out.2.2.1 HNl.out.2.2.2
    have HB6 : Hid (Bs2 pl ps w W6) := by unfold Hid; rw [← hW6]; exact HB5.out.set (by omega)
    have HD6 : Hid (C2 W6 w.heap.size (.slice none 0 0) (.slice none 0 0)) := by unfold Hid; rw [← hW6]; exact HD5.out.other (by omega)
    have HC6 : Hid (C2 W6 (w.heap.size + 1) (.slice a3 cs.length k3) (.slice a5 acs.length k5)) := by unfold Hid; rw [← hW6]; exact HC5.out.set1
    have HO6 : Hid (OwnCd W6 W2.heap.size (.slice a3 cs.length k3) cs) := by unfold Hid; rw [← hW6]; exact HO5.out.set HBs.out
    have HP6 : Hid (OwnAc W6 W4.heap.size (.slice a5 acs.length k5) acs) := by unfold Hid; rw [← hW6]; exact HP5.out.set HBs4.out
    have z0 := HC5.out.c1
    have z1 := HC5.out.f 1
    have y0 := HC6.out.c0
    have y1 := HC6.out.c1
    clear HR5 HB5 HD5 HC5 HO5 HP5
    by_cases hend : z = [32]
    · subst hend
      go_wp2_with fail
      clear z0 z1 y0 y1
      refine Calls.mono (HM.out _ _ _ _ _ (HS.out.bs2 HB6.out).env HO6.out.at HP6.out.at HSM.out) ?_
      rintro e W7 ⟨rfl, hb7⟩
      have HB7 : Hid (Bs2 pl ps w W7) := HB6.out.trans (Bs2.of_below hb7)
      have HD7 : Hid (C2 W7 w.heap.size (.slice none 0 0) (.slice none 0 0)) := HD6.out.below hb7
      have HC7 : Hid (C2 W7 (w.heap.size + 1) (.slice a3 cs.length k3) (.slice a5 acs.length k5)) := HC6.out.below hb7
      have HO7 : Hid (OwnCd W7 W2.heap.size (.slice a3 cs.length k3) cs) := HO6.out.below hb7
      have HP7 : Hid (OwnAc W7 W4.heap.size (.slice a5 acs.length k5) acs) := HP6.out.below hb7
      clear hb7 HR6 HB6 HD6 HC6 HO6 HP6
      cases hok : okT ⟨cs, acs⟩ with
      | false =>
        have HZ : Hid (TmR R w W7 pl ps (.panicked PAN)) := by unfold Hid; rw [← HGA.out, hok, if_neg (by simp)]; exact TmR.none ⟨rfl, HB7.out⟩
        clear hok
        go_wp2_with fail
        refine Calls.mono (need_no _) ?_
        rintro e Wq ⟨rfl, hq⟩
        subst Wq
        go_wp2_with fail
        exact ⟨rfl, HZ.out⟩
      | true =>
        have HG7 : Hid (some ⟨cs, acs⟩ = R) := by unfold Hid; rw [← HGA.out, hok, if_pos (by simp)]
        clear hok
        go_wp2_with fail
        refine Calls.mono (need_yes _) ?_
        rintro e Wq ⟨rfl, hq⟩
        subst Wq
        have y0 := HC7.out.c0
        have y1 := HC7.out.c1
        have x0 := HD7.out.c0
        have x1 := HD7.out.c1
        have f0 := HD7.out.f 0
        have f1 := HD7.out.f 1
        have HF : Hid (C2 ((W7.setCell ⟨w.heap.size, 0, none⟩ (.slice a3 cs.length k3)).setCell ⟨w.heap.size, 1, none⟩ (.slice a5 acs.length k5)) w.heap.size (.slice a3 cs.length k3) (.slice a5 acs.length k5)) := HD7.out.set0.set1
        have HLf : Hid (Bs2 pl ps w ((W7.setCell ⟨w.heap.size, 0, none⟩ (.slice a3 cs.length k3)).setCell ⟨w.heap.size, 1, none⟩ (.slice a5 acs.length k5))) := (HB7.out.set (Nat.le_refl _)).set (Nat.le_refl _)
        have HOf : Hid (OwnCd ((W7.setCell ⟨w.heap.size, 0, none⟩ (.slice a3 cs.length k3)).setCell ⟨w.heap.size, 1, none⟩ (.slice a5 acs.length k5)) w.heap.size (.slice a3 cs.length k3) cs) := owns_mono ((HO7.out.set (by have := HBs.out; omega)).set (by have := HBs.out; omega)) (by have := HBs.out; omega)
        have HPf : Hid (OwnAc ((W7.setCell ⟨w.heap.size, 0, none⟩ (.slice a3 cs.length k3)).setCell ⟨w.heap.size, 1, none⟩ (.slice a5 acs.length k5)) w.heap.size (.slice a5 acs.length k5) acs) := owns_mono ((HP7.out.set (by have := HBs4.out; omega)).set (by have := HBs4.out; omega)) (by have := HBs4.out; omega)
        go_wp2_with fail
        generalize (W7.setCell ⟨w.heap.size, 0, none⟩ (.slice a3 cs.length k3)).setCell ⟨w.heap.size, 1, none⟩ (.slice a5 acs.length k5) = WF at *
        have e0 := HF.out.c0
        have e1 := HF.out.c1
        refine bodyPost_ret (v := .agg #[.slice a3 cs.length k3, .slice a5 acs.length k5]) (by simp [results, Tryz.results49, go_sem, e0, e1]) rfl ?_
        rw [← HG7.out]
        exact TmR.some ⟨⟨_, _, rfl, HOf.out, HPf.out⟩, HLf.out⟩
    · have he1 : (z == ([32] : List UInt8)) = false := beq_eq_false_iff_ne.2 hend
      have he2 : ¬ z = [32] := hend
      have HZ : Hid (TmR R w W6 pl ps (.panicked PAN)) := by unfold Hid; rw [← HGA.out, if_neg (fun h => hend h.1)]; exact TmR.none ⟨rfl, HB6.out⟩
      clear hend
      go_wp2_with fail
      clear z0 z1 y0 y1
      refine Calls.mono (need_no _) ?_
      rintro e Wq ⟨rfl, hq⟩
      subst Wq
      go_wp2_with fail
      exact ⟨rfl, HZ.out⟩
  · have he1 : (y == ([116, 104, 101, 110] : List UInt8)) = false := beq_eq_false_iff_ne.2 hth
    have he2 : ¬ y = [116, 104, 101, 110] := hth
    have HZ : Hid (TmR R w W4 pl ps (.panicked PAN)) := by unfold Hid; rw [← HR2'.out, rdT2_not hth]; exact TmR.none ⟨rfl, HB4.out⟩
    clear hth
    go_wp2_with fail
    clear z0 z1
    refine Calls.mono (need_no _) ?_
    rintro e Wq ⟨rfl, hq⟩
    subst Wq
    go_wp2_with fail
    exact ⟨rfl, HZ.out⟩
set_option maxHeartbeats 4000000 in
theorem readTerm_ano (cm : List UInt8 → Option Nat) (ad : List UInt8 → Option ByteArray) (K : Knows cm ad) (x : List UInt8) (t ws : List (List UInt8)) (hx : ws.headD [32] = x) (hxi : x ≠ ifW) (ht : ws.tail = t) (R : Option Tm) (hR : rdT2 cm ad [] x t = R) (pl ps : Nat) (W0 w : World) (h0 : Std0 W0 w pl ps) (hE : ErrsAt W0) (hr : Rd w pl ps ws) : Calls Tryz.prog 49 #[clo pl ps] w fun e w' => TmR R w w' pl ps e := by
  have HSm : Hid (Sml t) := by unfold Hid; rw [← ht]; exact hr.sml.tl
  obtain ⟨W1, hW1⟩ : ∃ W1, (w.alloc (.cells #[.slice none 0 0, .slice none 0 0] 63)).alloc (.cells #[.slice none 0 0, .slice none 0 0] 63) = W1 := ⟨_, rfl⟩
  have hsz : (w.alloc (.cells #[.slice none 0 0, .slice none 0 0] 63)).heap.size = w.heap.size + 1 := by simp
  have bb1 : Below w.heap.size w W1 := by rw [← hW1]; exact ((Below.refl _ _).alloc (Nat.le_refl _) _).alloc (by rw [hsz]; omega) _
  have d1 : C2 W1 w.heap.size (.slice none 0 0) (.slice none 0 0) := by rw [← hW1]; exact (C2.new w 63 _ _).below ((Below.refl _ _).alloc (Nat.le_refl _) _)
  have c1 : C2 W1 (w.heap.size + 1) (.slice none 0 0) (.slice none 0 0) := by rw [← hW1, ← hsz]; exact C2.new _ 63 _ _
  have hl := hr.lt
  have HNl : Hid (w.heap.size ≠ pl ∧ w.heap.size ≠ ps ∧ w.heap.size + 1 ≠ pl ∧ w.heap.size + 1 ≠ ps) := ⟨by omega, by omega, by omega, by omega⟩
  have HPl : Hid (pl < w.heap.size ∧ ps < w.heap.size) := hl
  have HS : Hid (Std0 W0 w pl ps) := h0
  have HX : Hid (ws.headD [32] = x) := hx
  have HT : Hid (ws.tail = t) := ht
  have HB1 : Hid (Bs2 pl ps w W1) := Bs2.of_below bb1
  have HR1 : Hid (Rd W1 pl ps ws) := hr.below bb1
  have HD1 : Hid (C2 W1 w.heap.size _ _) := d1
  have HC1 : Hid (C2 W1 (w.heap.size + 1) _ _) := c1
  have HKc : Hid (∀ X us, Std0 W0 X pl ps → Rd X pl ps us → Calls Tryz.prog 87 #[.func (.func 92) #[] #[.pointer (some ⟨pl, 0, none⟩), .pointer (some ⟨ps, 0, none⟩)], .func (.func 88) #[] #[]] X fun e w' => LsC (goL rdC 64 us) X w' pl ps e) := fun X us hX hU => readListC_any us pl ps W0 X hX hE hU
  have HKa : Hid (∀ X us, Std0 W0 X pl ps → Rd X pl ps us → Calls Tryz.prog 90 #[.func (.func 92) #[] #[.pointer (some ⟨pl, 0, none⟩), .pointer (some ⟨ps, 0, none⟩)], .func (.func 91) #[] #[]] X fun e w' => LsA (goL (rdA cm ad) 64 us) X w' pl ps e) := fun X us hX hU => readListA_any cm ad K us pl ps W0 X hX hE hU
  have HSc : Hid (∀ us L y q, goL rdC 64 us = some (L, y, q) → Sml us → (∀ c ∈ L, smC c) ∧ L.length ≤ 64 ∧ Sml q) := fun us L y q h hs => goL_small (fun ws c r => rdC_small) 64 us L y q h hs
  have HSa : Hid (∀ us L y q, goL (rdA cm ad) 64 us = some (L, y, q) → Sml us → (∀ c ∈ L, smA c) ∧ L.length ≤ 64 ∧ Sml q) := fun us L y q h hs => goL_small (fun ws c r => rdA_small K) 64 us L y q h hs
  have HM : Hid (∀ X vc va cs acs, EnvX X → CdAt X vc cs → AcAt X va acs → SmT ⟨cs, acs⟩ → Calls Tryz.prog 40 #[.agg #[vc, va]] X fun e w' => e = .returned (.bool (okT ⟨cs, acs⟩)) ∧ Below X.heap.size X w') := fun X vc va cs acs hX hc ha hs => mayTerm_any (.agg #[vc, va]) ⟨cs, acs⟩ X hX.e ⟨vc, va, rfl, hc, ha⟩ hs
  have HR : Hid (rdT2 cm ad [] x t = R) := hR
  clear hx ht hl h0 hE hr hsz bb1 d1 c1 K hR
  have hif : (x == ([105, 102] : List UInt8)) = false := beq_eq_false_iff_ne.2 hxi
  have hif2 : ¬ x = [105, 102] := hxi
  clear hxi
  unfold clo
  go_enter Tryz.func49, Tryz.ntmps49
  go_wp2_with fail
  refine Calls.mono (next_gen pl ps x t ws HX.out HT.out W1 HR1.out (HS.out.bs2 HB1.out).max) ?_
  rintro e W2 ⟨rfl, hr2, hb2⟩
  have HR2 : Hid (_ : Prop) := hr2
  have HB2 : Hid (Bs2 pl ps w W2) := HB1.out.trans hb2
  have HD2 : Hid (_ : Prop) := HD1.out.bs2 hb2 HNl.out.1 HNl.out.2.1
  have HC2 : Hid (_ : Prop) := HC1.out.bs2 hb2 HNl.out.2.2.1 HNl.out.2.2.2
  clear hr2 hb2 HR1 HB1 HD1 HC1 HX HT
  have HR2' : Hid (rdT2 cm ad [] x t = R) := HR.out
  have HBs : Hid (w.heap.size + 1 < W2.heap.size) := lt_of_cell HC2.out.c0
  have HO2 : Hid (OwnCd W2 W2.heap.size (.slice none 0 0) []) := OwnCd.nil _ _
  have HQ : Hid ((∀ c ∈ ([] : List Cd), smC c) ∧ ([] : List Cd).length ≤ 64 ∧ Sml t) := ⟨(by simp), (by simp), HSm.out⟩
  by_cases hth : x = thenW
  · subst hth
    have hth2 : (thenW == ([116, 104, 101, 110] : List UInt8)) = true := by decide
    go_wp2_with fail
    refine Calls.mono (need_yes _) ?_
    rintro e Wq ⟨rfl, hq⟩
    subst Wq
    go_wp2_with fail
    refine Calls.mono (HKa.out _ t (HS.out.bs2 HB2.out) HR2.out) ?_
    intro e W5 hcr
    cases hga : goL (rdA cm ad) 64 t with
    | none =>
      rw [hga] at hcr
      obtain ⟨rfl, hbp⟩ := (show Pan W2 W5 pl ps e from hcr)
      have hz : rdT2 cm ad [] thenW t = none := rdT2_none hga
      have HZ : Hid (TmR R w W5 pl ps (.panicked PAN)) := by unfold Hid; rw [← HR2'.out, hz]; exact TmR.none ⟨rfl, HB2.out.trans hbp⟩
      clear hcr hbp hga hz
      go_wp2_with fail
      exact ⟨rfl, HZ.out⟩
    | some lyq2 =>
    obtain ⟨acs, z, q2⟩ := lyq2
    rw [hga] at hcr
    obtain ⟨⟨v5, rfl, ho5⟩, hl5⟩ := (show (∃ v, e = .returned (.tuple #[v, .string ⟨z.toArray⟩]) ∧ OwnAc W5 W2.heap.size v acs) ∧ Left W2 W5 pl ps q2 from hcr)
    have hq5 := HSa.out _ _ _ _ hga HQ.out.2.2
    have HGA : Hid ((if z = [32] ∧ okT ⟨[], acs⟩ = true then some ⟨[], acs⟩ else none) = R) := by unfold Hid; rw [← HR2'.out]; exact (rdT2_some hga).symm
    have HSM : Hid (SmT ⟨[], acs⟩) := small_term HQ.out.1 hq5.1 HQ.out.2.1 hq5.2.1
    clear hcr hga hq5 HQ
    have hbase : w.heap.size + 1 < W2.heap.size := lt_of_cell HC2.out.c0
    have HR5 : Hid (_ : Prop) := hl5.rd
    have HB5 : Hid (Bs2 pl ps w W5) := HB2.out.trans hl5.bs
    have HD5 : Hid (_ : Prop) := HD2.out.bs2 hl5.bs HNl.out.1 HNl.out.2.1
    have HC5 : Hid (_ : Prop) := HC2.out.bs2 hl5.bs HNl.out.2.2.1 HNl.out.2.2.2
    have HO5 : Hid (OwnCd W5 W2.heap.size (.slice none 0 0) []) := HO2.out.bs2 hl5.bs (by have := HPl.out; have := HBs.out; omega) (by have := HPl.out; have := HBs.out; omega)
    obtain ⟨a5, k5, e5, hk5⟩ := own_len ho5
    subst e5
    have HBs4 : Hid (w.heap.size + 1 < W2.heap.size) := hbase
    have HP5 : Hid (OwnAc W5 W2.heap.size (.slice a5 acs.length k5) acs) := ho5
    clear hl5 ho5 hbase HR2 HB2 HD2 HC2 HO2
    obtain ⟨W6, hW6⟩ : ∃ W, W5.setCell ⟨w.heap.size + 1, 1, none⟩ (.slice a5 acs.length k5) = W := ⟨_, rfl⟩
    have HR6 : Hid (Rd W6 pl ps q2) := by unfold Hid; rw [← hW6]; exact HR5.out.set HNl.out.2.2.1 HNl.out.2.2.2
    have HB6 : Hid (Bs2 pl ps w W6) := by unfold Hid; rw [← hW6]; exact HB5.out.set (by omega)
    have HD6 : Hid (C2 W6 w.heap.size (.slice none 0 0) (.slice none 0 0)) := by unfold Hid; rw [← hW6]; exact HD5.out.other (by omega)
    have HC6 : Hid (C2 W6 (w.heap.size + 1) (.slice none 0 0) (.slice a5 acs.length k5)) := by unfold Hid; rw [← hW6]; exact HC5.out.set1
    have HO6 : Hid (OwnCd W6 W2.heap.size (.slice none 0 0) []) := by unfold Hid; rw [← hW6]; exact HO5.out.set HBs.out
    have HP6 : Hid (OwnAc W6 W2.heap.size (.slice a5 acs.length k5) acs) := by unfold Hid; rw [← hW6]; exact HP5.out.set HBs4.out
    have z0 := HC5.out.c1
    have z1 := HC5.out.f 1
    have y0 := HC6.out.c0
    have y1 := HC6.out.c1
    clear HR5 HB5 HD5 HC5 HO5 HP5
    by_cases hend : z = [32]
    · subst hend
      go_wp2_with fail
      clear z0 z1 y0 y1
      refine Calls.mono (HM.out _ _ _ _ _ (HS.out.bs2 HB6.out).env HO6.out.at HP6.out.at HSM.out) ?_
      rintro e W7 ⟨rfl, hb7⟩
      have HB7 : Hid (Bs2 pl ps w W7) := HB6.out.trans (Bs2.of_below hb7)
      have HD7 : Hid (C2 W7 w.heap.size (.slice none 0 0) (.slice none 0 0)) := HD6.out.below hb7
      have HC7 : Hid (C2 W7 (w.heap.size + 1) (.slice none 0 0) (.slice a5 acs.length k5)) := HC6.out.below hb7
      have HO7 : Hid (OwnCd W7 W2.heap.size (.slice none 0 0) []) := HO6.out.below hb7
      have HP7 : Hid (OwnAc W7 W2.heap.size (.slice a5 acs.length k5) acs) := HP6.out.below hb7
      clear hb7 HR6 HB6 HD6 HC6 HO6 HP6
      cases hok : okT ⟨[], acs⟩ with
      | false =>
        have HZ : Hid (TmR R w W7 pl ps (.panicked PAN)) := by unfold Hid; rw [← HGA.out, hok, if_neg (by simp)]; exact TmR.none ⟨rfl, HB7.out⟩
        clear hok
        go_wp2_with fail
        refine Calls.mono (need_no _) ?_
        rintro e Wq ⟨rfl, hq⟩
        subst Wq
        go_wp2_with fail
        exact ⟨rfl, HZ.out⟩
      | true =>
        have HG7 : Hid (some ⟨[], acs⟩ = R) := by unfold Hid; rw [← HGA.out, hok, if_pos (by simp)]
        clear hok
        go_wp2_with fail
        refine Calls.mono (need_yes _) ?_
        rintro e Wq ⟨rfl, hq⟩
        subst Wq
        have y0 := HC7.out.c0
        have y1 := HC7.out.c1
        have x0 := HD7.out.c0
        have x1 := HD7.out.c1
        have f0 := HD7.out.f 0
        have f1 := HD7.out.f 1
        have HF : Hid (C2 ((W7.setCell ⟨w.heap.size, 0, none⟩ (.slice none 0 0)).setCell ⟨w.heap.size, 1, none⟩ (.slice a5 acs.length k5)) w.heap.size (.slice none 0 0) (.slice a5 acs.length k5)) := HD7.out.set0.set1
        have HLf : Hid (Bs2 pl ps w ((W7.setCell ⟨w.heap.size, 0, none⟩ (.slice none 0 0)).setCell ⟨w.heap.size, 1, none⟩ (.slice a5 acs.length k5))) := (HB7.out.set (Nat.le_refl _)).set (Nat.le_refl _)
        have HOf : Hid (OwnCd ((W7.setCell ⟨w.heap.size, 0, none⟩ (.slice none 0 0)).setCell ⟨w.heap.size, 1, none⟩ (.slice a5 acs.length k5)) w.heap.size (.slice none 0 0) []) := owns_mono ((HO7.out.set (by have := HBs.out; omega)).set (by have := HBs.out; omega)) (by have := HBs.out; omega)
        have HPf : Hid (OwnAc ((W7.setCell ⟨w.heap.size, 0, none⟩ (.slice none 0 0)).setCell ⟨w.heap.size, 1, none⟩ (.slice a5 acs.length k5)) w.heap.size (.slice a5 acs.length k5) acs) := owns_mono ((HP7.out.set (by have := HBs4.out; omega)).set (by have := HBs4.out; omega)) (by have := HBs4.out; omega)
        go_wp2_with fail
        generalize (W7.setCell ⟨w.heap.size, 0, none⟩ (.slice none 0 0)).setCell ⟨w.heap.size, 1, none⟩ (.slice a5 acs.length k5) = WF at *
        have e0 := HF.out.c0
        have e1 := HF.out.c1
        refine bodyPost_ret (v := .agg #[.slice none 0 0, .slice a5 acs.length k5]) (by simp [results, Tryz.results49, go_sem, e0, e1]) rfl ?_
        rw [← HG7.out]
        exact TmR.some ⟨⟨_, _, rfl, HOf.out, HPf.out⟩, HLf.out⟩
    · have he1 : (z == ([32] : List UInt8)) = false := beq_eq_false_iff_ne.2 hend
      have he2 : ¬ z = [32] := hend
      have HZ : Hid (TmR R w W6 pl ps (.panicked PAN)) := by unfold Hid; rw [← HGA.out, if_neg (fun h => hend h.1)]; exact TmR.none ⟨rfl, HB6.out⟩
      clear hend
      go_wp2_with fail
      clear z0 z1 y0 y1
      refine Calls.mono (need_no _) ?_
      rintro e Wq ⟨rfl, hq⟩
      subst Wq
      go_wp2_with fail
      exact ⟨rfl, HZ.out⟩
  · have he1 : (x == ([116, 104, 101, 110] : List UInt8)) = false := beq_eq_false_iff_ne.2 hth
    have he2 : ¬ x = [116, 104, 101, 110] := hth
    have HZ : Hid (TmR R w W2 pl ps (.panicked PAN)) := by unfold Hid; rw [← HR2'.out, rdT2_not hth]; exact TmR.none ⟨rfl, HB2.out⟩
    clear hth
    go_wp2_with fail
    refine Calls.mono (need_no _) ?_
    rintro e Wq ⟨rfl, hq⟩
    subst Wq
    go_wp2_with fail
    exact ⟨rfl, HZ.out⟩
theorem readTerm_any (cm : List UInt8 → Option Nat) (ad : List UInt8 → Option ByteArray) (K : Knows cm ad) (ws : List (List UInt8)) (pl ps : Nat) (W0 w : World) (h0 : Std0 W0 w pl ps) (hE : ErrsAt W0) (hr : Rd w pl ps ws) : Calls Tryz.prog 49 #[clo pl ps] w fun e w' => TmR (rdT cm ad ws) w w' pl ps e := by
  unfold rdT
  by_cases h : ws.headD [32] = ifW
  · rw [if_pos h]
    exact readTerm_aif cm ad K _ ws.tail ws rfl h rfl _ rfl pl ps W0 w h0 hE hr
  · rw [if_neg h]
    exact readTerm_ano cm ad K _ ws.tail ws rfl h rfl _ rfl pl ps W0 w h0 hE hr
end Go.Proofs.YthaebbmekonacaaGreatDoor
set_option linter.unusedVariables false
set_option linter.unusedSimpArgs false
set_option maxRecDepth 100000
namespace Go.Proofs.YthaebbmekonacaaGreatDoor
open Go.RowKit
/-- A fault with the number 9, at 0. -/
def FltAt (w : World) (b : Nat) : Prop := w.cell? ⟨b, 0, none⟩ = some (.int .i64 9) ∧ w.cell? ⟨b, 1, none⟩ = some (.int .i64 0)
theorem FltAt.new (w : World) (b : Nat) (v : Value) (h : b ≠ w.heap.size) : FltAt ((w.alloc (.cells #[.int .i64 9, .int .i64 0] 101)).setCell ⟨b, 0, none⟩ v) w.heap.size := by
  constructor
  · rw [World.cell?_setCell_other _ _ _ _ (by intro e; injection e with e; exact h e), World.cell?_alloc_new]; rfl
  · rw [World.cell?_setCell_other _ _ _ _ (by intro e; injection e with e; exact h e), World.cell?_alloc_new]; rfl
theorem FltAt.below {w w' : World} {b : Nat} (h : FltAt w b) (hb : Below w.heap.size w w') : FltAt w' b := ⟨below_cell hb h.1, below_cell hb h.2⟩
/-- What Term answers. -/
def BadT (w w' : World) (e : Ending) : Prop := (∃ b, e = .returned (.tuple #[.agg #[.slice none 0 0, .slice none 0 0], .iface 97 (.pointer (some ⟨b, 0, none⟩))]) ∧ FltAt w' b) ∧ Below w.heap.size w w'
end Go.Proofs.YthaebbmekonacaaGreatDoor
