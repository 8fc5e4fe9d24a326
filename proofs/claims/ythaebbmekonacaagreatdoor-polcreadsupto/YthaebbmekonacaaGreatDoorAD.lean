/-
  prim.Addr of an address' own text.
-/
import Derived.Test.YthaebbmekonacaaGreatDoorWA
import Derived.Test.YthaebbmekonacaaGreatDoorH1
import Derived.WalkSpells
import Derived.WalkLawsBesides
import Derived.Lib.ConvBytes
import Derived.Lib.Strings
import Derived.Shelf.Pu.ParseUintPublic10
import Derived.Shelf.Pu.ErrVarParseUint
import Derived.Lib.Split
import Derived.Lib.Join
import Derived.Shelf.Strings.Search2
import Derived.Lib.CutLaws
import Derived.Deep.LoopGhost
import Derived.Shelf.RegionOpenPlain
import Derived.BigCall
import Derived.BigGuard
import Derived.Laws.AppendOwn
import Derived.Lib.BufferRead
import Derived.Laws.MakeOwn
import Derived.Test.YthaebbmekonacaaGreatDoorTX
set_option linter.unusedVariables false
set_option linter.unusedSimpArgs false
set_option maxRecDepth 100000
namespace Go.Proofs.YthaebbmekonacaaGreatDoor
open Go.RowKit
theorem idx_no (c : UInt8) (x : List UInt8) (h : c ∉ x) : Lib.index x [c] = -1 := by
  induction x with
  | nil => rfl
  | cons a x ih =>
    have h1 : ¬ c = a := fun e => h (by simp [e])
    have h2 : Lib.index x [c] = -1 := ih fun e => h (List.mem_cons_of_mem _ e)
    simp [Lib.index, List.isPrefixOf, h1, h2]
theorem idx_in (c : UInt8) (x r : List UInt8) (h : c ∉ x) : Lib.index (x ++ c :: r) [c] = x.length := by
  induction x with
  | nil => simp [Lib.index, List.isPrefixOf]
  | cons a x ih =>
    have h1 : ¬ c = a := fun e => h (by simp [e])
    have h2 : Lib.index (x ++ c :: r) [c] = x.length := ih fun e => h (List.mem_cons_of_mem _ e)
    have h3 : ¬ ((x.length : Int) = -1) := by omega
    simp [Lib.index, List.isPrefixOf, h1, h2, h3]
theorem cut_in (c : UInt8) (x r : List UInt8) (h : c ∉ x) : Lib.cut (x ++ c :: r) [c] = (x, r, true) := by
  unfold Lib.cut
  rw [idx_in c x r h, if_pos (by omega)]
  simp
theorem cut_no (c : UInt8) (x : List UInt8) (h : c ∉ x) : Lib.cut x [c] = (x, [], false) := by
  unfold Lib.cut
  rw [idx_no c x h, if_neg (by decide)]
/-- The words of a text. -/
def spl : List UInt8 → List (List UInt8)
  | [] => [[]]
  | c :: l => if c = 32 then [] :: spl l else match spl l with
    | [] => [[c]]
    | x :: r => (c :: x) :: r
theorem spl_ne (l : List UInt8) : spl l ≠ [] := by
  cases l with
  | nil => simp [spl]
  | cons c l =>
    unfold spl
    split
    · simp
    · split <;> simp
/-- The words, one behind the other, by cuts. -/
theorem spl_cut (l : List UInt8) : (∃ x r, (32 : UInt8) ∉ x ∧ l = x ++ 32 :: r ∧ spl l = x :: spl r) ∨ ((32 : UInt8) ∉ l ∧ spl l = [l]) := by
  induction l with
  | nil => exact Or.inr ⟨by simp, rfl⟩
  | cons c l ih =>
    by_cases h : c = 32
    · refine Or.inl ⟨[], l, by simp, by rw [h]; rfl, ?_⟩
      rw [spl, if_pos h]
    · rcases ih with ⟨x, r, h1, h2, h3⟩ | ⟨h1, h2⟩
      · refine Or.inl ⟨c :: x, r, ?_, by rw [h2]; rfl, ?_⟩
        · intro e
          rcases List.mem_cons.1 e with e | e
          · exact h e.symm
          · exact h1 e
        · rw [spl, if_neg h, h3]
      · refine Or.inr ⟨?_, ?_⟩
        · intro e
          rcases List.mem_cons.1 e with e | e
          · exact h e.symm
          · exact h1 e
        · rw [spl, if_neg h, h2]
/-- A cut, and the words. -/
theorem cut_spl (r : List UInt8) : ∃ (x r' : List UInt8) (m : Bool), Lib.cut r [32] = (x, r', m) ∧ spl r = x :: (if m then spl r' else []) ∧ r'.length + (if m then 1 else 0) ≤ r.length ∧ x.length ≤ r.length := by
  rcases spl_cut r with ⟨x, r', hx, e, es⟩ | ⟨hn, es⟩
  · refine ⟨x, r', true, by rw [e]; exact cut_in 32 x r' hx, by rw [es]; rfl, ?_, ?_⟩
    · rw [e]; simp
    · rw [e]; simp
  · exact ⟨r, [], false, cut_no 32 r hn, by rw [es]; rfl, by simp, Nat.le_refl _⟩
end Go.Proofs.YthaebbmekonacaaGreatDoor
set_option linter.unusedVariables false
set_option linter.unusedSimpArgs false
set_option maxRecDepth 100000
namespace Go.Proofs.YthaebbmekonacaaGreatDoor.Ad
open Go.RowKit
theorem below_freeze {B : Nat} {a w : World} (h : Below B a w) (p : Addr) (n : Nat) (hp : B ≤ p.block) : Below B a (w.freeze p n) := by
  unfold World.freeze
  split
  · exact h
  · exact h.trans ⟨rfl, rfl, rfl, by simp, fun k hk => by simp only [Array.getElem?_modify]; rw [if_neg (by omega)]⟩
theorem below_bytesWorld (w : World) (s : ByteArray) : Below w.heap.size w (Lib.bytesWorld w 5 s) := by
  unfold Lib.bytesWorld
  exact below_freeze ((Below.refl _ _).drew.alloc (Nat.le_refl _) _) _ _ (Nat.le_refl _)
/-- A number's digits to the base b, as the reference puts them. -/
structure Digs (b : Nat) (D : Nat → List UInt8) : Prop where
  low : ∀ u, u < b → D u = [dg u]
  high : ∀ u, ¬ u < b → D u = D (u / b) ++ [dg (u % b)]
theorem digs10 : Digs 10 Lib.decDigits := by
  refine ⟨fun u h => ?_, fun u h => ?_⟩
  · rw [Lib.decDigits, dif_pos h]; unfold dg; rw [if_pos h]
  · rw [Lib.decDigits, dif_neg h]; unfold dg; rw [if_pos (Nat.mod_lt _ (by omega))]
theorem digs16 : Digs 16 hexD := by
  refine ⟨fun u h => ?_, fun u h => ?_⟩
  · rw [hexD, dif_pos h]
  · rw [hexD, dif_neg h]
theorem Digs.len {b : Nat} {D : Nat → List UInt8} (h : Digs b D) (hb : 2 ≤ b) : ∀ (k u : Nat), u < 2 ^ (k + 1) → (D u).length ≤ k + 1
  | 0, u, hu => by rw [h.low u (by omega)]; simp
  | k + 1, u, hu => by
    by_cases hl : u < b
    · rw [h.low u hl]; simp
    · rw [h.high u hl, List.length_append]
      have hd : u / b ≤ u / 2 := Nat.div_le_div_left hb (by omega)
      have := Digs.len h hb k (u / b) (by rw [Nat.pow_succ] at hu; omega)
      simp; omega
/-- The value of a sign, as the reference takes it. -/
def dq (c : UInt8) : Nat := if 48 ≤ c.toNat ∧ c.toNat ≤ 57 then c.toNat - 48 else if 97 ≤ c.toNat ∧ c.toNat ≤ 102 then c.toNat - 87 else 99
def vl (b : Nat) (l : List UInt8) (i : Nat) : Nat := (l.take i).foldl (fun a c => a * b + dq c) 0
theorem vl_succ (b : Nat) (l : List UInt8) (i : Nat) (h : i < l.length) : vl b l (i + 1) = vl b l i * b + dq l[i] := by
  unfold vl; rw [List.take_succ_eq_append_getElem h, List.foldl_append]; rfl
theorem vl_le (b : Nat) (l : List UInt8) (i : Nat) (h : i ≤ l.length) (hb : 1 ≤ b) : vl b l i ≤ vl b l l.length := by
  induction hn : l.length - i generalizing i with
  | zero =>
    obtain rfl : i = l.length := by omega
    exact Nat.le_refl _
  | succ n ih =>
    have h2 := ih (i + 1) (by omega) (by omega)
    rw [vl_succ b l i (by omega)] at h2
    have : vl b l i * 1 ≤ vl b l i * b := Nat.mul_le_mul_left _ hb
    omega
theorem dq_dg (d : Nat) (h : d < 16) : dq (dg d) = d := by
  rcases (show d = 0 ∨ d = 1 ∨ d = 2 ∨ d = 3 ∨ d = 4 ∨ d = 5 ∨ d = 6 ∨ d = 7 ∨ d = 8 ∨ d = 9 ∨ d = 10 ∨ d = 11 ∨ d = 12 ∨ d = 13 ∨ d = 14 ∨ d = 15 by omega) with rfl | rfl | rfl | rfl | rfl | rfl | rfl | rfl | rfl | rfl | rfl | rfl | rfl | rfl | rfl | rfl <;> decide +kernel
theorem Digs.val {b : Nat} {D : Nat → List UInt8} (h : Digs b D) (hb : 2 ≤ b) (hb2 : b ≤ 16) (u : Nat) : vl b (D u) (D u).length = u ∧ ∀ c ∈ D u, dq c < b := by
  induction u using Nat.strongRecOn with
  | _ u ih =>
    by_cases hl : u < b
    · rw [h.low u hl]
      refine ⟨?_, fun c hc => ?_⟩
      · simp [vl, dq_dg u (by omega)]
      · simp at hc; subst hc; rw [dq_dg u (by omega)]; exact hl
    · have hd : u / b < u := Nat.div_lt_self (by omega) (by omega)
      obtain ⟨h1, h2⟩ := ih (u / b) hd
      have hm : u % b < b := Nat.mod_lt _ (by omega)
      rw [h.high u hl]
      refine ⟨?_, fun c hc => ?_⟩
      · rw [List.length_append, List.length_singleton, vl_succ _ _ _ (by simp), List.getElem_concat_length (by rfl), dq_dg _ (by omega)]
        have : vl b (D (u / b) ++ [dg (u % b)]) (D (u / b)).length = vl b (D (u / b)) (D (u / b)).length := by unfold vl; rw [List.take_left', List.take_length] <;> rfl
        rw [this, h1]
        exact Nat.div_add_mod' u b
      · rcases List.mem_append.1 hc with hc | hc
        · exact h2 c hc
        · simp at hc; subst hc; rw [dq_dg _ (by omega)]; exact hm
theorem Digs.ne {b : Nat} {D : Nat → List UInt8} (h : Digs b D) (hb : 2 ≤ b) (u : Nat) : 0 < (D u).length := by
  by_cases hl : u < b
  · rw [h.low u hl]; simp
  · rw [h.high u hl]; simp
theorem dig_twenty (u : Nat) (h : u < 18446744073709551616) : (Lib.decDigits u).length ≤ 20 := dig_pow 19 u (by omega)
theorem hex_twenty (u : Nat) (h : u < 18446744073709551616) : (hexD u).length ≤ 20 := Nat.le_trans (hexD_len u 15 (by omega)) (by omega)
/-- The value of a sign to the base 16, as the library takes it. -/
def dv (c : UInt8) : Option Nat := if 48 ≤ c.toNat ∧ c.toNat ≤ 57 then some (c.toNat - 48) else if 97 ≤ (c ||| 32).toNat ∧ (c ||| 32).toNat ≤ 102 then some ((c ||| 32).toNat - 87) else none
def p16 : Nat → List UInt8 → Option Nat
  | a, [] => some a
  | a, c :: r => (dv c).bind fun d => if 65535 < a * 16 + d then none else p16 (a * 16 + d) r
theorem or_u8 (c : UInt8) : bits .or .u8 (c.toNat : Int) 32 = ((c ||| 32).toNat : Int) := by
  have h : ∀ b : Fin 256, bits .or .u8 (b.val : Int) 32 = ((UInt8.ofNat b.val ||| 32).toNat : Int) := by decide +kernel
  have := h ⟨c.toNat, c.toNat_lt⟩
  simpa using this
theorem lower94 (c : UInt8) (w : World) : Calls Tryz.prog 200 #[.int .u8 (c.toNat : Int)] w fun e w' => e = .returned (.int .u8 ((c ||| 32).toNat : Int)) ∧ w' = w := by
  have h := or_u8 c
  go_enter Tryz.func200, Tryz.ntmps200
  go_wp2
  go_ret
  exact ⟨rfl, rfl⟩
/-- What ParseUint answers: the number and no error, or an error. -/
def PuI (o : Option Nat) (e : Ending) : Prop := match o with
  | some n => e = .returned (.tuple #[.int .u64 (n : Int), .nilIface])
  | none => e = .returned (.tuple #[.int .u64 0, .iface 250 (.int .i64 2)]) ∨ e = .returned (.tuple #[.int .u64 65535, .iface 250 (.int .i64 1)])
theorem puI_some {n : Nat} : PuI (some n) (.returned (.tuple #[.int .u64 (n : Int), .nilIface])) := rfl
theorem puI_syn : PuI none (.returned (.tuple #[.int .u64 0, .iface 250 (.int .i64 2)])) := Or.inl rfl
theorem puI_rng : PuI none (.returned (.tuple #[.int .u64 65535, .iface 250 (.int .i64 1)])) := Or.inr rfl
set_option maxHeartbeats 8000000 in
theorem ipu16 (t : ByteArray) (hne : t.size ≠ 0) (hmax : t.size ≤ 9223372036854775806) (w : World) :
    Calls Tryz.prog 185 #[.string t, .int .i64 16, .int .i64 16] w fun e w' => PuI (p16 0 t.data.toList) e ∧ w' = Lib.bytesWorld w 5 t := by
  have hemp : t.toList.isEmpty = false := by
    rw [← decide_eq_emptyBytes]
    exact decide_eq_false (fun h => hne (by rw [h]; rfl))
  have hcv := Lib.run_convert_string_bytes (P := Tryz.prog) w 9 180 5 t (u := .string) Tryz.underlying9 Tryz.underlying180 Tryz.underlying5
  have hB : ∀ j, j < t.size → (Lib.bytesWorld w 5 t).cell? ⟨w.heap.size, j, none⟩ = some (.int .u8 (t.data.toList.getD j 0).toNat) := fun j hj => Lib.bytesWorld_cell w 5 t j hj
  obtain ⟨W1, hW1⟩ : ∃ W1, W1 = Lib.bytesWorld w 5 t := ⟨_, rfl⟩
  rw [← hW1] at hcv hB ⊢
  clear hW1
  obtain ⟨bs, hL⟩ : ∃ bs, bs = t.data.toList := ⟨_, rfl⟩
  have hLn : bs.length = t.size := by rw [hL, Lib.size_eq]
  rw [← hL] at hB ⊢
  clear hL
  have hmv : IntKind.u64.wrap (IntKind.u64.wrap 65536 - 1) = 65535 := by
    rw [IntKind.wrap_u64, IntKind.wrap_u64]
    decide
  go_enter Tryz.func185, Tryz.ntmps185
  go_wp2
  go_loop [12, 13, 101] (fun vu vn vi => ∃ (k acc : Nat) (a : Int), vu = .bool false ∧ vn = .int .u64 a ∧ vi = .int .i64 (k : Int) ∧ k ≤ t.size ∧ Hid (a = (acc : Int) ∧ acc ≤ 65535 ∧ p16 0 bs = p16 acc (bs.drop k)))
    (fun _ _ vi => t.size - (intOf vi).toNat)
  case atStart => exact ⟨0, 0, 0, rfl, rfl, rfl, by omega, rfl, by omega, rfl⟩
  case round =>
    obtain ⟨k, acc, a, rfl, rfl, rfl, hk, hh⟩ := hrel
    obtain ⟨ha, hacc, hdec⟩ := hh.out
    clear hh
    have a0 : 0 ≤ a := by omega
    have a1 : a ≤ 65535 := by omega
    by_cases hkn : k < t.size
    · have hc := hB k hkn
      have hdrop : bs.drop k = bs[k]'(by omega) :: bs.drop (k + 1) := List.drop_eq_getElem_cons (by omega)
      have hget : bs.getD k 0 = bs[k]'(by omega) := by simp [List.getD, List.getElem?_eq_getElem (show k < bs.length by omega)]
      rw [hdrop] at hdec
      rw [hget] at hc
      generalize bs[k]'(by omega) = c at hc hdec
      have hc256 : c.toNat < 256 := c.toNat_lt
      clear hB hdrop hget
      by_cases hdig : 48 ≤ c.toNat ∧ c.toNat ≤ 57
      · have hdv : dv c = some (c.toNat - 48) := by unfold dv; rw [if_pos hdig]
        obtain ⟨hd0, hd1⟩ := hdig
        by_cases hov : 65535 < acc * 16 + (c.toNat - 48)
        · have hF : p16 acc (c :: bs.drop (k + 1)) = none := by simp [p16, hdv, hov]
          rw [hF] at hdec
          have HD : Hid (_ = _) := hdec
          have iov : 65535 < a * 16 + ((c.toNat : Int) - 48) := by omega
          clear hdv hacc hF hov hdec ha
          go_wp2
          go_ret2
          exact ⟨by rw [HD.out]; exact puI_rng, rfl⟩
        · have hF : p16 acc (c :: bs.drop (k + 1)) = p16 (acc * 16 + (c.toNat - 48)) (bs.drop (k + 1)) := by simp [p16, hdv, hov]
          have HN : Hid (a * 16 + ((c.toNat : Int) - 48) = ((acc * 16 + (c.toNat - 48) : Nat) : Int) ∧ acc * 16 + (c.toNat - 48) ≤ 65535 ∧ p16 0 bs = p16 (acc * 16 + (c.toNat - 48)) (bs.drop (k + 1))) := ⟨by omega, by omega, hdec.trans hF⟩
          have iov : a * 16 + ((c.toNat : Int) - 48) ≤ 65535 := by omega
          clear hacc hF hov hdec hdv ha
          go_wp2
          refine ⟨⟨k + 1, acc * 16 + (c.toNat - 48), a * 16 + ((c.toNat : Int) - 48), rfl, (by first | rfl | (congr 1; omega)), (by first | rfl | (congr 1; omega)), by omega, HN⟩, by simp [intOf]; omega⟩
      · have hb := fun W => lower94 c W
        have hdv : dv c = if 97 ≤ (c ||| 32).toNat ∧ (c ||| 32).toNat ≤ 102 then some ((c ||| 32).toNat - 87) else none := by unfold dv; rw [if_neg hdig]
        have hl : (c ||| 32).toNat < 256 := UInt8.toNat_lt _
        have h95 : c.toNat = 95 → (c ||| 32).toNat = 127 := fun h => by
          have : c = 95 := UInt8.toNat_inj.1 h
          subst this; rfl
        generalize (c ||| 32).toNat = l at *
        have HB : Hid (∀ W, _) := hb
        clear hb
        have hnd : (c.toNat : Int) < 48 ∨ 57 < (c.toNat : Int) := by omega
        by_cases hA : 97 ≤ l ∧ l ≤ 102
        · have q95 : ((c.toNat : Int) == 95) = false := by
            simp; intro h; have := h95 (by omega); omega
          rw [if_pos hA] at hdv
          obtain ⟨hl0, hl1⟩ := hA
          by_cases hov : 65535 < acc * 16 + (l - 87)
          · have hF : p16 acc (c :: bs.drop (k + 1)) = none := by simp [p16, hdv, hov]
            rw [hF] at hdec
            have HD : Hid (_ = _) := hdec
            have iov : 65535 < a * 16 + ((l : Int) - 87) := by omega
            clear hdv hacc hF hov hdec h95 hdig ha
            rcases hnd with hnd | hnd
            all_goals
              go_wp2_with (go_at_call 200; refine (HB.out _).mono ?_; rintro e w' ⟨rfl, rfl⟩)
              go_ret2
              exact ⟨by rw [HD.out]; exact puI_rng, rfl⟩
          · have hF : p16 acc (c :: bs.drop (k + 1)) = p16 (acc * 16 + (l - 87)) (bs.drop (k + 1)) := by simp [p16, hdv, hov]
            have HN : Hid (a * 16 + ((l : Int) - 87) = ((acc * 16 + (l - 87) : Nat) : Int) ∧ acc * 16 + (l - 87) ≤ 65535 ∧ p16 0 bs = p16 (acc * 16 + (l - 87)) (bs.drop (k + 1))) := ⟨by omega, by omega, hdec.trans hF⟩
            have iov : a * 16 + ((l : Int) - 87) ≤ 65535 := by omega
            clear hdv hacc hF hov hdec h95 hdig ha
            rcases hnd with hnd | hnd
            all_goals
              go_wp2_with (go_at_call 200; refine (HB.out _).mono ?_; rintro e w' ⟨rfl, rfl⟩)
              refine ⟨⟨k + 1, acc * 16 + (l - 87), a * 16 + ((l : Int) - 87), rfl, (by first | rfl | (congr 1; omega)), (by first | rfl | (congr 1; omega)), by omega, HN⟩, by simp [intOf]; omega⟩
        · rw [if_neg hA] at hdv
          have hF : p16 acc (c :: bs.drop (k + 1)) = none := by simp [p16, hdv]
          rw [hF] at hdec
          have HD : Hid (_ = _) := hdec
          clear hdv hacc hF hdec ha
          by_cases h5 : c.toNat = 95
          · have := h95 h5
            subst this
            have h5' : (c.toNat : Int) = 95 := by omega
            rw [h5'] at hc HB
            clear hA hdig h95 hnd h5 h5' hc256
            go_wp2_with (go_at_call 200; refine (HB.out _).mono ?_; rintro e w' ⟨rfl, rfl⟩)
            go_ret2
            exact ⟨by rw [HD.out]; exact puI_syn, rfl⟩
          · have q95 : ((c.toNat : Int) == 95) = false := by simp; omega
            clear h95 h5 hdig
            rcases hnd with hnd | hnd
            all_goals
              by_cases hB1 : l < 97
              · clear hA
                go_wp2_with (go_at_call 200; refine (HB.out _).mono ?_; rintro e w' ⟨rfl, rfl⟩)
                go_ret2
                exact ⟨by rw [HD.out]; exact puI_syn, rfl⟩
              · by_cases hB2 : 122 < l
                · clear hA
                  go_wp2_with (go_at_call 200; refine (HB.out _).mono ?_; rintro e w' ⟨rfl, rfl⟩)
                  go_ret2
                  exact ⟨by rw [HD.out]; exact puI_syn, rfl⟩
                · have hB3 : 103 ≤ l := by omega
                  clear hA
                  go_wp2_with (go_at_call 200; refine (HB.out _).mono ?_; rintro e w' ⟨rfl, rfl⟩)
                  go_ret2
                  exact ⟨by rw [HD.out]; exact puI_syn, rfl⟩
    · have hkk : k = t.size := by omega
      subst hkk
      have hF : p16 acc (bs.drop t.size) = some acc := by rw [List.drop_eq_nil_of_le (by omega)]; rfl
      rw [hF] at hdec
      have HD : Hid (_ = _) := hdec
      subst ha
      clear hacc hF hdec a0 a1
      go_wp2
      go_ret2
      exact ⟨by rw [HD.out]; exact puI_some, rfl⟩
end Go.Proofs.YthaebbmekonacaaGreatDoor.Ad
set_option linter.unusedVariables false
set_option linter.unusedSimpArgs false
set_option maxRecDepth 100000
namespace Go.Proofs.YthaebbmekonacaaGreatDoor.Ad
open Go.RowKit
theorem errSyn {w : World} (h : ErrsAt w) : ∃ te pe, w.cell? ⟨8, 0, none⟩ = some (.iface te pe) := by
  obtain ⟨⟨a, b, t, fr, h1⟩, _⟩ := h
  exact ⟨a, b, by simp [World.cell?, h1]⟩
theorem errRng {w : World} (h : ErrsAt w) : ∃ te pe, w.cell? ⟨9, 0, none⟩ = some (.iface te pe) := by
  obtain ⟨_, ⟨a, b, t, fr, h1⟩⟩ := h
  exact ⟨a, b, by simp [World.cell?, h1]⟩
def IsErr (e : Ending) : Prop := ∃ t p, e = .returned (.iface t p)
set_option maxHeartbeats 2000000 in
theorem toErr_syn (fn s : ByteArray) (base bits : Int) (w : World) (hs : s.size ≤ 281474976710656) (hE : ErrsAt w) :
    Calls Tryz.prog 186 #[.string fn, .string s, .int .i64 base, .int .i64 bits, .iface 250 (.int .i64 2)] w fun e w' => IsErr e ∧ Below w.heap.size w w' := by
  have heq : ∀ W, (binOp .eql 70 (.iface 250 (.int .i64 2)) (.iface 250 (.int .i64 2))).run Tryz.prog W = .ok (.bool true) W := fun W => by kernel_rfl
  obtain ⟨te, pe, hv⟩ := errSyn hE
  have HC : Hid (_ : Prop) := show Calls Tryz.prog 202 #[.string fn, .string s] w _ from AnyPu.strconv_syntaxError { Tryz.laysPu14 with } fn s (.iface te pe) w hs hv (Or.inr ⟨te, pe, rfl⟩)
  clear hE hv
  go_enter Tryz.func186, Tryz.ntmps186
  go_wp2_with fail
  refine Calls.mono HC.out ?_
  rintro e w2 ⟨N, rfl, h1, h2, h3⟩
  go_wp2
  go_ret
  exact ⟨⟨_, _, rfl⟩, h3⟩
set_option maxHeartbeats 2000000 in
theorem toErr_rng (fn s : ByteArray) (base bits : Int) (w : World) (hs : s.size ≤ 281474976710656) (hE : ErrsAt w) :
    Calls Tryz.prog 186 #[.string fn, .string s, .int .i64 base, .int .i64 bits, .iface 250 (.int .i64 1)] w fun e w' => IsErr e ∧ Below w.heap.size w w' := by
  have heq : ∀ W, (binOp .eql 70 (.iface 250 (.int .i64 1)) (.iface 250 (.int .i64 2))).run Tryz.prog W = .ok (.bool false) W := fun W => by kernel_rfl
  have heq2 : ∀ W, (binOp .eql 70 (.iface 250 (.int .i64 1)) (.iface 250 (.int .i64 1))).run Tryz.prog W = .ok (.bool true) W := fun W => by kernel_rfl
  obtain ⟨te, pe, hv⟩ := errRng hE
  have HC : Hid (_ : Prop) := show Calls Tryz.prog 203 #[.string fn, .string s] w _ from AnyPu.strconv_rangeError { Tryz.laysPu14 with } fn s (.iface te pe) w hs hv (Or.inr ⟨te, pe, rfl⟩)
  clear hE hv
  go_enter Tryz.func186, Tryz.ntmps186
  go_wp2_with fail
  refine Calls.mono HC.out ?_
  rintro e w2 ⟨N, rfl, h1, h2, h3⟩
  go_wp2
  go_ret
  exact ⟨⟨_, _, rfl⟩, h3⟩
/-- What ParseUint answers. -/
def PuOk (o : Option Nat) (e : Ending) : Prop := match o with
  | some n => e = .returned (.tuple #[.int .u64 (n : Int), .nilIface])
  | none => ∃ v t p, e = .returned (.tuple #[.int .u64 v, .iface t p])
def o10 (bits : Nat) (l : List UInt8) : Option Nat := match Lib.parseUintB bits l with
  | .ok u => some u
  | _ => none
def o16 (l : List UInt8) : Option Nat := if l = [] then none else p16 0 l
theorem below_bw (w : World) (s : ByteArray) : Below w.heap.size w (Lib.bytesWorld w 5 s) := below_bytesWorld w s
theorem pu10_8 (s : ByteArray) (hs : s.size ≤ 281474976710656) (w : World) (hE : ErrsAt w) :
    Calls Tryz.prog 168 #[.string s, .int .i64 10, .int .i64 8] w fun e w' => PuOk (o10 8 s.data.toList) e ∧ Below w.heap.size w w' := by
  obtain ⟨⟨t1, p1, ty1, fr1, h1⟩, ⟨t2, p2, ty2, fr2, h2⟩⟩ := hE
  unfold o10
  cases hp : Lib.parseUintB 8 s.data.toList
  · exact (show Calls Tryz.prog 168 _ _ _ from Any.strconv_ParseUint_10_at8_ok Tryz.laysPu14 s (by omega) _ hp w).mono fun _ _ ⟨h3, h4⟩ => ⟨h3, by rcases h4 with rfl | rfl; exact Below.refl _ _; exact below_bw w s⟩
  · exact (show Calls Tryz.prog 168 _ _ _ from Any.strconv_ParseUint_10_at8_syntax_var Tryz.laysPu14 s hs hp t1 p1 w (var_at (by kernel_rfl) h1)).mono fun _ _ ⟨N, h3, _, _, h4⟩ => ⟨⟨_, _, _, h3⟩, h4⟩
  · exact (show Calls Tryz.prog 168 _ _ _ from Any.strconv_ParseUint_10_at8_range_var Tryz.laysPu14 s hs hp t2 p2 w (var_at (by kernel_rfl) h2)).mono fun _ _ ⟨N, h3, _, _, h4⟩ => ⟨⟨_, _, _, h3⟩, h4⟩
set_option maxHeartbeats 2000000 in
theorem ipu16_none (w : World) : Calls Tryz.prog 185 #[.string ⟨#[]⟩, .int .i64 16, .int .i64 16] w fun e w' => e = .returned (.tuple #[.int .u64 0, .iface 250 (.int .i64 2)]) ∧ w' = w := by
  go_enter Tryz.func185, Tryz.ntmps185
  go_wp2
  go_ret2
  exact ⟨rfl, rfl⟩
/-- The inner ParseUint of every text. -/
theorem ipu16_any (s : ByteArray) (hs : s.size ≤ 281474976710656) (w : World) :
    Calls Tryz.prog 185 #[.string s, .int .i64 16, .int .i64 16] w fun e w' => PuI (o16 s.data.toList) e ∧ Below w.heap.size w w' := by
  by_cases h0 : s.size = 0
  · have hs0 : s = ⟨#[]⟩ := by
      apply ByteArray.ext
      exact Array.eq_empty_of_size_eq_zero h0
    subst hs0
    exact (ipu16_none w).mono fun e w' ⟨he, hw⟩ => ⟨by rw [he]; exact Or.inl rfl, by rw [hw]; exact Below.refl _ _⟩
  · have hne : s.data.toList ≠ [] := fun h => h0 (by rw [Lib.size_eq, h]; rfl)
    refine (ipu16 s h0 (by omega) w).mono fun e w' ⟨he, hw⟩ => ⟨?_, by rw [hw]; exact below_bw w s⟩
    unfold o16; rw [if_neg hne]; exact he
set_option maxHeartbeats 2000000 in
theorem pu16 (s : ByteArray) (hs : s.size ≤ 281474976710656) (w : World) (hE : ErrsAt w) :
    Calls Tryz.prog 168 #[.string s, .int .i64 16, .int .i64 16] w fun e w' => PuOk (o16 s.data.toList) e ∧ Below w.heap.size w w' := by
  have HI : Hid (∀ W, _) := fun W => ipu16_any s hs W
  have HS : Hid (∀ W, ErrsAt W → _) := fun W h => toErr_syn ⟨#[80, 97, 114, 115, 101, 85, 105, 110, 116]⟩ s 16 16 W hs h
  have HR : Hid (∀ W, ErrsAt W → _) := fun W h => toErr_rng ⟨#[80, 97, 114, 115, 101, 85, 105, 110, 116]⟩ s 16 16 W hs h
  have HE : Hid (ErrsAt w) := hE
  clear hE
  generalize o16 s.data.toList = o at *
  go_enter Tryz.func168, Tryz.ntmps168
  go_wp2_with fail
  refine (HI.out _).mono ?_
  rintro e w1 ⟨he, hb1⟩
  have HB : Hid (Below w.heap.size w w1) := hb1
  have HE1 : Hid (ErrsAt w1) := HE.out.below hb1
  clear hb1
  cases o with
  | some n =>
    obtain rfl := he
    go_wp2
    go_ret2
    exact ⟨rfl, HB.out⟩
  | none =>
    rcases he with rfl | rfl
    · go_wp2_with fail
      refine (HS.out _ HE1.out).mono ?_
      rintro e w2 ⟨⟨t, p, rfl⟩, hb2⟩
      go_wp2
      go_ret2
      exact ⟨⟨_, _, _, rfl⟩, HB.out.trans (hb2.mono HB.out.size)⟩
    · go_wp2_with fail
      refine (HR.out _ HE1.out).mono ?_
      rintro e w2 ⟨⟨t, p, rfl⟩, hb2⟩
      go_wp2
      go_ret2
      exact ⟨⟨_, _, _, rfl⟩, HB.out.trans (hb2.mono HB.out.size)⟩
end Go.Proofs.YthaebbmekonacaaGreatDoor.Ad
set_option linter.unusedVariables false
set_option linter.unusedSimpArgs false
set_option maxRecDepth 100000
namespace Go.Proofs.YthaebbmekonacaaGreatDoor.Ad
open Go.RowKit
def rdN (D : Nat → List UInt8) (o : Option Nat) (l : List UInt8) : Option Nat := match o with
  | some u => if D u = l then some u else none
  | none => none
def RnV (o : Option Nat) : Value := match o with
  | some n => .tuple #[.int .u64 (n : Int), .bool true]
  | none => .tuple #[.int .u64 0, .bool false]
/-- o is the number whose digits l is, if it is at most M. -/
structure RdP (D : Nat → List UInt8) (M : Nat) (o : Option Nat) (l : List UInt8) : Prop where
  sound : ∀ u, o = some u → l = D u ∧ u ≤ M
  full : ∀ u, u ≤ M → l = D u → o = some u
theorem RdP.one {D : Nat → List UInt8} {M : Nat} {o : Option Nat} {l : List UInt8} (h1 : ∀ u, o = some u → u ≤ M) (h2 : ∀ u, u ≤ M → l = D u → o = some u) : RdP D M (rdN D o l) l := by
  refine ⟨fun u h => ?_, fun u h e => ?_⟩
  · cases o with
    | none => cases h
    | some x =>
      simp only [rdN] at h
      split at h
      · rename_i hx
        obtain rfl := Option.some.inj h
        exact ⟨hx.symm, h1 _ rfl⟩
      · cases h
  · rw [h2 u h e]
    simp only [rdN]
    rw [if_pos e.symm]
theorem pB_ok (bits : Nat) (l : List UInt8) (u : Nat) (h : Lib.parseUintB bits l = .ok u) : u ≤ 2 ^ bits - 1 := by
  unfold Lib.parseUintB at h
  split at h
  · cases h
  · exact pm_le _ 0 l u (Nat.zero_le _) h
theorem o10_le (bits : Nat) (l : List UInt8) (u : Nat) (h : o10 bits l = some u) : u ≤ 2 ^ bits - 1 := by
  unfold o10 at h
  split at h
  · rename_i x hx
    obtain rfl := Option.some.inj h
    exact pB_ok bits l _ hx
  · cases h
theorem o10_full (bits : Nat) (hb : bits ≤ 64) (l : List UInt8) (u : Nat) (hu : u ≤ 2 ^ bits - 1) (h : l = Lib.decDigits u) : o10 bits l = some u := by
  have hp : 2 ^ bits ≤ 2 ^ 64 := Nat.pow_le_pow_right (by decide) hb
  have : Lib.parseUintB bits l = .ok u := by
    unfold Lib.parseUintB
    rw [h, if_neg (digits_ne u)]
    exact pm_back _ u hu (by omega)
  unfold o10
  rw [this]
theorem rd8 (l : List UInt8) : RdP Lib.decDigits 255 (rdN Lib.decDigits (o10 8 l) l) l := RdP.one (fun u h => o10_le 8 l u h) (fun u h e => o10_full 8 (by decide) l u h e)
theorem p16_le : ∀ (l : List UInt8) (a u : Nat), a ≤ 65535 → p16 a l = some u → u ≤ 65535
  | [], a, u, h, e => by obtain rfl := Option.some.inj e; exact h
  | c :: r, a, u, h, e => by
    simp only [p16] at e
    cases hd : dv c with
    | none => rw [hd] at e; cases e
    | some d =>
      rw [hd] at e
      simp only [Option.bind_some] at e
      split at e
      · cases e
      · exact p16_le r _ u (by omega) e
theorem p16_app : ∀ (l r : List UInt8) (a u : Nat), p16 a l = some u → p16 a (l ++ r) = p16 u r
  | [], r, a, u, e => by obtain rfl := Option.some.inj e; rfl
  | c :: l, r, a, u, e => by
    simp only [p16, List.cons_append] at e ⊢
    cases hd : dv c with
    | none => rw [hd] at e; cases e
    | some d =>
      rw [hd] at e
      simp only [Option.bind_some] at e ⊢
      split at e
      · cases e
      · rename_i hn
        rw [if_neg hn]
        exact p16_app l r _ u e
theorem dv_dg (d : Nat) (h : d < 16) : dv (dg d) = some d := by
  rcases (show d = 0 ∨ d = 1 ∨ d = 2 ∨ d = 3 ∨ d = 4 ∨ d = 5 ∨ d = 6 ∨ d = 7 ∨ d = 8 ∨ d = 9 ∨ d = 10 ∨ d = 11 ∨ d = 12 ∨ d = 13 ∨ d = 14 ∨ d = 15 by omega) with rfl | rfl | rfl | rfl | rfl | rfl | rfl | rfl | rfl | rfl | rfl | rfl | rfl | rfl | rfl | rfl <;> decide +kernel
theorem p16_back (u : Nat) (h : u ≤ 65535) : p16 0 (hexD u) = some u := by
  induction u using Nat.strongRecOn with
  | _ u ih =>
    by_cases hl : u < 16
    · rw [digs16.low u hl]
      simp only [p16, dv_dg u hl, Option.bind_some]
      rw [if_neg (by omega)]; simp
    · rw [digs16.high u hl, p16_app _ _ _ _ (ih (u / 16) (by omega) (by omega))]
      simp only [p16, dv_dg (u % 16) (Nat.mod_lt _ (by decide)), Option.bind_some]
      rw [if_neg (by omega)]
      congr 1; omega
theorem rd16 (l : List UInt8) : RdP hexD 65535 (rdN hexD (o16 l) l) l := by
  refine RdP.one (fun u h => ?_) (fun u h e => ?_)
  · unfold o16 at h
    split at h
    · cases h
    · exact p16_le l 0 u (by omega) h
  · have := hexD_ne u
    unfold o16
    rw [if_neg (by rw [e]; intro h; rw [h] at this; simp at this), e]
    exact p16_back u h
theorem toL_eq (l : List UInt8) (s : ByteArray) (h : l = s.data.toList) : ((⟨l.toArray⟩ : ByteArray).toList == s.toList) = true := by
  rw [beq_iff_eq, ByteArray.toList_eq, ByteArray.toList_eq, h]
theorem toL_ne (l : List UInt8) (s : ByteArray) (h : ¬ l = s.data.toList) : ((⟨l.toArray⟩ : ByteArray).toList == s.toList) = false := by
  rw [beq_eq_false_iff_ne, ne_eq, ByteArray.toList_eq, ByteArray.toList_eq]; exact h
set_option maxHeartbeats 2000000 in
theorem rn8 (s : ByteArray) (hs : s.size ≤ 281474976710656) (w : World) (hE : ErrsAt w) (hP : PowAt w) :
    Calls Tryz.prog 188 #[.string s, .int .i64 10, .int .i64 8] w fun e w' => e = .returned (RnV (rdN Lib.decDigits (o10 8 s.data.toList) s.data.toList)) ∧ Below w.heap.size w w' := by
  have HL : Hid (∀ u, o10 8 s.data.toList = some u → u < 18446744073709551616) := fun u h => Nat.lt_of_le_of_lt (o10_le 8 _ u h) (by decide)
  have HPu : Hid (_ : Prop) := pu10_8 s hs w hE
  have HF : Hid (∀ (u : Nat) (hu : u < 18446744073709551616) W, PowAt W → _) := fun u hu W hp => fmt_any u hu W hp
  have HP : Hid (PowAt w) := hP
  clear hE hP
  generalize ho : o10 8 s.data.toList = o at *
  clear ho
  go_enter Tryz.func188, Tryz.ntmps188
  go_wp2_with fail
  refine Calls.mono HPu.out ?_
  rintro e w1 ⟨he, hb1⟩
  have HB : Hid (Below w.heap.size w w1) := hb1
  have HP1 : Hid (PowAt w1) := HP.out.below hb1
  clear hb1
  cases o with
  | none =>
    obtain ⟨v, t, p, rfl⟩ := he
    go_wp2
    go_ret2
    exact ⟨rfl, HB.out⟩
  | some u =>
    obtain rfl := he
    have hu := HL.out u rfl
    have hF := HF.out u hu
    have HF2 : Hid (∀ W, _) := hF
    by_cases hq : Lib.decDigits u = s.data.toList
    · have HR : Hid (rdN Lib.decDigits (some u) s.data.toList = some u) := by unfold Hid rdN; simp only []; rw [if_pos hq]
      have hq1 := toL_eq _ _ hq
      clear hF HF HL hq hu
      generalize (⟨(Lib.decDigits u).toArray⟩ : ByteArray) = dt at *
      go_wp2_with fail
      refine Calls.mono (HF2.out _ HP1.out) ?_
      rintro e w2 ⟨rfl, hb2⟩
      go_wp2
      go_ret2
      exact ⟨by rw [HR.out]; rfl, HB.out.trans (hb2.mono HB.out.size)⟩
    · have HR : Hid (rdN Lib.decDigits (some u) s.data.toList = none) := by unfold Hid rdN; simp only []; rw [if_neg hq]
      have hq1 := toL_ne _ _ hq
      clear hF HF HL hq hu
      generalize (⟨(Lib.decDigits u).toArray⟩ : ByteArray) = dt at *
      go_wp2_with fail
      refine Calls.mono (HF2.out _ HP1.out) ?_
      rintro e w2 ⟨rfl, hb2⟩
      go_wp2
      go_ret2
      exact ⟨by rw [HR.out]; rfl, HB.out.trans (hb2.mono HB.out.size)⟩
set_option maxHeartbeats 2000000 in
theorem rn16 (s : ByteArray) (hs : s.size ≤ 281474976710656) (w : World) (hE : ErrsAt w) (hP : Deb w) :
    Calls Tryz.prog 188 #[.string s, .int .i64 16, .int .i64 16] w fun e w' => e = .returned (RnV (rdN hexD (o16 s.data.toList) s.data.toList)) ∧ Below w.heap.size w w' := by
  have HL : Hid (∀ u, o16 s.data.toList = some u → u < 18446744073709551616) := fun u h => by
    unfold o16 at h
    split at h
    · cases h
    · have := p16_le _ 0 u (by omega) h
      omega
  have HPu : Hid (_ : Prop) := pu16 s hs w hE
  have HF : Hid (∀ (u : Nat) (hu : u < 18446744073709551616) W, Deb W → _) := fun u hu W hp => fu16 u hu W hp
  have HP : Hid (Deb w) := hP
  clear hE hP
  generalize ho : o16 s.data.toList = o at *
  clear ho
  go_enter Tryz.func188, Tryz.ntmps188
  go_wp2_with fail
  refine Calls.mono HPu.out ?_
  rintro e w1 ⟨he, hb1⟩
  have HB : Hid (Below w.heap.size w w1) := hb1
  have HP1 : Hid (Deb w1) := HP.out.below hb1
  clear hb1
  cases o with
  | none =>
    obtain ⟨v, t, p, rfl⟩ := he
    go_wp2
    go_ret2
    exact ⟨rfl, HB.out⟩
  | some u =>
    obtain rfl := he
    have hu := HL.out u rfl
    have hF := HF.out u hu
    have HF2 : Hid (∀ W, _) := hF
    by_cases hq : hexD u = s.data.toList
    · have HR : Hid (rdN hexD (some u) s.data.toList = some u) := by unfold Hid rdN; simp only []; rw [if_pos hq]
      have hq1 := toL_eq _ _ hq
      clear hF HF HL hq hu
      generalize (⟨(hexD u).toArray⟩ : ByteArray) = dt at *
      go_wp2_with fail
      refine Calls.mono (HF2.out _ HP1.out) ?_
      rintro e w2 ⟨rfl, hb2⟩
      go_wp2
      go_ret2
      exact ⟨by rw [HR.out]; rfl, HB.out.trans (hb2.mono HB.out.size)⟩
    · have HR : Hid (rdN hexD (some u) s.data.toList = none) := by unfold Hid rdN; simp only []; rw [if_neg hq]
      have hq1 := toL_ne _ _ hq
      clear hF HF HL hq hu
      generalize (⟨(hexD u).toArray⟩ : ByteArray) = dt at *
      go_wp2_with fail
      refine Calls.mono (HF2.out _ HP1.out) ?_
      rintro e w2 ⟨rfl, hb2⟩
      go_wp2
      go_ret2
      exact ⟨by rw [HR.out]; rfl, HB.out.trans (hb2.mono HB.out.size)⟩
end Go.Proofs.YthaebbmekonacaaGreatDoor.Ad
set_option linter.unusedVariables false
set_option linter.unusedSimpArgs false
set_option maxRecDepth 100000
namespace Go.Proofs.YthaebbmekonacaaGreatDoor.Ad
open Go.RowKit
theorem idx_no (c : UInt8) (x : List UInt8) (h : c ∉ x) : Lib.index x [c] = -1 := by
  induction x with
  | nil => rfl
  | cons a x ih =>
    have h1 : ¬ c = a := fun e => h (by simp [e])
    have h2 : Lib.index x [c] = -1 := ih fun e => h (List.mem_cons_of_mem _ e)
    simp [Lib.index, List.isPrefixOf, h1, h2]
theorem idx_in (c : UInt8) (x r : List UInt8) (h : c ∉ x) : Lib.index (x ++ c :: r) [c] = x.length := by
  induction x with
  | nil => simp [Lib.index, List.isPrefixOf]
  | cons a x ih =>
    have h1 : ¬ c = a := fun e => h (by simp [e])
    have h2 : Lib.index (x ++ c :: r) [c] = x.length := ih fun e => h (List.mem_cons_of_mem _ e)
    have h3 : ¬ ((x.length : Int) = -1) := by omega
    simp [Lib.index, List.isPrefixOf, h1, h2, h3]
theorem first_at (c : UInt8) (l : List UInt8) : c ∉ l ∨ ∃ x r, c ∉ x ∧ l = x ++ c :: r := by
  induction l with
  | nil => left; simp
  | cons a l ih =>
    by_cases h : a = c
    · right; exact ⟨[], l, by simp, by simp [h]⟩
    · rcases ih with h2 | ⟨x, r, h2, h3⟩
      · left
        intro hm
        rcases List.mem_cons.1 hm with e | e
        · exact h e.symm
        · exact h2 e
      · right
        refine ⟨a :: x, r, fun hm => ?_, by rw [h3]; rfl⟩
        rcases List.mem_cons.1 hm with e | e
        · exact h e.symm
        · exact h2 e
/-- Pieces, the sign behind each. -/
def flat (c : UInt8) (A : List (List UInt8)) : List UInt8 := A.flatMap fun x => x ++ [c]
theorem flat_cons (c : UInt8) (x : List UInt8) (A : List (List UInt8)) : flat c (x :: A) = x ++ c :: flat c A := by simp [flat]
theorem flat_app (c : UInt8) (A : List (List UInt8)) (x : List UInt8) : flat c (A ++ [x]) = flat c A ++ x ++ [c] := by simp [flat]
theorem join_flat (c : UInt8) (A : List (List UInt8)) (z : List UInt8) : Lib.join (A ++ [z]) [c] = flat c A ++ z := by
  induction A with
  | nil => rw [List.nil_append, Lib.join_one]; rfl
  | cons x A ih =>
    rw [List.cons_append, Lib.join_cons, flat_cons]
    cases A with
    | nil => simp [Lib.joinTail, flat]
    | cons y A =>
      rw [List.cons_append, Lib.join_cons] at ih
      rw [List.cons_append]
      simp only [Lib.joinTail, List.map_cons, List.flatten_cons] at ih ⊢
      rw [List.append_assoc [c], ih]
      simp
theorem head_inj (c : UInt8) (x y r t : List UInt8) (hx : c ∉ x) (hy : c ∉ y) (h : x ++ c :: r = y ++ c :: t) : x = y ∧ r = t := by
  have h1 := idx_in c x r hx
  rw [h, idx_in c y t hy] at h1
  have hl : y.length = x.length := by omega
  have := List.append_inj h hl.symm
  exact ⟨this.1, (List.cons.inj this.2).2⟩
/-- No piece has the sign. -/
def Free (c : UInt8) (A : List (List UInt8)) : Prop := ∀ x ∈ A, c ∉ x
theorem Free.app {c : UInt8} {A : List (List UInt8)} {x : List UInt8} (h : Free c A) (hx : c ∉ x) : Free c (A ++ [x]) := by
  intro y hy
  rcases List.mem_append.1 hy with e | e
  · exact h y e
  · rw [List.mem_singleton.1 e]; exact hx
theorem flat_inj (c : UInt8) : ∀ (A B : List (List UInt8)) (x y : List UInt8), Free c A → Free c B → c ∉ x → c ∉ y → flat c A ++ x = flat c B ++ y → A = B ∧ x = y
  | [], [], x, y, _, _, _, _, h => ⟨rfl, by simpa [flat] using h⟩
  | [], b :: B, x, y, _, _, hx, _, h => by
    exfalso; apply hx
    rw [flat_cons] at h
    have : x = b ++ c :: flat c B ++ y := by simpa [flat] using h
    rw [this]; simp
  | a :: A, [], x, y, _, _, _, hy, h => by
    exfalso; apply hy
    rw [flat_cons] at h
    have : a ++ c :: flat c A ++ x = y := by simpa [flat] using h
    rw [← this]; simp
  | a :: A, b :: B, x, y, hA, hB, hx, hy, h => by
    rw [flat_cons, flat_cons, List.append_assoc, List.append_assoc, List.cons_append, List.cons_append] at h
    obtain ⟨rfl, h2⟩ := head_inj c a b _ _ (hA a (List.mem_cons_self ..)) (hB b (List.mem_cons_self ..)) h
    obtain ⟨rfl, rfl⟩ := flat_inj c A B x y (fun z hz => hA z (List.mem_cons_of_mem _ hz)) (fun z hz => hB z (List.mem_cons_of_mem _ hz)) hx hy h2
    exact ⟨rfl, rfl⟩
theorem count_flat (c : UInt8) (A : List (List UInt8)) (h : Free c A) (x : List UInt8) : (flat c A ++ x).count c = A.length + x.count c := by
  induction A with
  | nil => simp [flat]
  | cons a A ih =>
    have ha : a.count c = 0 := List.count_eq_zero.2 (h a (List.mem_cons_self ..))
    have := ih fun z hz => h z (List.mem_cons_of_mem _ hz)
    rw [flat_cons, List.append_assoc, List.cons_append, List.count_append, List.count_cons_self, this, ha, List.length_cons]
    omega
/-- A text cut at the first k signs. -/
theorem splitK_is (c : UInt8) : ∀ (k : Nat) (l : List UInt8), ∃ A z, Lib.splitK [c] 0 k l = A ++ [z] ∧ l = flat c A ++ z ∧ Free c A ∧ A.length ≤ k ∧ (A.length < k → c ∉ z)
  | 0, l => ⟨[], l, rfl, by simp [flat], fun _ h => by simp at h, Nat.le_refl _, fun h => by simp at h⟩
  | k + 1, l => by
    rcases first_at c l with h | ⟨x, r, hx, rfl⟩
    · refine ⟨[], l, ?_, by simp [flat], fun _ h => by simp at h, Nat.zero_le _, fun _ => h⟩
      unfold Lib.splitK
      rw [idx_no c l h]; rfl
    · obtain ⟨A, z, h1, h2, h3, h4, h5⟩ := splitK_is c k r
      refine ⟨x :: A, z, ?_, ?_, ?_, by simp; omega, fun h => h5 (by simp at h; omega)⟩
      · unfold Lib.splitK
        rw [idx_in c x r hx, if_neg (by simp)]
        simp only [Nat.add_zero, Int.toNat_natCast, List.length_singleton]
        rw [List.take_left', show x ++ c :: r = (x ++ [c]) ++ r by simp, List.drop_left', h1]
        · rfl
        · simp
        · rfl
      · rw [flat_cons, List.append_assoc, List.cons_append, ← h2]
      · intro y hy
        rcases List.mem_cons.1 hy with e | e
        · rw [e]; exact hx
        · exact h3 y e
/-- What stands in so many pieces is cut into these. -/
theorem splitK_back (c : UInt8) (k : Nat) (A : List (List UInt8)) (z : List UInt8) (hA : Free c A) (hz : c ∉ z) (hk : A.length ≤ k) : Lib.splitK [c] 0 k (flat c A ++ z) = A ++ [z] := by
  obtain ⟨B, y, h1, h2, h3, h4, h5⟩ := splitK_is c k (flat c A ++ z)
  have c1 := count_flat c A hA z
  have c2 := count_flat c B h3 y
  rw [← h2] at c2
  have cz : z.count c = 0 := List.count_eq_zero.2 hz
  have hy : c ∉ y := by
    by_cases h : B.length < k
    · exact h5 h
    · apply List.count_eq_zero.1; omega
  obtain ⟨rfl, rfl⟩ := flat_inj c A B z y hA h3 hz hy h2
  exact h1
end Go.Proofs.YthaebbmekonacaaGreatDoor.Ad
set_option linter.unusedVariables false
set_option linter.unusedSimpArgs false
set_option maxRecDepth 100000
namespace Go.Proofs.YthaebbmekonacaaGreatDoor.Ad
open Go.RowKit
theorem index_c (s : ByteArray) (c : UInt8) (w : World) : Calls Tryz.prog 170 #[.string s, .string ⟨#[c]⟩] w fun e w' => e = .returned (.int .i64 (Lib.indexB s ⟨#[c]⟩)) ∧ w' = w := by
  have h : Calls Tryz.prog 170 #[.string s, .string ⟨#[c]⟩] w fun e w' => e = .returned (.int .i64 (Lib.indexByte s.data.toList c)) ∧ w' = w := Any.stringslite_Index_one (P := Tryz.prog) (ρ := Tryz.lays145_ren) { Tryz.lays145 with } s c w
  have e : Lib.indexB s ⟨#[c]⟩ = Lib.indexByte s.data.toList c := Lib.index_one _ _
  rw [e]; exact h
theorem sindex_c (s : ByteArray) (c : UInt8) (w : World) : Calls Tryz.prog 215 #[.string s, .string ⟨#[c]⟩] w fun e w' => e = .returned (.int .i64 (Lib.indexB s ⟨#[c]⟩)) ∧ w' = w := by
  go_enter Tryz.func215, Tryz.ntmps215
  go_wp2_with (go_at_call 170; refine (index_c s c _).mono ?_; rintro e w' ⟨rfl, rfl⟩)
  go_ret
  exact ⟨rfl, rfl⟩
theorem one_size (c : UInt8) : (⟨#[c]⟩ : ByteArray).size = 1 := rfl
/-- Cut at a byte, whatever the text's length. -/
theorem lcut_c (s : ByteArray) (c : UInt8) (hs : s.size < 140737488351233) (w : World) :
    Calls Tryz.prog 138 #[.string s, .string ⟨#[c]⟩] w fun e w' => e = .returned (.tuple #[.string ⟨(Lib.cut s.data.toList [c]).1.toArray⟩, .string ⟨(Lib.cut s.data.toList [c]).2.1.toArray⟩, .bool (Lib.cut s.data.toList [c]).2.2]) ∧ ∃ n, w' = w.drewN n := by
  rcases Lib.indexB_cases s ⟨#[c]⟩ with hix | ⟨i, hix, hroom⟩
  · obtain ⟨e1, e2, e3⟩ := Lib.cutB_miss s ⟨#[c]⟩ hix
    rw [show ([c] : List UInt8) = (⟨#[c]⟩ : ByteArray).data.toList from rfl, e1, e2, e3]
    have HI : Hid (∀ W, Calls Tryz.prog 170 #[.string s, .string ⟨#[c]⟩] W _) := fun W => index_c s c W
    rw [hix] at HI
    clear e1 e2 e3 hix
    go_enter Tryz.func138, Tryz.ntmps138
    go_wp2_with (go_at_call 170; refine (HI.out _).mono ?_; rintro e w' ⟨rfl, rfl⟩)
    go_ret3
    exact ⟨rfl, 0, rfl⟩
  · obtain ⟨e1, e2, e3⟩ := Lib.cutB_hit s ⟨#[c]⟩ i hix
    rw [show ([c] : List UInt8) = (⟨#[c]⟩ : ByteArray).data.toList from rfl, e1, e2, e3]
    rw [one_size] at hroom ⊢
    have HI : Hid (∀ W, Calls Tryz.prog 170 #[.string s, .string ⟨#[c]⟩] W _) := fun W => index_c s c W
    rw [hix] at HI
    clear e1 e2 e3 hix
    have mixed := Tryz.lays145.mixed
    have hw : IntKind.i64.wrap ((i : Int) + 1) = (i : Int) + 1 := by rw [IntKind.wrap_i64]; omega
    have c1 : (0 : Int) ≤ (i : Int) := by omega
    have c2 : (i : Int) ≤ (s.size : Int) := by omega
    have c3 : (0 : Int) ≤ (i : Int) + 1 := by omega
    have c4 : (i : Int) + 1 ≤ (s.size : Int) := by omega
    go_enter Tryz.func138, Tryz.ntmps138
    go_wp2_with (go_at_call 170; refine (HI.out _).mono ?_; rintro e w' ⟨rfl, rfl⟩)
    go_region_o
    go_wp2
    go_ret3
    exact ⟨rfl, 1, rfl⟩
theorem scut_c (s : ByteArray) (c : UInt8) (hs : s.size < 140737488351233) (w : World) :
    Calls Tryz.prog 93 #[.string s, .string ⟨#[c]⟩] w fun e w' => e = .returned (.tuple #[.string ⟨(Lib.cut s.data.toList [c]).1.toArray⟩, .string ⟨(Lib.cut s.data.toList [c]).2.1.toArray⟩, .bool (Lib.cut s.data.toList [c]).2.2]) ∧ ∃ n, w' = w.drewN n := by
  have HC : Hid (∀ W, Calls Tryz.prog 138 #[.string s, .string ⟨#[c]⟩] W _) := fun W => lcut_c s c hs W
  go_enter Tryz.func93, Tryz.ntmps93
  go_wp2_with (go_at_call 138; refine (HC.out _).mono ?_; rintro e w' ⟨rfl, n, rfl⟩)
  go_ret3
  exact ⟨rfl, n, rfl⟩
theorem info9 : (Tryz.prog.info? 9).map (fun i => (i.zero, i.size, i.bytes)) = some (some (.string ByteArray.empty), 1, 16) := by kernel_rfl
set_option maxHeartbeats 4000000 in
/-- The pieces of a text at a byte, n of them at most, whatever its length. -/
theorem gsplit_c (s : ByteArray) (c : UInt8) (n : Nat) (hs : s.size < 140737488351233) (hn : 2 ≤ n) (hn9 : n ≤ 9) (w : World) :
    Calls Tryz.prog 206 #[.string s, .string ⟨#[c]⟩, .int .i64 0, .int .i64 n] w fun e w' =>
      e = .returned (.slice (some ⟨w.heap.size, 0, none⟩) (Lib.splitB ⟨#[c]⟩ 0 (min n (s.size + 1) - 1) s).length (min n (s.size + 1))) ∧ w' = w.alloc (.cells (Lib.cellsOf (Lib.splitB ⟨#[c]⟩ 0 (min n (s.size + 1) - 1) s) (min n (s.size + 1))) 9) := by
  obtain ⟨N, hN⟩ : ∃ N : Nat, min n (s.size + 1) = N := ⟨_, rfl⟩
  have hN' : min (n : Int) ((s.size : Int) + 1) = (N : Int) := by omega
  rw [hN]
  have hN1 : (1 : Int) ≤ (N : Int) := by omega
  have hNs : (N : Int) ≤ (s.size : Int) + 1 := by omega
  have hN9 : N ≤ 9 := by omega
  have hne : ((n : Int) == 0) = false := beq_eq_false_iff_ne.2 (by omega)
  have hneg : ¬ ((n : Int) < 0) := by omega
  have hse : ((⟨#[c]⟩ : ByteArray) == ByteArray.empty) = false := by rfl
  have HX : Hid (∀ (x : ByteArray) W, Calls Tryz.prog 215 #[.string x, .string ⟨#[c]⟩] W _) := fun x W => sindex_c x c W
  clear hN
  have hmk := run_make_row' (P := Tryz.prog) 105 9 (.string ByteArray.empty) 16 Tryz.underlying105 info9 rfl .i64 .i64 N (by omega) (by omega)
  go_enter Tryz.func206, Tryz.ntmps206
  go_wp2_with fail
  clear hmk
  go_loopw [0, 10] (fun a i wr => ∃ (done : List ByteArray) (rest : ByteArray), a = .string rest ∧ i = .int .i64 (done.length : Int) ∧ done.length ≤ N - 1 ∧ rest.size ≤ s.size ∧
      wr = w.alloc (.cells (Lib.cellsOf done N) 9) ∧ done ++ Lib.splitB ⟨#[c]⟩ 0 (N - 1 - done.length) rest = Lib.splitB ⟨#[c]⟩ 0 (N - 1) s) (fun _ i _ => N - (intOf i).toNat)
  case atStart => exact ⟨[], s, rfl, rfl, Nat.zero_le _, Nat.le_refl _, by rw [Lib.cellsOf_nil], rfl⟩
  case round =>
    obtain ⟨done, rest, rfl, rfl, hd, hrs, rfl, hsp⟩ := hrel
    have hnext : (Lib.cellsOf done N)[done.length]? = some (.string ByteArray.empty) := Lib.cellsOf_next (by omega)
    have HF : Hid (Lib.splitB ⟨#[c]⟩ 0 (N - 1 - done.length) rest = [rest] → (Lib.splitB ⟨#[c]⟩ 0 (N - 1) s).length = done.length + 1 ∧ (Lib.cellsOf done N).setIfInBounds done.length (.string rest) = Lib.cellsOf (Lib.splitB ⟨#[c]⟩ 0 (N - 1) s) N) := fun h => by
      rw [h] at hsp
      rw [← hsp]
      exact ⟨by simp, Lib.cellsOf_set (by omega) rest⟩
    have HS : Hid (_ = _) := hsp
    clear hsp
    by_cases hlt : done.length < N - 1
    · have hltz : ((done.length : Nat) : Int) < (N : Int) - 1 := by omega
      rcases Lib.indexB_cases rest ⟨#[c]⟩ with hix | ⟨i, hix, hroom⟩
      · go_wp2_with (go_at_call 215; refine (HX.out rest _).mono ?_; rintro e w' ⟨rfl, rfl⟩; rw [hix])
        go_ret
        obtain ⟨f1, f2⟩ := HF.out (Lib.splitB_miss _ _ _ rest hix)
        rw [f1, ← f2]
        exact ⟨by first | rfl | (congr 2 <;> omega), rfl⟩
      · rw [one_size] at hroom
        have c0 : ¬ ((i : Int) < 0) := by omega
        have c1 : (0 : Int) ≤ (i : Int) + 0 := by omega
        have c2 : (i : Int) + 0 ≤ (rest.size : Int) := by omega
        have c3 : (0 : Int) ≤ (i : Int) + 1 := by omega
        have c4 : (i : Int) + 1 ≤ (rest.size : Int) := by omega
        go_wp2_with (go_at_call 215; refine (HX.out rest _).mono ?_; rintro e w' ⟨rfl, rfl⟩; rw [hix])
        go_roundw
        case measure => simp [intOf]; omega
        case rel =>
          refine ⟨done ++ [rest.extract 0 i], rest.extract (i + 1) rest.size, rfl, by simp, by simp; omega, by rw [ByteArray.size_extract]; omega, by rw [← Lib.cellsOf_set (by omega)], ?_⟩
          rw [← HS.out, show N - 1 - done.length = (N - 1 - (done.length + 1)) + 1 by omega, Lib.splitB_hit _ 0 _ rest i hix]
          simp [one_size]
    · have hltz : ¬ (((done.length : Nat) : Int) < (N : Int) - 1) := by omega
      go_wp2_with fail
      go_ret
      obtain ⟨f1, f2⟩ := HF.out (by rw [show N - 1 - done.length = 0 by omega]; rfl)
      rw [f1, ← f2]
      exact ⟨by first | rfl | (congr 2 <;> omega), rfl⟩
theorem splitN_c (s : ByteArray) (c : UInt8) (n : Nat) (hs : s.size < 140737488351233) (hn : 2 ≤ n) (hn9 : n ≤ 9) (w : World) :
    Calls Tryz.prog 187 #[.string s, .string ⟨#[c]⟩, .int .i64 n] w fun e w' =>
      e = .returned (.slice (some ⟨w.heap.size, 0, none⟩) (Lib.splitB ⟨#[c]⟩ 0 (min n (s.size + 1) - 1) s).length (min n (s.size + 1))) ∧ w' = w.alloc (.cells (Lib.cellsOf (Lib.splitB ⟨#[c]⟩ 0 (min n (s.size + 1) - 1) s) (min n (s.size + 1))) 9) := by
  have H := gsplit_c s c n hs hn hn9 w
  generalize (Lib.splitB ⟨#[c]⟩ 0 (min n (s.size + 1) - 1) s) = L at *
  generalize min n (s.size + 1) = N at *
  have HG : Hid (Calls Tryz.prog 206 #[.string s, .string ⟨#[c]⟩, .int .i64 0, .int .i64 n] w _) := H
  clear H
  go_enter Tryz.func187, Tryz.ntmps187
  go_wp2_with (go_at_call 206; refine HG.out.mono ?_; rintro e w' ⟨rfl, rfl⟩)
  go_ret
  exact ⟨rfl, rfl⟩
end Go.Proofs.YthaebbmekonacaaGreatDoor.Ad
set_option linter.unusedVariables false
set_option linter.unusedSimpArgs false
set_option maxRecDepth 100000
namespace Go.Proofs.YthaebbmekonacaaGreatDoor.Ad
open Go.RowKit
/-- What the loop over the words finds in memory. -/
structure RdAt (w wr : World) : Prop where
  s0 : wr.cell? ⟨w.heap.size, 0, none⟩ = some (.string ⟨#[46]⟩)
  s1 : wr.cell? ⟨w.heap.size, 1, none⟩ = some (.int .i64 4)
  s2 : wr.cell? ⟨w.heap.size, 2, none⟩ = some (.int .i64 1)
  s3 : wr.cell? ⟨w.heap.size, 3, none⟩ = some (.int .i64 10)
  w0 : wr.cell? ⟨w.heap.size + 1, 0, none⟩ = some (.string ⟨#[49, 48]⟩)
  w1 : wr.cell? ⟨w.heap.size + 1, 1, none⟩ = some (.string ⟨#[49]⟩)
  w2 : wr.cell? ⟨w.heap.size + 1, 2, none⟩ = some (.string ⟨#[48]⟩)
  w3 : wr.cell? ⟨w.heap.size + 1, 3, none⟩ = some (.string ⟨#[48]⟩)
  bel : Below w.heap.size w wr
  sz : w.heap.size + 1 + 1 ≤ wr.heap.size
theorem RdAt.kept {w wr w' : World} (h : RdAt w wr) (hb : Below (w.heap.size + 1 + 1) wr w') : RdAt w w' := by
  have a : w.heap.size < w.heap.size + 1 + 1 := by omega
  have b : w.heap.size + 1 < w.heap.size + 1 + 1 := by omega
  exact ⟨(hb.cell (p := ⟨_, _, none⟩) a).trans h.s0, (hb.cell (p := ⟨_, _, none⟩) a).trans h.s1, (hb.cell (p := ⟨_, _, none⟩) a).trans h.s2, (hb.cell (p := ⟨_, _, none⟩) a).trans h.s3,
    (hb.cell (p := ⟨_, _, none⟩) b).trans h.w0, (hb.cell (p := ⟨_, _, none⟩) b).trans h.w1, (hb.cell (p := ⟨_, _, none⟩) b).trans h.w2, (hb.cell (p := ⟨_, _, none⟩) b).trans h.w3,
    h.bel.trans (hb.mono (by omega)), Nat.le_trans h.sz hb.size⟩
theorem ownsRow_below {w w' : World} {base : Nat} {e : TypeId} {size : Nat} {v : Value} {n : Nat} {xs : List Value} (h : w.ownsRow base e size v n xs) (hb : Below w.heap.size w w') : w'.ownsRow base e size v n xs := by
  obtain ⟨h1, h2⟩ := h
  refine ⟨h1, ?_⟩
  rcases h2 with h2 | ⟨g, cap, cur, hv, hg, hh, r⟩
  · exact Or.inl h2
  · exact Or.inr ⟨g, cap, cur, hv, hg, (hb.block g ((Array.getElem?_eq_some_iff.mp hh).1)).trans hh, r⟩
theorem cell_new1 (w : World) (v : Value) (t : TypeId) : ∀ j u, [v][j]? = some u → (w.alloc (.cells #[v] t)).cell? (Addr.add ⟨w.heap.size, 0, none⟩ j) = some u := by
  intro j u hj
  match j, hj with
  | 0, hj => simp at hj; subst hj; simp [Addr.add]
theorem one_u8 (n : Int) : ∀ u ∈ [Value.int .u8 n], u.oneCell' = true := by
  intro u hu; simp at hu; subst hu; rfl
theorem owned_bytes {w : World} {base : Nat} {v : Value} (l : List UInt8) (h0 : l.length ≠ 0) (h : w.ownsRow base 5 1 v l.length (l.map fun b => Value.int .u8 (b.toNat : Int))) :
    ∃ g cap, v = .slice (some ⟨g, 0, none⟩) l.length cap ∧ ∀ j (hj : j < l.length), w.cell? (Addr.add ⟨g, 0, none⟩ j) = some (.int .u8 (l[j].toNat : Int)) := by
  have h' := h
  obtain ⟨h1, h2⟩ := h
  rcases h2 with ⟨_, h2⟩ | ⟨g, cap, cur, hv, hg, hh, r⟩
  · exact absurd h2 h0
  · refine ⟨g, cap, hv, fun j hj => h'.cells (g := g) (by rw [hv]; rfl) j _ ?_⟩
    rw [List.getElem?_map, List.getElem?_eq_getElem hj]; rfl
structure EnvE (w : World) : Prop where
  t : EnvT w
  e : ErrsAt w
theorem EnvE.below {w w' : World} (h : EnvE w) (hb : Below w.heap.size w w') : EnvE w' := ⟨h.t.below hb, h.e.below hb⟩
theorem info5c : (Tryz.prog.info? 5).map (fun i => (i.zero, i.size, i.bytes)) = some (some (.int .u8 0), 1, 1) := by kernel_rfl
theorem slice_of_owns {w : World} {base : Nat} {e : TypeId} {size : Nat} {v : Value} {n : Nat} {xs : List Value} (h : w.ownsRow base e size v n xs) : ∃ ad c, v = .slice ad n c := by
  obtain ⟨_, h | ⟨g, cap, cur, h, _⟩⟩ := h
  · exact ⟨none, 0, by rw [h.1, h.2]⟩
  · exact ⟨_, _, h⟩
/-- Bytes in a row of their own. -/
def byV (l : List UInt8) : List Value := l.map fun c => .int .u8 (c.toNat : Int)
theorem byV_app (l : List UInt8) (c : UInt8) : byV (l ++ [c]) = byV l ++ [.int .u8 (c.toNat : Int)] := by simp [byV]
/-- All of them read. -/
def AllRd (f : List UInt8 → Option Nat) (P : List ByteArray) (ns : List Nat) (k : Nat) : Prop := ns.length = k ∧ k ≤ P.length ∧ ∀ j (h : j < ns.length) (h2 : j < P.length), f P[j].data.toList = some ns[j]
theorem AllRd.next {f : List UInt8 → Option Nat} {P : List ByteArray} {ns : List Nat} {k : Nat} (h : AllRd f P ns k) (hk : k < P.length) {n : Nat} (hn : f P[k].data.toList = some n) : AllRd f P (ns ++ [n]) (k + 1) := by
  obtain ⟨h1, h2, h3⟩ := h
  refine ⟨by simp [h1], hk, fun j hj hj2 => ?_⟩
  by_cases e : j < ns.length
  · rw [List.getElem_append_left e]; exact h3 j e hj2
  · simp at hj
    obtain rfl : j = ns.length := by omega
    rw [List.getElem_concat_length rfl]
    subst h1; exact hn
def enc1 (ns : List Nat) : List UInt8 := ns.map UInt8.ofNat
def enc2 (ns : List Nat) : List UInt8 := ns.flatMap fun n => [UInt8.ofNat (n / 256), UInt8.ofNat (n % 256)]
theorem enc1_app (ns : List Nat) (n : Nat) : enc1 (ns ++ [n]) = enc1 ns ++ [UInt8.ofNat n] := by simp [enc1]
theorem enc2_app (ns : List Nat) (n : Nat) : enc2 (ns ++ [n]) = (enc2 ns ++ [UInt8.ofNat (n / 256)]) ++ [UInt8.ofNat (n % 256)] := by simp [enc2]
theorem enc1_len (ns : List Nat) : (enc1 ns).length = ns.length := by simp [enc1]
theorem enc2_len (ns : List Nat) : (enc2 ns).length = 2 * ns.length := by
  induction ns with
  | nil => rfl
  | cons n ns ih => simp [enc2] at ih ⊢; omega
/-- What a style answers. -/
def StA (f : List UInt8 → Option Nat) (en : List Nat → List UInt8) (cnt : Nat) (P : List ByteArray) (e : Ending) : Prop :=
  (∃ ns, P.length = cnt ∧ AllRd f P ns cnt ∧ e = .returned (.tuple #[.string ⟨(en ns).toArray⟩, .bool true])) ∨
  ((P.length ≠ cnt ∨ ∃ (j : Nat) (h : j < P.length), f P[j].data.toList = none) ∧ e = .returned (.tuple #[.string ⟨#[]⟩, .bool false]))
theorem back_owned {w : World} {base : Nat} {v : Value} (l : List UInt8) (h : w.ownsRow base 5 1 v l.length (byV l)) :
    (convert 180 9 v).run Tryz.prog w = .ok (.string ⟨l.toArray⟩) w := by
  by_cases h0 : l.length = 0
  · obtain rfl : l = [] := List.length_eq_zero_iff.mp h0
    rcases h.2 with ⟨rfl, _⟩ | ⟨g, cap, cur, rfl, hg, hh, r⟩
    · exact Go.Lib.run_convert_nil_bytes (P := Tryz.prog) w 180 9 5 0 Tryz.underlying180 Tryz.underlying5 Tryz.underlying9
    · exact run_convert_bytes_back (P := Tryz.prog) w 180 9 5 ⟨g, 0, none⟩ cap [] Tryz.underlying180 Tryz.underlying5 Tryz.underlying9 (fun j hj => by simp at hj)
  · obtain ⟨g, cap, rfl, hc⟩ := owned_bytes l h0 h
    exact run_convert_bytes_back (P := Tryz.prog) w 180 9 5 ⟨g, 0, none⟩ cap l Tryz.underlying180 Tryz.underlying5 Tryz.underlying9 hc
/-- A piece is no longer than the text. -/
theorem splitB_small (c : UInt8) : ∀ (k : Nat) (s : ByteArray), ∀ x ∈ Lib.splitB ⟨#[c]⟩ 0 k s, x.size ≤ s.size
  | 0, s, x, hx => by simp [Lib.splitB] at hx; rw [hx]; exact Nat.le_refl _
  | k + 1, s, x, hx => by
    unfold Lib.splitB at hx
    split at hx
    · simp at hx; rw [hx]; exact Nat.le_refl _
    · rcases List.mem_cons.1 hx with e | e
      · rw [e]; simp; omega
      · have := splitB_small c k _ x e
        simp at this
        omega
set_option maxHeartbeats 4000000 in
theorem read4 (s : ByteArray) (hs : s.size < 140737488351233) (w : World) (hE : EnvE w) :
    Calls Tryz.prog 169 #[.agg #[.string ⟨#[46]⟩, .int .i64 4, .int .i64 1, .int .i64 10], .string s] w fun e w' => StA (fun l => rdN Lib.decDigits (o10 8 l) l) enc1 4 (Lib.splitB ⟨#[46]⟩ 0 (min 5 (s.size + 1) - 1) s) e ∧ Below w.heap.size w w' := by
  obtain ⟨i0, hi, hz0, hz1, hz2⟩ := info_parts info5c
  have HB0 : Hid (Below w.heap.size w (w.alloc (.cells #[.string ⟨#[46]⟩, .int .i64 4, .int .i64 1, .int .i64 10] 219))) := (Below.refl _ _).alloc (Nat.le_refl _) _
  have HE0 : Hid (EnvE (w.alloc (.cells #[.string ⟨#[46]⟩, .int .i64 4, .int .i64 1, .int .i64 10] 219))) := hE.below HB0.out
  have HSp : Hid (∀ (m : Int) (W : World), W.cell? ⟨5, 0, none⟩ = some (Value.int .i64 m) → _) := fun m W hm => splitN_c s 46 5 hs (by decide) (by decide) W
  have HPs : Hid (∀ x ∈ Lib.splitB ⟨#[46]⟩ 0 (min 5 (s.size + 1) - 1) s, x.size ≤ 281474976710656) := by
    intro x hx
    have := splitB_small 46 _ s x hx
    omega
  have HN : Hid (∀ x : ByteArray, x.size ≤ 281474976710656 → ∀ W, EnvE W → _) := fun x hx W h => rn8 x hx W h.e h.t.p
  have hcap : (Lib.splitB ⟨#[46]⟩ 0 (min 5 (s.size + 1) - 1) s).length ≤ min 5 (s.size + 1) := by
    have := Lib.splitB_length_le ⟨#[46]⟩ 0 (min 5 (s.size + 1) - 1) s
    omega
  have hcb : min 5 (s.size + 1) ≤ 5 := Nat.min_le_left _ _
  generalize Lib.splitB ⟨#[46]⟩ 0 (min 5 (s.size + 1) - 1) s = P at *
  generalize min 5 (s.size + 1) = cap at *
  clear hE hs
  go_enter Tryz.func169, Tryz.ntmps169
  go_wp2_with fail
  obtain ⟨m, hm⟩ := HE0.out.t.t.max
  refine (HSp.out m _ hm).mono ?_
  rintro e w1 ⟨rfl, hw1⟩
  clear HSp hm
  have HC : Hid (∀ j (h : j < P.length), w1.cell? ⟨w.heap.size + 1, j, none⟩ = some (.string P[j])) := fun j h => by
    rw [hw1]
    have hsz : (w.alloc (.cells #[.string ⟨#[46]⟩, .int .i64 4, .int .i64 1, .int .i64 10] 219)).heap.size = w.heap.size + 1 := by simp
    rw [← hsz, World.cell?_alloc_new]
    unfold Lib.cellsOf
    simp [List.getElem?_append_left, h]
  have HBx : Hid (∀ j v, (#[.string ⟨#[46]⟩, .int .i64 4, .int .i64 1, .int .i64 10] : Array Value)[j]? = some v → w1.cell? ⟨w.heap.size, j, none⟩ = some v) := fun j v h => by
    rw [hw1, World.cell?_alloc_old _ _ _ (by simp), World.cell?_alloc_new]; exact h
  have HB1 : Hid (Below w.heap.size w w1) := by unfold Hid; rw [hw1]; exact HB0.out.alloc (by simp) _
  have HE1 : Hid (EnvE w1) := by unfold Hid; rw [hw1]; exact HE0.out.below ((Below.refl _ _).alloc (Nat.le_refl _) _)
  have hsz1 : w1.heap.size = w.heap.size + 1 + 1 := by rw [hw1]; simp
  have HSZ : Hid (_ = _) := hsz1
  have c0 := HBx.out 0 _ rfl
  have c1 := HBx.out 1 _ rfl
  have c2 := HBx.out 2 _ rfl
  have c3 := HBx.out 3 _ rfl
  clear hw1 HB0 HE0 hsz1
  by_cases hlen : P.length = 4
  · have hl1 : ((P.length : Int) == 4) = true := by rw [beq_iff_eq]; omega
    have hl2 : (P.length : Int) = 4 := by omega
    have HLn : Hid (P.length = 4) := hlen
    clear hcap hcb hlen
    go_wp2_with fail
    clear c0 c1 c2 c3
    go_loopw [7, 9, 10, 11, 12, 27] (fun x7 x9 x10 x11 x12 x27 wr => ∃ (k : Nat) (ns : List Nat), x27 = .int .i64 (k : Int) ∧ k ≤ 4 ∧ AllRd (fun l => rdN Lib.decDigits (o10 8 l) l) P ns k ∧ wr.ownsRow w1.heap.size 5 1 x7 (enc1 ns).length (byV (enc1 ns)) ∧ Below w1.heap.size w1 wr) (fun _ _ _ _ _ x27 _ => 4 - (intOf x27).toNat)
    case atStart => exact ⟨0, [], rfl, Nat.zero_le _, ⟨rfl, Nat.zero_le _, fun j h => by simp at h⟩, World.ownsRow_nil _ _ _ _, Below.refl _ _⟩
    case round =>
      obtain ⟨k, ns, rfl, hk, hall, hown, hbel⟩ := hrel
      obtain ⟨ad, c, rfl⟩ := slice_of_owns hown
      have HA : Hid (AllRd _ _ _ _) := hall
      have HO : Hid (World.ownsRow _ _ _ _ _ _ _) := hown
      have HW : Hid (Below w1.heap.size w1 wr) := hbel
      have HSe : Hid (w.heap.size + 1 < w1.heap.size) := by unfold Hid; rw [HSZ.out]; omega
      have HWr : Hid (EnvE wr) := HE1.out.below hbel
      clear hall hown hbel
      have hlen4 : ns.length = k := HA.out.1
      by_cases hlt : k < 4
      · have hkP : k < P.length := by rw [HLn.out]; exact hlt
        have cw := (HW.out.cell (p := ⟨w.heap.size + 1, k, none⟩) HSe.out).trans (HC.out k hkP)
        have hlb : w.heap.size < w1.heap.size := by have := HSe.out; omega
        have d1 := (HW.out.cell (p := ⟨w.heap.size, 1, none⟩) hlb).trans (HBx.out 1 _ rfl)
        have d2 := (HW.out.cell (p := ⟨w.heap.size, 2, none⟩) hlb).trans (HBx.out 2 _ rfl)
        have d3 := (HW.out.cell (p := ⟨w.heap.size, 3, none⟩) hlb).trans (HBx.out 3 _ rfl)
        have hNx := HN.out P[k] (HPs.out _ (List.getElem_mem hkP)) wr HWr.out
        obtain ⟨o, ho⟩ : ∃ o, (fun l => rdN Lib.decDigits (o10 8 l) l) P[k].data.toList = o := ⟨_, rfl⟩
        have HF1 : Hid (o = none → ∃ (j : Nat) (h : j < P.length), (fun l => rdN Lib.decDigits (o10 8 l) l) P[j].data.toList = none) := fun e => ⟨k, hkP, ho.trans e⟩
        have HF2 : Hid (∀ n, o = some n → AllRd (fun l => rdN Lib.decDigits (o10 8 l) l) P (ns ++ [n]) (k + 1)) := fun n e => HA.out.next hkP (ho.trans e)
        have HF3 : Hid (∀ n, o = some n → n ≤ 255) := fun n e => ((rd8 P[k].data.toList).sound n (ho.trans e)).2
        simp only [] at ho
        rw [ho] at hNx
        have HNx : Hid (_ : Prop) := hNx
        clear hNx ho hlb
        generalize P[k] = word at *
        have hlti : (k : Int) < 4 := by omega
        have hlenN : Hid (ns.length = k) := hlen4
        clear hlen4
        go_wp2_with fail
        refine Calls.mono HNx.out ?_
        rintro e w2 ⟨he, hb2⟩
        have HW2 : Hid (Below w1.heap.size w1 w2) := HW.out.trans (hb2.mono HW.out.size)
        have hown2 := ownsRow_below HO.out hb2
        have hlb : w.heap.size < w1.heap.size := by have := HSe.out; omega
        have t2 := (HW2.out.cell (p := ⟨w.heap.size, 2, none⟩) hlb).trans (HBx.out 2 _ rfl)
        have hsz2 : w1.heap.size ≤ w2.heap.size := HW2.out.size
        clear hb2 d1 d2 d3 cw HO HW HWr HNx hlb
        cases o with
        | none =>
          obtain rfl : e = .returned (.tuple #[.int .u64 0, .bool false]) := he
          clear hown2 t2 hsz2
          go_wp2
          go_ret2
          exact ⟨Or.inr ⟨Or.inr (HF1.out (by trivial)), rfl⟩, HB1.out.trans (HW2.out.mono HB1.out.size)⟩
        | some n =>
          obtain rfl : e = .returned (.tuple #[.int .u64 (n : Int), .bool true]) := he
          have HAll := HF2.out n rfl
          have HA2 : Hid (AllRd _ _ _ _) := HAll
          have hn := HF3.out n rfl
          clear HAll HF1 HF2 HF3 HA
          have hlx : (enc1 ns).length ≤ 100 := by rw [enc1_len, hlenN.out]; omega
          have HBy : Hid (byV (enc1 (ns ++ [n])) = byV (enc1 ns) ++ [.int .u8 (n : Int)]) := by
            unfold Hid
            rw [enc1_app, byV_app, UInt8.toNat_ofNat', Nat.mod_eq_of_lt (by omega)]
          have HLe : Hid ((enc1 (ns ++ [n])).length = (enc1 ns).length + 1) := by unfold Hid; rw [enc1_app]; simp
          go_wp2_with fail
          refine wp_loop_rounds 2 ?_
          rw [rounds_succ]
          go_wp2_with (at_builtin; refine wpList_append_own _ rfl _ _ 180 rfl w1.heap.size 5 i0 (.int .u8 0) 1 1 Tryz.underlying180 hi hz0 hz1 hz2 rfl (by decide) _ _ _ rfl (hown2.alloc _) ⟨w2.heap.size, 0, none⟩ 1 1 [.int .u8 (n : Int)] rfl rfl (cell_new1 _ _ _) (one_u8 _) (by unfold maxLen; omega) (by omega) (by simp; omega) ?_; intro v' w3 hown3 hgrow _)
          have HW3 : Hid (Below w1.heap.size w1 w3) := (HW2.out.alloc hsz2 _).grown hgrow (by simp; omega) (fun j e => (hown2.lt j e).1)
          have HO3 : Hid (w3.ownsRow w1.heap.size 5 1 v' (enc1 (ns ++ [n])).length (byV (enc1 (ns ++ [n])))) := by unfold Hid; rw [HBy.out, HLe.out]; exact hown3
          clear hgrow hown2 hown3 t2 hsz2
          rw [rounds_succ]
          go_wp2
          go_roundw
          case rel => exact ⟨k + 1, ns ++ [n], by go_num, by omega, HA2.out, HO3.out, HW3.out⟩
          case measure => simp [intOf]; omega
      · obtain rfl : k = 4 := by omega
        have hcv := back_owned _ HO.out
        clear hlen4
        go_wp2
        go_ret2
        exact ⟨Or.inl ⟨ns, HLn.out, HA.out, rfl⟩, HB1.out.trans (HW.out.mono HB1.out.size)⟩
  · have hl1 : ((P.length : Int) == 4) = false := by rw [beq_eq_false_iff_ne]; omega
    have HL : Hid (P.length ≠ 4) := hlen
    clear hlen hi hz0 hz1 hz2 hcap hcb
    go_wp2
    go_ret2
    exact ⟨Or.inr ⟨Or.inl HL.out, rfl⟩, HB1.out⟩
set_option maxHeartbeats 4000000 in
theorem read16 (s : ByteArray) (hs : s.size < 140737488351233) (w : World) (hE : EnvE w) :
    Calls Tryz.prog 169 #[.agg #[.string ⟨#[58]⟩, .int .i64 8, .int .i64 2, .int .i64 16], .string s] w fun e w' => StA (fun l => rdN hexD (o16 l) l) enc2 8 (Lib.splitB ⟨#[58]⟩ 0 (min 9 (s.size + 1) - 1) s) e ∧ Below w.heap.size w w' := by
  obtain ⟨i0, hi, hz0, hz1, hz2⟩ := info_parts info5c
  have HB0 : Hid (Below w.heap.size w (w.alloc (.cells #[.string ⟨#[58]⟩, .int .i64 8, .int .i64 2, .int .i64 16] 219))) := (Below.refl _ _).alloc (Nat.le_refl _) _
  have HE0 : Hid (EnvE (w.alloc (.cells #[.string ⟨#[58]⟩, .int .i64 8, .int .i64 2, .int .i64 16] 219))) := hE.below HB0.out
  have HSp : Hid (∀ (m : Int) (W : World), W.cell? ⟨5, 0, none⟩ = some (Value.int .i64 m) → _) := fun m W hm => splitN_c s 58 9 hs (by decide) (by decide) W
  have HPs : Hid (∀ x ∈ Lib.splitB ⟨#[58]⟩ 0 (min 9 (s.size + 1) - 1) s, x.size ≤ 281474976710656) := by
    intro x hx
    have := splitB_small 58 _ s x hx
    omega
  have HN : Hid (∀ x : ByteArray, x.size ≤ 281474976710656 → ∀ W, EnvE W → _) := fun x hx W h => rn16 x hx W h.e h.t.d
  have hcap : (Lib.splitB ⟨#[58]⟩ 0 (min 9 (s.size + 1) - 1) s).length ≤ min 9 (s.size + 1) := by
    have := Lib.splitB_length_le ⟨#[58]⟩ 0 (min 9 (s.size + 1) - 1) s
    omega
  have hcb : min 9 (s.size + 1) ≤ 9 := Nat.min_le_left _ _
  generalize Lib.splitB ⟨#[58]⟩ 0 (min 9 (s.size + 1) - 1) s = P at *
  generalize min 9 (s.size + 1) = cap at *
  clear hE hs
  go_enter Tryz.func169, Tryz.ntmps169
  go_wp2_with fail
  obtain ⟨m, hm⟩ := HE0.out.t.t.max
  refine (HSp.out m _ hm).mono ?_
  rintro e w1 ⟨rfl, hw1⟩
  clear HSp hm
  have HC : Hid (∀ j (h : j < P.length), w1.cell? ⟨w.heap.size + 1, j, none⟩ = some (.string P[j])) := fun j h => by
    rw [hw1]
    have hsz : (w.alloc (.cells #[.string ⟨#[58]⟩, .int .i64 8, .int .i64 2, .int .i64 16] 219)).heap.size = w.heap.size + 1 := by simp
    rw [← hsz, World.cell?_alloc_new]
    unfold Lib.cellsOf
    simp [List.getElem?_append_left, h]
  have HBx : Hid (∀ j v, (#[.string ⟨#[58]⟩, .int .i64 8, .int .i64 2, .int .i64 16] : Array Value)[j]? = some v → w1.cell? ⟨w.heap.size, j, none⟩ = some v) := fun j v h => by
    rw [hw1, World.cell?_alloc_old _ _ _ (by simp), World.cell?_alloc_new]; exact h
  have HB1 : Hid (Below w.heap.size w w1) := by unfold Hid; rw [hw1]; exact HB0.out.alloc (by simp) _
  have HE1 : Hid (EnvE w1) := by unfold Hid; rw [hw1]; exact HE0.out.below ((Below.refl _ _).alloc (Nat.le_refl _) _)
  have hsz1 : w1.heap.size = w.heap.size + 1 + 1 := by rw [hw1]; simp
  have HSZ : Hid (_ = _) := hsz1
  have c0 := HBx.out 0 _ rfl
  have c1 := HBx.out 1 _ rfl
  have c2 := HBx.out 2 _ rfl
  have c3 := HBx.out 3 _ rfl
  clear hw1 HB0 HE0 hsz1
  by_cases hlen : P.length = 8
  · have hl1 : ((P.length : Int) == 8) = true := by rw [beq_iff_eq]; omega
    have hl2 : (P.length : Int) = 8 := by omega
    have HLn : Hid (P.length = 8) := hlen
    clear hcap hcb hlen
    go_wp2_with fail
    clear c0 c1 c2 c3
    go_loopw [7, 9, 10, 11, 12, 27] (fun x7 x9 x10 x11 x12 x27 wr => ∃ (k : Nat) (ns : List Nat), x27 = .int .i64 (k : Int) ∧ k ≤ 8 ∧ AllRd (fun l => rdN hexD (o16 l) l) P ns k ∧ wr.ownsRow w1.heap.size 5 1 x7 (enc2 ns).length (byV (enc2 ns)) ∧ Below w1.heap.size w1 wr) (fun _ _ _ _ _ x27 _ => 8 - (intOf x27).toNat)
    case atStart => exact ⟨0, [], rfl, Nat.zero_le _, ⟨rfl, Nat.zero_le _, fun j h => by simp at h⟩, World.ownsRow_nil _ _ _ _, Below.refl _ _⟩
    case round =>
      obtain ⟨k, ns, rfl, hk, hall, hown, hbel⟩ := hrel
      obtain ⟨ad, c, rfl⟩ := slice_of_owns hown
      have HA : Hid (AllRd _ _ _ _) := hall
      have HO : Hid (World.ownsRow _ _ _ _ _ _ _) := hown
      have HW : Hid (Below w1.heap.size w1 wr) := hbel
      have HSe : Hid (w.heap.size + 1 < w1.heap.size) := by unfold Hid; rw [HSZ.out]; omega
      have HWr : Hid (EnvE wr) := HE1.out.below hbel
      clear hall hown hbel
      have hlen4 : ns.length = k := HA.out.1
      by_cases hlt : k < 8
      · have hkP : k < P.length := by rw [HLn.out]; exact hlt
        have cw := (HW.out.cell (p := ⟨w.heap.size + 1, k, none⟩) HSe.out).trans (HC.out k hkP)
        have hlb : w.heap.size < w1.heap.size := by have := HSe.out; omega
        have d1 := (HW.out.cell (p := ⟨w.heap.size, 1, none⟩) hlb).trans (HBx.out 1 _ rfl)
        have d2 := (HW.out.cell (p := ⟨w.heap.size, 2, none⟩) hlb).trans (HBx.out 2 _ rfl)
        have d3 := (HW.out.cell (p := ⟨w.heap.size, 3, none⟩) hlb).trans (HBx.out 3 _ rfl)
        have hNx := HN.out P[k] (HPs.out _ (List.getElem_mem hkP)) wr HWr.out
        obtain ⟨o, ho⟩ : ∃ o, (fun l => rdN hexD (o16 l) l) P[k].data.toList = o := ⟨_, rfl⟩
        have HF1 : Hid (o = none → ∃ (j : Nat) (h : j < P.length), (fun l => rdN hexD (o16 l) l) P[j].data.toList = none) := fun e => ⟨k, hkP, ho.trans e⟩
        have HF2 : Hid (∀ n, o = some n → AllRd (fun l => rdN hexD (o16 l) l) P (ns ++ [n]) (k + 1)) := fun n e => HA.out.next hkP (ho.trans e)
        have HF3 : Hid (∀ n, o = some n → n ≤ 65535) := fun n e => ((rd16 P[k].data.toList).sound n (ho.trans e)).2
        simp only [] at ho
        rw [ho] at hNx
        have HNx : Hid (_ : Prop) := hNx
        clear hNx ho hlb
        generalize P[k] = word at *
        have hlti : (k : Int) < 8 := by omega
        have hlenN : Hid (ns.length = k) := hlen4
        clear hlen4
        go_wp2_with fail
        refine Calls.mono HNx.out ?_
        rintro e w2 ⟨he, hb2⟩
        have HW2 : Hid (Below w1.heap.size w1 w2) := HW.out.trans (hb2.mono HW.out.size)
        have hown2 := ownsRow_below HO.out hb2
        have hlb : w.heap.size < w1.heap.size := by have := HSe.out; omega
        have t2 := (HW2.out.cell (p := ⟨w.heap.size, 2, none⟩) hlb).trans (HBx.out 2 _ rfl)
        have hsz2 : w1.heap.size ≤ w2.heap.size := HW2.out.size
        clear hb2 d1 d2 d3 cw HO HW HWr HNx hlb
        cases o with
        | none =>
          obtain rfl : e = .returned (.tuple #[.int .u64 0, .bool false]) := he
          clear hown2 t2 hsz2
          go_wp2
          go_ret2
          exact ⟨Or.inr ⟨Or.inr (HF1.out (by trivial)), rfl⟩, HB1.out.trans (HW2.out.mono HB1.out.size)⟩
        | some n =>
          obtain rfl : e = .returned (.tuple #[.int .u64 (n : Int), .bool true]) := he
          have HAll := HF2.out n rfl
          have HA2 : Hid (AllRd _ _ _ _) := HAll
          have hn := HF3.out n rfl
          clear HAll HF1 HF2 HF3 HA
          have hlx : (enc2 ns).length ≤ 100 := by rw [enc2_len, hlenN.out]; omega
          have HBy : Hid (byV (enc2 (ns ++ [n])) = (byV (enc2 ns) ++ [.int .u8 ((n / 256 : Nat) : Int)]) ++ [.int .u8 ((n % 256 : Nat) : Int)]) := by
            unfold Hid
            rw [enc2_app, byV_app, byV_app, UInt8.toNat_ofNat', UInt8.toNat_ofNat', Nat.mod_eq_of_lt (a := n / 256) (by omega), Nat.mod_mod]
          have HLe : Hid ((enc2 (ns ++ [n])).length = (enc2 ns).length + 1 + 1) := by unfold Hid; rw [enc2_app]; simp
          have hh : IntKind.u8.wrap ((n : Int) / 256) = ((n / 256 : Nat) : Int) := by rw [IntKind.wrap_u8]; omega
          have hl : IntKind.u8.wrap (n : Int) = ((n % 256 : Nat) : Int) := by rw [IntKind.wrap_u8]; omega
          generalize n / 256 = na at *
          generalize n % 256 = nb at *
          go_wp2_with fail
          refine wp_loop_rounds 3 ?_
          rw [rounds_succ]
          go_wp2_with (at_builtin; refine wpList_append_own _ rfl _ _ 180 rfl w1.heap.size 5 i0 (.int .u8 0) 1 1 Tryz.underlying180 hi hz0 hz1 hz2 rfl (by decide) _ _ _ rfl (hown2.alloc _) ⟨w2.heap.size, 0, none⟩ 1 1 [.int .u8 (na : Int)] rfl rfl (cell_new1 _ _ _) (one_u8 _) (by unfold maxLen; omega) (by omega) (by simp; omega) ?_; intro v' w3 hown3 hgrow _)
          have HW3 : Hid (Below w1.heap.size w1 w3) := (HW2.out.alloc hsz2 _).grown hgrow (by simp; omega) (fun j e => (hown2.lt j e).1)
          have hsz3 : w1.heap.size ≤ w3.heap.size := HW3.out.size
          clear hgrow hown2 t2 hsz2 HW2
          rw [rounds_succ]
          go_wp2_with (at_builtin; refine wpList_append_own _ rfl _ _ 180 rfl w1.heap.size 5 i0 (.int .u8 0) 1 1 Tryz.underlying180 hi hz0 hz1 hz2 rfl (by decide) _ _ _ rfl (hown3.alloc _) ⟨w3.heap.size, 0, none⟩ 1 1 [.int .u8 (nb : Int)] rfl rfl (cell_new1 _ _ _) (one_u8 _) (by unfold maxLen; omega) (by omega) (by simp; omega) ?_; intro v'' w4 hown4 hgrow4 _)
          have HW4 : Hid (Below w1.heap.size w1 w4) := (HW3.out.alloc hsz3 _).grown hgrow4 (by simp; omega) (fun j e => (hown3.lt j e).1)
          have HO4 : Hid (w4.ownsRow w1.heap.size 5 1 v'' (enc2 (ns ++ [n])).length (byV (enc2 (ns ++ [n])))) := by unfold Hid; rw [HBy.out, HLe.out]; exact hown4
          clear hgrow4 hown3 hown4 hsz3
          rw [rounds_succ]
          go_wp2
          go_roundw
          case rel => exact ⟨k + 1, ns ++ [n], by go_num, by omega, HA2.out, HO4.out, HW4.out⟩
          case measure => simp [intOf]; omega
      · obtain rfl : k = 8 := by omega
        have hcv := back_owned _ HO.out
        clear hlen4
        go_wp2
        go_ret2
        exact ⟨Or.inl ⟨ns, HLn.out, HA.out, rfl⟩, HB1.out.trans (HW.out.mono HB1.out.size)⟩
  · have hl1 : ((P.length : Int) == 8) = false := by rw [beq_eq_false_iff_ne]; omega
    have HL : Hid (P.length ≠ 8) := hlen
    clear hlen hi hz0 hz1 hz2 hcap hcb
    go_wp2
    go_ret2
    exact ⟨Or.inr ⟨Or.inl HL.out, rfl⟩, HB1.out⟩
end Go.Proofs.YthaebbmekonacaaGreatDoor.Ad
set_option linter.unusedVariables false
set_option linter.unusedSimpArgs false
set_option maxRecDepth 100000
namespace Go.Proofs.YthaebbmekonacaaGreatDoor.Ad
open Go.RowKit
theorem dg_are (d : Nat) (h : d < 16) : (48 ≤ (dg d).toNat ∧ (dg d).toNat ≤ 57) ∨ (97 ≤ (dg d).toNat ∧ (dg d).toNat ≤ 102) := by
  rcases (show d = 0 ∨ d = 1 ∨ d = 2 ∨ d = 3 ∨ d = 4 ∨ d = 5 ∨ d = 6 ∨ d = 7 ∨ d = 8 ∨ d = 9 ∨ d = 10 ∨ d = 11 ∨ d = 12 ∨ d = 13 ∨ d = 14 ∨ d = 15 by omega) with rfl | rfl | rfl | rfl | rfl | rfl | rfl | rfl | rfl | rfl | rfl | rfl | rfl | rfl | rfl | rfl <;> decide +kernel
theorem Digs.are {b : Nat} {D : Nat → List UInt8} (h : Digs b D) (hb : 2 ≤ b) (hb2 : b ≤ 16) (u : Nat) : ∀ c ∈ D u, (48 ≤ c.toNat ∧ c.toNat ≤ 57) ∨ (97 ≤ c.toNat ∧ c.toNat ≤ 102) := by
  induction u using Nat.strongRecOn with
  | _ u ih =>
    by_cases hl : u < b
    · rw [h.low u hl]
      intro c hc
      simp at hc; subst hc; exact dg_are u (by omega)
    · have hd : u / b < u := Nat.div_lt_self (by omega) (by omega)
      have hm : u % b < b := Nat.mod_lt _ (by omega)
      rw [h.high u hl]
      intro c hc
      rcases List.mem_append.1 hc with e | e
      · exact ih _ hd c e
      · simp at e; subst e; exact dg_are _ (by omega)
/-- A sign that is no digit's. -/
def Mark (c : UInt8) : Prop := c.toNat < 48 ∨ 57 < c.toNat ∧ c.toNat < 97
theorem Digs.free {b : Nat} {D : Nat → List UInt8} (h : Digs b D) (hb : 2 ≤ b) (hb2 : b ≤ 16) {c : UInt8} (hc : Mark c) (u : Nat) : c ∉ D u := fun hm => by
  have := h.are hb hb2 u c hm
  unfold Mark at hc
  omega
theorem Digs.inj {b : Nat} {D : Nat → List UInt8} (h : Digs b D) (hb : 2 ≤ b) (hb2 : b ≤ 16) {u v : Nat} (e : D u = D v) : u = v := by
  rw [← (h.val hb hb2 u).1, e, (h.val hb hb2 v).1]
theorem map_inj {D : Nat → List UInt8} (hD : ∀ u v, D u = D v → u = v) : ∀ ns ms : List Nat, ns.map D = ms.map D → ns = ms
  | [], [], _ => rfl
  | [], _ :: _, h => by simp at h
  | _ :: _, [], h => by simp at h
  | n :: ns, m :: ms, h => by
    simp only [List.map_cons, List.cons.injEq] at h
    rw [hD n m h.1, map_inj hD ns ms h.2]
theorem free_map {D : Nat → List UInt8} {c : UInt8} (hD : ∀ u, c ∉ D u) (ns : List Nat) : Free c (ns.map D) := by
  intro x hx
  obtain ⟨n, _, rfl⟩ := List.mem_map.1 hx
  exact hD n
/-- A list that is not empty, with its last apart. -/
theorem last_apart {α : Type} (l : List α) (h : l ≠ []) : ∃ A z, l = A ++ [z] := ⟨l.dropLast, l.getLast h, (List.dropLast_concat_getLast h).symm⟩
/-- Joined numbers are one number's list alone. -/
theorem joined_inj {b : Nat} {D : Nat → List UInt8} (h : Digs b D) (hb : 2 ≤ b) (hb2 : b ≤ 16) {c : UInt8} (hc : Mark c) (ns ms : List Nat) (h1 : ns ≠ []) (h2 : ms ≠ []) (e : Lib.join (ns.map D) [c] = Lib.join (ms.map D) [c]) : ns = ms := by
  obtain ⟨A, z, rfl⟩ := last_apart ns h1
  obtain ⟨B, y, rfl⟩ := last_apart ms h2
  have hD := fun u => h.free hb hb2 hc u
  simp only [List.map_append, List.map_cons, List.map_nil] at e
  rw [join_flat, join_flat] at e
  obtain ⟨e1, e2⟩ := flat_inj c _ _ _ _ (free_map hD A) (free_map hD B) (hD z) (hD y) e
  rw [map_inj (fun u v => h.inj hb hb2) _ _ e1, h.inj hb hb2 e2]
/-- What a text's pieces say of it. -/
structure StyP (D : Nat → List UInt8) (M cnt : Nat) (c : UInt8) (l : List UInt8) (o : Option (List Nat)) : Prop where
  sound : ∀ ns, o = some ns → ns.length = cnt ∧ (∀ n ∈ ns, n ≤ M) ∧ l = Lib.join (ns.map D) [c]
  full : ∀ ns : List Nat, ns.length = cnt → (∀ n ∈ ns, n ≤ M) → l = Lib.join (ns.map D) [c] → o = some ns
theorem all_of {f : List UInt8 → Option Nat} {D : Nat → List UInt8} {M : Nat} (hf : ∀ l, RdP D M (f l) l) {P : List ByteArray} {ns : List Nat} (h : AllRd f P ns P.length) : P.map (·.data.toList) = ns.map D ∧ ∀ n ∈ ns, n ≤ M := by
  obtain ⟨h1, h2, h3⟩ := h
  refine ⟨List.ext_getElem (by simp [h1]) fun i h4 h5 => ?_, fun n hn => ?_⟩
  · simp only [List.getElem_map]
    exact ((hf _).sound _ (h3 i (by simpa using h5) (by simpa using h4))).1
  · obtain ⟨i, hi, rfl⟩ := List.getElem_of_mem hn
    exact ((hf _).sound _ (h3 i hi (by omega))).2
theorem data_ne {s : ByteArray} {k : Nat} {c : UInt8} : (Lib.splitB ⟨#[c]⟩ 0 k s).map (·.data.toList) = Lib.splitK [c] 0 k s.data.toList := by
  rw [Lib.splitB_data]
theorem styl_of {f : List UInt8 → Option Nat} {b : Nat} {D : Nat → List UInt8} (hD : Digs b D) (hb : 2 ≤ b) (hb2 : b ≤ 16) {M : Nat} (hf : ∀ l, RdP D M (f l) l) {c : UInt8} (hc : Mark c) (cnt : Nat) (h1 : 1 ≤ cnt) (s : ByteArray) {en : List Nat → List UInt8} {e : Ending}
    (h : StA f en cnt (Lib.splitB ⟨#[c]⟩ 0 (min (cnt + 1) (s.size + 1) - 1) s) e) :
    ∃ o, StyP D M cnt c s.data.toList o ∧ e = (match o with | some ns => .returned (.tuple #[.string ⟨(en ns).toArray⟩, .bool true]) | none => .returned (.tuple #[.string ⟨#[]⟩, .bool false])) := by
  obtain ⟨A, z, e1, e2, e3, e4, e5⟩ := splitK_is c (min (cnt + 1) (s.size + 1) - 1) s.data.toList
  rw [← data_ne] at e1
  generalize hP : Lib.splitB ⟨#[c]⟩ 0 (min (cnt + 1) (s.size + 1) - 1) s = P at h e1
  have hfree := fun u => hD.free hb hb2 hc u
  -- the pieces, when the text is joined of numbers
  have back : ∀ ns : List Nat, ns.length = cnt → s.data.toList = Lib.join (ns.map D) [c] → P.map (·.data.toList) = ns.map D := by
    intro ns hl hj
    obtain ⟨B, y, rfl⟩ := last_apart ns (by intro h; rw [h] at hl; simp at hl; omega)
    simp only [List.map_append, List.map_cons, List.map_nil] at hj ⊢
    rw [join_flat] at hj
    have hlen : (B.map D).length ≤ s.size := by
      have hc1 := congrArg (List.count c) hj
      rw [count_flat c _ (free_map hfree B)] at hc1
      have hc2 : s.data.toList.count c ≤ s.data.toList.length := List.count_le_length
      have hc3 : s.data.toList.length = s.size := by simp
      omega
    simp only [List.length_append, List.length_singleton, List.length_map] at hl hlen
    rw [← hP, data_ne, hj]
    exact splitK_back c _ _ _ (free_map hfree B) (hfree y) (by simp only [List.length_map]; omega)
  rcases h with ⟨ns, hl, hA, he⟩ | ⟨hn, he⟩
  · refine ⟨some ns, ⟨fun ms h => ?_, fun ms hl2 hm hj => ?_⟩, he⟩
    · obtain rfl := Option.some.inj h
      rw [← hl] at hA
      obtain ⟨q1, q2⟩ := all_of hf hA
      refine ⟨by rw [hA.1, hl], q2, ?_⟩
      rw [← q1, e1, join_flat]; exact e2
    · rw [← hl] at hA
      have q1 := (all_of hf hA).1
      rw [back ms hl2 hj] at q1
      rw [map_inj (fun u v => hD.inj hb hb2) _ _ q1]
  · refine ⟨none, ⟨(fun ns h => by cases h), fun ms hl2 hm hj => ?_⟩, he⟩
    exfalso
    have hb := back ms hl2 hj
    have hlP : P.length = cnt := by
      have := congrArg List.length hb
      simp at this; omega
    rcases hn with hn | ⟨j, hj1, hj2⟩
    · exact hn hlP
    · have hjm : j < ms.length := by omega
      have : P[j].data.toList = D ms[j] := by
        have h3 : (P.map (·.data.toList))[j]'(by simpa using hj1) = (ms.map D)[j]'(by simpa using hjm) := by simp only [hb]
        simpa using h3
      rw [(hf _).full ms[j] (hm _ (List.getElem_mem hjm)) this] at hj2
      cases hj2

set_option linter.unusedVariables false
set_option linter.unusedSimpArgs false
set_option maxRecDepth 100000

theorem m46 : Mark 46 := by unfold Mark; decide
theorem m58 : Mark 58 := by unfold Mark; decide
theorem m32 : Mark 32 := by unfold Mark; decide
theorem ofN (n : Nat) (h : n ≤ 255) : (UInt8.ofNat n).toNat = n := by rw [UInt8.toNat_ofNat', Nat.mod_eq_of_lt (by omega)]
theorem ofHi (n : Nat) (h : n ≤ 65535) : (UInt8.ofNat (n / 256)).toNat * 256 + (UInt8.ofNat (n % 256)).toNat = n := by
  rw [ofN _ (by omega), ofN _ (by omega)]; omega
theorem adT_4 (ns : List Nat) (hl : ns.length = 4) (hm : ∀ n ∈ ns, n ≤ 255) : adT ⟨(enc1 ns).toArray⟩ = Lib.join (ns.map Lib.decDigits) [46] := by
  match ns, hl with
  | [a, b, c, d], _ =>
    have ha := hm a (by simp)
    have hb := hm b (by simp)
    have hc := hm c (by simp)
    have hd := hm d (by simp)
    have hs : (⟨(enc1 [a, b, c, d]).toArray⟩ : ByteArray).size = 4 := by rfl
    unfold adT
    rw [if_pos hs]
    congr 1
    simp only [nums4, enc1, List.map_cons, List.map_nil, show List.range 4 = [0, 1, 2, 3] from rfl, List.getD_cons_zero, List.getD_cons_succ, ofN a ha, ofN b hb, ofN c hc, ofN d hd]
theorem adT_16 (ns : List Nat) (hl : ns.length = 8) (hm : ∀ n ∈ ns, n ≤ 65535) : adT ⟨(enc2 ns).toArray⟩ = Lib.join (ns.map hexD) [58] := by
  match ns, hl with
  | [a, b, c, d, e, f, g, h], _ =>
    have ha := hm a (by simp)
    have hb := hm b (by simp)
    have hc := hm c (by simp)
    have hd := hm d (by simp)
    have he := hm e (by simp)
    have hf := hm f (by simp)
    have hg := hm g (by simp)
    have hh := hm h (by simp)
    have hs : (⟨(enc2 [a, b, c, d, e, f, g, h]).toArray⟩ : ByteArray).size = 16 := by rfl
    unfold adT
    rw [if_neg (by rw [hs]; decide), if_pos hs]
    congr 1
    simp only [nums16, enc2, List.flatMap_cons, List.flatMap_nil, List.map_cons, List.map_nil, List.cons_append, List.nil_append, show List.range 8 = [0, 1, 2, 3, 4, 5, 6, 7] from rfl, Nat.mul_zero, Nat.mul_one, Nat.zero_add, Nat.reduceMul, Nat.reduceAdd, List.getD_cons_zero, List.getD_cons_succ, ofHi a ha, ofHi b hb, ofHi c hc, ofHi d hd, ofHi e he, ofHi f hf, ofHi g hg, ofHi h hh]
theorem of_four (b : ByteArray) (h : b.size = 4) : ∃ ns : List Nat, ns.length = 4 ∧ (∀ n ∈ ns, n ≤ 255) ∧ b = ⟨(enc1 ns).toArray⟩ := by
  have hl : b.data.toList.length = 4 := by simpa using h
  refine ⟨b.data.toList.map (·.toNat), by simpa using h, fun n hn => ?_, ?_⟩
  · obtain ⟨x, _, rfl⟩ := List.mem_map.1 hn
    have := x.toNat_lt; omega
  · apply ByteArray.ext
    apply Array.toList_inj.1
    have e : (UInt8.ofNat ∘ fun x : UInt8 => x.toNat) = id := by funext x; simp
    simp only [enc1, List.map_map, e, List.map_id]
theorem pair_hi (x y : UInt8) : UInt8.ofNat ((x.toNat * 256 + y.toNat) / 256) = x ∧ UInt8.ofNat ((x.toNat * 256 + y.toNat) % 256) = y := by
  have hx := x.toNat_lt
  have hy := y.toNat_lt
  refine ⟨?_, ?_⟩
  · rw [show (x.toNat * 256 + y.toNat) / 256 = x.toNat by omega]; simp
  · rw [show (x.toNat * 256 + y.toNat) % 256 = y.toNat by omega]; simp
theorem of_sixteen (b : ByteArray) (h : b.size = 16) : ∃ ns : List Nat, ns.length = 8 ∧ (∀ n ∈ ns, n ≤ 65535) ∧ b = ⟨(enc2 ns).toArray⟩ := by
  have hl : b.data.toList.length = 16 := by simpa using h
  obtain ⟨l, hb⟩ : ∃ l, b.data.toList = l := ⟨_, rfl⟩
  rw [hb] at hl
  have pr : ∀ x y : UInt8, x.toNat * 256 + y.toNat ≤ 65535 := fun x y => by have := x.toNat_lt; have := y.toNat_lt; omega
  match l, hl with
  | [x0, x1, x2, x3, x4, x5, x6, x7, x8, x9, x10, x11, x12, x13, x14, x15], _ =>
    refine ⟨[x0.toNat * 256 + x1.toNat, x2.toNat * 256 + x3.toNat, x4.toNat * 256 + x5.toNat, x6.toNat * 256 + x7.toNat, x8.toNat * 256 + x9.toNat, x10.toNat * 256 + x11.toNat, x12.toNat * 256 + x13.toNat, x14.toNat * 256 + x15.toNat], rfl, ?_, ?_⟩
    · intro n hn
      simp only [List.mem_cons, List.not_mem_nil, or_false] at hn
      rcases hn with rfl | rfl | rfl | rfl | rfl | rfl | rfl | rfl <;> exact pr _ _
    · apply ByteArray.ext
      apply Array.toList_inj.1
      rw [hb]
      simp only [enc2, List.flatMap_cons, List.flatMap_nil, (pair_hi _ _).1, (pair_hi _ _).2, List.cons_append, List.nil_append]
/-- o is the address whose text l is. -/
structure AdP (o : Option ByteArray) (l : List UInt8) : Prop where
  sound : ∀ b, o = some b → (b.size = 4 ∨ b.size = 16) ∧ l = adT b
  full : ∀ b, (b.size = 4 ∨ b.size = 16) → l = adT b → o = some b
def adO (o4 o16 : Option (List Nat)) : Option ByteArray := match o4 with
  | some ns => some ⟨(enc1 ns).toArray⟩
  | none => match o16 with
    | some ns => some ⟨(enc2 ns).toArray⟩
    | none => none
theorem no46 (ns : List Nat) : (46 : UInt8) ∉ Lib.join (ns.map hexD) [58] := by
  intro h
  by_cases hn : ns = []
  · subst hn; rw [List.map_nil, Lib.join_nil] at h; simp at h
  · obtain ⟨A, z, rfl⟩ := last_apart ns hn
    simp only [List.map_append, List.map_cons, List.map_nil] at h
    rw [join_flat] at h
    have hf := fun u => digs16.free (by omega) (by omega) m46 u
    rcases List.mem_append.1 h with e | e
    · unfold flat at e
      obtain ⟨x, hx, hm⟩ := List.mem_flatMap.1 e
      obtain ⟨n, _, rfl⟩ := List.mem_map.1 hx
      rcases List.mem_append.1 hm with q | q
      · exact hf n q
      · simp at q
    · exact hf z e
theorem has46 (ns : List Nat) (h : ns.length = 4) : (46 : UInt8) ∈ Lib.join (ns.map Lib.decDigits) [46] := by
  match ns, h with
  | [a, b, c, d], _ =>
    rw [show [a, b, c, d].map Lib.decDigits = [Lib.decDigits a, Lib.decDigits b, Lib.decDigits c] ++ [Lib.decDigits d] by simp, join_flat, flat_cons]
    simp
theorem enc1_size (ns : List Nat) : (⟨(enc1 ns).toArray⟩ : ByteArray).size = ns.length := by
  show (enc1 ns).toArray.size = _
  rw [List.size_toArray, enc1_len]
theorem enc2_size (ns : List Nat) : (⟨(enc2 ns).toArray⟩ : ByteArray).size = 2 * ns.length := by
  show (enc2 ns).toArray.size = _
  rw [List.size_toArray, enc2_len]
theorem ad_of {l : List UInt8} {o4 o16 : Option (List Nat)} (h4 : StyP Lib.decDigits 255 4 46 l o4) (h16 : StyP hexD 65535 8 58 l o16) : AdP (adO o4 o16) l := by
  refine ⟨fun b h => ?_, fun b hs h => ?_⟩
  · cases o4 with
    | some ns =>
      obtain ⟨q1, q2, q3⟩ := h4.sound ns rfl
      obtain rfl := Option.some.inj h
      exact ⟨Or.inl (by rw [enc1_size]; exact q1), by rw [q3, adT_4 ns q1 q2]⟩
    | none =>
      cases o16 with
      | some ns =>
        obtain ⟨q1, q2, q3⟩ := h16.sound ns rfl
        obtain rfl := Option.some.inj h
        exact ⟨Or.inr (by rw [enc2_size]; omega), by rw [q3, adT_16 ns q1 q2]⟩
      | none => cases h
  · rcases hs with hs | hs
    · obtain ⟨ms, p1, p2, rfl⟩ := of_four b hs
      rw [adT_4 ms p1 p2] at h
      rw [h4.full ms p1 p2 h]; rfl
    · obtain ⟨ms, p1, p2, rfl⟩ := of_sixteen b hs
      rw [adT_16 ms p1 p2] at h
      have e4 : o4 = none := by
        cases o4 with
        | none => rfl
        | some ns =>
          obtain ⟨q1, q2, q3⟩ := h4.sound ns rfl
          have := has46 ns q1
          rw [← q3, h] at this
          exact absurd this (no46 ms)
      rw [e4, h16.full ms p1 p2 h]; rfl
theorem AdP.one {o o' : Option ByteArray} {l : List UInt8} (h : AdP o l) (h' : AdP o' l) : o = o' := by
  cases o with
  | some b => exact ((h'.full b (h.sound b rfl).1 (h.sound b rfl).2)).symm
  | none =>
    cases o' with
    | none => rfl
    | some b => exact h.full b (h'.sound b rfl).1 (h'.sound b rfl).2

set_option linter.unusedVariables false
set_option linter.unusedSimpArgs false
set_option maxRecDepth 100000

open Go.RowKit
theorem sty_ex {b : Nat} {D : Nat → List UInt8} (hD : Digs b D) (hb : 2 ≤ b) (hb2 : b ≤ 16) (M cnt : Nat) (h1 : 1 ≤ cnt) {c : UInt8} (hc : Mark c) (l : List UInt8) : ∃ o, StyP D M cnt c l o := by
  by_cases h : ∃ ns : List Nat, ns.length = cnt ∧ (∀ n ∈ ns, n ≤ M) ∧ l = Lib.join (ns.map D) [c]
  · obtain ⟨ns, q1, q2, q3⟩ := h
    refine ⟨some ns, fun ms e => ?_, fun ms p1 p2 p3 => ?_⟩
    · obtain rfl := Option.some.inj e
      exact ⟨q1, q2, q3⟩
    · rw [joined_inj hD hb hb2 hc ns ms (by intro e; rw [e] at q1; simp at q1; omega) (by intro e; rw [e] at p1; simp at p1; omega) (by rw [← q3, p3])]
  · exact ⟨none, (fun ms e => by cases e), fun ms p1 p2 p3 => absurd ⟨ms, p1, p2, p3⟩ h⟩
def adV (o : Option ByteArray) : Value := match o with
  | some b => .tuple #[.string b, .int .i64 0]
  | none => .tuple #[.string ⟨#[]⟩, .int .i64 4]
theorem read4_any (s : ByteArray) (hs : s.size < 140737488351233) (w : World) (hE : EnvE w) :
    Calls Tryz.prog 169 #[.agg #[.string ⟨#[46]⟩, .int .i64 4, .int .i64 1, .int .i64 10], .string s] w fun e w' => (∃ o, StyP Lib.decDigits 255 4 46 s.data.toList o ∧ e = (match o with | some ns => .returned (.tuple #[.string ⟨(enc1 ns).toArray⟩, .bool true]) | none => .returned (.tuple #[.string ⟨#[]⟩, .bool false]))) ∧ Below w.heap.size w w' :=
  (read4 s hs w hE).mono fun e w' ⟨h, hb⟩ => ⟨styl_of digs10 (by omega) (by omega) (fun l => rd8 l) m46 4 (by omega) s h, hb⟩
theorem read16_any (s : ByteArray) (hs : s.size < 140737488351233) (w : World) (hE : EnvE w) :
    Calls Tryz.prog 169 #[.agg #[.string ⟨#[58]⟩, .int .i64 8, .int .i64 2, .int .i64 16], .string s] w fun e w' => (∃ o, StyP hexD 65535 8 58 s.data.toList o ∧ e = (match o with | some ns => .returned (.tuple #[.string ⟨(enc2 ns).toArray⟩, .bool true]) | none => .returned (.tuple #[.string ⟨#[]⟩, .bool false]))) ∧ Below w.heap.size w w' :=
  (read16 s hs w hE).mono fun e w' ⟨h, hb⟩ => ⟨styl_of digs16 (by omega) (by omega) (fun l => rd16 l) m58 8 (by omega) s h, hb⟩
set_option maxHeartbeats 2000000 in
theorem addr_any (s : ByteArray) (hs : s.size < 140737488351233) (w : World) (hE : EnvE w) :
    Calls Tryz.prog 137 #[.string s] w fun e w' => (∃ o, AdP o s.data.toList ∧ e = .returned (adV o)) ∧ Below w.heap.size w w' := by
  obtain ⟨t, fr, h0⟩ := hE.t.t.sty
  have H0 : Hid (w.heap[3]? = some (.cells Pr.stCells t fr)) := h0
  have HE : Hid (EnvE w) := hE
  have H4 : Hid (∀ W, EnvE W → _) := fun W h => read4_any s hs W h
  have H16 : Hid (∀ W, EnvE W → _) := fun W h => read16_any s hs W h
  have HA : Hid (∀ A, Below w.heap.size w (w.alloc (.cells A 219))) := fun A => (Below.refl _ _).alloc (Nat.le_refl _) _
  have hsx := sx0
  have hsy := sx1
  clear hE h0 hs
  go_enter Tryz.func137, Tryz.ntmps137
  go_wp2_with (refine wpList_load_row rfl 220 _ rfl 3 rfl t _ fr _ H0.out Tryz.underlying220 rfl info220 ?_)
  refine wp_loop_rounds 3 ?_
  rw [rounds_succ]
  go_wp2_with fail
  refine Calls.mono (H4.out _ (HE.out.below (HA.out _))) ?_
  rintro e w1 ⟨⟨o4, hp4, he⟩, hb1⟩
  have HB1 : Hid (Below w.heap.size w w1) := (HA.out _).trans (hb1.mono (HA.out _).size)
  have HP4 : Hid (StyP _ _ _ _ _ _) := hp4
  clear hb1 hp4 HA
  cases o4 with
  | some ns =>
    obtain rfl : e = .returned (.tuple #[.string ⟨(enc1 ns).toArray⟩, .bool true]) := he
    go_wp2
    go_ret2
    obtain ⟨o16, h16⟩ := sty_ex digs16 (by omega) (by omega) 65535 8 (by omega) m58 s.data.toList
    exact ⟨⟨some ⟨(enc1 ns).toArray⟩, ad_of HP4.out h16, rfl⟩, HB1.out⟩
  | none =>
    obtain rfl : e = .returned (.tuple #[.string ⟨#[]⟩, .bool false]) := he
    have HE1 : Hid (EnvE w1) := HE.out.below HB1.out
    have HA1 : Hid (∀ A, Below w1.heap.size w1 (w1.alloc (.cells A 219))) := fun A => (Below.refl _ _).alloc (Nat.le_refl _) _
    clear HE
    go_wp2_with fail
    rw [rounds_succ]
    go_wp2_with fail
    refine Calls.mono (H16.out _ (HE1.out.below (HA1.out _))) ?_
    rintro e w2 ⟨⟨o16, hp16, he⟩, hb2⟩
    have HB2 : Hid (Below w.heap.size w w2) := HB1.out.trans (((HA1.out _).trans (hb2.mono (HA1.out _).size)).mono HB1.out.size)
    have HP : Hid (AdP _ _) := ad_of HP4.out hp16
    clear hb2 hp16 HA1 HB1
    cases o16 with
    | some ns =>
      obtain rfl : e = .returned (.tuple #[.string ⟨(enc2 ns).toArray⟩, .bool true]) := he
      go_wp2
      go_ret2
      exact ⟨⟨some ⟨(enc2 ns).toArray⟩, HP.out, rfl⟩, HB2.out⟩
    | none =>
      obtain rfl : e = .returned (.tuple #[.string ⟨#[]⟩, .bool false]) := he
      go_wp2_with fail
      rw [rounds_succ]
      go_wp2
      go_ret2
      exact ⟨⟨none, HP.out, rfl⟩, HB2.out⟩
end Go.Proofs.YthaebbmekonacaaGreatDoor.Ad
set_option linter.unusedVariables false
set_option linter.unusedSimpArgs false
set_option maxRecDepth 100000
namespace Go.Proofs.YthaebbmekonacaaGreatDoor
open Go.RowKit
theorem adrParse (b : ByteArray) (x : List UInt8) (hx : x = adT b) (hb : b.size = 4 ∨ b.size = 16) (w : World) (he : EnvX w) (hE : ErrsAt w) : Calls Tryz.prog 137 #[.string ⟨x.toArray⟩] w fun e w' => e = .returned (.tuple #[.string b, .int .i64 0]) ∧ Below w.heap.size w w' := by
  subst hx
  have hl := adT_len b
  refine (Ad.addr_any ⟨(adT b).toArray⟩ (by show (adT b).toArray.size < _; rw [List.size_toArray]; omega) w ⟨he.e, hE⟩).mono ?_
  rintro e w' ⟨⟨o, ho, rfl⟩, hbl⟩
  obtain rfl := ho.full b hb rfl
  exact ⟨rfl, hbl⟩
end Go.Proofs.YthaebbmekonacaaGreatDoor
