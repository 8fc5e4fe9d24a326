/-
  The reference's Text and Parse.
-/
import Derived.Test.YtjchobcmbkiilaaGreatDoorQ3
set_option linter.unusedVariables false
set_option linter.unusedSimpArgs false
set_option maxRecDepth 100000
namespace Go.Proofs.YtjchobcmbkiilaaGreatDoor
open Go.RowKit
theorem join_snoc (xs : List (List UInt8)) (x : List UInt8) (h : xs ≠ []) : Lib.join (xs ++ [x]) [32] = Lib.join xs [32] ++ 32 :: x := by
  induction xs with
  | nil => exact absurd rfl h
  | cons a xs ih =>
    cases xs with
    | nil => simp [Lib.join, List.intercalate]
    | cons b xs =>
      have e1 : ∀ r : List (List UInt8), r ≠ [] → Lib.join (a :: r) [32] = a ++ 32 :: Lib.join r [32] := by
        intro r hr
        cases r with
        | nil => exact absurd rfl hr
        | cons c r => simp [Lib.join, List.intercalate]
      rw [List.cons_append, e1 _ (by simp), ih (by simp), e1 _ (by simp)]
      simp
/-- The text of the first k atoms. -/
def txK (p : List Atm) (k : Nat) : List UInt8 := Lib.join ((p.take k).map txA) [32]
theorem txK_zero (p : List Atm) : txK p 0 = [] := rfl
theorem txK_one (p : List Atm) (h : 0 < p.length) : txK p 1 = txA p[0] := by
  unfold txK
  rw [show (1 : Nat) = 0 + 1 from rfl, List.take_succ_eq_append_getElem h]
  simp [Lib.join_one]
theorem txK_succ (p : List Atm) (k : Nat) (h0 : 0 < k) (h : k < p.length) : txK p (k + 1) = txK p k ++ 32 :: txA p[k] := by
  unfold txK
  rw [List.take_succ_eq_append_getElem h, List.map_append]
  exact join_snoc _ _ (by
    intro e
    have := congrArg List.length e
    rw [List.length_map, List.length_take, List.length_nil] at this
    omega)
theorem txK_len (p : List Atm) (k : Nat) (hb : ∀ a ∈ p, a.2 < 4294967296) (hl : p.length ≤ 64) : (txK p k).length ≤ 10000 :=
  txj_le (p.take k) (fun a h => hb a (List.mem_of_mem_take h)) (by rw [List.length_take]; omega)
theorem mk_app (a b : List UInt8) : (⟨a.toArray⟩ : ByteArray) ++ ⟨b.toArray⟩ = ⟨(a ++ b).toArray⟩ := by
  apply ByteArray.ext
  simp
theorem add_eq (a b : List UInt8) (h : a.length + b.length ≤ 1000000) (W : World) : (Op.stringOp .add (⟨a.toArray⟩ : ByteArray) ⟨b.toArray⟩).run Tryz.prog W = .ok (.string ⟨(a ++ b).toArray⟩) W := by
  rw [run_string_add_if, if_neg (by show ¬ _ < a.length + b.length; omega), mk_app]
set_option maxHeartbeats 4000000 in
theorem rtextP_any (v : Value) (p : List Atm) (w : World) (hv : AtAt w v p) (hlen : p.length ≤ 1000) (hb : ∀ a ∈ p, a.2 < 4294967296) :
    Calls Tryz.prog 23 #[v] w (TxOk p w) := by
  have HK : Hid (_ : Prop) := rmay_any v p w hv (by omega)
  obtain ⟨ad, bb, off, cap, rfl, had, hcap, hrow⟩ := hv
  have HR : Hid (_ : Prop) := hrow
  clear hrow
  cases hz : okP p with
  | false =>
    have HF : Hid (∀ X, Below w.heap.size w X → TxOk p w (.returned (.tuple #[.string ⟨#[]⟩, .int .i64 2])) X) := fun X hX => ⟨by rw [hz]; rfl, hX⟩
    rw [hz] at HK
    clear hz
    go_enter Tryz.func23, Tryz.ntmps23
    go_wp2_with (go_at_call 56; refine Calls.mono HK.out ?_; rintro e w2 ⟨rfl, hb2⟩)
    go_ret2
    exact HF.out _ hb2
  | true =>
    have h64 : p.length ≤ 64 := by
      have h := hz
      unfold okP at h
      rw [Bool.and_eq_true, decide_eq_true_eq] at h
      exact h.1
    have HF : Hid (∀ X, Below w.heap.size w X → TxOk p w (.returned (.tuple #[.string ⟨(txP p).toArray⟩, .int .i64 0])) X) := fun X hX => ⟨by rw [hz]; rfl, hX⟩
    rw [hz] at HK
    clear hz
    by_cases he : p = []
    · subst he
      go_enter Tryz.func23, Tryz.ntmps23
      go_wp2_with (go_at_call 56; refine Calls.mono HK.out ?_; rintro e w2 ⟨rfl, hb2⟩)
      go_ret2
      exact HF.out _ hb2
    · have hne : 0 < p.length := List.length_pos_iff.2 he
      have HT : Hid (txK p p.length = txP p) := by unfold Hid txK txP; rw [if_neg he, List.take_length]
      obtain rfl : ad = some ⟨bb, off, none⟩ := by
        rcases had with h | h
        · exact h
        · omega
      have hl0 : ((p.length : Int) == 0) = false := by rw [beq_eq_false_iff_ne]; omega
      clear he
      go_enter Tryz.func23, Tryz.ntmps23
      go_wp2_with fail
      refine Calls.mono HK.out ?_
      rintro e w1 ⟨rfl, hb1⟩
      have HB1 : Hid (Below w.heap.size w w1) := hb1
      clear hb1 HK
      go_wp2
      go_loopw [4, 5] (fun x4 x5 wr => ∃ k : Nat, x5 = .int .i64 k ∧ k ≤ p.length ∧ x4 = .string ⟨(txK p k).toArray⟩ ∧ Below w.heap.size w wr) (fun _ x5 _ => p.length - (intOf x5).toNat)
      case atStart => exact ⟨0, rfl, Nat.zero_le _, rfl, HB1.out⟩
      case round =>
        obtain ⟨k, rfl, hk, rfl, hbb⟩ := hrel
        have HB : Hid (Below w.heap.size w wr) := hbb
        clear hbb
        by_cases hlt : k < p.length
        · have c0 := below_cell HB.out (HR.out k hlt).1
          have c1 := below_cell HB.out (HR.out k hlt).2
          have hl1 := txK_len p k hb h64
          have hl2 := txA_le p[k] (hb _ (List.getElem_mem hlt))
          have hbk := hb _ (List.getElem_mem hlt)
          have HN : Hid (∀ W, Calls Tryz.prog 57 #[.int .u64 (p[k].2 : Int), .int .u64 10] W fun e w' => e = .returned (.string ⟨(Lib.decDigits p[k].2).toArray⟩) ∧ Below W.heap.size W w') := fun W => Rf.rnumber p[k].2 (by omega) W
          have HTA : Hid (txA p[k] = if p[k].1 = 2 then [46] else if p[k].1 = 3 then [42] else Lib.decDigits p[k].2) := rfl
          have HX : Hid (txK p (k + 1) = (if k = 0 then txA p[k] else txK p k ++ [32] ++ txA p[k])) := by
            unfold Hid
            split
            · rename_i e; subst e; exact txK_one p hne
            · rw [txK_succ p k (by omega) hlt]; simp
          have hmod : (p[k].2 : Int) % 18446744073709551616 = (p[k].2 : Int) := by omega
          generalize txA p[k] = ta at *
          generalize p[k].1 = ak at *
          generalize p[k].2 = an at *
          by_cases hk0 : k = 0
          · rw [if_pos hk0] at HX
            have hk0' : ¬ (0 : Int) < (k : Int) := by omega
            have hT0 : txK p k = [] := by rw [hk0]; rfl
            have hA := add_eq (txK p k) ta (by omega)
            rw [hT0, List.nil_append, ← hT0] at hA
            clear hT0 hk0
            generalize txK p k = t0 at *
            by_cases h2 : ak = 2
            · subst h2
              rw [if_pos rfl] at HTA
              have hta : ta = _ := HTA.out
              subst hta
              go_wp2
              go_roundw
              case rel => exact ⟨k + 1, by go_num, by omega, by rw [HX.out], HB.out⟩
              case measure => simp [intOf]; omega
            · rw [if_neg h2] at HTA
              have h2' : (ak == 2) = false := by rw [beq_eq_false_iff_ne]; exact h2
              by_cases h3 : ak = 3
              · subst h3
                rw [if_pos rfl] at HTA
                have hta : ta = _ := HTA.out
                subst hta
                go_wp2
                go_roundw
                case rel => exact ⟨k + 1, by go_num, by omega, by rw [HX.out], HB.out⟩
                case measure => simp [intOf]; omega
              · rw [if_neg h3] at HTA
                have h3' : (ak == 3) = false := by rw [beq_eq_false_iff_ne]; exact h3
                rw [← HTA.out] at HN
                go_wp2_with (go_at_call 57; refine Calls.mono (HN.out _) ?_; rintro e w4 ⟨rfl, hb4⟩)
                go_roundw
                case rel => exact ⟨k + 1, by go_num, by omega, by rw [HX.out], HB.out.trans (hb4.mono HB.out.size)⟩
                case measure => simp [intOf]; omega
          · rw [if_neg hk0] at HX
            have hA1 := add_eq (txK p k) [32] (by simp; omega)
            have hA := add_eq (txK p k ++ [32]) ta (by simp; omega)
            have hk0' : (0 : Int) < (k : Int) := by omega
            generalize txK p k ++ [32] = t1 at *
            by_cases h2 : ak = 2
            · subst h2
              rw [if_pos rfl] at HTA
              have hta : ta = _ := HTA.out
              subst hta
              go_wp2
              go_roundw
              case rel => exact ⟨k + 1, by go_num, by omega, by rw [HX.out], HB.out⟩
              case measure => simp [intOf]; omega
            · rw [if_neg h2] at HTA
              have h2' : (ak == 2) = false := by rw [beq_eq_false_iff_ne]; exact h2
              by_cases h3 : ak = 3
              · subst h3
                rw [if_pos rfl] at HTA
                have hta : ta = _ := HTA.out
                subst hta
                go_wp2
                go_roundw
                case rel => exact ⟨k + 1, by go_num, by omega, by rw [HX.out], HB.out⟩
                case measure => simp [intOf]; omega
              · rw [if_neg h3] at HTA
                have h3' : (ak == 3) = false := by rw [beq_eq_false_iff_ne]; exact h3
                rw [← HTA.out] at HN
                go_wp2_with (go_at_call 57; refine Calls.mono (HN.out _) ?_; rintro e w4 ⟨rfl, hb4⟩)
                go_roundw
                case rel => exact ⟨k + 1, by go_num, by omega, by rw [HX.out], HB.out.trans (hb4.mono HB.out.size)⟩
                case measure => simp [intOf]; omega
        · obtain rfl : k = p.length := by omega
          rw [HT.out]
          go_wp2
          go_ret2
          exact HF.out _ HB.out
/-- The words as they are split off. -/
theorem splTo_spl (l : List UInt8) : ∀ i, i ≤ l.length → spl l = (Rf.splTo l i).1 ++ (match spl (l.drop i) with
    | [] => []
    | x :: r => ((l.take i).drop (Rf.splTo l i).2 ++ x) :: r)
  | 0, _ => by
    have h := spl_ne l
    simp only [Rf.splTo, List.drop_zero, List.take_zero, List.nil_append, List.drop_nil]
    cases e : spl l with
    | nil => exact absurd e h
    | cons x r => rfl
  | i + 1, hi => by
    have ih := splTo_spl l i (by omega)
    have hlt : i < l.length := by omega
    have hle := (Rf.splTo_le l i).1
    rw [List.drop_eq_getElem_cons hlt] at ih
    by_cases hc : l[i] = 32
    · rw [Rf.splTo_at l i (Or.inr (by rw [List.getElem?_eq_getElem hlt, hc]))]
      rw [spl, if_pos hc] at ih
      rw [ih]
      simp only [List.append_nil]
      have h2 : (l.take (i + 1)).drop (i + 1) = [] := by rw [List.drop_eq_nil_iff, List.length_take]; omega
      rw [h2]
      cases e : spl (l.drop (i + 1)) with
      | nil => exact absurd e (spl_ne _)
      | cons x r => simp
    · rw [Rf.splTo_no l i (by
        rintro (h | h)
        · omega
        · rw [List.getElem?_eq_getElem hlt] at h
          injection h with h
          exact hc h)]
      rw [spl, if_neg hc] at ih
      rw [ih]
      have h2 : (l.take (i + 1)).drop (Rf.splTo l i).2 = (l.take i).drop (Rf.splTo l i).2 ++ [l[i]] := by
        rw [List.take_succ_eq_append_getElem hlt, List.drop_append_of_le_length (by rw [List.length_take]; omega)]
      rw [h2]
      cases e : spl (l.drop (i + 1)) with
      | nil => exact absurd e (spl_ne _)
      | cons x r => simp
theorem splTo_all (l : List UInt8) : (Rf.splTo l (l.length + 1)).1 = spl l := by
  rw [Rf.splTo_at l l.length (Or.inl rfl), splTo_spl l l.length (Nat.le_refl _), List.drop_length]
  simp [spl]
/-- All words read. -/
def mp : List (List UInt8) → Option (List Atm)
  | [] => some []
  | x :: r => match ptA x with
    | none => none
    | some a => (mp r).map (a :: ·)
theorem mp_len (ws : List (List UInt8)) : ∀ p, mp ws = some p → p.length = ws.length := by
  induction ws with
  | nil => intro p h; simp [mp] at h; subst h; rfl
  | cons x r ih =>
    intro p h
    rw [mp] at h
    cases hx : ptA x with
    | none => rw [hx] at h; cases h
    | some a =>
      rw [hx] at h
      cases hr : mp r with
      | none => rw [hr] at h; cases h
      | some q =>
        rw [hr] at h
        simp at h
        subst h
        simp [ih q hr]
theorem pTo_mp (ws : List (List UInt8)) : ∀ n, n ≤ 64 → pTo n ws = (mp ws).bind (fun p => if n + p.length ≤ 64 then some p else none) := by
  induction ws with
  | nil => intro n hn; simp [pTo, mp, hn]
  | cons x r ih =>
    intro n hn
    rw [pTo, mp]
    cases hx : ptA x with
    | none => rfl
    | some a =>
      simp only
      by_cases h64 : n = 64
      · rw [if_pos h64]
        cases hr : mp r with
        | none => rfl
        | some q => simp; omega
      · rw [if_neg h64, ih (n + 1) (by omega)]
        cases hr : mp r with
        | none => rfl
        | some q =>
          simp only [Option.bind_some, Option.map_some, List.length_cons]
          by_cases h : n + 1 + q.length ≤ 64
          · rw [if_pos h, if_pos (by omega)]; rfl
          · rw [if_neg h, if_neg (by omega)]; rfl
end Go.Proofs.YtjchobcmbkiilaaGreatDoor
