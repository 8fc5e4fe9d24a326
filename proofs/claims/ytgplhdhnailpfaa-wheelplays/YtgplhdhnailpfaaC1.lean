/-
  The order of timers as it is reckoned: cmp.Compare, cmp.Or, compare, tick, the closure that SortFunc is handed.
-/
import Derived.Test.YtgplhdhnailpfaaB1
import Derived.Sort.Grow
import Derived.Deep.RegionHeld3
set_option linter.unusedSimpArgs false
set_option maxRecDepth 100000
namespace Go.Proofs.Ytgplhdhnailpfaa
open Go.RowKit Go.Maps
/-- A world that has only grown: blocks were laid, orders drawn. -/
structure Grw (w w' : World) : Prop where
  bel : Below w.heap.size w w'
  drw : w.drawn ≤ w'.drawn
theorem Grw.refl (w : World) : Grw w w := ⟨Below.refl _ _, Nat.le_refl _⟩
theorem Grw.trans {a b c : World} (h : Grw a b) (k : Grw b c) : Grw a c := ⟨h.bel.trans (k.bel.mono h.bel.size), Nat.le_trans h.drw k.drw⟩
theorem Grw.alloc {a b : World} (h : Grw a b) (o : Obj) : Grw a (b.alloc o) := ⟨h.bel.alloc h.bel.size o, h.drw⟩
theorem Grw.drew {a b : World} (h : Grw a b) : Grw a b.drew := ⟨h.bel.drew, Nat.le_trans h.drw (Nat.le_succ _)⟩
theorem Grw.drewN {a b : World} (h : Grw a b) (n : Nat) : Grw a (b.drewN n) := ⟨below_drewN h.bel n, Nat.le_trans h.drw (Nat.le_add_right _ _)⟩
theorem Grw.grow {w w' : World} (h : Grw w w') : ∃ q os, w' = Sort.grow (w.drewN q) os := by
  refine ⟨w'.drawn - w.drawn, w'.heap.extract w.heap.size w'.heap.size, ?_⟩
  obtain ⟨⟨h1, h2, h3, h4, h5⟩, h6⟩ := h
  obtain ⟨hp, tp, dr, os, out⟩ := w
  obtain ⟨hp', tp', dr', os', out'⟩ := w'
  simp only at h1 h2 h3 h4 h5 h6
  subst h1 h2 h3
  have e : hp' = hp ++ hp'.extract hp.size hp'.size := by
    apply Array.ext_getElem?
    intro i
    by_cases hi : i < hp.size
    · rw [h5 i hi, Array.getElem?_append_left hi]
    · rw [Array.getElem?_append_right (by omega), Array.getElem?_extract]
      by_cases hj : i < hp'.size
      · rw [if_pos (by omega)]
        congr 1
        omega
      · rw [if_neg (by omega)]
        exact Array.getElem?_eq_none (by omega)
  simp only [Sort.grow, World.drewN]
  congr 1
  omega
theorem nan28 (a : Int) (w : World) : Calls Try.prog 45 #[.int .u64 a] w fun e w' => e = .returned (.bool false) ∧ w' = w := by
  go_enter Try.func45, Try.ntmps45
  go_wp2
  go_ret
  exact ⟨rfl, rfl⟩
theorem nan3 (a : Int) (w : World) : Calls Try.prog 61 #[.int .i64 a] w fun e w' => e = .returned (.bool false) ∧ w' = w := by
  go_enter Try.func61, Try.ntmps61
  go_wp2
  go_ret
  exact ⟨rfl, rfl⟩
theorem nan9 (a : ByteArray) (w : World) : Calls Try.prog 62 #[.string a] w fun e w' => e = .returned (.bool false) ∧ w' = w := by
  go_enter Try.func62, Try.ntmps62
  go_wp2
  go_ret
  exact ⟨rfl, rfl⟩
theorem cmp28 (a b : Int) (w : World) : Calls Try.prog 35 #[.int .u64 a, .int .u64 b] w fun e w' => e = .returned (.int .i64 (ord a b)) ∧ w' = w := by
  by_cases h1 : a < b
  · have H : Hid (_ = _) := ord_lt h1
    go_enter Try.func35, Try.ntmps35
    go_wp2_with (go_at_call 45; refine (nan28 _ _).mono ?_; rintro e w' ⟨rfl, rfl⟩)
    go_ret
    exact ⟨ret_int H.out.symm, rfl⟩
  · by_cases h2 : b < a
    · have H : Hid (_ = _) := ord_gt h2
      go_enter Try.func35, Try.ntmps35
      go_wp2_with (go_at_call 45; refine (nan28 _ _).mono ?_; rintro e w' ⟨rfl, rfl⟩)
      go_ret
      exact ⟨ret_int H.out.symm, rfl⟩
    · have H : Hid (_ = _) := ord_eq h1 h2
      go_enter Try.func35, Try.ntmps35
      go_wp2_with (go_at_call 45; refine (nan28 _ _).mono ?_; rintro e w' ⟨rfl, rfl⟩)
      go_ret
      exact ⟨ret_int H.out.symm, rfl⟩
theorem cmp3 (a b : Int) (w : World) : Calls Try.prog 46 #[.int .i64 a, .int .i64 b] w fun e w' => e = .returned (.int .i64 (ord a b)) ∧ w' = w := by
  by_cases h1 : a < b
  · have H : Hid (_ = _) := ord_lt h1
    go_enter Try.func46, Try.ntmps46
    go_wp2_with (go_at_call 61; refine (nan3 _ _).mono ?_; rintro e w' ⟨rfl, rfl⟩)
    go_ret
    exact ⟨ret_int H.out.symm, rfl⟩
  · by_cases h2 : b < a
    · have H : Hid (_ = _) := ord_gt h2
      go_enter Try.func46, Try.ntmps46
      go_wp2_with (go_at_call 61; refine (nan3 _ _).mono ?_; rintro e w' ⟨rfl, rfl⟩)
      go_ret
      exact ⟨ret_int H.out.symm, rfl⟩
    · have H : Hid (_ = _) := ord_eq h1 h2
      go_enter Try.func46, Try.ntmps46
      go_wp2_with (go_at_call 61; refine (nan3 _ _).mono ?_; rintro e w' ⟨rfl, rfl⟩)
      go_ret
      exact ⟨ret_int H.out.symm, rfl⟩
theorem beq_toList (a b : ByteArray) : (a.toList == b.toList) = decide (a = b) := by
  rw [Bool.eq_iff_iff]
  simp only [beq_iff_eq, decide_eq_true_eq]
  exact ⟨toList_inj, fun h => by rw [h]⟩
theorem cmp9 (a b : ByteArray) (w : World) : Calls Try.prog 47 #[.string a, .string b] w fun e w' => e = .returned (.int .i64 (ordS a b)) ∧ w' = w := by
  cases h1 : Op.bytesLess a.toList b.toList
  · cases h2 : (a.toList == b.toList)
    · have hne : a ≠ b := fun e => by rw [e] at h2; simp at h2
      have h3 : Op.bytesLess b.toList a.toList = true := by
        cases h3 : Op.bytesLess b.toList a.toList
        · exact absurd (str_total h1 h3) hne
        · rfl
      have H : Hid (ordS a b = 1) := by unfold Hid ordS; simp [h1, h3]
      clear hne h3
      go_enter Try.func47, Try.ntmps47
      go_wp2_with (go_at_call 62; refine (nan9 _ _).mono ?_; rintro e w' ⟨rfl, rfl⟩)
      go_ret
      exact ⟨ret_int H.out.symm, rfl⟩
    · have he : a = b := by rw [beq_toList] at h2; simpa using h2
      have H : Hid (ordS a b = 0) := by unfold Hid ordS; rw [he, str_irrefl]; simp
      clear he
      go_enter Try.func47, Try.ntmps47
      go_wp2_with (go_at_call 62; refine (nan9 _ _).mono ?_; rintro e w' ⟨rfl, rfl⟩)
      go_ret
      exact ⟨ret_int H.out.symm, rfl⟩
  · have H : Hid (ordS a b = -1) := by unfold Hid ordS; simp [h1]
    go_enter Try.func47, Try.ntmps47
    go_wp2_with (go_at_call 62; refine (nan9 _ _).mono ?_; rintro e w' ⟨rfl, rfl⟩)
    go_ret
    exact ⟨ret_int H.out.symm, rfl⟩
theorem firstNZ_drop (l : List Int) (k : Nat) (h : k < l.length) (h0 : l[k] = 0) : firstNZ (l.drop k) = firstNZ (l.drop (k + 1)) := by
  rw [List.drop_eq_getElem_cons h]; simp [firstNZ, h0]
theorem firstNZ_at (l : List Int) (k : Nat) (h : k < l.length) (h0 : ¬ l[k] = 0) : firstNZ (l.drop k) = l[k] := by
  rw [List.drop_eq_getElem_cons h]; simp [firstNZ, h0]
theorem or_any (b cap : Nat) (l : List Int) (w : World) (hl : l.length ≤ 1000) (hr : ∀ j (h : j < l.length), w.cell? ⟨b, j, none⟩ = some (.int .i64 l[j])) :
    Calls Try.prog 34 #[.slice (some ⟨b, 0, none⟩) l.length cap] w fun e w' => e = .returned (.int .i64 (firstNZ l)) ∧ w' = w := by
  have HR : Hid (∀ j (h : j < l.length), w.cell? ⟨b, j, none⟩ = some (.int .i64 l[j])) := hr
  clear hr
  go_enter Try.func34, Try.ntmps34
  go_wp2
  go_loopw [8] (fun i wr => ∃ k : Nat, k ≤ l.length ∧ i = .int .i64 k ∧ wr = w ∧ firstNZ (l.drop k) = firstNZ l) (fun i _ => l.length - (intOf i).toNat)
  case atStart => exact ⟨0, Nat.zero_le _, rfl, rfl, by simp⟩
  case round =>
    obtain ⟨k, hk, rfl, rfl, hn⟩ := hrel
    have HN : Hid (firstNZ (l.drop k) = firstNZ l) := hn
    clear hn
    by_cases hlt : k < l.length
    · have c1 := HR.out k hlt
      by_cases h0 : l[k] = 0
      · have HE : Hid (firstNZ (l.drop (k + 1)) = firstNZ l) := by unfold Hid; rw [← firstNZ_drop l k hlt h0]; exact HN.out
        rw [h0] at c1
        clear h0
        go_wp2
        go_roundw
        case rel => exact ⟨k + 1, by omega, by go_num, trivial, HE.out⟩
        case measure => simp [intOf]; omega
      · have HE : Hid (l[k] = firstNZ l) := by unfold Hid; rw [← firstNZ_at l k hlt h0]; exact HN.out
        generalize l[k] = x at *
        go_wp2
        go_ret
        exact ⟨ret_int HE.out, rfl⟩
    · obtain rfl : k = l.length := by omega
      have HE : Hid (0 = firstNZ l) := by unfold Hid; rw [← HN.out]; simp [firstNZ]
      go_wp2
      go_ret
      exact ⟨ret_int HE.out, rfl⟩
theorem tick_any {p b : Nat} {L : List Fd} {w : World} (h : WhAt w p b L) (k : Ky) :
    Calls Try.prog 37 #[.pointer (some ⟨p, 0, none⟩), .agg #[.int .i64 k.kind, .string k.peer, .int .i64 k.fam]] w fun e w' => e = .returned (.int .u64 (((lookF L k).getD 0 : Nat) : Int)) ∧ Grw w w' := by
  have h1 : WhAt (w.alloc (.cells #[.int .i64 k.kind, .string k.peer, .int .i64 k.fam] 27)) p b L := h.below ((Below.refl _ _).alloc (Nat.le_refl _) _)
  have hc : ∀ n, WhAt ((w.alloc (.cells #[.int .i64 k.kind, .string k.peer, .int .i64 k.fam] 27)).drewN n) p b L := fun n => h1.below (below_drewN (Below.refl _ _) n)
  have hl := fun n => (hc n).m.look1 k
  generalize (lookF L k).getD 0 = t at hl ⊢
  have HC : Hid (_ : Prop) := hc
  clear h h1 hc
  go_enter Try.func37, Try.ntmps37
  go_wp2
  go_quiet ((go_at_call 26; exact Calls.quiet_of_same (timers_yes (HC.out _))))
  go_wp2
  go_ret
  exact ⟨rfl, ((Grw.refl _).alloc _).drewN _⟩
end Go.Proofs.Ytgplhdhnailpfaa
