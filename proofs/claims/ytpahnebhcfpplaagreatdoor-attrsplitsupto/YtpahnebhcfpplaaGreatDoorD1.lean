/-
  The reference's Value; two lists of raw attributes held against each other.
-/
import Derived.Test.YtpahnebhcfpplaaGreatDoorB5
import Derived.BigQuiet
namespace Go.Proofs.YtpahnebhcfpplaaGreatDoor
open Go.RowKit
theorem worth_take (l : List UInt8) (k : Nat) (h : k < l.length) : worth (l.take (k + 1)) = worth (l.take k) * 256 + l[k].toNat := by
  rw [List.take_succ_eq_append_getElem h, worth_snoc]
theorem ix_str (l : List UInt8) (k : Nat) (h : k < l.length) (W : World) : (Instr.index 9 (.string ⟨l.toArray⟩) (.int .i64 (k : Int))).run Tryz.prog W = .ok (.int .u8 (l[k].toNat : Int)) W := by
  have hs := list_size l
  rw [run_index_string W 9 _ .i64 (k : Int) Tryz.underlying9, dif_pos ⟨by omega, by rw [hs]; omega⟩]
  have e : (⟨l.toArray⟩ : ByteArray)[(k : Int).toNat]'(by rw [hs]; omega) = l[k] := by
    show l.toArray[(k : Int).toNat] = l[k]
    simp
  rw [e]
set_option maxRecDepth 100000 in
theorem value_any (l : List UInt8) (w : World) (hl : l.length ≤ 2) :
    Calls Tryz.prog 51 #[.string ⟨l.toArray⟩] w fun e w' => e = .returned (.int .u64 (worth l : Nat)) ∧ w' = w := by
  have hsz : (⟨l.toArray⟩ : ByteArray).size = l.length := list_size l
  go_enter Tryz.func51, Tryz.ntmps51
  go_wp2
  go_loopw [3, 4] (fun t i wr => ∃ k : Nat, k ≤ l.length ∧ i = .int .i64 k ∧ t = .int .u64 (worth (l.take k) : Nat) ∧ wr = w) (fun _ i _ => l.length - (intOf i).toNat)
  case atStart => exact ⟨0, Nat.zero_le _, rfl, by simp [worth], rfl⟩
  case round =>
    obtain ⟨k, hk, rfl, rfl, rfl⟩ := hrel
    by_cases hlt : k < l.length
    · have HX : Hid (worth (l.take (k + 1)) = worth (l.take k) * 256 + l[k].toNat) := worth_take l k hlt
      have hb := worth_lt (l.take k)
      have hkl : (l.take k).length = k := by simp; omega
      rw [hkl] at hb
      have hb2 : worth (l.take k) < 256 := by
        rcases (show k = 0 ∨ k = 1 by omega) with rfl | rfl
        · show worth [] < 256; decide
        · simpa using hb
      have hix : ∀ W, (Instr.index 9 (.string ⟨l.toArray⟩) (.int .i64 (k : Int))).run Tryz.prog W = .ok (.int .u8 (l[k].toNat : Int)) W := fun W => ix_str l k hlt W
      have hc : l[k].toNat < 256 := UInt8.toNat_lt _
      generalize worth (l.take k) = q at *
      clear hb hkl
      generalize l[k].toNat = cc at *
      have hw1 : IntKind.u64.wrap ((q : Int) * 256) = (q : Int) * 256 := by rw [IntKind.wrap_u64]; omega
      have hw2 : IntKind.u64.wrap (cc : Int) = (cc : Int) := by rw [IntKind.wrap_u64]; omega
      have hw3 : IntKind.u64.wrap ((q : Int) * 256 + (cc : Int)) = (q : Int) * 256 + (cc : Int) := by rw [IntKind.wrap_u64]; omega
      go_wp2
      go_roundw
      case rel => exact ⟨k + 1, by omega, by go_num, by rw [HX.out]; simp, trivial⟩
      case measure => simp [intOf]; omega
    · obtain rfl : k = l.length := by omega
      rw [List.take_length]
      go_wp2
      go_ret
      exact ⟨rfl, rfl⟩
theorem ne_list {a b : ByteArray} (h : ¬ (a = b)) : (a.toList == b.toList) = false := by
  cases hb : (a.toList == b.toList) with
  | false => rfl
  | true =>
    have e : a.toList = b.toList := eq_of_beq hb
    rw [ByteArray.toList_eq, ByteArray.toList_eq] at e
    exact absurd (ByteArray.ext (Array.toList_inj.mp e)) h
set_option maxRecDepth 100000 in
set_option maxHeartbeats 1600000 in
theorem sameRaws_any (va vb : Value) (A B : List Rw) (w : World) (ha : RawsAt w va A) (hb : RawsAt w vb B) :
    Calls Tryz.prog 12 #[va, vb] w fun e w' => e = .returned (.bool (decide (A = B))) ∧ Below w.heap.size w w' := by
  obtain ⟨ad, b, off, cap, rfl, had, ⟨_, hl⟩, hr⟩ := ha
  obtain ⟨ad', b', off', cap', rfl, had', ⟨_, hl'⟩, hr'⟩ := hb
  have HR : Hid (RowR _ _ _ _) := hr
  have HR' : Hid (RowR _ _ _ _) := hr'
  clear hr hr'
  by_cases hlen : A.length = B.length
  · have HL : Hid (A.length = B.length) := hlen
    rw [← hlen] at had' hl' ⊢
    clear hlen
    go_enter Tryz.func12, Tryz.ntmps12
    go_wp2
    go_loopw [5] (fun i wr => ∃ k : Nat, k ≤ A.length ∧ i = .int .i64 k ∧ A.take k = B.take k ∧ Below w.heap.size w wr) (fun i _ => A.length - (intOf i).toNat)
    case atStart => exact ⟨0, Nat.zero_le _, rfl, by simp, Below.refl _ _⟩
    case round =>
      obtain ⟨k, hk, rfl, htk, hbe⟩ := hrel
      have HB : Hid (Below _ _ _) := hbe
      have HTK : Hid (_ = _) := htk
      clear htk
      by_cases hlt : k < A.length
      · have hltB : k < B.length := by rw [← HL.out]; exact hlt
        obtain rfl : ad = some ⟨b, off, none⟩ := by rcases had with h | h; exact h; omega
        obtain rfl : ad' = some ⟨b', off', none⟩ := by rcases had' with h | h; exact h; omega
        obtain ⟨⟨c0, c1, c2⟩, _⟩ := (HR.out.below hbe) k hlt
        obtain ⟨⟨d0, d1, d2⟩, _⟩ := (HR'.out.below hbe) k hltB
        have HEQ : Hid (A[k] = B[k] → A.take (k + 1) = B.take (k + 1)) := fun e => by rw [take_snoc A k hlt, take_snoc B k hltB, HTK.out, e]
        have HNE : Hid (A[k] ≠ B[k] → decide (A = B) = false) := fun e => by
          apply decide_eq_false
          intro h
          subst h
          exact e rfl
        rename_i hz1 hz2
        clear hz1 hz2
        clear had had' hbe
        generalize A[k] = x at *
        generalize B[k] = y at *
        clear hltB
        obtain ⟨x0, x1, x2⟩ := x
        obtain ⟨y0, y1, y2⟩ := y
        simp only at c0 c1 c2 d0 d1 d2
        by_cases h0 : x0 = y0
        · subst h0
          by_cases h1 : x1 = y1
          · subst h1
            by_cases h2 : x2 = y2
            · subst h2
              have HTN : Hid (_ = _) := HEQ.out rfl
              go_wp2
              go_quiet (fail)
              go_wp2
              go_roundw
              case rel => exact ⟨k + 1, by omega, by go_num, HTN.out, below_drewN' HB.out _⟩
              case measure => simp [intOf]; omega
            · have HD : Hid (_ = _) := HNE.out (by intro h; simp at h; exact h2 h)
              have hs : (x2.toList == y2.toList) = false := ne_list h2
              clear h2
              go_wp2
              go_quiet (fail)
              go_wp2
              go_ret
              exact ⟨ret_bool HD.out.symm, below_drewN' HB.out _⟩
          · have HD : Hid (_ = _) := HNE.out (by intro h; simp at h; exact h1 h.1)
            have hs : ((x1 : Int) == (y1 : Int)) = false := by simp; omega
            clear h1
            go_wp2
            go_quiet (fail)
            go_wp2
            go_ret
            exact ⟨ret_bool HD.out.symm, below_drewN' HB.out _⟩
        · have HD : Hid (_ = _) := HNE.out (by intro h; simp at h; exact h0 h.1)
          have hs : ((x0 : Int) == (y0 : Int)) = false := by simp; omega
          clear h0
          go_wp2
          go_quiet (fail)
          go_wp2
          go_ret
          exact ⟨ret_bool HD.out.symm, below_drewN' HB.out _⟩
      · obtain rfl : k = A.length := by omega
        have HE : Hid (decide (A = B) = true) := by
          unfold Hid
          have h1 := HTK.out
          have h2 := HL.out
          rw [List.take_length, h2, List.take_length] at h1
          exact decide_eq_true h1
        go_wp2
        go_ret
        exact ⟨ret_bool HE.out.symm, HB.out⟩
  · have hd : decide (A = B) = false := decide_eq_false (fun h => hlen (by rw [h]))
    rw [hd]
    have hn : ((A.length : Int) == (B.length : Int)) = false := by simp; omega
    have hn2 : ¬ ((A.length : Int) = (B.length : Int)) := by omega
    clear hd hlen
    go_enter Tryz.func12, Tryz.ntmps12
    go_wp2
    go_ret
    exact ⟨rfl, Below.refl _ _⟩
end Go.Proofs.YtpahnebhcfpplaaGreatDoor
