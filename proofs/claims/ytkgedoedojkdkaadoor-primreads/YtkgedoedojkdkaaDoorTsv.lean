/-
  strings.Cut and strings.SplitN at a separator of one byte, for texts of any length.
-/
import Derived.Test.YtkgedoedojkdkaaDoorShelf
import Derived.Test.YtkgedoedojkdkaaDoorR3
import Derived.Shelf.Strings.Search2
import Derived.Lib.CutLaws
import Derived.Lib.Split
import Derived.Deep.LoopGhost
import Derived.Shelf.RegionOpenPlain
import Derived.BigCall
import Derived.BigGuard
set_option linter.unusedVariables false
set_option linter.unusedSimpArgs false
set_option maxRecDepth 100000
namespace Go.Proofs.YtkgedoedojkdkaaDoor
open Go.RowKit
theorem index_c (s : ByteArray) (c : UInt8) (w : World) : Calls Tryd.prog 80 #[.string s, .string ⟨#[c]⟩] w fun e w' => e = .returned (.int .i64 (Lib.indexB s ⟨#[c]⟩)) ∧ w' = w := by
  have h : Calls Tryd.prog 80 #[.string s, .string ⟨#[c]⟩] w fun e w' => e = .returned (.int .i64 (Lib.indexByte s.data.toList c)) ∧ w' = w := Any.stringslite_Index_one (P := Tryd.prog) (ρ := Tryd.lays145_ren) { Tryd.lays145 with } s c w
  have e : Lib.indexB s ⟨#[c]⟩ = Lib.indexByte s.data.toList c := Lib.index_one _ _
  rw [e]; exact h
theorem sindex_c (s : ByteArray) (c : UInt8) (w : World) : Calls Tryd.prog 85 #[.string s, .string ⟨#[c]⟩] w fun e w' => e = .returned (.int .i64 (Lib.indexB s ⟨#[c]⟩)) ∧ w' = w := by
  go_enter Tryd.func85, Tryd.ntmps85
  go_wp2_with (go_at_call 80; refine (index_c s c _).mono ?_; rintro e w' ⟨rfl, rfl⟩)
  go_ret
  exact ⟨rfl, rfl⟩
theorem one_size (c : UInt8) : (⟨#[c]⟩ : ByteArray).size = 1 := rfl
/-- Cut at a byte, whatever the text's length. -/
theorem lcut_c (s : ByteArray) (c : UInt8) (hs : s.size < 140737488351233) (w : World) :
    Calls Tryd.prog 69 #[.string s, .string ⟨#[c]⟩] w fun e w' => e = .returned (.tuple #[.string ⟨(Lib.cut s.data.toList [c]).1.toArray⟩, .string ⟨(Lib.cut s.data.toList [c]).2.1.toArray⟩, .bool (Lib.cut s.data.toList [c]).2.2]) ∧ ∃ n, w' = w.drewN n := by
  rcases Lib.indexB_cases s ⟨#[c]⟩ with hix | ⟨i, hix, hroom⟩
  · obtain ⟨e1, e2, e3⟩ := Lib.cutB_miss s ⟨#[c]⟩ hix
    rw [show ([c] : List UInt8) = (⟨#[c]⟩ : ByteArray).data.toList from rfl, e1, e2, e3]
    have HI : Hid (∀ W, Calls Tryd.prog 80 #[.string s, .string ⟨#[c]⟩] W _) := fun W => index_c s c W
    rw [hix] at HI
    clear e1 e2 e3 hix
    go_enter Tryd.func69, Tryd.ntmps69
    go_wp2_with (go_at_call 80; refine (HI.out _).mono ?_; rintro e w' ⟨rfl, rfl⟩)
    go_ret3
    exact ⟨rfl, 0, rfl⟩
  · obtain ⟨e1, e2, e3⟩ := Lib.cutB_hit s ⟨#[c]⟩ i hix
    rw [show ([c] : List UInt8) = (⟨#[c]⟩ : ByteArray).data.toList from rfl, e1, e2, e3]
    rw [one_size] at hroom ⊢
    have HI : Hid (∀ W, Calls Tryd.prog 80 #[.string s, .string ⟨#[c]⟩] W _) := fun W => index_c s c W
    rw [hix] at HI
    clear e1 e2 e3 hix
    have mixed := Tryd.lays145.mixed
    have hw : IntKind.i64.wrap ((i : Int) + 1) = (i : Int) + 1 := by rw [IntKind.wrap_i64]; omega
    have c1 : (0 : Int) ≤ (i : Int) := by omega
    have c2 : (i : Int) ≤ (s.size : Int) := by omega
    have c3 : (0 : Int) ≤ (i : Int) + 1 := by omega
    have c4 : (i : Int) + 1 ≤ (s.size : Int) := by omega
    go_enter Tryd.func69, Tryd.ntmps69
    go_wp2_with (go_at_call 80; refine (HI.out _).mono ?_; rintro e w' ⟨rfl, rfl⟩)
    go_region_o
    go_wp2
    go_ret3
    exact ⟨rfl, 1, rfl⟩
theorem scut_c (s : ByteArray) (c : UInt8) (hs : s.size < 140737488351233) (w : World) :
    Calls Tryd.prog 59 #[.string s, .string ⟨#[c]⟩] w fun e w' => e = .returned (.tuple #[.string ⟨(Lib.cut s.data.toList [c]).1.toArray⟩, .string ⟨(Lib.cut s.data.toList [c]).2.1.toArray⟩, .bool (Lib.cut s.data.toList [c]).2.2]) ∧ ∃ n, w' = w.drewN n := by
  have HC : Hid (∀ W, Calls Tryd.prog 69 #[.string s, .string ⟨#[c]⟩] W _) := fun W => lcut_c s c hs W
  go_enter Tryd.func59, Tryd.ntmps59
  go_wp2_with (go_at_call 69; refine (HC.out _).mono ?_; rintro e w' ⟨rfl, n, rfl⟩)
  go_ret3
  exact ⟨rfl, n, rfl⟩
theorem info9 : (Tryd.prog.info? 9).map (fun i => (i.zero, i.size, i.bytes)) = some (some (.string ByteArray.empty), 1, 16) := by kernel_rfl
set_option maxHeartbeats 4000000 in
/-- The pieces of a text at a byte, n of them at most, whatever its length. -/
theorem gsplit_c (s : ByteArray) (c : UInt8) (n : Nat) (hs : s.size < 140737488351233) (hn : 2 ≤ n) (hn9 : n ≤ 9) (w : World) :
    Calls Tryd.prog 71 #[.string s, .string ⟨#[c]⟩, .int .i64 0, .int .i64 n] w fun e w' =>
      e = .returned (.slice (some ⟨w.heap.size, 0, none⟩) (Lib.splitB ⟨#[c]⟩ 0 (min n (s.size + 1) - 1) s).length (min n (s.size + 1))) ∧ w' = w.alloc (.cells (Lib.cellsOf (Lib.splitB ⟨#[c]⟩ 0 (min n (s.size + 1) - 1) s) (min n (s.size + 1))) 9) := by
  obtain ⟨N, hN⟩ : ∃ N : Nat, min n (s.size + 1) = N := ⟨_, rfl⟩
  have hN' : min (n : Int) ((s.size : Int) + 1) = (N : Int) := by omega
  rw [hN]
  have hN1 : (1 : Int) ≤ (N : Int) := by omega
  have hNs : (N : Int) ≤ (s.size : Int) + 1 := by omega
  have hN9 : N ≤ 9 := by omega
  have hne : ((n : Int) == 0) = false := beq_eq_false_iff_ne.2 (by omega)
  have hneg : ¬ ((n : Int) < 0) := by omega
  have hse : ((⟨#[c]⟩ : ByteArray) == ByteArray.empty) = false := by rfl
  have HX : Hid (∀ (x : ByteArray) W, Calls Tryd.prog 85 #[.string x, .string ⟨#[c]⟩] W _) := fun x W => sindex_c x c W
  clear hN
  have hmk := run_make_row' (P := Tryd.prog) 66 9 (.string ByteArray.empty) 16 Tryd.underlying66 info9 rfl .i64 .i64 N (by omega) (by omega)
  go_enter Tryd.func71, Tryd.ntmps71
  go_wp2_with fail
  clear hmk
  go_loopw [0, 10] (fun a i wr => ∃ (done : List ByteArray) (rest : ByteArray), a = .string rest ∧ i = .int .i64 (done.length : Int) ∧ done.length ≤ N - 1 ∧ rest.size ≤ s.size ∧
      wr = w.alloc (.cells (Lib.cellsOf done N) 9) ∧ done ++ Lib.splitB ⟨#[c]⟩ 0 (N - 1 - done.length) rest = Lib.splitB ⟨#[c]⟩ 0 (N - 1) s) (fun _ i _ => N - (intOf i).toNat)
  case atStart => exact ⟨[], s, rfl, rfl, Nat.zero_le _, Nat.le_refl _, by rw [Lib.cellsOf_nil], rfl⟩
  case round =>
    obtain ⟨done, rest, rfl, rfl, hd, hrs, rfl, hsp⟩ := hrel
    have hnext : (Lib.cellsOf done N)[done.length]? = some (.string ByteArray.empty) := Lib.cellsOf_next (by omega)
    have HF : Hid (Lib.splitB ⟨#[c]⟩ 0 (N - 1 - done.length) rest = [rest] → (Lib.splitB ⟨#[c]⟩ 0 (N - 1) s).length = done.length + 1 ∧ (Lib.cellsOf done N).setIfInBounds done.length (.string rest) = Lib.cellsOf (Lib.splitB ⟨#[c]⟩ 0 (N - 1) s) N) := fun h => by
      rw [h] at hsp
      rw [← hsp]
      exact ⟨by simp, Lib.cellsOf_set (by omega) rest⟩
    have HS : Hid (_ = _) := hsp
    clear hsp
    by_cases hlt : done.length < N - 1
    · have hltz : ((done.length : Nat) : Int) < (N : Int) - 1 := by omega
      rcases Lib.indexB_cases rest ⟨#[c]⟩ with hix | ⟨i, hix, hroom⟩
      · go_wp2_with (go_at_call 85; refine (HX.out rest _).mono ?_; rintro e w' ⟨rfl, rfl⟩; rw [hix])
        go_ret
        obtain ⟨f1, f2⟩ := HF.out (Lib.splitB_miss _ _ _ rest hix)
        rw [f1, ← f2]
        exact ⟨by first | rfl | (congr 2 <;> omega), rfl⟩
      · rw [one_size] at hroom
        have c0 : ¬ ((i : Int) < 0) := by omega
        have c1 : (0 : Int) ≤ (i : Int) + 0 := by omega
        have c2 : (i : Int) + 0 ≤ (rest.size : Int) := by omega
        have c3 : (0 : Int) ≤ (i : Int) + 1 := by omega
        have c4 : (i : Int) + 1 ≤ (rest.size : Int) := by omega
        go_wp2_with (go_at_call 85; refine (HX.out rest _).mono ?_; rintro e w' ⟨rfl, rfl⟩; rw [hix])
        go_roundw
        case measure => simp [intOf]; omega
        case rel =>
          refine ⟨done ++ [rest.extract 0 i], rest.extract (i + 1) rest.size, rfl, by simp, by simp; omega, by rw [ByteArray.size_extract]; omega, by rw [← Lib.cellsOf_set (by omega)], ?_⟩
          rw [← HS.out, show N - 1 - done.length = (N - 1 - (done.length + 1)) + 1 by omega, Lib.splitB_hit _ 0 _ rest i hix]
          simp [one_size]
    · have hltz : ¬ (((done.length : Nat) : Int) < (N : Int) - 1) := by omega
      go_wp2_with fail
      go_ret
      obtain ⟨f1, f2⟩ := HF.out (by rw [show N - 1 - done.length = 0 by omega]; rfl)
      rw [f1, ← f2]
      exact ⟨by first | rfl | (congr 2 <;> omega), rfl⟩
theorem splitN_c (s : ByteArray) (c : UInt8) (n : Nat) (hs : s.size < 140737488351233) (hn : 2 ≤ n) (hn9 : n ≤ 9) (w : World) :
    Calls Tryd.prog 62 #[.string s, .string ⟨#[c]⟩, .int .i64 n] w fun e w' =>
      e = .returned (.slice (some ⟨w.heap.size, 0, none⟩) (Lib.splitB ⟨#[c]⟩ 0 (min n (s.size + 1) - 1) s).length (min n (s.size + 1))) ∧ w' = w.alloc (.cells (Lib.cellsOf (Lib.splitB ⟨#[c]⟩ 0 (min n (s.size + 1) - 1) s) (min n (s.size + 1))) 9) := by
  have H := gsplit_c s c n hs hn hn9 w
  generalize (Lib.splitB ⟨#[c]⟩ 0 (min n (s.size + 1) - 1) s) = L at *
  generalize min n (s.size + 1) = N at *
  have HG : Hid (Calls Tryd.prog 71 #[.string s, .string ⟨#[c]⟩, .int .i64 0, .int .i64 n] w _) := H
  clear H
  go_enter Tryd.func62, Tryd.ntmps62
  go_wp2_with (go_at_call 71; refine HG.out.mono ?_; rintro e w' ⟨rfl, rfl⟩)
  go_ret
  exact ⟨rfl, rfl⟩
end Go.Proofs.YtkgedoedojkdkaaDoor
