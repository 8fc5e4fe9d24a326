/-
  What the cards share; bytes that come in.
-/
import Derived.Test.YtjchobcmbkiilaaGreatDoorT3
import Derived.Test.YtjchobcmbkiilaaGreatDoorJE
import Derived.Test.YtjchobcmbkiilaaGreatDoorV3
import Derived.Lib.SmallJoins
import Derived.ShutString
import Derived.ChangeOld
import Derived.Below
import Derived.Carry
import Derived.Deep.SlicePairs
import Derived.Deep.Strs
namespace Go.Proofs.YtjchobcmbkiilaaGreatDoor
open Go.ChangeShapes Go.WideShapes Go.ChangeAt Go.RowKit Go.Lib Go.Joins Go.Deep Go.WideMaps Go.WideElems
theorem own : ownKnob Tryz.prog.godebug = none := by kernel_rfl
theorem laidOut : laidOutB Tryz.prog = true := by kernel_rfl
theorem looksOff : true = Tryz.pinned.checked.prog.looks [] := by kernel_rfl
theorem st9 : Tryz.prog.wantsStandIn 9 = false := by kernel_rfl
theorem st62 : Tryz.prog.wantsStandIn 62 = false := by kernel_rfl
theorem zs5 : Tryz.prog.cellsOf 5 = 1 := by kernel_rfl
variable {H : Type} {enc : TypeId × Value → H} {w : World} {sp : Nat → Bool} {held : Bool} {fuel : Nat}
theorem u8_bd {n : Int} (h : (Lit.int .u8 n).wf = true) : 0 ≤ n ∧ n < 256 := by
  have hb : 0 ≤ n ∧ n ≤ 255 := by simpa [Lit.wf, IntKind.min, IntKind.max, IntKind.signed, IntKind.bits] using h
  omega
theorem u8_nat {n : Int} (h : 0 ≤ n ∧ n < 256) : ∃ m : Nat, n = (m : Int) ∧ m < 256 := by
  obtain ⟨m, rfl⟩ := Int.eq_ofNat_of_zero_le h.1
  exact ⟨m, rfl, by omega⟩
theorem open_u8s {v : Value} {d : DataW H} {ps : List MemPlace} (hd : DataW.Trod enc Tryz.prog w 0 sp held 62 v d ps) (hv : ∃ ad n c, v = .slice ad n c) : ∃ L, U8At w v L ∧ L.length ≤ 9223372036854775807 := by
  obtain ⟨fuel, hf⟩ := hd
  obtain ⟨ad, n, c, rfl⟩ := hv
  have hf' : DataW.trod enc Tryz.prog w 0 sp held fuel 62 [.slice ad n c] = some (d, ps) := by simpa [Value.cells] using hf
  rcases open_slice Tryz.underlying62 hf' with ⟨hcs, _⟩ | ⟨a, len, cap, m, fu, D, Pl, hcs, hb, hl, hm, hmm, hx, hel⟩
  · simp at hcs
    obtain ⟨rfl, rfl, rfl⟩ := hcs
    exact ⟨[], ⟨none, 0, 0, 0, rfl, Or.inr rfl, by simp, fun j hj => by simp at hj⟩, by simp⟩
  · simp at hcs
    obtain ⟨rfl, rfl, rfl⟩ := hcs
    have each : ∀ i, i < n → ∃ s : Nat, s < 256 ∧ w.cell? (a.add i) = some (.int .u8 (s : Int)) := by
      intro i hi
      obtain ⟨cs', h1, h2⟩ := hel i (by rw [hmm]; split <;> omega)
      rw [zs5, Nat.mul_one] at h1
      obtain ⟨_, hlen, hcell⟩ := World.cells?_some h1
      obtain ⟨s, e, _, q⟩ := DataW.trod_int (k := .u8) Tryz.underlying5 h2
      obtain ⟨s', rfl, hs⟩ := u8_nat (u8_bd q)
      refine ⟨s', hs, ?_⟩
      have d := hcell 0 (by omega)
      rw [add_add, Nat.add_zero] at d
      rw [d, e]
      rfl
    obtain ⟨q, hq⟩ := choose_lt each
    by_cases hz : n = 0
    · subst hz
      exact ⟨[], ⟨some a, 0, 0, c, rfl, Or.inr rfl, by simp, fun j hj => by simp at hj⟩, by simp⟩
    · obtain ⟨b, off, spot⟩ := a
      have hspot : spot = none := by
        have := (hq 0 (by omega)).2
        simpa [Addr.add] using World.cell?_spot this
      subst hspot
      refine ⟨(List.range n).map q, ⟨some ⟨b, off, none⟩, b, off, c, by simp, Or.inl rfl, by simpa using hl, fun j hj => ?_⟩, by unfold maxLen at hm; simp; omega⟩
      have hj' : j < n := by simpa using hj
      have h1 := (hq j hj').2
      simp only [add_off] at h1
      exact ⟨by simpa using h1, by simpa using (hq j hj').1⟩
theorem u8_len {v : Value} {L : List Nat} (h : U8At w v L) : ∃ ad cap, v = .slice ad L.length cap := by
  obtain ⟨ad, b, off, cap, h1, _⟩ := h
  exact ⟨ad, cap, h1⟩
end Go.Proofs.YtjchobcmbkiilaaGreatDoor
