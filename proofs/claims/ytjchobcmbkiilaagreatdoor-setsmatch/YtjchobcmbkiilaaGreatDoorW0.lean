/-
  Tables of the library, and the two errors; digits read back.
-/
import Derived.Test.YtjchobcmbkiilaaGreatDoorShelf
import Derived.Test.YtjchobcmbkiilaaGreatDoorZ6
import Derived.Lib.Join
import Derived.Lib.ItoaNum
import Derived.Lib.ItoaMem
import Derived.Lib.LaidTab
namespace Go.Proofs.YtjchobcmbkiilaaGreatDoor
open Go.RowKit
theorem cell_row {w : World} {g : Nat} {cur : Array Value} {t : TypeId} {fz : Nat × Nat} (h : w.heap[g]? = some (.cells cur t fz)) (j : Nat) (v : Value) (hj : cur[j]? = some v) : w.cell? ⟨g, j, none⟩ = some v := by
  simp [World.cell?, h, hj]
/-- The powers of ten. -/
def powCells : Array Value := (Lib.pow10Tab.map fun z => Value.int .u64 z).toArray
def PowAt (w : World) : Prop := ∃ t fz, w.heap[3]? = some (.cells powCells t fz)
theorem PowAt.below {w w' : World} (h : PowAt w) (hb : Below w.heap.size w w') : PowAt w' := by
  obtain ⟨t, fz, h⟩ := h
  exact ⟨t, fz, (hb.block 3 (Array.getElem?_eq_some_iff.mp h).1).trans h⟩
theorem PowAt.pow {w : World} (h : PowAt w) {name : String} (hn : Tryz.prog.globalNamed name = some 3) : Lib.TabIs Tryz.prog w name .u64 Lib.pow10Tab := by
  obtain ⟨t, fz, h⟩ := h
  unfold Lib.TabIs World.var?
  rw [hn, Option.bind_some, h]
  rfl
/-- The two variables that hold the errors. -/
def ErrsAt (w : World) : Prop := (∃ te pe t fr, w.heap[4]? = some (.cells #[.iface te pe] t fr)) ∧ (∃ te pe t fr, w.heap[5]? = some (.cells #[.iface te pe] t fr))
theorem ErrsAt.below {w w' : World} (h : ErrsAt w) (hb : Below w.heap.size w w') : ErrsAt w' := by
  obtain ⟨⟨a, b, t, fr, h1⟩, ⟨c, d, t', fr', h2⟩⟩ := h
  have z1 := (Array.getElem?_eq_some_iff.mp h1).1
  have z2 := (Array.getElem?_eq_some_iff.mp h2).1
  exact ⟨⟨a, b, t, fr, (hb.block 4 z1).trans h1⟩, ⟨c, d, t', fr', (hb.block 5 z2).trans h2⟩⟩
theorem var_at {w : World} {n : String} {g : Nat} {cs : Array Value} {t : TypeId} {fr : Nat × Nat} (hg : Tryz.prog.globalNamed n = some g) (h : w.heap[g]? = some (.cells cs t fr)) : w.var? Tryz.prog n = some cs := by
  unfold World.var?
  rw [hg, Option.bind_some, h]
theorem below_drewN' {B : Nat} {a w : World} (h : Below B a w) (n : Nat) : Below B a (w.drewN n) := below_drewN h n
section
open Lib
theorem pm_app (M acc : Nat) (l r : List UInt8) (u : Nat) (h : parseUintM M acc l = .ok u) : parseUintM M acc (l ++ r) = parseUintM M u r := by
  induction l generalizing acc with
  | nil => simp only [parseUintM, NumEnd.ok.injEq] at h; rw [List.nil_append, h]
  | cons c l ih =>
    rw [List.cons_append]
    simp only [parseUintM] at h ⊢
    split at h
    · split at h
      · cases h
      · split at h
        · cases h
        · rename_i h1 h2 h3
          rw [if_pos h1, if_neg h2, if_neg h3]
          exact ih _ h
    · cases h
theorem dig_nat (d : Nat) (h : d < 10) : (UInt8.ofNat (48 + d)).toNat = 48 + d := by
  rw [UInt8.toNat_ofNat']; omega
theorem pm_one (M acc d : Nat) (hd : d < 10) (ha : acc < 1844674407370955162) (hm : acc * 10 + d ≤ M) : parseUintM M acc [UInt8.ofNat (48 + d)] = .ok (acc * 10 + d) := by
  simp only [parseUintM, dig_nat d hd]
  rw [if_pos (by omega), if_neg (by omega), if_neg (by omega), show 48 + d - 48 = d by omega]
theorem pm_back (M u : Nat) (hm : u ≤ M) (hM : M < 18446744073709551616) : parseUintM M 0 (decDigits u) = .ok u := by
  induction u using Nat.strongRecOn with
  | _ u ih =>
    rw [decDigits]
    split
    · rename_i h
      have := pm_one M 0 u h (by decide) (by omega)
      simpa using this
    · rename_i h
      rw [pm_app M 0 _ _ _ (ih (u / 10) (by omega) (by omega)), pm_one M (u / 10) (u % 10) (by omega) (by omega) (by omega)]
      congr 1; omega
theorem digits_ne (u : Nat) : decDigits u ≠ [] := by
  rw [decDigits]; split <;> simp
theorem pu_back (u : Nat) (h : u < 4294967296) : parseUintB 32 (decDigits u) = .ok u := by
  unfold parseUintB
  rw [if_neg (digits_ne u)]
  exact pm_back _ u (by omega) (by decide)
/-- Digits are digits. -/
theorem digits_are (u : Nat) : ∀ c ∈ decDigits u, 48 ≤ c.toNat ∧ c.toNat ≤ 57 := by
  induction u using Nat.strongRecOn with
  | _ u ih =>
    rw [decDigits]
    split
    · rename_i h
      intro c hc
      rw [List.mem_singleton.mp hc, dig_nat u h]; omega
    · rename_i h
      intro c hc
      rcases List.mem_append.mp hc with hc | hc
      · exact ih (u / 10) (by omega) c hc
      · rw [List.mem_singleton.mp hc, dig_nat _ (by omega)]; omega
theorem pm_le (M acc : Nat) (l : List UInt8) (u : Nat) (ha : acc ≤ M) (h : parseUintM M acc l = .ok u) : u ≤ M := by
  induction l generalizing acc with
  | nil => simp only [parseUintM, NumEnd.ok.injEq] at h; omega
  | cons c l ih =>
    simp only [parseUintM] at h
    split at h
    · split at h
      · cases h
      · split at h
        · cases h
        · exact ih _ (by omega) h
    · cases h
end
end Go.Proofs.YtjchobcmbkiilaaGreatDoor
