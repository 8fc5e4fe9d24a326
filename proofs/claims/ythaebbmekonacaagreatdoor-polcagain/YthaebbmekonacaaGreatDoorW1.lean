/-
  Tables of the library, and the two errors; digits read back.
-/
import Derived.Test.YthaebbmekonacaaGreatDoorShelf
import Derived.Test.YthaebbmekonacaaGreatDoorZ6
import Derived.Lib.Join
import Derived.Lib.ItoaNum
import Derived.Lib.ItoaMem
import Derived.Lib.LaidTab
import Derived.WalkKit
import Derived.WalkSpells
import Derived.WalkLawsBesides
import Derived.BigCall
import Derived.BigGuard
namespace Go.Proofs.YthaebbmekonacaaGreatDoor
open Go.RowKit
theorem cell_row {w : World} {g : Nat} {cur : Array Value} {t : TypeId} {fz : Nat × Nat} (h : w.heap[g]? = some (.cells cur t fz)) (j : Nat) (v : Value) (hj : cur[j]? = some v) : w.cell? ⟨g, j, none⟩ = some v := by
  simp [World.cell?, h, hj]
/-- The powers of ten. -/
def powCells : Array Value := (Lib.pow10Tab.map fun z => Value.int .u64 z).toArray
def PowAt (w : World) : Prop := ∃ t fz, w.heap[4]? = some (.cells powCells t fz)
theorem PowAt.below {w w' : World} (h : PowAt w) (hb : Below w.heap.size w w') : PowAt w' := by
  obtain ⟨t, fz, h⟩ := h
  exact ⟨t, fz, (hb.block 4 (Array.getElem?_eq_some_iff.mp h).1).trans h⟩
theorem PowAt.pow {w : World} (h : PowAt w) {name : String} (hn : Tryz.prog.globalNamed name = some 4) : Lib.TabIs Tryz.prog w name .u64 Lib.pow10Tab := by
  obtain ⟨t, fz, h⟩ := h
  unfold Lib.TabIs World.var?
  rw [hn, Option.bind_some, h]
  rfl
/-- The two variables that hold the errors. -/
def ErrsAt (w : World) : Prop := (∃ te pe t fr, w.heap[8]? = some (.cells #[.iface te pe] t fr)) ∧ (∃ te pe t fr, w.heap[9]? = some (.cells #[.iface te pe] t fr))
theorem ErrsAt.below {w w' : World} (h : ErrsAt w) (hb : Below w.heap.size w w') : ErrsAt w' := by
  obtain ⟨⟨a, b, t, fr, h1⟩, ⟨c, d, t', fr', h2⟩⟩ := h
  have z1 := (Array.getElem?_eq_some_iff.mp h1).1
  have z2 := (Array.getElem?_eq_some_iff.mp h2).1
  exact ⟨⟨a, b, t, fr, (hb.block 8 z1).trans h1⟩, ⟨c, d, t', fr', (hb.block 9 z2).trans h2⟩⟩
theorem var_at {w : World} {n : String} {g : Nat} {cs : Array Value} {t : TypeId} {fr : Nat × Nat} (hg : Tryz.prog.globalNamed n = some g) (h : w.heap[g]? = some (.cells cs t fr)) : w.var? Tryz.prog n = some cs := by
  unfold World.var?
  rw [hg, Option.bind_some, h]
theorem below_drewN' {B : Nat} {a w : World} (h : Below B a w) (n : Nat) : Below B a (w.drewN n) := below_drewN h n
section
open Lib
theorem pm_app (M acc : Nat) (l r : List UInt8) (u : Nat) (h : parseUintM M acc l = .ok u) : parseUintM M acc (l ++ r) = parseUintM M u r := by
  induction l generalizing acc with
  | nil => simp only [parseUintM, NumEnd.ok.injEq] at h; rw [List.nil_append, h]
  | cons c l ih =>
    rw [List.cons_append]
    simp only [parseUintM] at h ⊢
    split at h
    · split at h
      · cases h
      · split at h
        · cases h
        · rename_i h1 h2 h3
          rw [if_pos h1, if_neg h2, if_neg h3]
          exact ih _ h
    · cases h
theorem dig_nat (d : Nat) (h : d < 10) : (UInt8.ofNat (48 + d)).toNat = 48 + d := by
  rw [UInt8.toNat_ofNat']; omega
theorem pm_one (M acc d : Nat) (hd : d < 10) (ha : acc < 1844674407370955162) (hm : acc * 10 + d ≤ M) : parseUintM M acc [UInt8.ofNat (48 + d)] = .ok (acc * 10 + d) := by
  simp only [parseUintM, dig_nat d hd]
  rw [if_pos (by omega), if_neg (by omega), if_neg (by omega), show 48 + d - 48 = d by omega]
theorem pm_back (M u : Nat) (hm : u ≤ M) (hM : M < 18446744073709551616) : parseUintM M 0 (decDigits u) = .ok u := by
  induction u using Nat.strongRecOn with
  | _ u ih =>
    rw [decDigits]
    split
    · rename_i h
      have := pm_one M 0 u h (by decide) (by omega)
      simpa using this
    · rename_i h
      rw [pm_app M 0 _ _ _ (ih (u / 10) (by omega) (by omega)), pm_one M (u / 10) (u % 10) (by omega) (by omega) (by omega)]
      congr 1; omega
theorem digits_ne (u : Nat) : decDigits u ≠ [] := by
  rw [decDigits]; split <;> simp
theorem pu_back (u : Nat) (h : u < 4294967296) : parseUintB 32 (decDigits u) = .ok u := by
  unfold parseUintB
  rw [if_neg (digits_ne u)]
  exact pm_back _ u (by omega) (by decide)
/-- Digits are digits. -/
theorem digits_are (u : Nat) : ∀ c ∈ decDigits u, 48 ≤ c.toNat ∧ c.toNat ≤ 57 := by
  induction u using Nat.strongRecOn with
  | _ u ih =>
    rw [decDigits]
    split
    · rename_i h
      intro c hc
      rw [List.mem_singleton.mp hc, dig_nat u h]; omega
    · rename_i h
      intro c hc
      rcases List.mem_append.mp hc with hc | hc
      · exact ih (u / 10) (by omega) c hc
      · rw [List.mem_singleton.mp hc, dig_nat _ (by omega)]; omega
theorem pm_le (M acc : Nat) (l : List UInt8) (u : Nat) (ha : acc ≤ M) (h : parseUintM M acc l = .ok u) : u ≤ M := by
  induction l generalizing acc with
  | nil => simp only [parseUintM, NumEnd.ok.injEq] at h; omega
  | cons c l ih =>
    simp only [parseUintM] at h
    split at h
    · split at h
      · cases h
      · split at h
        · cases h
        · exact ih _ (by omega) h
    · cases h
end
end Go.Proofs.YthaebbmekonacaaGreatDoor
namespace Go.Proofs.YthaebbmekonacaaGreatDoor
open Go.Shelf Go.RowKit Go.Sort Go.Lib
theorem grow_below (w : World) (os : Array Obj) : Below w.heap.size w (grow w os) :=
  ⟨rfl, rfl, rfl, by simp [grow], fun j hj => by simp [grow, Array.getElem?_append_left, hj]⟩
set_option maxHeartbeats 6400000 in
set_option maxRecDepth 100000 in
theorem ifmt_any (u : Nat) (hu64 : u < 18446744073709551616) (w : World) (htab : PowAt w) :
    Calls Tryz.prog 130 #[.int .u64 (u : Int), .int .i64 10] w fun e w' => e = .returned (.string ⟨(Lib.decDigits u).toArray⟩) ∧ Below w.heap.size w w' := by
  by_cases hs : u < 100
  · have hw : IntKind.i64.wrap (u : Int) = u := by rw [IntKind.wrap_i64]; omega
    go_enter Tryz.func130, Tryz.ntmps130
    go_wp2_with (go_at_call 163; refine (Tryz.internal_strconv_small u hs _).mono ?_; rintro e w' ⟨rfl, rfl⟩)
    go_ret
    exact ⟨rfl, Below.refl _ _⟩
  · have hu1 : 1 ≤ u := by omega
    have hnd20 : Lib.nDigits u ≤ 20 := by have := Lib.numDigits_eq u hu1 hu64; split at this <;> omega
    have hal : Tryz.prog.arrayLen 223 = 24 := by simp [Program.arrayLen, Tryz.underlying223]
    have hsl1 : ∀ W, (Instr.sliceAt 223 (.pointer (some ⟨w.heap.size, 0, none⟩)) none (some (.int .i64 (Lib.nDigits u : Int))) none).run Tryz.prog W = .ok (.slice (some ⟨w.heap.size, 0, none⟩) (Lib.nDigits u) 24) W := fun W => by
      rw [run_sliceAt_array_h W 223 ⟨w.heap.size, 0, none⟩ (by simp [Program.arrayLen, Program.elem, Tryz.underlying223]) .i64 (Lib.nDigits u : Int) (by omega) (by rw [hal]; omega)]
      go_simp
    have hH0 : Holds (fun (b : UInt8) => Value.int .u8 (b.toNat : Int)) (w.alloc (.cells Lib.zeros24 223)) w.heap.size 0 (Array.replicate (Lib.nDigits u) (0 : UInt8)) := fun j hj => by
      have hj' : j < Lib.nDigits u := by simpa using hj
      refine ⟨?_, World.frozen?_alloc_new _ _ _ _⟩
      rw [World.cell?_alloc_new, Lib.zeros24_at _ (by omega), getElem!_pos _ j hj]
      simp
    have hfmt := Tryz.internal_strconv_formatBase10 w.heap.size 0 24 u (Array.replicate (Lib.nDigits u) 0) (w.alloc (.cells Lib.zeros24 223)) hH0 (by rw [Array.size_replicate]; exact Lib.lt_pow_nDigits u) hu64 (by rw [Array.size_replicate]; omega)
    rw [Array.size_replicate] at hfmt
    have HH0 := Lib.hid hH0
    have htab' : PowAt (w.alloc (.cells Lib.zeros24 223)) := htab.below ((Below.refl _ _).alloc (Nat.le_refl _) _)
    clear hH0 hal htab
    go_enter Tryz.func130, Tryz.ntmps130
    go_wp2_with (first
      | (go_at_call 164; refine (show Calls Tryz.prog 164 _ _ _ from Any.internal_strconv_numDigits Tryz.laysM284 u hu1 hu64 _ (htab'.pow (by kernel_rfl))).mono ?_; rintro e w' ⟨rfl, rfl⟩))
    refine hfmt.mono ?_
    rintro e w' ⟨rfl, k, v', dk, rfl, hF⟩
    have hcv : (convert 180 9 (.slice (some ⟨w.heap.size, 0, none⟩) (Lib.nDigits u) 24)).run Tryz.prog ((putRow (fun (b : UInt8) => Value.int .u8 (b.toNat : Int)) (w.alloc (.cells Lib.zeros24 223)) w.heap.size 0 dk).drewN k) = .ok (.string ⟨(Lib.decDigits u).toArray⟩) ((putRow (fun (b : UInt8) => Value.int .u8 (b.toNat : Int)) (w.alloc (.cells Lib.zeros24 223)) w.heap.size 0 dk).drewN k) := by
      have h := run_convert_bytes_back (P := Tryz.prog) ((putRow (fun (b : UInt8) => Value.int .u8 (b.toNat : Int)) (w.alloc (.cells Lib.zeros24 223)) w.heap.size 0 dk).drewN k) 180 9 5 ⟨w.heap.size, 0, none⟩ 24 (Lib.decDigits u) Tryz.underlying180 Tryz.underlying5 Tryz.underlying9 (fun j hj => by
        rw [Lib.row_is_numeral hF j hj, Lib.add_plain, World.cell?_drewN]
        exact cell?_putRow (fun (b : UInt8) => Value.int .u8 (b.toNat : Int)) _ w.heap.size 0 _ dk HH0.out (by rw [hF.size, Array.size_replicate]) j (by rw [hF.size]; rw [Lib.decDigits_length] at hj; exact hj))
      rw [Lib.decDigits_length] at h
      exact h
    go_wp2
    go_ret
    refine ⟨rfl, ?_⟩
    rw [alloc_eq_grow]
    obtain ⟨os', _, e⟩ := putRow_grow_new (fun (b : UInt8) => Value.int .u8 (b.toNat : Int)) w #[.cells Lib.zeros24 223] w.heap.size 0 dk (Nat.le_refl _)
    rw [e]
    exact below_drewN' (grow_below w os') k
theorem fmt_any (u : Nat) (hu64 : u < 18446744073709551616) (w : World) (htab : PowAt w) :
    Calls Tryz.prog 84 #[.int .u64 (u : Int), .int .i64 10] w fun e w' => e = .returned (.string ⟨(Lib.decDigits u).toArray⟩) ∧ Below w.heap.size w w' := by
  go_enter Tryz.func84, Tryz.ntmps84
  go_wp2_with fail
  refine (ifmt_any u hu64 w htab).mono ?_
  rintro e w' ⟨rfl, hb⟩
  go_wp2
  go_ret
  exact ⟨rfl, hb⟩
end Go.Proofs.YthaebbmekonacaaGreatDoor
