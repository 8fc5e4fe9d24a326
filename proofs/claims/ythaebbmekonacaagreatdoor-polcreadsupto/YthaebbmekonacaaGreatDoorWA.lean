/-
  Tables of the library, and the two errors; digits read back.
-/
import Derived.Test.YthaebbmekonacaaGreatDoorShelf
import Derived.Test.YthaebbmekonacaaGreatDoorZ6
import Derived.Lib.Join
import Derived.Lib.ItoaNum
import Derived.Lib.ItoaMem
import Derived.Lib.LaidTab
import Derived.WalkKit
import Derived.WalkSpells
import Derived.WalkLawsBesides
import Derived.BigCall
import Derived.BigGuard
import Derived.Test.YthaebbmekonacaaGreatDoorH1
import Derived.Laws.BitsAllLaws
namespace Go.Proofs.YthaebbmekonacaaGreatDoor
open Go.RowKit
theorem cell_row {w : World} {g : Nat} {cur : Array Value} {t : TypeId} {fz : Nat × Nat} (h : w.heap[g]? = some (.cells cur t fz)) (j : Nat) (v : Value) (hj : cur[j]? = some v) : w.cell? ⟨g, j, none⟩ = some v := by
  simp [World.cell?, h, hj]
/-- The powers of ten. -/
def powCells : Array Value := (Lib.pow10Tab.map fun z => Value.int .u64 z).toArray
def PowAt (w : World) : Prop := ∃ t fz, w.heap[4]? = some (.cells powCells t fz)
theorem PowAt.below {w w' : World} (h : PowAt w) (hb : Below w.heap.size w w') : PowAt w' := by
  obtain ⟨t, fz, h⟩ := h
  exact ⟨t, fz, (hb.block 4 (Array.getElem?_eq_some_iff.mp h).1).trans h⟩
theorem PowAt.pow {w : World} (h : PowAt w) {name : String} (hn : Tryz.prog.globalNamed name = some 4) : Lib.TabIs Tryz.prog w name .u64 Lib.pow10Tab := by
  obtain ⟨t, fz, h⟩ := h
  unfold Lib.TabIs World.var?
  rw [hn, Option.bind_some, h]
  rfl
/-- The two variables that hold the errors. -/
def ErrsAt (w : World) : Prop := (∃ te pe t fr, w.heap[8]? = some (.cells #[.iface te pe] t fr)) ∧ (∃ te pe t fr, w.heap[9]? = some (.cells #[.iface te pe] t fr))
theorem ErrsAt.below {w w' : World} (h : ErrsAt w) (hb : Below w.heap.size w w') : ErrsAt w' := by
  obtain ⟨⟨a, b, t, fr, h1⟩, ⟨c, d, t', fr', h2⟩⟩ := h
  have z1 := (Array.getElem?_eq_some_iff.mp h1).1
  have z2 := (Array.getElem?_eq_some_iff.mp h2).1
  exact ⟨⟨a, b, t, fr, (hb.block 8 z1).trans h1⟩, ⟨c, d, t', fr', (hb.block 9 z2).trans h2⟩⟩
theorem var_at {w : World} {n : String} {g : Nat} {cs : Array Value} {t : TypeId} {fr : Nat × Nat} (hg : Tryz.prog.globalNamed n = some g) (h : w.heap[g]? = some (.cells cs t fr)) : w.var? Tryz.prog n = some cs := by
  unfold World.var?
  rw [hg, Option.bind_some, h]
theorem below_drewN' {B : Nat} {a w : World} (h : Below B a w) (n : Nat) : Below B a (w.drewN n) := below_drewN h n
section
open Lib
theorem pm_app (M acc : Nat) (l r : List UInt8) (u : Nat) (h : parseUintM M acc l = .ok u) : parseUintM M acc (l ++ r) = parseUintM M u r := by
  induction l generalizing acc with
  | nil => simp only [parseUintM, NumEnd.ok.injEq] at h; rw [List.nil_append, h]
  | cons c l ih =>
    rw [List.cons_append]
    simp only [parseUintM] at h ⊢
    split at h
    · split at h
      · cases h
      · split at h
        · cases h
        · rename_i h1 h2 h3
          rw [if_pos h1, if_neg h2, if_neg h3]
          exact ih _ h
    · cases h
theorem dig_nat (d : Nat) (h : d < 10) : (UInt8.ofNat (48 + d)).toNat = 48 + d := by
  rw [UInt8.toNat_ofNat']; omega
theorem pm_one (M acc d : Nat) (hd : d < 10) (ha : acc < 1844674407370955162) (hm : acc * 10 + d ≤ M) : parseUintM M acc [UInt8.ofNat (48 + d)] = .ok (acc * 10 + d) := by
  simp only [parseUintM, dig_nat d hd]
  rw [if_pos (by omega), if_neg (by omega), if_neg (by omega), show 48 + d - 48 = d by omega]
theorem pm_back (M u : Nat) (hm : u ≤ M) (hM : M < 18446744073709551616) : parseUintM M 0 (decDigits u) = .ok u := by
  induction u using Nat.strongRecOn with
  | _ u ih =>
    rw [decDigits]
    split
    · rename_i h
      have := pm_one M 0 u h (by decide) (by omega)
      simpa using this
    · rename_i h
      rw [pm_app M 0 _ _ _ (ih (u / 10) (by omega) (by omega)), pm_one M (u / 10) (u % 10) (by omega) (by omega) (by omega)]
      congr 1; omega
theorem digits_ne (u : Nat) : decDigits u ≠ [] := by
  rw [decDigits]; split <;> simp
theorem pu_back (u : Nat) (h : u < 4294967296) : parseUintB 32 (decDigits u) = .ok u := by
  unfold parseUintB
  rw [if_neg (digits_ne u)]
  exact pm_back _ u (by omega) (by decide)
/-- Digits are digits. -/
theorem digits_are (u : Nat) : ∀ c ∈ decDigits u, 48 ≤ c.toNat ∧ c.toNat ≤ 57 := by
  induction u using Nat.strongRecOn with
  | _ u ih =>
    rw [decDigits]
    split
    · rename_i h
      intro c hc
      rw [List.mem_singleton.mp hc, dig_nat u h]; omega
    · rename_i h
      intro c hc
      rcases List.mem_append.mp hc with hc | hc
      · exact ih (u / 10) (by omega) c hc
      · rw [List.mem_singleton.mp hc, dig_nat _ (by omega)]; omega
theorem pm_le (M acc : Nat) (l : List UInt8) (u : Nat) (ha : acc ≤ M) (h : parseUintM M acc l = .ok u) : u ≤ M := by
  induction l generalizing acc with
  | nil => simp only [parseUintM, NumEnd.ok.injEq] at h; omega
  | cons c l ih =>
    simp only [parseUintM] at h
    split at h
    · split at h
      · cases h
      · split at h
        · cases h
        · exact ih _ (by omega) h
    · cases h
end
end Go.Proofs.YthaebbmekonacaaGreatDoor
namespace Go.Proofs.YthaebbmekonacaaGreatDoor
open Go.Shelf Go.RowKit Go.Sort Go.Lib
theorem grow_below (w : World) (os : Array Obj) : Below w.heap.size w (grow w os) :=
  ⟨rfl, rfl, rfl, by simp [grow], fun j hj => by simp [grow, Array.getElem?_append_left, hj]⟩
set_option maxHeartbeats 6400000 in
set_option maxRecDepth 100000 in
theorem ifmt_any (u : Nat) (hu64 : u < 18446744073709551616) (w : World) (htab : PowAt w) :
    Calls Tryz.prog 130 #[.int .u64 (u : Int), .int .i64 10] w fun e w' => e = .returned (.string ⟨(Lib.decDigits u).toArray⟩) ∧ Below w.heap.size w w' := by
  by_cases hs : u < 100
  · have hw : IntKind.i64.wrap (u : Int) = u := by rw [IntKind.wrap_i64]; omega
    go_enter Tryz.func130, Tryz.ntmps130
    go_wp2_with (go_at_call 163; refine (Tryz.internal_strconv_small u hs _).mono ?_; rintro e w' ⟨rfl, rfl⟩)
    go_ret
    exact ⟨rfl, Below.refl _ _⟩
  · have hu1 : 1 ≤ u := by omega
    have hnd20 : Lib.nDigits u ≤ 20 := by have := Lib.numDigits_eq u hu1 hu64; split at this <;> omega
    have hal : Tryz.prog.arrayLen 223 = 24 := by simp [Program.arrayLen, Tryz.underlying223]
    have hsl1 : ∀ W, (Instr.sliceAt 223 (.pointer (some ⟨w.heap.size, 0, none⟩)) none (some (.int .i64 (Lib.nDigits u : Int))) none).run Tryz.prog W = .ok (.slice (some ⟨w.heap.size, 0, none⟩) (Lib.nDigits u) 24) W := fun W => by
      rw [run_sliceAt_array_h W 223 ⟨w.heap.size, 0, none⟩ (by simp [Program.arrayLen, Program.elem, Tryz.underlying223]) .i64 (Lib.nDigits u : Int) (by omega) (by rw [hal]; omega)]
      go_simp
    have hH0 : Holds (fun (b : UInt8) => Value.int .u8 (b.toNat : Int)) (w.alloc (.cells Lib.zeros24 223)) w.heap.size 0 (Array.replicate (Lib.nDigits u) (0 : UInt8)) := fun j hj => by
      have hj' : j < Lib.nDigits u := by simpa using hj
      refine ⟨?_, World.frozen?_alloc_new _ _ _ _⟩
      rw [World.cell?_alloc_new, Lib.zeros24_at _ (by omega), getElem!_pos _ j hj]
      simp
    have hfmt := Tryz.internal_strconv_formatBase10 w.heap.size 0 24 u (Array.replicate (Lib.nDigits u) 0) (w.alloc (.cells Lib.zeros24 223)) hH0 (by rw [Array.size_replicate]; exact Lib.lt_pow_nDigits u) hu64 (by rw [Array.size_replicate]; omega)
    rw [Array.size_replicate] at hfmt
    have HH0 := Lib.hid hH0
    have htab' : PowAt (w.alloc (.cells Lib.zeros24 223)) := htab.below ((Below.refl _ _).alloc (Nat.le_refl _) _)
    clear hH0 hal htab
    go_enter Tryz.func130, Tryz.ntmps130
    go_wp2_with (first
      | (go_at_call 164; refine (show Calls Tryz.prog 164 _ _ _ from Any.internal_strconv_numDigits Tryz.laysM284 u hu1 hu64 _ (htab'.pow (by kernel_rfl))).mono ?_; rintro e w' ⟨rfl, rfl⟩))
    refine hfmt.mono ?_
    rintro e w' ⟨rfl, k, v', dk, rfl, hF⟩
    have hcv : (convert 180 9 (.slice (some ⟨w.heap.size, 0, none⟩) (Lib.nDigits u) 24)).run Tryz.prog ((putRow (fun (b : UInt8) => Value.int .u8 (b.toNat : Int)) (w.alloc (.cells Lib.zeros24 223)) w.heap.size 0 dk).drewN k) = .ok (.string ⟨(Lib.decDigits u).toArray⟩) ((putRow (fun (b : UInt8) => Value.int .u8 (b.toNat : Int)) (w.alloc (.cells Lib.zeros24 223)) w.heap.size 0 dk).drewN k) := by
      have h := run_convert_bytes_back (P := Tryz.prog) ((putRow (fun (b : UInt8) => Value.int .u8 (b.toNat : Int)) (w.alloc (.cells Lib.zeros24 223)) w.heap.size 0 dk).drewN k) 180 9 5 ⟨w.heap.size, 0, none⟩ 24 (Lib.decDigits u) Tryz.underlying180 Tryz.underlying5 Tryz.underlying9 (fun j hj => by
        rw [Lib.row_is_numeral hF j hj, Lib.add_plain, World.cell?_drewN]
        exact cell?_putRow (fun (b : UInt8) => Value.int .u8 (b.toNat : Int)) _ w.heap.size 0 _ dk HH0.out (by rw [hF.size, Array.size_replicate]) j (by rw [hF.size]; rw [Lib.decDigits_length] at hj; exact hj))
      rw [Lib.decDigits_length] at h
      exact h
    go_wp2
    go_ret
    refine ⟨rfl, ?_⟩
    rw [alloc_eq_grow]
    obtain ⟨os', _, e⟩ := putRow_grow_new (fun (b : UInt8) => Value.int .u8 (b.toNat : Int)) w #[.cells Lib.zeros24 223] w.heap.size 0 dk (Nat.le_refl _)
    rw [e]
    exact below_drewN' (grow_below w os') k
theorem fmt_any (u : Nat) (hu64 : u < 18446744073709551616) (w : World) (htab : PowAt w) :
    Calls Tryz.prog 84 #[.int .u64 (u : Int), .int .i64 10] w fun e w' => e = .returned (.string ⟨(Lib.decDigits u).toArray⟩) ∧ Below w.heap.size w w' := by
  go_enter Tryz.func84, Tryz.ntmps84
  go_wp2_with fail
  refine (ifmt_any u hu64 w htab).mono ?_
  rintro e w' ⟨rfl, hb⟩
  go_wp2
  go_ret
  exact ⟨rfl, hb⟩
end Go.Proofs.YthaebbmekonacaaGreatDoor

set_option linter.unusedVariables false
set_option linter.unusedSimpArgs false
set_option maxRecDepth 100000
namespace Go.Proofs.YthaebbmekonacaaGreatDoor
open Go.RowKit
/-- What lies in memory while words are written: the style's box, and the words up to the k-th. -/
structure Wrd (w wr : World) (st : Array Value) (n : Nat) (xs : List ByteArray) (k : Nat) : Prop where
  bel : Below w.heap.size w wr
  lt : w.heap.size + 1 < wr.heap.size
  box : ∀ j, j < 4 → wr.cell? ⟨w.heap.size, j, none⟩ = st[j]?
  row : ∀ j x, j < k → xs[j]? = some x → wr.cell? ⟨w.heap.size + 1, j, none⟩ = some (.string x)
  old : ∀ j, j < n → ∃ v, wr.cell? ⟨w.heap.size + 1, j, none⟩ = some v
  fz : ∀ j, wr.frozen? ⟨w.heap.size + 1, j, none⟩ = false
theorem Wrd.below {w wr w' : World} {st : Array Value} {n : Nat} {xs : List ByteArray} {k : Nat} (h : Wrd w wr st n xs k) (hb : Below wr.heap.size wr w') : Wrd w w' st n xs k := by
  have hfz : ∀ j, w'.frozen? ⟨w.heap.size + 1, j, none⟩ = false := fun j => by
    rw [← h.fz j]; unfold World.frozen?; rw [hb.block _ h.lt]
  have hc : ∀ b j, b < wr.heap.size → w'.cell? ⟨b, j, none⟩ = wr.cell? ⟨b, j, none⟩ := fun b j hlt => hb.cell (p := ⟨b, j, none⟩) hlt
  have hlt := h.lt
  refine ⟨h.bel.trans (hb.mono h.bel.size), Nat.lt_of_lt_of_le h.lt hb.size, fun j hj => (hc _ _ (by omega)).trans (h.box j hj), fun j x hj hx => (hc _ _ hlt).trans (h.row j x hj hx), fun j hj => ?_, hfz⟩
  obtain ⟨v, hv⟩ := h.old j hj
  exact ⟨v, (hc _ _ hlt).trans hv⟩
theorem Wrd.put {w wr : World} {st : Array Value} {n : Nat} {xs : List ByteArray} {k : Nat} (h : Wrd w wr st n xs k) (hk : k < n) (x : ByteArray) (hx : xs[k]? = some x) : Wrd w (wr.setCell ⟨w.heap.size + 1, k, none⟩ (.string x)) st n xs (k + 1) := by
  obtain ⟨v0, hv0⟩ := h.old k hk
  refine ⟨?_, by simpa using h.lt, ?_, ?_, ?_, ?_⟩
  · exact ⟨h.bel.os, h.bel.tape, h.bel.output, by simpa using h.bel.size, fun b hb => by
      rw [← h.bel.block b hb]
      simp only [World.setCell, Array.getElem?_modify]
      rw [if_neg (by omega)]⟩
  · intro j hj
    rw [World.cell?_setCell_other _ _ _ _ (by intro q; injection q with q _ _; omega)]
    exact h.box j hj
  · intro j y hj hy
    by_cases e : j = k
    · subst e
      rw [hx] at hy
      injection hy with hy
      subst hy
      exact World.cell?_setCell_same _ _ _ hv0
    · rw [World.cell?_setCell_other _ _ _ _ (by intro q; injection q with _ q _; omega)]
      exact h.row j y (by omega) hy
  · intro j hj
    by_cases e : j = k
    · subst e; exact ⟨_, World.cell?_setCell_same _ _ _ hv0⟩
    · rw [World.cell?_setCell_other _ _ _ _ (by intro q; injection q with _ q _; omega)]
      exact h.old j hj
  · intro j
    rw [World.frozen?_setCell]; exact h.fz j
theorem or0 (b : Nat) (h : b < 256) : bits BinOp.or IntKind.u64 0 (b : Int) = (b : Int) := by
  have := u64_or_nat 0 b (by decide) (by omega)
  simpa using this
theorem or_hi (a b : Nat) (ha : a < 256) (hb : b < 256) : bits BinOp.or IntKind.u64 ((a * 256 : Nat) : Int) (b : Int) = ((a * 256 + b : Nat) : Int) := by
  rw [u64_or_nat (a * 256) b (by omega) (by omega), show a * 256 = 2 ^ 8 * a by omega, ← Nat.two_pow_add_eq_or_of_lt (i := 8) hb a]
/-- The texts of an address' numbers. -/
def nums4 (s : ByteArray) : List ByteArray := (List.range 4).map fun i => ⟨(Lib.decDigits (s.data.toList.getD i 0).toNat).toArray⟩
def nums16 (s : ByteArray) : List ByteArray := (List.range 8).map fun i => ⟨(hexD ((s.data.toList.getD (2 * i) 0).toNat * 256 + (s.data.toList.getD (2 * i + 1) 0).toNat)).toArray⟩
/-- An address' text. -/
def adT (s : ByteArray) : List UInt8 := if s.size = 4 then Lib.join ((nums4 s).map (·.data.toList)) [46] else if s.size = 16 then Lib.join ((nums16 s).map (·.data.toList)) [58] else []
structure EnvT (w : World) : Prop where
  t : Pr.Tabs w
  p : PowAt w
  d : Deb w
theorem EnvT.below {w w' : World} (h : EnvT w) (hb : Below w.heap.size w w') : EnvT w' := ⟨h.t.below hb, h.p.below hb, h.d.below hb⟩
theorem getD_at (s : ByteArray) (i : Nat) (h : i < s.size) : s.data.toList.getD i 0 = s[i] := by
  rw [List.getD_eq_getElem?_getD, List.getElem?_eq_getElem (by simpa using h)]; rfl
theorem dig_pow : ∀ (n u : Nat), u < 10 ^ (n + 1) → (Lib.decDigits u).length ≤ n + 1
  | 0, u, h => by rw [Lib.decDigits, dif_pos (by omega)]; simp
  | n + 1, u, h => by
    rw [Lib.decDigits]
    split
    · simp
    · rw [List.length_append]
      have ih := dig_pow n (u / 10) (by rw [Nat.pow_succ] at h; omega)
      simp; omega
theorem dig_ten (u : Nat) (h : u < 4294967296) : (Lib.decDigits u).length ≤ 10 := dig_pow 9 u (by omega)
theorem join_le (Y : List (List UInt8)) (sep : List UInt8) (m : Nat) (h : ∀ y ∈ Y, y.length ≤ m) : (Lib.join Y sep).length ≤ Y.length * (m + sep.length) := by
  have ht : ∀ r : List (List UInt8), (∀ y ∈ r, y.length ≤ m) → (Lib.joinTail sep r).length ≤ r.length * (m + sep.length) := by
    intro r
    induction r with
    | nil => intro _; simp [Lib.joinTail]
    | cons a r ih =>
      intro hr
      have h1 := ih fun y hy => hr y (List.mem_cons_of_mem _ hy)
      have h2 := hr a (List.mem_cons_self ..)
      have h3 : (Lib.joinTail sep (a :: r)).length = sep.length + a.length + (Lib.joinTail sep r).length := by simp [Lib.joinTail, Nat.add_assoc]
      rw [h3, List.length_cons, Nat.succ_mul]; omega
  cases Y with
  | nil => simp [Lib.join_nil]
  | cons x r =>
    rw [Lib.join_cons, List.length_append, List.length_cons, Nat.succ_mul]
    have h1 := ht r fun y hy => h y (List.mem_cons_of_mem _ hy)
    have h2 := h x (List.mem_cons_self ..)
    omega
theorem adT_len (s : ByteArray) : (adT s).length ≤ 40 := by
  unfold adT
  split
  · refine Nat.le_trans (join_le _ _ 3 ?_) (by simp [nums4])
    intro y hy
    simp only [nums4, List.map_map, List.mem_map, List.mem_range, Function.comp] at hy
    obtain ⟨i, _, rfl⟩ := hy
    exact dig_pow 2 _ (Nat.lt_trans (UInt8.toNat_lt _) (by decide))
  · split
    · refine Nat.le_trans (join_le _ _ 4 ?_) (by simp [nums16])
      intro y hy
      simp only [nums16, List.map_map, List.mem_map, List.mem_range, Function.comp] at hy
      obtain ⟨i, _, rfl⟩ := hy
      refine hexD_len _ 3 ?_
      have h1 : (s.data.toList.getD (2 * i) 0).toNat < 256 := UInt8.toNat_lt _
      have h2 : (s.data.toList.getD (2 * i + 1) 0).toNat < 256 := UInt8.toNat_lt _
      show _ < 65536
      omega
    · simp
theorem mk4 (w : World) : (Instr.makeSlice 105 (.int .i64 4) (.int .i64 4)).run Tryz.prog w = .ok (.slice (some ⟨w.heap.size, 0, none⟩) 4 4) (w.alloc (.cells #[.string ⟨#[]⟩, .string ⟨#[]⟩, .string ⟨#[]⟩, .string ⟨#[]⟩] 9)) := by kernel_rfl
theorem at_last4 (x : ByteArray) (i : Nat) (h : i < 4) : (nums4 x)[i]? = some ⟨(Lib.decDigits (x.data.toList.getD i 0).toNat).toArray⟩ := by
  unfold nums4
  rw [List.getElem?_map, List.getElem?_range h]; rfl
theorem start4 (w : World) (s : ByteArray) (st : Array Value) (hst : st.size = 4) {W : World} (hW : W = (w.alloc (.cells st 219)).alloc (.cells #[.string ⟨#[]⟩, .string ⟨#[]⟩, .string ⟨#[]⟩, .string ⟨#[]⟩] 9)) : Wrd w W st 4 (nums4 s) 0 := by
  subst hW
  have hs : (w.alloc (.cells st 219)).heap.size = w.heap.size + 1 := by simp
  refine ⟨((Below.refl _ _).alloc (Nat.le_refl _) _).alloc (by rw [hs]; omega) _, by simp, fun j hj => ?_, fun j x hj => by omega, fun j hj => ?_, fun j => ?_⟩
  · rw [World.cell?_alloc_old _ _ _ (by simp), World.cell?_alloc_new]
  · rw [← hs, World.cell?_alloc_new]
    exact ⟨_, Array.getElem?_eq_getElem (by simpa using hj)⟩
  · rw [← hs]; exact World.frozen?_alloc_new _ _ _ _
set_option maxHeartbeats 2000000 in
theorem write4 (s : ByteArray) (hs : s.size = 4) (w : World) (he : EnvT w) : Calls Tryz.prog 161 #[.agg #[.string ⟨#[46]⟩, .int .i64 4, .int .i64 1, .int .i64 10], .string s] w fun e w' => e = .returned (.string ⟨(adT s).toArray⟩) ∧ Below w.heap.size w w' := by
  have HA : Hid (adT s = Lib.join ((nums4 s).map (·.data.toList)) [46]) := by unfold Hid adT; rw [hs]; rfl
  have HE : Hid (EnvT w) := he
  have hmk := mk4 (w.alloc (.cells #[.string ⟨#[46]⟩, .int .i64 4, .int .i64 1, .int .i64 10] 219))
  have HW : Hid (_ : Prop) := start4 w s #[.string ⟨#[46]⟩, .int .i64 4, .int .i64 1, .int .i64 10] rfl rfl
  have HLen : Hid ((nums4 s).length = 4) := by unfold Hid nums4; simp
  have HSm : Hid ((adT s).length ≤ 140737488355328) := Nat.le_trans (adT_len s) (by decide)
  have HN : Hid (∀ i, i < 4 → _) := at_last4 s
  clear he
  generalize adT s = r at *
  generalize nums4 s = xs at *
  go_enter Tryz.func161, Tryz.ntmps161
  go_wp2_with fail
  generalize (w.alloc (.cells #[.string ⟨#[46]⟩, .int .i64 4, .int .i64 1, .int .i64 10] 219)).alloc (.cells #[.string ⟨#[]⟩, .string ⟨#[]⟩, .string ⟨#[]⟩, .string ⟨#[]⟩] 9) = W0 at *
  go_loopw [6, 7, 8, 14] (fun x6 x7 x8 x14 wr => ∃ (k : Nat), x14 = .int .i64 (k : Int) ∧ k ≤ 4 ∧ Wrd w wr #[.string ⟨#[46]⟩, .int .i64 4, .int .i64 1, .int .i64 10] 4 xs k) (fun _ _ _ x14 _ => 4 - (intOf x14).toNat)
  case atStart => exact ⟨0, rfl, Nat.zero_le _, HW.out⟩
  case round =>
    obtain ⟨k, rfl, hk, hw⟩ := hrel
    have HK : Hid (_ : Prop) := hw
    have c0 := hw.box 0 (by decide)
    have c1 := hw.box 1 (by decide)
    have c2 := hw.box 2 (by decide)
    have c3 := hw.box 3 (by decide)
    clear hw HW hmk
    simp at c0 c1 c2 c3
    by_cases hlt : k < 4
    · have HQ : Hid (_ = _) := HN.out k hlt
      have hks : k < s.size := by omega
      have hlt' : (k : Int) < 4 := by omega
      have hsz : (s.size : Int) = 4 := by omega
      rw [getD_at s k hks] at HQ
      have hb : s[k].toNat < 256 := UInt8.toNat_lt _
      obtain ⟨b, eb⟩ : ∃ b, s[k].toNat = b := ⟨_, rfl⟩
      rw [eb] at hb HQ
      have ho := or0 b hb
      have hw : IntKind.u64.wrap (b : Int) = b := by rw [IntKind.wrap_u64]; omega
      go_wp2_with fail
      refine wp_loop_rounds 2 ?_
      rw [rounds_succ]
      go_wp2_with fail
      rw [rounds_succ]
      go_wp2_with fail
      refine (fmt_any b (by omega) _ (HE.out.p.below HK.out.bel)).mono ?_
      rintro e w2 ⟨rfl, hb2⟩
      have HK2 : Hid (_ : Prop) := HK.out.below hb2
      obtain ⟨v0, hv0⟩ := HK2.out.old k hlt
      have hz := HK2.out.fz k
      have HP : Hid (_ : Prop) := HK2.out.put hlt _ HQ.out
      clear hb2 HK2
      go_wp2
      exact ⟨⟨k + 1, by go_num, by omega, HP.out⟩, by simp [intOf]; omega⟩
    · obtain rfl : k = 4 := by omega
      have hj := Tryz.strings_Join (w.heap.size + 1) 0 4 xs ⟨#[46]⟩ wr (fun j x hx => by rw [Nat.zero_add]; exact HK.out.row j x (by have := (List.getElem?_eq_some_iff.1 hx).1; rw [HLen.out] at this; exact this) hx) HK.out.lt (by rw [HLen.out]; decide) (by rw [HLen.out]; exact Nat.le_refl _) (by rw [show (⟨#[46]⟩ : ByteArray).data.toList = [46] from rfl, ← HA.out]; exact HSm.out)
      rw [HLen.out] at hj
      have HJ : Hid (_ : Prop) := hj
      clear hj
      go_wp2_with fail
      refine Calls.mono HJ.out ?_
      rintro e w2 ⟨rfl, hb2⟩
      go_wp2
      go_ret
      refine ⟨?_, HK.out.bel.trans (hb2.mono HK.out.bel.size)⟩
      rw [HA.out]
      rfl
theorem mk8 (w : World) : (Instr.makeSlice 105 (.int .i64 8) (.int .i64 8)).run Tryz.prog w = .ok (.slice (some ⟨w.heap.size, 0, none⟩) 8 8) (w.alloc (.cells #[.string ⟨#[]⟩, .string ⟨#[]⟩, .string ⟨#[]⟩, .string ⟨#[]⟩, .string ⟨#[]⟩, .string ⟨#[]⟩, .string ⟨#[]⟩, .string ⟨#[]⟩] 9)) := by kernel_rfl
theorem at_last8 (x : ByteArray) (i : Nat) (h : i < 8) : (nums16 x)[i]? = some ⟨(hexD ((x.data.toList.getD (2 * i) 0).toNat * 256 + (x.data.toList.getD (2 * i + 1) 0).toNat)).toArray⟩ := by
  unfold nums16
  rw [List.getElem?_map, List.getElem?_range h]; rfl
theorem start8 (w : World) (s : ByteArray) (st : Array Value) (hst : st.size = 4) {W : World} (hW : W = (w.alloc (.cells st 219)).alloc (.cells #[.string ⟨#[]⟩, .string ⟨#[]⟩, .string ⟨#[]⟩, .string ⟨#[]⟩, .string ⟨#[]⟩, .string ⟨#[]⟩, .string ⟨#[]⟩, .string ⟨#[]⟩] 9)) : Wrd w W st 8 (nums16 s) 0 := by
  subst hW
  have hs : (w.alloc (.cells st 219)).heap.size = w.heap.size + 1 := by simp
  refine ⟨((Below.refl _ _).alloc (Nat.le_refl _) _).alloc (by rw [hs]; omega) _, by simp, fun j hj => ?_, fun j x hj => by omega, fun j hj => ?_, fun j => ?_⟩
  · rw [World.cell?_alloc_old _ _ _ (by simp), World.cell?_alloc_new]
  · rw [← hs, World.cell?_alloc_new]
    exact ⟨_, Array.getElem?_eq_getElem (by simpa using hj)⟩
  · rw [← hs]; exact World.frozen?_alloc_new _ _ _ _
set_option maxHeartbeats 2000000 in
theorem write16 (s : ByteArray) (hs : s.size = 16) (w : World) (he : EnvT w) : Calls Tryz.prog 161 #[.agg #[.string ⟨#[58]⟩, .int .i64 8, .int .i64 2, .int .i64 16], .string s] w fun e w' => e = .returned (.string ⟨(adT s).toArray⟩) ∧ Below w.heap.size w w' := by
  have HA : Hid (adT s = Lib.join ((nums16 s).map (·.data.toList)) [58]) := by unfold Hid adT; rw [hs]; rfl
  have HE : Hid (EnvT w) := he
  have hmk := mk8 (w.alloc (.cells #[.string ⟨#[58]⟩, .int .i64 8, .int .i64 2, .int .i64 16] 219))
  have HW : Hid (_ : Prop) := start8 w s #[.string ⟨#[58]⟩, .int .i64 8, .int .i64 2, .int .i64 16] rfl rfl
  have HLen : Hid ((nums16 s).length = 8) := by unfold Hid nums16; simp
  have HSm : Hid ((adT s).length ≤ 140737488355328) := Nat.le_trans (adT_len s) (by decide)
  have HN : Hid (∀ i, i < 8 → _) := at_last8 s
  clear he
  generalize adT s = r at *
  generalize nums16 s = xs at *
  go_enter Tryz.func161, Tryz.ntmps161
  go_wp2_with fail
  generalize (w.alloc (.cells #[.string ⟨#[58]⟩, .int .i64 8, .int .i64 2, .int .i64 16] 219)).alloc (.cells #[.string ⟨#[]⟩, .string ⟨#[]⟩, .string ⟨#[]⟩, .string ⟨#[]⟩, .string ⟨#[]⟩, .string ⟨#[]⟩, .string ⟨#[]⟩, .string ⟨#[]⟩] 9) = W0 at *
  go_loopw [6, 7, 8, 14] (fun x6 x7 x8 x14 wr => ∃ (k : Nat), x14 = .int .i64 (k : Int) ∧ k ≤ 8 ∧ Wrd w wr #[.string ⟨#[58]⟩, .int .i64 8, .int .i64 2, .int .i64 16] 8 xs k) (fun _ _ _ x14 _ => 8 - (intOf x14).toNat)
  case atStart => exact ⟨0, rfl, Nat.zero_le _, HW.out⟩
  case round =>
    obtain ⟨k, rfl, hk, hw⟩ := hrel
    have HK : Hid (_ : Prop) := hw
    have c0 := hw.box 0 (by decide)
    have c1 := hw.box 1 (by decide)
    have c2 := hw.box 2 (by decide)
    have c3 := hw.box 3 (by decide)
    clear hw HW hmk
    simp at c0 c1 c2 c3
    by_cases hlt : k < 8
    · have HQ : Hid (_ = _) := HN.out k hlt
      have hks : k * 2 + 1 < s.size := by omega
      have hlt' : (k : Int) < 8 := by omega
      have hsz : (s.size : Int) = 16 := by omega
      rw [Nat.mul_comm 2 k, getD_at s (k * 2) (by omega), getD_at s (k * 2 + 1) hks] at HQ
      have hb : s[k * 2].toNat < 256 := UInt8.toNat_lt _
      have hd : s[k * 2 + 1].toNat < 256 := UInt8.toNat_lt _
      obtain ⟨b, eb⟩ : ∃ b, s[k * 2].toNat = b := ⟨_, rfl⟩
      obtain ⟨d, ed⟩ : ∃ d, s[k * 2 + 1].toNat = d := ⟨_, rfl⟩
      rw [eb] at hb HQ
      rw [ed] at hd HQ
      have ho := or0 b hb
      have hw : IntKind.u64.wrap (b : Int) = b := by rw [IntKind.wrap_u64]; omega
      have hx : IntKind.u64.wrap (d : Int) = d := by rw [IntKind.wrap_u64]; omega
      have hy : IntKind.u64.wrap ((b : Int) * 256) = (b : Int) * 256 := by rw [IntKind.wrap_u64]; omega
      have hm : bits BinOp.or IntKind.u64 ((b : Int) * 256) (d : Int) = ((b * 256 + d : Nat) : Int) := or_hi b d hb hd
      have HM : Hid (b * 256 + d < 65536) := by unfold Hid; omega
      generalize b * 256 + d = m at *
      go_wp2_with fail
      refine wp_loop_rounds 3 ?_
      rw [rounds_succ]
      go_wp2_with fail
      rw [rounds_succ]
      go_wp2_with fail
      rw [rounds_succ]
      go_wp2_with fail
      refine (fu16 m (by have := HM.out; omega) _ (HE.out.d.below HK.out.bel)).mono ?_
      rintro e w2 ⟨rfl, hb2⟩
      have HK2 : Hid (_ : Prop) := HK.out.below hb2
      obtain ⟨v0, hv0⟩ := HK2.out.old k hlt
      have hz := HK2.out.fz k
      have HP : Hid (_ : Prop) := HK2.out.put hlt _ HQ.out
      clear hb2 HK2
      go_wp2
      exact ⟨⟨k + 1, by go_num, by omega, HP.out⟩, by simp [intOf]; omega⟩
    · obtain rfl : k = 8 := by omega
      have hj := Tryz.strings_Join (w.heap.size + 1) 0 8 xs ⟨#[58]⟩ wr (fun j x hx => by rw [Nat.zero_add]; exact HK.out.row j x (by have := (List.getElem?_eq_some_iff.1 hx).1; rw [HLen.out] at this; exact this) hx) HK.out.lt (by rw [HLen.out]; decide) (by rw [HLen.out]; exact Nat.le_refl _) (by rw [show (⟨#[58]⟩ : ByteArray).data.toList = [58] from rfl, ← HA.out]; exact HSm.out)
      rw [HLen.out] at hj
      have HJ : Hid (_ : Prop) := hj
      clear hj
      go_wp2_with fail
      refine Calls.mono HJ.out ?_
      rintro e w2 ⟨rfl, hb2⟩
      go_wp2
      go_ret
      refine ⟨?_, HK.out.bel.trans (hb2.mono HK.out.bel.size)⟩
      rw [HA.out]
      rfl
theorem sx0 (w : World) : (Instr.index 220 (.agg Pr.stCells) (.int .i64 0)).run Tryz.prog w = .ok (.agg #[.string ⟨#[46]⟩, .int .i64 4, .int .i64 1, .int .i64 10]) w := by kernel_rfl
theorem sx1 (w : World) : (Instr.index 220 (.agg Pr.stCells) (.int .i64 1)).run Tryz.prog w = .ok (.agg #[.string ⟨#[58]⟩, .int .i64 8, .int .i64 2, .int .i64 16]) w := by kernel_rfl
theorem info220 : (Tryz.prog.info? 220).map (·.size) = some Pr.stCells.size := by kernel_rfl
def isAd (s : ByteArray) : Bool := decide (s.size = 4 ∨ s.size = 16)
def adE (s : ByteArray) : Int := if isAd s then 0 else 2
set_option maxHeartbeats 2000000 in
theorem addrText_any (s : ByteArray) (w : World) (he : EnvT w) (hs : s.size ≤ maxLen) : Calls Tryz.prog 126 #[.string s] w fun e w' => e = .returned (.tuple #[.string ⟨(adT s).toArray⟩, .int .i64 (adE s)]) ∧ Below w.heap.size w w' := by
  obtain ⟨t, fr, h0⟩ := he.t.sty
  have H0 : Hid (w.heap[3]? = some (.cells Pr.stCells t fr)) := h0
  unfold maxLen at hs
  have HE : Hid (EnvT w) := he
  have hsx := sx0
  have hsy := sx1
  clear he h0
  have HB1 : Hid (∀ A, Below w.heap.size w (w.alloc (.cells A 219))) := fun A => (Below.refl _ _).alloc (Nat.le_refl _) _
  have HB2 : Hid (∀ A B, Below w.heap.size w ((w.alloc (.cells A 219)).alloc (.cells B 219))) := fun A B => ((Below.refl _ _).alloc (Nat.le_refl _) _).alloc (by simp) _
  by_cases h4 : s.size = 4
  · have HW : Hid (∀ w, EnvT w → _) := fun w he => write4 s h4 w he
    have HR : Hid (adE s = 0) := by unfold Hid adE isAd; simp [h4]
    have h4' : (s.size : Int) = 4 := by omega
    generalize adE s = r at *
    generalize adT s = tx at *
    clear hs
    go_enter Tryz.func126, Tryz.ntmps126
    go_wp2_with (refine wpList_load_row rfl 220 _ rfl 3 rfl t _ fr _ H0.out Tryz.underlying220 rfl info220 ?_)
    refine wp_loop_rounds 1 ?_
    rw [rounds_succ]
    go_wp2_with fail
    refine Calls.mono (HW.out _ (HE.out.below (HB1.out _))) ?_
    rintro e w1 ⟨rfl, hb1⟩
    go_wp2
    go_ret2
    exact ⟨by rw [HR.out]; rfl, (HB1.out _).trans (hb1.mono (HB1.out _).size)⟩
  · have h4' : ((s.size : Int) == 4) = false := by simp; omega
    by_cases h16 : s.size = 16
    · have HW : Hid (∀ w, EnvT w → _) := fun w he => write16 s h16 w he
      have HR : Hid (adE s = 0) := by unfold Hid adE isAd; simp [h16]
      have h16' : ((s.size : Int) == 16) = true := by simp; omega
      generalize adE s = r at *
      generalize adT s = tx at *
      clear hs h4 h16
      go_enter Tryz.func126, Tryz.ntmps126
      go_wp2_with (refine wpList_load_row rfl 220 _ rfl 3 rfl t _ fr _ H0.out Tryz.underlying220 rfl info220 ?_)
      refine wp_loop_rounds 2 ?_
      rw [rounds_succ]
      go_wp2_with fail
      rw [rounds_succ]
      go_wp2_with fail
      refine Calls.mono (HW.out _ (HE.out.below (HB2.out _ _))) ?_
      rintro e w1 ⟨rfl, hb1⟩
      go_wp2
      go_ret2
      exact ⟨by rw [HR.out]; rfl, (HB2.out _ _).trans (hb1.mono (HB2.out _ _).size)⟩
    · have HR : Hid (adE s = 2) := by unfold Hid adE isAd; simp [h4, h16]
      have HT : Hid (adT s = []) := by unfold Hid adT; simp [h4, h16]
      have h16' : ((s.size : Int) == 16) = false := by simp; omega
      generalize adE s = r at *
      generalize adT s = tx at *
      clear hs h4 h16
      go_enter Tryz.func126, Tryz.ntmps126
      go_wp2_with (refine wpList_load_row rfl 220 _ rfl 3 rfl t _ fr _ H0.out Tryz.underlying220 rfl info220 ?_)
      refine wp_loop_rounds 3 ?_
      rw [rounds_succ]
      go_wp2_with fail
      rw [rounds_succ]
      go_wp2_with fail
      rw [rounds_succ]
      go_wp2_with fail
      go_ret2
      exact ⟨by rw [HR.out, HT.out]; rfl, HB2.out _ _⟩
end Go.Proofs.YthaebbmekonacaaGreatDoor
