/-
  The contracts of number, Number and Rest.
-/
import Derived.Test.YtlhnfejgkhilkaaGreatDoorProg
import Derived.WalkKit
import Derived.WalkSpells
import Derived.WalkLawsBesides
import Derived.Laws.IdiomStrings
import Derived.Below
import Derived.LoopN
import Derived.Test.YtlhnfejgkhilkaaGreatDoorA0
import Derived.RegionTactic
import Derived.Laws.Bits64b
import Derived.Laws.Rows
import Derived.Laws.Tables
import Derived.Laws.CopyOwn
namespace Go.Proofs.YtlhnfejgkhilkaaGreatDoor
open Go.RowKit
theorem isSize_yes (n : Int) (h0 : 1 ≤ n) (h1 : n ≤ 8) (w : World) : Calls Tryz.prog 64 #[.int .i64 n] w fun e w' => e = .returned (.bool true) ∧ w' = w := by
  go_enter Tryz.func64, Tryz.ntmps64
  go_wp2
  go_ret
  exact ⟨rfl, rfl⟩
theorem isSize_no (n : Int) (h : n < 1 ∨ 8 < n) (w : World) : Calls Tryz.prog 64 #[.int .i64 n] w fun e w' => e = .returned (.bool false) ∧ w' = w := by
  rcases h with h | h
  · go_enter Tryz.func64, Tryz.ntmps64
    go_wp2
    go_ret
    exact ⟨rfl, rfl⟩
  · have h0 : 1 ≤ n := by omega
    have h1 : decide (n ≤ 8) = false := by simp; omega
    go_enter Tryz.func64, Tryz.ntmps64
    go_wp2
    go_ret
    exact ⟨rfl, rfl⟩
theorem put1_any (a b : Nat) (v : Int) (n i : Int) (w : World) (ha : w.cell? ⟨a, 0, none⟩ = some (.int .u64 v)) (hb : w.cell? ⟨b, 0, none⟩ = some (.int .i64 n)) (h0 : 0 ≤ i) (h1 : i < n) (h2 : n ≤ 8) :
    Calls Tryz.prog 65 #[.int .i64 i, .pointer (some ⟨a, 0, none⟩), .pointer (some ⟨b, 0, none⟩)] w fun e w' => e = .returned (.int .u8 (v / 2 ^ (8 * (n - 1 - i)).toNat % 256)) ∧ w' = w := by
  go_enter Tryz.func65, Tryz.ntmps65
  go_wp2
  go_ret
  exact ⟨rfl, rfl⟩
end Go.Proofs.YtlhnfejgkhilkaaGreatDoor
namespace Go.Proofs.YtlhnfejgkhilkaaGreatDoor
/-- The byte of v that has k bytes behind it. -/
def byteAt (v k : Nat) : UInt8 := UInt8.ofNat (v / 2 ^ (8 * k))
/-- The n lowest bytes of v, the highest first. -/
def laid (v : Nat) : Nat → List UInt8
  | 0 => []
  | n + 1 => byteAt v n :: laid v n
theorem laid_length (v n : Nat) : (laid v n).length = n := by
  induction n with
  | zero => rfl
  | succ n ih => simp [laid, ih]
theorem laid_at (v n i : Nat) (h : i < (laid v n).length) : (laid v n)[i] = byteAt v (n - 1 - i) := by
  induction n generalizing i with
  | zero => simp [laid] at h
  | succ n ih =>
    cases i with
    | zero => simp [laid]
    | succ i => simp only [laid, List.getElem_cons_succ]; rw [ih]; congr 1; omega
theorem byteAt_toNat (v k : Nat) : ((byteAt v k).toNat : Int) = (v : Int) / 2 ^ (8 * k) % 256 := by
  unfold byteAt
  rw [UInt8.toNat_ofNat']
  simp
/-- The number that bytes lay. -/
def worth (l : List UInt8) : Nat := l.foldl (fun a c => a * 256 + c.toNat) 0
theorem worth_snoc (l : List UInt8) (c : UInt8) : worth (l ++ [c]) = worth l * 256 + c.toNat := by simp [worth]
theorem foldl_worth (l : List UInt8) (a : Nat) : l.foldl (fun a c => a * 256 + c.toNat) a = a * 256 ^ l.length + worth l := by
  induction l generalizing a with
  | nil => simp [worth]
  | cons c l ih =>
    simp only [worth, List.foldl_cons, List.length_cons]
    rw [ih, ih (0 * 256 + c.toNat), Nat.pow_succ]
    rw [Nat.add_mul, Nat.mul_assoc, Nat.mul_comm 256 (256 ^ l.length), Nat.zero_mul, Nat.zero_add, Nat.add_assoc]
theorem worth_cons (c : UInt8) (l : List UInt8) : worth (c :: l) = c.toNat * 256 ^ l.length + worth l := by
  show List.foldl _ (0 * 256 + c.toNat) l = _
  rw [foldl_worth]; simp
theorem worth_lt (l : List UInt8) : worth l < 256 ^ l.length := by
  induction l with
  | nil => simp [worth]
  | cons c l ih =>
    rw [worth_cons, List.length_cons, Nat.pow_succ]
    have := c.toNat_lt
    have h : c.toNat * 256 ^ l.length ≤ 255 * 256 ^ l.length := Nat.mul_le_mul_right _ (by omega)
    omega
theorem worth_laid (v n : Nat) : worth (laid v n) = v % 256 ^ n := by
  induction n with
  | zero => simp [laid, worth, Nat.mod_one]
  | succ n ih =>
    rw [laid, worth_cons, laid_length, ih]
    unfold byteAt
    rw [UInt8.toNat_ofNat', Nat.pow_mul, show 2 ^ 8 = 256 from rfl, Nat.pow_succ, Nat.mod_mul, Nat.add_comm, Nat.mul_comm]
end Go.Proofs.YtlhnfejgkhilkaaGreatDoor
namespace Go.Proofs.YtlhnfejgkhilkaaGreatDoor
open Go.RowKit
theorem info5 : (Tryz.prog.info? 5).map (fun i => (i.zero, i.size, i.bytes)) = some (some (.int .u8 0), 1, 1) := by kernel_rfl
theorem made_bytes (n : Nat) (h : n ≤ 1000) (w : World) : (Instr.makeSlice 97 (.int .i64 (n : Int)) (.int .i64 (n : Int))).run Tryz.prog w = .ok (.slice (some ⟨w.heap.size, 0, none⟩) n n) (w.alloc (.cells (madeCells #[.int .u8 0] n) 5)) := by
  obtain ⟨i0, hi, hz0, hz1, hz2⟩ := info_parts info5
  have h := run_make w 97 5 i0 (.int .u8 0) Tryz.underlying97 hi hz0 .i64 .i64 n n (by omega) (by omega) (by rw [hz2]; omega) (by omega)
  rw [hz1, Int.toNat_natCast, Nat.mul_one] at h
  exact h
theorem Row.made (w : World) (n b : Nat) (hb : b = w.heap.size) : Row (w.alloc (.cells (madeCells #[.int .u8 0] n) 5)) b (List.replicate n 0) := by
  subst hb
  intro j hj
  have hj' : j < n := by simpa using hj
  refine ⟨?_, by simp⟩
  rw [World.cell?_alloc_at _ _ _ _ rfl]
  simp [madeCells, hj', Nat.mod_one]
/-- What a row of n bytes holds when its first k have been laid. -/
def partly (v n k : Nat) : List UInt8 := (List.range n).map fun j => if j < k then byteAt v (n - 1 - j) else 0
theorem partly_length (v n k : Nat) : (partly v n k).length = n := by simp [partly]
theorem partly_at (v n k i : Nat) (h : i < (partly v n k).length) : (partly v n k)[i] = if i < k then byteAt v (n - 1 - i) else 0 := by simp [partly]
theorem partly_zero (v n : Nat) : partly v n 0 = List.replicate n 0 := by
  apply List.ext_getElem
  · simp [partly]
  · intro i h1 h2; rw [partly_at]; simp
theorem partly_all (v n : Nat) : partly v n n = laid v n := by
  apply List.ext_getElem
  · rw [partly_length, laid_length]
  · intro i h1 h2
    rw [partly_at, laid_at, if_pos (by rw [laid_length] at h2; exact h2)]
theorem partly_succ (v n k : Nat) : partly v n (k + 1) = (partly v n k).set k (byteAt v (n - 1 - k)) := by
  apply List.ext_getElem
  · rw [List.length_set, partly_length, partly_length]
  · intro i h1 h2
    rw [List.getElem_set, partly_at, partly_at]
    by_cases e : k = i
    · subst e; simp
    · rw [if_neg e]
      by_cases h : i < k
      · rw [if_pos h, if_pos (by omega)]
      · rw [if_neg h, if_neg (by omega)]
/-- What stands in memory while a number is laid. -/
structure PutAt (w wr : World) (v n k : Nat) : Prop where
  cv : wr.cell? ⟨w.heap.size, 0, none⟩ = some (.int .u64 (v : Int))
  cn : wr.cell? ⟨w.heap.size + 1, 0, none⟩ = some (.int .i64 (n : Int))
  row : Row wr (w.heap.size + 1 + 1) (partly v n k)
  bel : Below w.heap.size w wr
theorem PutAt.next {w wr : World} {v n k : Nat} (h : PutAt w wr v n k) : PutAt w (wr.setCell ⟨w.heap.size + 1 + 1, k, none⟩ (.int .u8 ((byteAt v (n - 1 - k)).toNat : Int))) v n (k + 1) := by
  obtain ⟨h1, h2, h3, h4⟩ := h
  refine ⟨?_, ?_, ?_, h4.setCell (by simp; omega) _⟩
  · rw [World.cell?_setCell_other _ _ _ _ (by simp)]; exact h1
  · rw [World.cell?_setCell_other _ _ _ _ (by simp)]; exact h2
  · rw [partly_succ]; exact h3.set k _
theorem shr_zero (v n : Nat) (hv : v < 256 ^ n) : (v : Int) / 2 ^ (8 * n) = 0 := by
  rw [show (2 : Int) ^ (8 * n) = ((256 ^ n : Nat) : Int) from by rw [show 256 = 2 ^ 8 from rfl, ← Nat.pow_mul]; simp, ← Int.natCast_ediv, Nat.div_eq_of_lt hv]; rfl
theorem byte_form (v n k : Nat) (hk : k < n) : (v : Int) / 2 ^ (8 * ((n : Int) - 1 - (k : Int))).toNat % 256 = ((byteAt v (n - 1 - k)).toNat : Int) := by
  rw [byteAt_toNat, show (8 * ((n : Int) - 1 - (k : Int))).toNat = 8 * (n - 1 - k) from by omega]
set_option maxRecDepth 100000 in
set_option maxHeartbeats 400000 in
theorem put_yes (b : ByteArray) (v n : Nat) (w : World) (h0 : 1 ≤ n) (h1 : n ≤ 8) (hv : v < 256 ^ n) (hb : b.size ≤ 281474976710656) :
    Calls Tryz.prog 50 #[.string b, .int .u64 (v : Int), .int .i64 (n : Int)] w fun e w' =>
      e = .returned (.tuple #[.string (b ++ ⟨(laid v n).toArray⟩), .int .i64 0]) ∧ Below w.heap.size w w' := by
  have hq := shr_zero v n hv
  have hm := made_bytes n (by omega)
  clear hv
  go_enter Tryz.func50, Tryz.ntmps50
  go_wp2_with (go_at_call 64; refine (isSize_yes _ (by omega) (by omega) _).mono ?_; rintro e w' ⟨rfl, rfl⟩)
  clear hm hq
  go_loopw [24] (fun i wr => ∃ k : Nat, k ≤ n ∧ i = .int .i64 k ∧ PutAt w wr v n k) (fun i _ => n - (intOf i).toNat)
  case atStart =>
    refine ⟨0, Nat.zero_le _, rfl, ?_, ?_, ?_, ?_⟩
    · rw [World.cell?_alloc_past _ _ _ (by simp; omega), World.cell?_alloc_past _ _ _ (by simp), World.cell?_alloc_at _ _ _ _ rfl]; rfl
    · rw [World.cell?_alloc_past _ _ _ (by simp), World.cell?_alloc_at _ _ _ _ (by simp)]; rfl
    · rw [partly_zero]; exact Row.made _ n _ (by simp)
    · exact (((Below.refl _ _).alloc (by simp) _).alloc (by simp) _).alloc (by simp; omega) _
  case round =>
    obtain ⟨k, hk, rfl, hp⟩ := hrel
    by_cases hlt : k < n
    · have hc := hp.cv
      have hn := hp.cn
      have hr := (hp.row k (by rw [partly_length]; exact hlt)).1
      have hf := (hp.row k (by rw [partly_length]; exact hlt)).2
      have hp' := hp.next
      rw [byteAt_toNat] at hp'
      have HP : Hid (PutAt _ _ _ _ _) := hp'
      clear hp hp'
      go_wp2_with fail
      refine (put1_any w.heap.size (w.heap.size + 1) v n k _ hc hn (by omega) (by omega) (by omega)).mono ?_
      rintro e w' ⟨rfl, rfl⟩
      go_wp2
      go_roundw
      case rel => exact ⟨k + 1, by omega, by go_num, HP.out⟩
      case measure => simp [intOf]; omega
    · obtain rfl : k = n := by omega
      have hrow := hp.row
      rw [partly_all] at hrow
      have hback := run_convert_bytes_back (P := Tryz.prog) wr 97 9 5 ⟨w.heap.size + 1 + 1, 0, none⟩ k (laid v k) Tryz.underlying97 Tryz.underlying5 Tryz.underlying9 (fun j hj => by
        rw [show Addr.add ⟨w.heap.size + 1 + 1, 0, none⟩ j = ⟨w.heap.size + 1 + 1, j, none⟩ from by unfold Addr.add; by_cases e : j = 0 <;> simp [e]]
        exact (hrow j hj).1)
      rw [laid_length] at hback
      have hadd := run_string_add_if (P := Tryz.prog) wr b ⟨(laid v k).toArray⟩
      rw [if_neg (by rw [show (ByteArray.mk (laid v k).toArray).size = k from laid_length v k]; omega)] at hadd
      clear hrow
      go_wp2
      go_ret2
      exact ⟨rfl, hp.bel⟩
end Go.Proofs.YtlhnfejgkhilkaaGreatDoor
namespace Go.Proofs.YtlhnfejgkhilkaaGreatDoor
open Go.RowKit
/-- A reader that New made lies in block p, and these bytes are left. -/
structure RdrAt (w : World) (p : Nat) (s : ByteArray) : Prop where
  c0 : w.cell? ⟨p, 0, none⟩ = some (.bool true)
  c1 : w.cell? ⟨p, 1, none⟩ = some (.string s)
  f0 : w.frozen? ⟨p, 0, none⟩ = false
  f1 : w.frozen? ⟨p, 1, none⟩ = false
theorem RdrAt.kept {w w' : World} {p B : Nat} {s : ByteArray} (h : RdrAt w p s) (hb : Below B w w') (hB : p < B) : RdrAt w' p s :=
  ⟨(hb.cell (p := ⟨p, 0, none⟩) hB).trans h.c0, (hb.cell (p := ⟨p, 1, none⟩) hB).trans h.c1, (hb.frozen (p := ⟨p, 0, none⟩) hB).trans h.f0, (hb.frozen (p := ⟨p, 1, none⟩) hB).trans h.f1⟩
theorem RdrAt.set {w : World} {p : Nat} {s : ByteArray} (h : RdrAt w p s) (t : ByteArray) : RdrAt (w.setCell ⟨p, 1, none⟩ (.string t)) p t :=
  ⟨by rw [World.cell?_setCell_other _ _ _ _ (by simp)]; exact h.c0, World.cell?_setCell_same _ _ _ h.c1, by rw [World.frozen?_setCell]; exact h.f0, by rw [World.frozen?_setCell]; exact h.f1⟩
theorem RdrAt.set_other {w : World} {p : Nat} {s : ByteArray} (h : RdrAt w p s) (a : Addr) (v : Value) (ha : a.block ≠ p) : RdrAt (w.setCell a v) p s := by
  have ne : ∀ i, a ≠ ⟨p, i, none⟩ := fun i e => ha (by rw [e])
  exact ⟨by rw [World.cell?_setCell_other _ _ _ _ (ne _)]; exact h.c0, by rw [World.cell?_setCell_other _ _ _ _ (ne _)]; exact h.c1, by rw [World.frozen?_setCell]; exact h.f0, by rw [World.frozen?_setCell]; exact h.f1⟩
theorem RdrAt.lt {w : World} {p : Nat} {s : ByteArray} (h : RdrAt w p s) : p < w.heap.size := by
  have := h.c0
  by_cases e : p < w.heap.size
  · exact e
  · rw [World.cell?] at this
    simp [Array.getElem?_eq_none (Nat.le_of_not_lt e)] at this
theorem new_any (s : ByteArray) (w : World) :
    Calls Tryz.prog 53 #[.string s] w fun e w' => e = .returned (.pointer (some ⟨w.heap.size, 0, none⟩)) ∧ RdrAt w' w.heap.size s ∧ Below w.heap.size w w' ∧ w'.heap.size = w.heap.size + 1 := by
  go_enter Tryz.func53, Tryz.ntmps53
  go_wp2
  go_ret
  refine ⟨rfl, ?_, (Below.refl _ _).alloc (by simp) _, by simp⟩
  constructor <;> simp
theorem left_any (p : Nat) (s : ByteArray) (w : World) (h : RdrAt w p s) :
    Calls Tryz.prog 55 #[.pointer (some ⟨p, 0, none⟩)] w fun e w' => e = .returned (.int .i64 (s.size : Int)) ∧ w' = w := by
  have c1 := h.c1
  go_enter Tryz.func55, Tryz.ntmps55
  go_wp2
  go_ret
  exact ⟨rfl, rfl⟩
theorem take_no (p : Nat) (s : ByteArray) (n : Int) (w : World) (h : RdrAt w p s) (hn : n < 0 ∨ (s.size : Int) < n) :
    Calls Tryz.prog 69 #[.pointer (some ⟨p, 0, none⟩), .int .i64 n] w fun e w' => e = .returned (.tuple #[.string ⟨#[]⟩, .bool false]) ∧ w' = w := by
  obtain ⟨c0, c1, _, _⟩ := h
  by_cases h0 : n < 0
  · clear hn
    go_enter Tryz.func69, Tryz.ntmps69
    go_wp2
    go_ret2
    exact ⟨rfl, rfl⟩
  · have h1 : (s.size : Int) < n := by omega
    clear hn
    go_enter Tryz.func69, Tryz.ntmps69
    go_wp2
    go_ret2
    exact ⟨rfl, rfl⟩
theorem take_yes (p : Nat) (s : ByteArray) (n : Nat) (w : World) (h : RdrAt w p s) (hn : n ≤ s.size) :
    Calls Tryz.prog 69 #[.pointer (some ⟨p, 0, none⟩), .int .i64 (n : Int)] w fun e w' =>
      e = .returned (.tuple #[.string (s.extract 0 n), .bool true]) ∧ w' = w.setCell ⟨p, 1, none⟩ (.string (s.extract n s.size)) := by
  obtain ⟨c0, c1, f0, f1⟩ := h
  go_enter Tryz.func69, Tryz.ntmps69
  go_wp2
  go_ret2
  exact ⟨rfl, rfl⟩
end Go.Proofs.YtlhnfejgkhilkaaGreatDoor
namespace Go.Proofs.YtlhnfejgkhilkaaGreatDoor
open Go.RowKit
theorem or_low (v c : Nat) (h1 : v < 72057594037927936) (h3 : c < 256) : bits .or .u64 ((v : Int) * 256) (c : Int) = ((v * 256 + c : Nat) : Int) := by
  have h := bits_or_u64_nat (v * 256) c (by omega) (by omega)
  rw [show ((v * 256 : Nat) : Int) = (v : Int) * 256 from by simp] at h
  rw [h, Nat.mul_comm v 256, Nat.two_pow_add_eq_or_of_lt (i := 8) h3 v]
theorem push_any (a : Nat) (v : Nat) (c : UInt8) (w : World) (hc : w.cell? ⟨a, 0, none⟩ = some (.int .u64 (v : Int))) (hf : w.frozen? ⟨a, 0, none⟩ = false) (h1 : v < 72057594037927936) :
    Calls Tryz.prog 78 #[.int .u8 (c.toNat : Int), .pointer (some ⟨a, 0, none⟩)] w fun e w' => e = .returned (.tuple #[]) ∧ w' = w.setCell ⟨a, 0, none⟩ (.int .u64 ((v * 256 + c.toNat : Nat) : Int)) := by
  have h3 := c.toNat_lt
  have HO : Hid (_ = _) := or_low v c.toNat h1 h3
  go_enter Tryz.func78, Tryz.ntmps78
  go_wp2
  go_end0
  exact ⟨rfl, by rw [HO.out]⟩
/-- All but block p is as it was. -/
structure Beside (p : Nat) (w w' : World) : Prop where
  os : w'.os = w.os
  tape : w'.tape = w.tape
  output : w'.output = w.output
  size : w.heap.size ≤ w'.heap.size
  block : ∀ k, k < w.heap.size → k ≠ p → w'.heap[k]? = w.heap[k]?
  typ : ∀ C t, w.heap[p]? = some (.cells C t (0, 0)) → ∃ C', w'.heap[p]? = some (.cells C' t (0, 0))
theorem Beside.below {p B : Nat} {w w' : World} (h : Beside p w w') (hp : B ≤ p) (hB : B ≤ w.heap.size) : Below B w w' :=
  ⟨h.os, h.tape, h.output, h.size, fun k hk => h.block k (by omega) (by omega)⟩
theorem Beside.of_below {p B : Nat} {w w' : World} (h : Below B w w') (hB : w.heap.size ≤ B) : Beside p w w' :=
  ⟨h.os, h.tape, h.output, h.size, fun k hk _ => h.block k (by omega), fun C t hC => ⟨C, (h.block p (by have := lt_of_heap hC; omega)).trans hC⟩⟩
theorem Beside.set {p : Nat} (w : World) (i : Nat) (v : Value) : Beside p w (w.setCell ⟨p, i, none⟩ v) := by
  have h := (Below.refl 0 w).setCell (p := ⟨p, i, none⟩) (by simp) v
  exact ⟨h.os, h.tape, h.output, h.size, fun k _ hk => Below.heap_setCell w ⟨p, i, none⟩ v k hk, fun C t hC => ⟨_, heap_setCell_same w p i C t v hC⟩⟩
theorem Beside.trans {p : Nat} {a b c : World} (h : Beside p a b) (k : Beside p b c) : Beside p a c :=
  ⟨k.os.trans h.os, k.tape.trans h.tape, k.output.trans h.output, Nat.le_trans h.size k.size, fun j hj hp => (k.block j (Nat.lt_of_lt_of_le hj h.size) hp).trans (h.block j hj hp), fun C t hC => by
    obtain ⟨C1, h1⟩ := h.typ C t hC
    exact k.typ C1 t h1⟩
/-- What stands in memory while a number is read: the first k bytes of s are in. -/
structure NumAt (w wr : World) (p : Nat) (s rest : ByteArray) (k : Nat) : Prop where
  cv : wr.cell? ⟨w.heap.size, 0, none⟩ = some (.int .u64 (worth (s.data.toList.take k) : Int))
  fv : wr.frozen? ⟨w.heap.size, 0, none⟩ = false
  rdr : RdrAt wr p rest
  bes : Beside p w wr
theorem NumAt.next {w wr : World} {p : Nat} {s rest : ByteArray} {k : Nat} (h : NumAt w wr p s rest k) (hp : p < w.heap.size) (hk : k < s.size) :
    NumAt w (wr.setCell ⟨w.heap.size, 0, none⟩ (.int .u64 ((worth (s.data.toList.take k) * 256 + s[k].toNat : Nat) : Int))) p s rest (k + 1) := by
  have hk' : k < s.data.toList.length := by simpa using hk
  refine ⟨?_, by rw [World.frozen?_setCell]; exact h.fv, h.rdr.set_other _ _ (by simp; omega), ?_⟩
  · rw [World.cell?_setCell_same _ _ _ h.cv, ← worth_snoc, List.take_succ_eq_append_getElem hk']; rfl
  · have hs := (Below.refl 0 wr).setCell (p := ⟨w.heap.size, 0, none⟩) (by simp) (.int .u64 ((worth (s.data.toList.take k) * 256 + s[k].toNat : Nat) : Int))
    refine ⟨hs.os.trans h.bes.os, hs.tape.trans h.bes.tape, hs.output.trans h.bes.output, Nat.le_trans h.bes.size hs.size, fun j hj hjp => ?_, fun C t hC => ?_⟩
    · rw [Below.heap_setCell wr ⟨w.heap.size, 0, none⟩ _ j (by simp; omega)]
      exact h.bes.block j hj hjp
    · obtain ⟨C1, h1⟩ := h.bes.typ C t hC
      exact ⟨C1, by rw [Below.heap_setCell wr ⟨w.heap.size, 0, none⟩ _ p (by simp; omega)]; exact h1⟩
end Go.Proofs.YtlhnfejgkhilkaaGreatDoor
namespace Go.Proofs.YtlhnfejgkhilkaaGreatDoor
open Go.RowKit
theorem ret2 {a b : Int} {x : Value} {k : IntKind} (h : a = b) : Ending.returned (.tuple #[.int k a, x]) = .returned (.tuple #[.int k b, x]) := by rw [h]
theorem size_extract (s : ByteArray) (n : Nat) (h : n ≤ s.size) : (s.extract 0 n).size = n := by simp; omega
set_option maxRecDepth 100000 in
set_option maxHeartbeats 400000 in
theorem number_yes (p : Nat) (s : ByteArray) (n : Nat) (w : World) (h : RdrAt w p s) (h1 : n ≤ 8) (hn : n ≤ s.size) :
    Calls Tryz.prog 68 #[.func (.func 69) #[.pointer (some ⟨p, 0, none⟩)] #[], .int .i64 (n : Int)] w fun e w' =>
      e = .returned (.tuple #[.int .u64 (worth (s.data.toList.take n) : Int), .bool true]) ∧ RdrAt w' p (s.extract n s.size) ∧ Beside p w w' := by
  have hp := h.lt
  have hb : Below w.heap.size w (w.alloc (.cells #[.int .u64 0] 69)) := (Below.refl _ _).alloc (by simp) _
  have h' := h.kept hb hp
  generalize hW : w.alloc (.cells #[.int .u64 0] 69) = W at *
  have cv : W.cell? ⟨w.heap.size, 0, none⟩ = some (.int .u64 0) := by subst hW; simp
  have fv : W.frozen? ⟨w.heap.size, 0, none⟩ = false := by subst hW; simp
  have HW : Hid (w.alloc (.cells #[.int .u64 0] 69) = W) := hW
  have hx := size_extract s n hn
  clear hW
  have hb8 : ∀ k, k < n → worth ((s.extract 0 n).data.toList.take k) < 72057594037927936 := by
    intro k hk
    have := worth_lt ((s.extract 0 n).data.toList.take k)
    have hl : ((s.extract 0 n).data.toList.take k).length ≤ 7 := by simp; omega
    exact Nat.lt_of_lt_of_le this (Nat.le_trans (Nat.pow_le_pow_right (by omega) hl) (by decide))
  have HX : Hid (worth ((s.extract 0 n).data.toList.take n) = worth (s.data.toList.take n)) := by unfold Hid; congr 1; simp [List.take_take]
  go_enter Tryz.func68, Tryz.ntmps68
  go_wp2_with fail
  rw [HW.out]
  refine (take_yes p s n W h' hn).mono ?_
  rintro e w' ⟨rfl, rfl⟩
  generalize s.extract 0 n = b at *
  generalize hrest : s.extract n s.size = rest at *
  have HR : Hid (s.extract n s.size = rest) := hrest
  clear hrest
  have HB : Hid (∀ k, k < n → worth (b.data.toList.take k) < 72057594037927936) := hb8
  clear hb8 hn
  go_wp2_with fail
  go_loopw [20] (fun i wr => ∃ k : Nat, k ≤ n ∧ i = .int .i64 k ∧ NumAt w wr p b rest k) (fun i _ => n - (intOf i).toNat)
  case atStart =>
    refine ⟨0, Nat.zero_le _, rfl, ?_, ?_, ?_, ?_⟩
    · rw [World.cell?_setCell_other _ _ _ _ (by simp)]; simpa [worth] using cv
    · rw [World.frozen?_setCell]; exact fv
    · exact h'.set _
    · exact (Beside.of_below hb (Nat.le_refl _)).trans (Beside.set _ _ _)
  case round =>
    obtain ⟨k, hk, rfl, hq⟩ := hrel
    clear cv fv hb h' h
    by_cases hlt : k < n
    · have hc := hq.cv
      have hf := hq.fv
      have hs : k < b.size := by omega
      have HQ : Hid (NumAt _ _ _ _ _ _) := hq.next hp hs
      have hbk := HB.out k hlt
      clear hq
      go_wp2_with fail
      refine (push_any w.heap.size _ b[k] _ hc hf hbk).mono ?_
      rintro e w' ⟨rfl, rfl⟩
      clear hc hf
      go_wp2
      go_roundw
      case rel => exact ⟨k + 1, by omega, by go_num, HQ.out⟩
      case measure => simp [intOf]; omega
    · obtain rfl : k = n := by omega
      have hc := hq.cv
      go_wp2
      go_ret2
      exact ⟨ret2 (by rw [HX.out]), by rw [HR.out]; exact hq.rdr, hq.bes⟩
theorem number_no (p : Nat) (s : ByteArray) (n : Nat) (w : World) (h : RdrAt w p s) (hn : s.size < n) :
    Calls Tryz.prog 68 #[.func (.func 69) #[.pointer (some ⟨p, 0, none⟩)] #[], .int .i64 (n : Int)] w fun e w' =>
      e = .returned (.tuple #[.int .u64 0, .bool false]) ∧ RdrAt w' p s ∧ Beside p w w' := by
  have hp := h.lt
  have hb : Below w.heap.size w (w.alloc (.cells #[.int .u64 0] 69)) := (Below.refl _ _).alloc (by simp) _
  have h' := h.kept hb hp
  go_enter Tryz.func68, Tryz.ntmps68
  go_wp2_with (go_at_call 69; refine (take_no p s n _ h' (by omega)).mono ?_; rintro e w' ⟨rfl, rfl⟩)
  refine wp_loop_rounds 1 ?_
  rw [rounds_succ]
  go_wp2
  go_ret2
  exact ⟨rfl, h', Beside.of_below hb (Nat.le_refl _)⟩
theorem num_bad (p : Nat) (n : Int) (w : World) (h : n < 1 ∨ 8 < n) :
    Calls Tryz.prog 54 #[.pointer (some ⟨p, 0, none⟩), .int .i64 n] w fun e w' => e = .returned (.tuple #[.int .u64 0, .bool false]) ∧ w' = w := by
  go_enter Tryz.func54, Tryz.ntmps54
  go_wp2_with (go_at_call 64; refine (isSize_no _ h _).mono ?_; rintro e w' ⟨rfl, rfl⟩)
  go_ret2
  exact ⟨rfl, rfl⟩
theorem num_no (p : Nat) (s : ByteArray) (n : Nat) (w : World) (h : RdrAt w p s) (h0 : 1 ≤ n) (h1 : n ≤ 8) (hn : s.size < n) :
    Calls Tryz.prog 54 #[.pointer (some ⟨p, 0, none⟩), .int .i64 (n : Int)] w fun e w' => e = .returned (.tuple #[.int .u64 0, .bool false]) ∧ RdrAt w' p s ∧ Beside p w w' := by
  go_enter Tryz.func54, Tryz.ntmps54
  go_wp2_with (first | (go_at_call 64; refine (isSize_yes _ (by omega) (by omega) _).mono ?_; rintro e w' ⟨rfl, rfl⟩) | (go_at_call 68; refine (number_no p s n _ h hn).mono ?_; rintro e w' ⟨rfl, h2, h3⟩))
  go_ret2
  exact ⟨rfl, h2, h3⟩
theorem num_yes (p : Nat) (s : ByteArray) (n : Nat) (w : World) (h : RdrAt w p s) (h0 : 1 ≤ n) (h1 : n ≤ 8) (hn : n ≤ s.size) :
    Calls Tryz.prog 54 #[.pointer (some ⟨p, 0, none⟩), .int .i64 (n : Int)] w fun e w' =>
      e = .returned (.tuple #[.int .u64 (worth (s.data.toList.take n) : Int), .bool true]) ∧ RdrAt w' p (s.extract n s.size) ∧ Beside p w w' := by
  go_enter Tryz.func54, Tryz.ntmps54
  go_wp2_with (first | (go_at_call 64; refine (isSize_yes _ (by omega) (by omega) _).mono ?_; rintro e w' ⟨rfl, rfl⟩) | (go_at_call 68; refine (number_yes p s n _ h h1 hn).mono ?_; rintro e w' ⟨rfl, h2, h3⟩))
  go_ret2
  exact ⟨rfl, h2, h3⟩
end Go.Proofs.YtlhnfejgkhilkaaGreatDoor
