/-
  The contract of Put.
-/
import Derived.Test.YtbdfigfjoiefiaaDoorW2
import Derived.RegionTactic
namespace Go.Proofs.YtbdfigfjoiefiaaDoor
open Go.RowKit
/-- A row of bytes that lies in block b and may be written. -/
def Row (w : World) (b : Nat) (l : List UInt8) : Prop := ∀ j (hj : j < l.length), w.cell? ⟨b, j, none⟩ = some (.int .u8 (l[j].toNat : Int)) ∧ w.frozen? ⟨b, j, none⟩ = false
theorem Row.drew {w : World} {b : Nat} {l : List UInt8} (h : Row w b l) : Row w.drew b l := h
theorem Row.set {w : World} {b : Nat} {l : List UInt8} (h : Row w b l) (k : Nat) (x : UInt8) : Row (w.setCell ⟨b, k, none⟩ (.int .u8 (x.toNat : Int))) b (l.set k x) := by
  intro j hj
  have hj' : j < l.length := by simpa using hj
  obtain ⟨h1, h2⟩ := h j hj'
  refine ⟨?_, by rw [World.frozen?_setCell]; exact h2⟩
  by_cases e : k = j
  · subst e
    rw [World.cell?_setCell_same _ _ _ h1]; simp
  · rw [World.cell?_setCell_other _ _ _ _ (by intro h; injection h; omega), h1]
    simp [e]
theorem info5 : (Tryd.prog.info? 5).map (fun i => (i.zero, i.size, i.bytes)) = some (some (.int .u8 0), 1, 1) := by kernel_rfl
theorem made_bytes (n : Nat) (h : n ≤ 1000) (w : World) : (Instr.makeSlice 58 (.int .i64 (n : Int)) (.int .i64 (n : Int))).run Tryd.prog w = .ok (.slice (some ⟨w.heap.size, 0, none⟩) n n) (w.alloc (.cells (madeCells #[.int .u8 0] n) 5)) := by
  obtain ⟨i0, hi, hz0, hz1, hz2⟩ := info_parts info5
  have h := run_make w 58 5 i0 (.int .u8 0) Tryd.underlying58 hi hz0 .i64 .i64 n n (by omega) (by omega) (by rw [hz2]; omega) (by omega)
  rw [hz1, Int.toNat_natCast, Nat.mul_one] at h
  exact h
theorem Row.made (w : World) (n b : Nat) (hb : b = w.heap.size) : Row (w.alloc (.cells (madeCells #[.int .u8 0] n) 5)) b (List.replicate n 0) := by
  subst hb
  intro j hj
  have hj' : j < n := by simpa using hj
  refine ⟨?_, by simp⟩
  rw [World.cell?_alloc_at _ _ _ _ rfl]
  simp [madeCells, hj', Nat.mod_one]
/-- What a row of n bytes holds when its first k have been laid. -/
def partly (v n k : Nat) : List UInt8 := (List.range n).map fun j => if j < k then byteAt v (n - 1 - j) else 0
theorem partly_length (v n k : Nat) : (partly v n k).length = n := by simp [partly]
theorem partly_at (v n k i : Nat) (h : i < (partly v n k).length) : (partly v n k)[i] = if i < k then byteAt v (n - 1 - i) else 0 := by simp [partly]
theorem partly_zero (v n : Nat) : partly v n 0 = List.replicate n 0 := by
  apply List.ext_getElem
  · simp [partly]
  · intro i h1 h2; rw [partly_at]; simp
theorem partly_all (v n : Nat) : partly v n n = laid v n := by
  apply List.ext_getElem
  · rw [partly_length, laid_length]
  · intro i h1 h2
    rw [partly_at, laid_at, if_pos (by rw [laid_length] at h2; exact h2)]
theorem partly_succ (v n k : Nat) : partly v n (k + 1) = (partly v n k).set k (byteAt v (n - 1 - k)) := by
  apply List.ext_getElem
  · rw [List.length_set, partly_length, partly_length]
  · intro i h1 h2
    rw [List.getElem_set, partly_at, partly_at]
    by_cases e : k = i
    · subst e; simp
    · rw [if_neg e]
      by_cases h : i < k
      · rw [if_pos h, if_pos (by omega)]
      · rw [if_neg h, if_neg (by omega)]
/-- What stands in memory while a number is laid. -/
structure PutAt (w wr : World) (v n k : Nat) : Prop where
  cv : wr.cell? ⟨w.heap.size, 0, none⟩ = some (.int .u64 (v : Int))
  cn : wr.cell? ⟨w.heap.size + 1, 0, none⟩ = some (.int .i64 (n : Int))
  row : Row wr (w.heap.size + 1 + 1) (partly v n k)
  bel : Below w.heap.size w wr
theorem PutAt.next {w wr : World} {v n k : Nat} (h : PutAt w wr v n k) : PutAt w (wr.setCell ⟨w.heap.size + 1 + 1, k, none⟩ (.int .u8 ((byteAt v (n - 1 - k)).toNat : Int))) v n (k + 1) := by
  obtain ⟨h1, h2, h3, h4⟩ := h
  refine ⟨?_, ?_, ?_, h4.setCell (by simp; omega) _⟩
  · rw [World.cell?_setCell_other _ _ _ _ (by simp)]; exact h1
  · rw [World.cell?_setCell_other _ _ _ _ (by simp)]; exact h2
  · rw [partly_succ]; exact h3.set k _
theorem shr_zero (v n : Nat) (hv : v < 256 ^ n) : (v : Int) / 2 ^ (8 * n) = 0 := by
  rw [show (2 : Int) ^ (8 * n) = ((256 ^ n : Nat) : Int) from by rw [show 256 = 2 ^ 8 from rfl, ← Nat.pow_mul]; simp, ← Int.natCast_ediv, Nat.div_eq_of_lt hv]; rfl
theorem byte_form (v n k : Nat) (hk : k < n) : (v : Int) / 2 ^ (8 * ((n : Int) - 1 - (k : Int))).toNat % 256 = ((byteAt v (n - 1 - k)).toNat : Int) := by
  rw [byteAt_toNat, show (8 * ((n : Int) - 1 - (k : Int))).toNat = 8 * (n - 1 - k) from by omega]
set_option maxRecDepth 100000 in
set_option maxHeartbeats 400000 in
theorem put_yes (b : ByteArray) (v n : Nat) (w : World) (h0 : 1 ≤ n) (h1 : n ≤ 8) (hv : v < 256 ^ n) (hb : b.size ≤ 281474976710656) :
    Calls Tryd.prog 49 #[.string b, .int .u64 (v : Int), .int .i64 (n : Int)] w fun e w' =>
      e = .returned (.tuple #[.string (b ++ ⟨(laid v n).toArray⟩), .int .i64 0]) ∧ Below w.heap.size w w' := by
  have hq := shr_zero v n hv
  have hm := made_bytes n (by omega)
  clear hv
  go_enter Tryd.func49, Tryd.ntmps49
  go_wp2_with (go_at_call 70; refine (isSize_yes _ (by omega) (by omega) _).mono ?_; rintro e w' ⟨rfl, rfl⟩)
  clear hm hq
  go_loopw [24] (fun i wr => ∃ k : Nat, k ≤ n ∧ i = .int .i64 k ∧ PutAt w wr v n k) (fun i _ => n - (intOf i).toNat)
  case atStart =>
    refine ⟨0, Nat.zero_le _, rfl, ?_, ?_, ?_, ?_⟩
    · rw [World.cell?_alloc_past _ _ _ (by simp; omega), World.cell?_alloc_past _ _ _ (by simp), World.cell?_alloc_at _ _ _ _ rfl]; rfl
    · rw [World.cell?_alloc_past _ _ _ (by simp), World.cell?_alloc_at _ _ _ _ (by simp)]; rfl
    · rw [partly_zero]; exact Row.made _ n _ (by simp)
    · exact (((Below.refl _ _).alloc (by simp) _).alloc (by simp) _).alloc (by simp; omega) _
  case round =>
    obtain ⟨k, hk, rfl, hp⟩ := hrel
    by_cases hlt : k < n
    · have hc := hp.cv
      have hn := hp.cn
      have hr := (hp.row k (by rw [partly_length]; exact hlt)).1
      have hf := (hp.row k (by rw [partly_length]; exact hlt)).2
      have hp' := hp.next
      rw [byteAt_toNat] at hp'
      have HP : Hid (PutAt _ _ _ _ _) := hp'
      clear hp hp'
      go_wp2_with fail
      refine (put1_any w.heap.size (w.heap.size + 1) v n k _ hc hn (by omega) (by omega) (by omega)).mono ?_
      rintro e w' ⟨rfl, rfl⟩
      go_wp2
      go_roundw
      case rel => exact ⟨k + 1, by omega, by go_num, HP.out⟩
      case measure => simp [intOf]; omega
    · obtain rfl : k = n := by omega
      have hrow := hp.row
      rw [partly_all] at hrow
      have hback := run_convert_bytes_back (P := Tryd.prog) wr 58 9 5 ⟨w.heap.size + 1 + 1, 0, none⟩ k (laid v k) Tryd.underlying58 Tryd.underlying5 Tryd.underlying9 (fun j hj => by
        rw [show Addr.add ⟨w.heap.size + 1 + 1, 0, none⟩ j = ⟨w.heap.size + 1 + 1, j, none⟩ from by unfold Addr.add; by_cases e : j = 0 <;> simp [e]]
        exact (hrow j hj).1)
      rw [laid_length] at hback
      have hadd := run_string_add_if (P := Tryd.prog) wr b ⟨(laid v k).toArray⟩
      rw [if_neg (by rw [show (ByteArray.mk (laid v k).toArray).size = k from laid_length v k]; omega)] at hadd
      clear hrow
      go_wp2
      go_ret2
      exact ⟨rfl, hp.bel⟩
end Go.Proofs.YtbdfigfjoiefiaaDoor
