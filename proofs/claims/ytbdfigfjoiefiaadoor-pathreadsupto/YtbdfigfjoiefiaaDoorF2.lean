/-
  The text of a segment, and of a path.
-/
import Derived.Test.YtbdfigfjoiefiaaDoorF0
import Derived.Test.YtbdfigfjoiefiaaDoorF1
import Derived.Test.YtbdfigfjoiefiaaDoorC2
import Derived.Deep.RegionHeld3
namespace Go.Proofs.YtbdfigfjoiefiaaDoor
open Go.RowKit
/-- Texts that lie in a row and may be written. -/
def RowT (w : World) (b : Nat) (l : List ByteArray) : Prop := ∀ j (hj : j < l.length), w.cell? ⟨b, j, none⟩ = some (.string l[j]) ∧ w.frozen? ⟨b, j, none⟩ = false
theorem RowT.below {w w' : World} {b : Nat} {l : List ByteArray} (h : RowT w b l) (hb : Below w.heap.size w w') : RowT w' b l :=
  fun j hj => ⟨below_cell hb (h j hj).1, (hb.frozen (p := ⟨b, j, none⟩) (lt_of_cell (h j hj).1)).trans (h j hj).2⟩
theorem RowT.set {w : World} {b : Nat} {l : List ByteArray} (h : RowT w b l) (k : Nat) (x : ByteArray) : RowT (w.setCell ⟨b, k, none⟩ (.string x)) b (l.set k x) := by
  intro j hj
  have hj' : j < l.length := by simpa using hj
  obtain ⟨h1, h2⟩ := h j hj'
  refine ⟨?_, by rw [World.frozen?_setCell]; exact h2⟩
  by_cases e : k = j
  · subst e
    rw [World.cell?_setCell_same _ _ _ h1]; simp
  · rw [World.cell?_setCell_other _ _ _ _ (by intro h; injection h; omega), h1]
    simp [e]
theorem info9 : (Tryd.prog.info? 9).map (fun i => (i.zero, i.size, i.bytes)) = some (some (.string ⟨#[]⟩), 1, 16) := by kernel_rfl
theorem made_texts (n : Nat) (h : n ≤ 1000) (w : World) : (Instr.makeSlice 71 (.int .i64 (n : Int)) (.int .i64 (n : Int))).run Tryd.prog w = .ok (.slice (some ⟨w.heap.size, 0, none⟩) n n) (w.alloc (.cells (madeCells #[.string ⟨#[]⟩] n) 9)) := by
  obtain ⟨i0, hi, hz0, hz1, hz2⟩ := info_parts info9
  have h := run_make w 71 9 i0 (.string ⟨#[]⟩) Tryd.underlying71 hi hz0 .i64 .i64 n n (by omega) (by omega) (by rw [hz2]; omega) (by omega)
  rw [hz1, Int.toNat_natCast, Nat.mul_one] at h
  exact h
theorem RowT.made (w : World) (n b : Nat) (hb : b = w.heap.size) : RowT (w.alloc (.cells (madeCells #[.string ⟨#[]⟩] n) 9)) b (List.replicate n ⟨#[]⟩) := by
  subst hb
  intro j hj
  have hj' : j < n := by simpa using hj
  refine ⟨?_, by simp⟩
  rw [World.cell?_alloc_at _ _ _ _ rfl]
  simp [madeCells, hj', Nat.mod_one]
/-- The texts xs, of which the first k have been laid. -/
def parts (xs : List ByteArray) (k : Nat) : List ByteArray := xs.mapIdx fun j x => if j < k then x else ⟨#[]⟩
theorem parts_length (xs : List ByteArray) (k : Nat) : (parts xs k).length = xs.length := by simp [parts]
theorem parts_zero (xs : List ByteArray) : parts xs 0 = List.replicate xs.length ⟨#[]⟩ := by
  apply List.ext_getElem
  · simp [parts]
  · intro i h1 h2; simp [parts]
theorem parts_all (xs : List ByteArray) : parts xs xs.length = xs := by
  apply List.ext_getElem
  · simp [parts]
  · intro i h1 h2; simp [parts]; omega
theorem parts_succ (xs : List ByteArray) (k : Nat) (h : k < xs.length) : parts xs (k + 1) = (parts xs k).set k xs[k] := by
  apply List.ext_getElem
  · simp [parts]
  · intro i h1 h2
    rw [List.getElem_set]
    simp only [parts, List.getElem_mapIdx]
    by_cases e : k = i
    · subst e; simp
    · rw [if_neg e]
      by_cases g : i < k
      · rw [if_pos g, if_pos (by omega)]
      · rw [if_neg g, if_neg (by omega)]
/-- The texts of numbers. -/
def digT (l : List Nat) : List ByteArray := l.map fun n => ⟨(Lib.decDigits n).toArray⟩
theorem digT_data (l : List Nat) : (digT l).map (·.data.toList) = l.map Lib.decDigits := by simp [digT]
/-- The brackets of a kind. -/
def brS (k : Nat) : ByteArray := ⟨#[opn k, shut k]⟩
theorem Tabs.br {w : World} (h : Tabs w) (k : Nat) (h1 : 1 ≤ k) (h4 : k ≤ 4) : w.cell? ⟨0, k, none⟩ = some (.string (brS k)) := by
  obtain ⟨⟨t, fz, h⟩, _⟩ := h
  have : k = 1 ∨ k = 2 ∨ k = 3 ∨ k = 4 := by omega
  rcases this with rfl | rfl | rfl | rfl <;> exact cell_row h _ _ rfl
/-- What stands in memory while a segment is written. -/
structure WrAt (w wr : World) (k : Int) (va : Value) (xs : List ByteArray) (n : Nat) : Prop where
  c0 : wr.cell? ⟨w.heap.size, 0, none⟩ = some (.int .i64 k)
  c1 : wr.cell? ⟨w.heap.size, 1, none⟩ = some va
  row : RowT wr (w.heap.size + 1) (parts xs n)
  bel : Below w.heap.size w wr
  bel2 : w.heap.size + 2 ≤ wr.heap.size
theorem WrAt.below {w wr w' : World} {k : Int} {va : Value} {xs : List ByteArray} {n : Nat} (h : WrAt w wr k va xs n) (hb : Below wr.heap.size wr w') : WrAt w w' k va xs n :=
  ⟨below_cell hb h.c0, below_cell hb h.c1, h.row.below hb, h.bel.trans (hb.mono h.bel.size), Nat.le_trans h.bel2 hb.size⟩
theorem WrAt.next {w wr : World} {k : Int} {va : Value} {xs : List ByteArray} {n : Nat} (h : WrAt w wr k va xs n) (hn : n < xs.length) (x : ByteArray) (hx : xs[n] = x) : WrAt w (wr.setCell ⟨w.heap.size + 1, n, none⟩ (.string x)) k va xs (n + 1) := by
  refine ⟨?_, ?_, ?_, h.bel.setCell (by simp) _, by simpa using h.bel2⟩
  · rw [World.cell?_setCell_other _ _ _ _ (by simp)]; exact h.c0
  · rw [World.cell?_setCell_other _ _ _ _ (by simp)]; exact h.c1
  · rw [parts_succ xs n hn, hx]; exact h.row.set n x
theorem add_str (W : World) (a b : ByteArray) (h : a.size + b.size ≤ 9223372036854775807) : (Op.stringOp .add a b).run Tryd.prog W = .ok (.string (a ++ b)) W := by
  rw [run_string_add_if, if_neg (by omega)]
theorem seg_bytes (k : Nat) (l : List Nat) : (brS k).extract 0 1 ++ ⟨(Lib.join ((digT l).map (·.data.toList)) [32]).toArray⟩ ++ (brS k).extract 1 2 = ⟨(segT ((k : Int), l)).toArray⟩ := by
  rw [digT_data]
  apply ByteArray.ext
  simp [segT, brS]
theorem ret_str {a b : ByteArray} (h : a = b) : Ending.returned (.string a) = .returned (.string b) := by rw [h]
set_option maxRecDepth 100000 in
set_option maxHeartbeats 800000 in
theorem segText_any (k : Nat) (v : Value) (l : List Nat) (w : World) (h : ASAt w v l) (ht : Tabs w) (h1 : 1 ≤ k) (h4 : k ≤ 4) (hl : l.length ≤ 255) (hx : ∀ x ∈ l, x < 4294967296) :
    Calls Tryd.prog 55 #[.agg #[.int .i64 (k : Int), v]] w fun e w' => e = .returned (.string ⟨(segT ((k : Int), l)).toArray⟩) ∧ Below w.heap.size w w' := by
  have HA : Hid (ASAt _ _ _) := h
  obtain ⟨ad, b, off, cap, rfl, had, _, hr⟩ := h
  have hm := made_texts l.length (by omega)
  have HR : Hid (RowU _ _ _ _) := hr
  have HX : Hid (_ : Prop) := hx
  have HT : Hid (Tabs _) := ht
  clear hr ht hx
  go_enter Tryd.func55, Tryd.ntmps55
  go_wp2
  have hw : WrAt w ((w.alloc (.cells #[.int .i64 (k : Int), .slice ad l.length cap] 48)).alloc (.cells (madeCells #[.string ⟨#[]⟩] l.length) 9)) k (.slice ad l.length cap) (digT l) 0 := by
    refine ⟨?_, ?_, ?_, ((Below.refl _ _).alloc (by simp) _).alloc (by simp) _, by simp⟩
    · rw [World.cell?_alloc_past _ _ _ (by simp), World.cell?_alloc_at _ _ _ _ rfl]; rfl
    · rw [World.cell?_alloc_past _ _ _ (by simp), World.cell?_alloc_at _ _ _ _ rfl]; rfl
    · rw [parts_zero, show (digT l).length = l.length by simp [digT]]; exact RowT.made _ _ _ (by simp)
  generalize (w.alloc (.cells #[.int .i64 (k : Int), .slice ad l.length cap] 48)).alloc (.cells (madeCells #[.string ⟨#[]⟩] l.length) 9) = W at *
  clear hm
  go_loopw [14] (fun i wr => ∃ n : Nat, n ≤ l.length ∧ i = .int .i64 n ∧ WrAt w wr k (.slice ad l.length cap) (digT l) n) (fun i _ => l.length - (intOf i).toNat)
  case atStart => exact ⟨0, Nat.zero_le _, rfl, hw⟩
  case round =>
    obtain ⟨n, hn, rfl, hq⟩ := hrel
    have HQ : Hid (WrAt _ _ _ _ _ _) := hq
    by_cases hlt : n < l.length
    · obtain rfl : ad = some ⟨b, off, none⟩ := by rcases had with h | h; exact h; omega
      have hc := ((HR.out.below hq.bel) n hlt).1
      have hx32 := HX.out l[n] (List.getElem_mem hlt)
      have hy : (digT l)[n]'(by simpa [digT] using hlt) = ⟨(Lib.decDigits l[n]).toArray⟩ := by simp [digT]
      have HY : Hid (_ = _) := hy
      have hT' := HT.out.below hq.bel
      have HTT : Hid (Tabs _) := hT'
      clear hq hw had hy hT'
      generalize l[n] = x at *
      go_wp2_with fail
      refine (fmt_any x (by omega) wr HTT.out).mono ?_
      rintro e w1 ⟨rfl, hb1⟩
      have hq1 := HQ.out.below hb1
      have hr1 := hq1.row n (by rw [parts_length]; simpa [digT] using hlt)
      have hf := hr1.2
      have hcc := hr1.1
      have HQ1 : Hid (WrAt _ _ _ _ _ _) := hq1.next (by simpa [digT] using hlt) _ HY.out
      clear hq1 hb1 hr1 hc HY HQ
      go_wp2
      go_roundw
      case rel => exact ⟨n + 1, by omega, by go_num, HQ1.out⟩
      case measure => simp [intOf]; omega
    · obtain rfl : n = l.length := by omega
      have c0 := hq.c0
      have hbr := (HT.out.below hq.bel).br k h1 h4
      have hrow : ∀ (j : Nat) x, (digT l)[j]? = some x → wr.drew.cell? ⟨w.heap.size + 1, 0 + j, none⟩ = some (.string x) := by
        intro j x hj
        have hr := hq.row
        rw [show l.length = (digT l).length by simp [digT], parts_all] at hr
        obtain ⟨hj', e⟩ := List.getElem?_eq_some_iff.mp hj
        have := (hr j hj').1
        rw [Nat.zero_add, ← e]; exact this
      have hz : (brS k).size = 2 := rfl
      have hbt : w.heap.size + 1 < wr.heap.size := by have := hq.bel2; omega
      have hdl : (digT l).length = l.length := by simp [digT]
      have hlen : (Lib.join ((digT l).map (·.data.toList)) [32]).length ≤ 5355 := by rw [digT_data]; exact digs_le l HX.out hl
      have hjoin : Calls Tryd.prog 56 #[.slice (some ⟨w.heap.size + 1, 0, none⟩) l.length l.length, .string ⟨#[32]⟩] wr.drew fun e w' => e = .returned (.string ⟨(Lib.join ((digT l).map (·.data.toList)) [32]).toArray⟩) ∧ Below wr.drew.heap.size wr.drew w' := by
        have := Tryd.strings_Join (w.heap.size + 1) 0 l.length (digT l) ⟨#[32]⟩ wr.drew hrow hbt (by omega) (by omega) (by exact Nat.le_trans hlen (by omega))
        rw [hdl] at this
        exact this
      have HS := seg_bytes k l
      generalize hJ : (⟨(Lib.join ((digT l).map (·.data.toList)) [32]).toArray⟩ : ByteArray) = J at *
      have hJs : J.size ≤ 5355 := by rw [← hJ]; exact hlen
      have HS' : Hid (_ = _) := HS
      have HC : Hid (Calls _ _ _ _ _) := hjoin
      have HBel : Hid (Below _ _ _) := hq.bel
      have a1 : ∀ W, (Op.stringOp .add ((brS k).extract 0 1) J).run Tryd.prog W = .ok (.string ((brS k).extract 0 1 ++ J)) W := fun W => add_str W _ _ (by simp; omega)
      have a2 : ∀ W, (Op.stringOp .add ((brS k).extract 0 1 ++ J) ((brS k).extract 1 2)).run Tryd.prog W = .ok (.string ((brS k).extract 0 1 ++ J ++ (brS k).extract 1 2)) W := fun W => add_str W _ _ (by simp; omega)
      clear hrow hq hjoin HS hJ hlen
      generalize brS k = p at *
      go_wp2
      go_region_held (fun _ => True) (trivial)
        (first | (go_at_call 56; refine HC.out.mono ?_; rintro e w5 ⟨rfl, hb5⟩))
      have hb6 : Below w.heap.size w w5 := HBel.out.drew.trans (hb5.mono HBel.out.size)
      go_wp2
      go_ret
      exact ⟨ret_str HS'.out, hb6⟩
end Go.Proofs.YtbdfigfjoiefiaaDoor
