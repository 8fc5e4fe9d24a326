/-
  A stream in memory; what is asked of it.
-/
import Derived.Test.YtlinoklgchfedaaDoorB1
import Derived.Deep.RegionHeld3
namespace Go.Proofs.YtlinoklgchfedaaDoor
open Go.RowKit
/-- The bytes l stand at the front of block b, which has room for 4096. -/
structure BufAt (w : World) (b : Nat) (l : List UInt8) : Prop where
  row : ∃ cs : Array Value, w.heap[b]? = some (.cells cs 5 (0, 0)) ∧ cs.size = 4096 ∧ ∀ (j : Nat) x, l[j]? = some x → cs[j]? = some (.int .u8 (x.toNat : Int))
theorem BufAt.cell {w : World} {b : Nat} {l : List UInt8} (h : BufAt w b l) (j : Nat) (hj : j < l.length) : w.cell? ⟨b, j, none⟩ = some (.int .u8 ((l.getD j 0).toNat : Int)) := by
  obtain ⟨cs, h1, _, h3⟩ := h.row
  refine cl_row h1 ?_
  rw [List.getD_eq_getElem?_getD, List.getElem?_eq_getElem hj]
  exact h3 j _ (List.getElem?_eq_getElem hj)
/-- The waiting bytes' slice. -/
def wv (b : Nat) (s : St) : Value := if s.sub = 0 then .slice (some ⟨b, 0, none⟩) s.wait.length 4096 else .slice none 0 0
structure FrAt (w : World) (p b : Nat) (s : St) : Prop where
  row : w.heap[p]? = some (.cells #[.bool true, wv b s, .int .i64 (vaI s.sub), .int .u8 (vcI s.sub), .int .u8 (s.sub : Int)] 50 (0, 0))
  buf : BufAt w b s.wait
  ne : p ≠ b
  ok : OkS s
theorem FrAt.c0 {w : World} {p b : Nat} {s : St} (h : FrAt w p b s) : w.cell? ⟨p, 0, none⟩ = some (.bool true) := cl_row h.row rfl
theorem FrAt.c1 {w : World} {p b : Nat} {s : St} (h : FrAt w p b s) : w.cell? ⟨p, 1, none⟩ = some (wv b s) := cl_row h.row rfl
theorem FrAt.c2 {w : World} {p b : Nat} {s : St} (h : FrAt w p b s) : w.cell? ⟨p, 2, none⟩ = some (.int .i64 (vaI s.sub)) := cl_row h.row rfl
theorem FrAt.c3 {w : World} {p b : Nat} {s : St} (h : FrAt w p b s) : w.cell? ⟨p, 3, none⟩ = some (.int .u8 (vcI s.sub)) := cl_row h.row rfl
theorem FrAt.c4 {w : World} {p b : Nat} {s : St} (h : FrAt w p b s) : w.cell? ⟨p, 4, none⟩ = some (.int .u8 (s.sub : Int)) := cl_row h.row rfl
theorem FrAt.fz {w : World} {p b : Nat} {s : St} (h : FrAt w p b s) (i : Nat) : w.frozen? ⟨p, i, none⟩ = false := fz_row h.row
theorem FrAt.ltp {w : World} {p b : Nat} {s : St} (h : FrAt w p b s) : p < w.heap.size := lt_of_cell h.c0
theorem BufAt.lt {w : World} {b : Nat} {l : List UInt8} (h : BufAt w b l) : b < w.heap.size := by
  obtain ⟨cs, h1, _⟩ := h.row
  exact (Array.getElem?_eq_some_iff.mp h1).1
theorem BufAt.same {w w' : World} {b : Nat} {l : List UInt8} (h : BufAt w b l) (e : w'.heap[b]? = w.heap[b]?) : BufAt w' b l := by
  obtain ⟨cs, h1, h2⟩ := h.row
  exact ⟨cs, e.trans h1, h2⟩
theorem FrAt.below {w w' : World} {p b B : Nat} {s : St} (h : FrAt w p b s) (hb : Below B w w') (hp : p < B) (hq : b < B) : FrAt w' p b s :=
  ⟨(hb.block p hp).trans h.row, h.buf.same (hb.block b hq), h.ne, h.ok⟩
theorem there_yes (p : Nat) (w : World) (h : w.cell? ⟨p, 0, none⟩ = some (.bool true)) : Calls Tryd.prog 18 #[.pointer (some ⟨p, 0, none⟩)] w fun e w' => e = .returned (.bool true) ∧ w' = w := by
  go_enter Tryd.func18, Tryd.ntmps18
  go_wp2
  go_ret
  exact ⟨rfl, rfl⟩
theorem there_not (p : Nat) (w : World) (h : w.cell? ⟨p, 0, none⟩ = some (.bool false)) : Calls Tryd.prog 18 #[.pointer (some ⟨p, 0, none⟩)] w fun e w' => e = .returned (.bool false) ∧ w' = w := by
  go_enter Tryd.func18, Tryd.ntmps18
  go_wp2
  go_ret
  exact ⟨rfl, rfl⟩
theorem there_nil (w : World) : Calls Tryd.prog 18 #[.pointer none] w fun e w' => e = .returned (.bool false) ∧ w' = w := by
  go_enter Tryd.func18, Tryd.ntmps18
  go_wp2
  go_ret
  exact ⟨rfl, rfl⟩
theorem va_ne (s : Nat) : (vaI s == 0) = decide (s = 0) := by
  unfold vaI
  by_cases h : s = 0
  · simp [h]
  · simp [h]
theorem broken_any (p : Nat) (n : Int) (w : World) (h : w.cell? ⟨p, 2, none⟩ = some (.int .i64 n)) : Calls Tryd.prog 19 #[.pointer (some ⟨p, 0, none⟩)] w fun e w' => e = .returned (.bool (!(n == 0))) ∧ w' = w := by
  go_enter Tryd.func19, Tryd.ntmps19
  go_wp2
  go_ret
  exact ⟨rfl, rfl⟩
theorem info5 : (Tryd.prog.info? 5).map (fun i => (i.zero, i.size, i.bytes)) = some (some (.int .u8 0), 1, 1) := by kernel_rfl
theorem mk_buf (w : World) : (Instr.makeSlice 43 (.int .i64 0) (.int .i64 4096)).run Tryd.prog w = .ok (.slice (some ⟨w.heap.size, 0, none⟩) 0 4096) (w.alloc (.cells (madeCells #[.int .u8 0] 4096) 5)) := by
  obtain ⟨i0, hi, hz0, hz1, hz2⟩ := info_parts info5
  have h := run_make w 43 5 i0 (.int .u8 0) Tryd.underlying43 hi hz0 .i64 .i64 0 4096 (by decide) (by decide) (by rw [hz2]; decide) (by decide)
  rw [hz1] at h
  exact h
theorem new_any (w : World) : Calls Tryd.prog 8 #[] w fun e w' => ∃ p b, e = .returned (.pointer (some ⟨p, 0, none⟩)) ∧ FrAt w' p b st0 ∧ Below w.heap.size w w' ∧ w.heap.size ≤ p ∧ w.heap.size ≤ b := by
  have hm := mk_buf w
  have hb1 : Below w.heap.size w (w.alloc (.cells (madeCells #[.int .u8 0] 4096) 5)) := (Below.refl _ _).alloc (Nat.le_refl _) _
  have hr : (w.alloc (.cells (madeCells #[.int .u8 0] 4096) 5)).heap[w.heap.size]? = some (.cells (madeCells #[.int .u8 0] 4096) 5 (0, 0)) := hp_new rfl
  have hs : (w.alloc (.cells (madeCells #[.int .u8 0] 4096) 5)).heap.size = w.heap.size + 1 := by simp
  generalize w.alloc (.cells (madeCells #[.int .u8 0] 4096) 5) = w1 at *
  have HR : Hid (_ ∧ _ ∧ _) := ⟨hb1, hr, hs⟩
  clear hb1 hr hs
  go_enter Tryd.func8, Tryd.ntmps8
  go_wp2
  go_ret
  obtain ⟨hb1, hr, hs⟩ := HR.out
  refine ⟨w1.heap.size, w.heap.size, rfl, ⟨hp_new rfl, ⟨_, hp_up hr, size_madeCells _ _, fun j x hx => by simp [st0] at hx⟩, by omega, ok0⟩, hb1.alloc hb1.size _, by omega, Nat.le_refl _⟩
theorem i64_or_nat (a b : Nat) (ha : a < 65536) (hb : b < 65536) : bits .or .i64 (a : Int) (b : Int) = ((a ||| b : Nat) : Int) := by
  have hx : a ||| b < 2 ^ 16 := Nat.or_lt_two_pow (by omega) (by omega)
  show IntKind.i64.wrap ((BitVec.ofInt 64 (a : Int) ||| BitVec.ofInt 64 (b : Int)).toNat : Int) = _
  have e (n : Nat) (h : n < 65536) : (BitVec.ofInt 64 (n : Int)).toNat = n := by
    rw [BitVec.toNat_ofInt]; omega
  rw [BitVec.toNat_or, e a ha, e b hb, IntKind.wrap_i64]
  omega
theorem or_len (x y : Nat) (hx : x < 256) (hy : y < 256) : bits .or .i64 ((x : Int) * 256) (y : Int) = ((x * 256 + y : Nat) : Int) := by
  have e : ((x : Int) * 256) = ((x * 256 : Nat) : Int) := by omega
  rw [e, i64_or_nat _ _ (by omega) (by omega)]
  have := Nat.two_pow_add_eq_or_of_lt (i := 8) (b := y) (by omega) x
  rw [Nat.mul_comm x 256]
  exact congrArg Int.ofNat this.symm
theorem lengthOf_any (b n c x y : Nat) (w : World) (hn : 18 ≤ n) (h16 : w.cell? ⟨b, 16, none⟩ = some (.int .u8 (x : Int))) (h17 : w.cell? ⟨b, 17, none⟩ = some (.int .u8 (y : Int))) (hx : x < 256) (hy : y < 256) : Calls Tryd.prog 32 #[.slice (some ⟨b, 0, none⟩) n c] w fun e w' => e = .returned (.int .i64 ((x * 256 + y : Nat) : Int)) ∧ ∃ q, w' = w.drewN q := by
  have HL := or_len x y hx hy
  generalize ((x * 256 + y : Nat) : Int) = z at *
  go_enter Tryd.func32, Tryd.ntmps32
  go_wp2
  go_quiet (fail)
  go_wp2
  go_ret
  exact ⟨rfl, _, rfl⟩
theorem lengthOf_buf (b c : Nat) (l : List UInt8) (w : World) (h : BufAt w b l) (n : Nat) (hn : 18 ≤ n) (hl : n ≤ l.length) : Calls Tryd.prog 32 #[.slice (some ⟨b, 0, none⟩) n c] w fun e w' => e = .returned (.int .i64 (lenI l : Int)) ∧ ∃ q, w' = w.drewN q :=
  lengthOf_any b n c _ _ w hn (h.cell 16 (by omega)) (h.cell 17 (by omega)) (UInt8.toNat_lt _) (UInt8.toNat_lt _)
theorem FrAt.w1 {w : World} {p b : Nat} {a : List UInt8} (h : FrAt w p b ⟨a, 0⟩) : w.cell? ⟨p, 1, none⟩ = some (.slice (some ⟨b, 0, none⟩) a.length 4096) := h.c1
theorem goal_any (p b : Nat) (a : List UInt8) (w : World) (h : FrAt w p b ⟨a, 0⟩) : Calls Tryd.prog 30 #[.pointer (some ⟨p, 0, none⟩)] w fun e w' => e = .returned (.int .i64 (goalI a : Int)) ∧ ∃ q, w' = w.drewN q := by
  have c1 := h.w1
  by_cases hl : a.length < 19
  · have hg : goalI a = 19 := by unfold goalI; rw [if_pos hl]
    rw [hg]
    clear hg h
    have hl' : (a.length : Int) < 19 := by omega
    go_enter Tryd.func30, Tryd.ntmps30
    go_wp2
    go_ret
    exact ⟨rfl, 0, rfl⟩
  · have hg : goalI a = lenI a := by unfold goalI; rw [if_neg hl]
    rw [hg]
    have HC : Hid (_ : Prop) := lengthOf_buf b 4096 a w h.buf a.length (by omega) (Nat.le_refl _)
    clear hg h
    have hl' : (19 : Int) ≤ a.length := by omega
    clear hl
    go_enter Tryd.func30, Tryd.ntmps30
    go_wp2_with fail
    refine Calls.mono HC.out ?_
    rintro e w1 ⟨rfl, q, rfl⟩
    go_wp2
    go_ret
    exact ⟨rfl, q, rfl⟩
theorem row_same (w : World) (b : Nat) (old c : Array Value) {t : TypeId} (h : w.heap[b]? = some (.cells old t (0, 0))) : (w.setRow b c).heap[b]? = some (.cells c t (0, 0)) := by
  show (w.heap.modify b _)[b]? = _
  rw [Array.getElem?_modify, if_pos rfl, h]
  rfl
/-- Bytes of a text, laid behind those that wait. -/
theorem copy_str (w : World) (b o d dc : Nat) (c : List UInt8) (cur : Array Value) (hg : w.heap[b]? = some (.cells cur 5 (0, 0))) (hf : o + d ≤ cur.size) :
    (Builtin.copy_ #[43, 9] 3 #[.slice (some ⟨b, o, none⟩) d dc, .string ⟨c.toArray⟩]).run Tryd.prog w = .ok (.int .i64 ((c.take d).length : Int)) (w.setRow b (cur.toList.take o ++ (c.take d).map (fun x => Value.int .u8 (x.toNat : Int)) ++ cur.toList.drop (o + (c.take d).length)).toArray) := by
  have hst := run_storeCells_at Tryd.prog b o 5 ((c.take d).map (fun x => Value.int .u8 (x.toNat : Int))) 0 cur w hg (by simp; omega) (fun v hv => by obtain ⟨x, _, rfl⟩ := List.mem_map.1 hv; rfl)
  obtain ⟨i0, hi, hz0, hz1, hz2⟩ := info_parts info5
  have hn : Nat.min c.length d = min c.length d := rfl
  simp only [List.length_map, Nat.add_zero] at hst
  simp [Builtin.copy_, run_underlying Tryd.underlying43, Builtin.lenOf, Builtin.firstCells, sizeOf, typeInfo, hi, list_size, hn, goInt]
  have e1 : List.take (min c.length d) (c.map (fun x => Value.int .u8 (x.toNat : Int))) = (c.take d).map (fun x => Value.int .u8 (x.toNat : Int)) := by
    rw [List.map_take, List.take_eq_take_iff]
    simp
    omega
  rw [e1, hst]
  simp [Nat.min_comm]
/-- The buffer behind the copy. -/
theorem BufAt.copy {w : World} {b : Nat} {a : List UInt8} (h : BufAt w b a) (c : List UInt8) (d dc : Nat) (hf : a.length + d ≤ 4096) :
    ∃ w', (Builtin.copy_ #[43, 9] 3 #[.slice (some ⟨b, a.length, none⟩) d dc, .string ⟨c.toArray⟩]).run Tryd.prog w = .ok (.int .i64 ((c.take d).length : Int)) w' ∧ BufAt w' b (a ++ c.take d) ∧ (∀ p, Beside p b w w') ∧ (∀ p, p ≠ b → w'.heap[p]? = w.heap[p]?) := by
  obtain ⟨cs, h1, h2, h3⟩ := h.row
  have hc := copy_str w b a.length d dc c cs h1 (by omega)
  have hr := row_same w b cs (cs.toList.take a.length ++ (c.take d).map (fun x => Value.int .u8 (x.toNat : Int)) ++ cs.toList.drop (a.length + (c.take d).length)).toArray h1
  refine ⟨_, hc, ⟨_, hr, ?_, ?_⟩, fun p => Beside.row w _, fun p hp => ?_⟩
  · have hl : (c.take d).length ≤ d := by rw [List.length_take]; omega
    simp only [List.size_toArray, List.length_append, List.length_take, List.length_map, List.length_drop, Array.length_toList] at hl ⊢
    omega
  · intro j x hx
    rw [List.getElem?_toArray]
    have ha : (cs.toList.take a.length).length = a.length := by
      have hcl : cs.toList.length = 4096 := by simpa using h2
      rw [List.length_take, hcl]; omega
    by_cases hj : j < a.length
    · rw [List.getElem?_append_left hj] at hx
      rw [List.append_assoc, List.getElem?_append_left (by omega), List.getElem?_take, if_pos hj, Array.getElem?_toList]
      exact h3 j x hx
    · rw [List.getElem?_append_right (by omega)] at hx
      have hj2 : j - a.length < (c.take d).length := (List.getElem?_eq_some_iff.1 hx).1
      rw [List.append_assoc, List.getElem?_append_right (by omega), ha, List.getElem?_append_left (by rw [List.length_map]; exact hj2), List.getElem?_map, hx]
      rfl
  · show (w.heap.modify b _)[p]? = _
    rw [Array.getElem?_modify, if_neg (fun e => hp e.symm)]
end Go.Proofs.YtlinoklgchfedaaDoor
