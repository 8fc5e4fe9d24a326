/-
  The contract of keyOf: a prefix's key is its family, its distinguisher and its address as one row of bytes.
-/
import Derived.Test.YtjjhimdjhfdmiaaDoorC2
import Derived.Test.YtjjhimdjhfdmiaaDoorB10
import Derived.Lib.AppendStr
import Derived.LoopN
import Derived.Laws.CopyOwn
namespace Go.Proofs.YtjjhimdjhfdmiaaDoor
open Go.RowKit
/-- The eight bytes of a distinguisher. -/
def rdL (r : Nat) : List UInt8 := [UInt8.ofNat (r / 72057594037927936), UInt8.ofNat (r / 281474976710656 % 256), UInt8.ofNat (r / 1099511627776 % 256), UInt8.ofNat (r / 4294967296 % 256), UInt8.ofNat (r / 16777216 % 256), UInt8.ofNat (r / 65536 % 256), UInt8.ofNat (r / 256 % 256), UInt8.ofNat (r % 256)]
/-- The first nine bytes of a key. -/
def keyHd (f r : Nat) : List UInt8 := UInt8.ofNat f :: rdL r
/-- A key's row. -/
def keyRow (f r : Nat) (s : ByteArray) : ByteArray := ⟨(keyHd f r ++ s.data.toList).toArray⟩
theorem keyHd_length (f r : Nat) : (keyHd f r).length = 9 := rfl
theorem keyRow_size (f r : Nat) (s : ByteArray) : (keyRow f r s).size = 9 + s.size := by
  show (keyHd f r ++ s.data.toList).toArray.size = _
  rw [List.size_toArray, List.length_append, keyHd_length]; simp
/-- The nine cells ahead, as the walk has them. -/
def nine (f r : Nat) : List Value := [.int .u8 f, .int .u8 ((r : Int) / 72057594037927936), .int .u8 ((r : Int) / 281474976710656 % 256), .int .u8 ((r : Int) / 1099511627776 % 256), .int .u8 ((r : Int) / 4294967296 % 256), .int .u8 ((r : Int) / 16777216 % 256), .int .u8 ((r : Int) / 65536 % 256), .int .u8 ((r : Int) / 256 % 256), .int .u8 ((r : Int) % 256)]
theorem u8_cell {x : Nat} {y : Int} (h : (x : Int) = y) (hx : x < 256) : Value.int .u8 y = .int .u8 ((UInt8.ofNat x).toNat : Int) := by
  rw [UInt8.toNat_ofNat', Nat.mod_eq_of_lt (by omega), h]
theorem nine_eq (f r : Nat) (hf : f ≤ 5) (hr : r < 18446744073709551616) : nine f r = (keyHd f r).map fun b => Value.int .u8 (b.toNat : Int) := by
  simp only [nine, keyHd, rdL, List.map_cons, List.map_nil]
  refine List.cons_eq_cons.2 ⟨u8_cell rfl (by omega), ?_⟩
  refine List.cons_eq_cons.2 ⟨u8_cell (by omega) (by omega), ?_⟩
  refine List.cons_eq_cons.2 ⟨u8_cell (by omega) (by omega), ?_⟩
  refine List.cons_eq_cons.2 ⟨u8_cell (by omega) (by omega), ?_⟩
  refine List.cons_eq_cons.2 ⟨u8_cell (by omega) (by omega), ?_⟩
  refine List.cons_eq_cons.2 ⟨u8_cell (by omega) (by omega), ?_⟩
  refine List.cons_eq_cons.2 ⟨u8_cell (by omega) (by omega), ?_⟩
  refine List.cons_eq_cons.2 ⟨u8_cell (by omega) (by omega), ?_⟩
  refine List.cons_eq_cons.2 ⟨u8_cell (by omega) (by omega), rfl⟩
theorem info5 : (Tryd.prog.info? 5).map (fun i => (i.zero, i.size, i.bytes)) = some (some (.int .u8 0), 1, 1) := by kernel_rfl
/-- The append of the address, and the text made of it. -/
theorem key_text (f r n : Nat) (s : ByteArray) (w : World) (g : Nat) (cur : Array Value) (hf : f ≤ 5) (hr : r < 18446744073709551616) (hn : 9 + s.size = n) (hc : cur.size = n) (h9 : cur.toList.take 9 = nine f r) (hg : w.heap[g]? = some (.cells cur 5 (0, 0))) :
    (storeCells ⟨g, 9, none⟩ (List.take s.size (s.data.toList.map fun b => Value.int .u8 (b.toNat : Int)))).run Tryd.prog w = .ok () (w.setRow g ((keyHd f r ++ s.data.toList).map fun b => Value.int .u8 (b.toNat : Int)).toArray) ∧
    (convert 60 9 (.slice (some ⟨g, 0, none⟩) n n)).run Tryd.prog (w.setRow g ((keyHd f r ++ s.data.toList).map fun b => Value.int .u8 (b.toNat : Int)).toArray) = .ok (.string (keyRow f r s)) (w.setRow g ((keyHd f r ++ s.data.toList).map fun b => Value.int .u8 (b.toNat : Int)).toArray) := by
  subst hn
  have e0 : List.take s.size (s.data.toList.map fun b => Value.int .u8 (b.toNat : Int)) = s.data.toList.map fun b => Value.int .u8 (b.toNat : Int) := List.take_of_length_le (by simp)
  have e : cur.toList.take (9 + 0) ++ (s.data.toList.map fun b => Value.int .u8 (b.toNat : Int)) ++ cur.toList.drop (9 + 0 + (s.data.toList.map fun b => Value.int .u8 (b.toNat : Int)).length) = (keyHd f r ++ s.data.toList).map fun b => Value.int .u8 (b.toNat : Int) := by
    rw [Nat.add_zero, h9, nine_eq f r hf hr, List.drop_of_length_le (by simp; omega), List.append_nil, List.map_append]
  refine ⟨?_, ?_⟩
  · have h := run_storeCells_at Tryd.prog g 9 5 (s.data.toList.map fun b => Value.int .u8 (b.toNat : Int)) 0 cur w hg (by simp; omega) (by intro v hv; obtain ⟨b, _, rfl⟩ := List.mem_map.1 hv; rfl)
    rw [e] at h
    rw [e0]
    exact h
  · have h := run_convert_bytes_back (P := Tryd.prog) (w.setRow g ((keyHd f r ++ s.data.toList).map fun b => Value.int .u8 (b.toNat : Int)).toArray) 60 9 5 ⟨g, 0, none⟩ (9 + s.size) (keyHd f r ++ s.data.toList) Tryd.underlying60 Tryd.underlying5 Tryd.underlying9 (fun j hj => by
      rw [show Addr.add ⟨g, 0, none⟩ j = ⟨g, j, none⟩ from by unfold Addr.add; by_cases e : j = 0 <;> simp [e], cell_setRow_same _ _ _ _ _ _ _ hg]
      rw [List.getElem?_toArray, List.getElem?_map, List.getElem?_eq_getElem hj]; rfl)
    rw [List.length_append, keyHd_length, show s.data.toList.length = s.size from by simp] at h
    exact h
/-- The same, the world behind it as a letter. -/
theorem key_text' (f r n : Nat) (s : ByteArray) (w : World) (g : Nat) (cur : Array Value) (hf : f ≤ 5) (hr : r < 18446744073709551616) (hn : 9 + s.size = n) (hc : cur.size = n) (h9 : cur.toList.take 9 = nine f r) (hg : w.heap[g]? = some (.cells cur 5 (0, 0))) :
    ∃ w1, (storeCells ⟨g, 9, none⟩ (List.take s.size (s.data.toList.map fun b => Value.int .u8 (b.toNat : Int)))).run Tryd.prog w = .ok () w1 ∧
      (convert 60 9 (.slice (some ⟨g, 0, none⟩) n n)).run Tryd.prog w1 = .ok (.string (keyRow f r s)) w1 ∧ (∀ b o, b ≠ g → w1.cell? ⟨b, o, none⟩ = w.cell? ⟨b, o, none⟩) ∧ (∀ b o, b ≠ g → w1.frozen? ⟨b, o, none⟩ = w.frozen? ⟨b, o, none⟩) ∧ (∀ B w0, B ≤ g → Below B w0 w → Below B w0 w1) := by
  obtain ⟨h1, h2⟩ := key_text f r n s w g cur hf hr hn hc h9 hg
  exact ⟨_, h1, h2, fun b o hb => cell_setRow_other _ _ _ _ hb, fun b o hb => by unfold World.frozen?; rw [setRow_other _ _ _ _ hb], fun B w0 hB h => below_setRow h hB _⟩
theorem heap_new (w : World) (o : Obj) (b : Nat) (h : b = w.heap.size) : (w.alloc o).heap[b]? = some o := by subst h; exact heap_alloc_new w o
/-- What lies in memory ahead of the last statement. -/
structure KoAt (w wx : World) (f r : Nat) (s : ByteArray) (l n : Nat) : Prop where
  p2 : wx.cell? ⟨w.heap.size, 2, none⟩ = some (.string s)
  p3 : wx.cell? ⟨w.heap.size, 3, none⟩ = some (.int .i64 l)
  k0 : wx.cell? ⟨w.heap.size + 1, 0, none⟩ = some (.string ⟨#[]⟩)
  k1 : wx.cell? ⟨w.heap.size + 1, 1, none⟩ = some (.int .i64 0)
  g0 : wx.frozen? ⟨w.heap.size + 1, 0, none⟩ = false
  g1 : wx.frozen? ⟨w.heap.size + 1, 1, none⟩ = false
  row : ∃ cur, wx.heap[w.heap.size + 1 + 1]? = some (.cells cur 5 (0, 0)) ∧ cur.size = n ∧ cur.toList.take 9 = nine f r
  bel : Below w.heap.size w wx
theorem mk13 (w : World) : (Instr.makeSlice 60 (.int .i64 9) (.int .i64 13)).run Tryd.prog w = .ok (.slice (some ⟨w.heap.size, 0, none⟩) 9 13) (w.alloc (.cells #[.int .u8 0, .int .u8 0, .int .u8 0, .int .u8 0, .int .u8 0, .int .u8 0, .int .u8 0, .int .u8 0, .int .u8 0, .int .u8 0, .int .u8 0, .int .u8 0, .int .u8 0] 5)) := by kernel_rfl
set_option maxRecDepth 100000 in
set_option maxHeartbeats 400000 in
theorem keyOf_4 (f r : Nat) (s : ByteArray) (l : Nat) (w : World) (hs : s.size = 4) (hf : f ≤ 5) (hl : l ≤ 128) (hr : r < 18446744073709551616) :
    Calls Tryd.prog 24 #[.agg #[.int .i64 f, .int .u64 r, .string s, .int .i64 l]] w fun e w' => e = .returned (.agg #[.string (keyRow f r s), .int .i64 ((72 + l : Nat) : Int)]) ∧ Below w.heap.size w w' := by
  have hmk := mk13
  have hs' : (s.size : Int) = 4 := by omega
  go_enter Tryd.func24, Tryd.ntmps24
  go_wp2_with fail
  clear hmk
  refine wp_loop_rounds 9 ?_
  rw [rounds_succ]
  go_wp2_with fail
  rw [rounds_succ]
  go_wp2_with fail
  rw [rounds_succ]
  go_wp2_with fail
  rw [rounds_succ]
  go_wp2_with fail
  rw [rounds_succ]
  go_wp2_with fail
  rw [rounds_succ]
  go_wp2_with fail
  rw [rounds_succ]
  go_wp2_with fail
  rw [rounds_succ]
  go_wp2_with fail
  rw [rounds_succ]
  go_wp2_with fail
  refine with_world (fun wx => KoAt w wx f r s l 13) ?_ ?_
  · refine ⟨?_, ?_, ?_, ?_, ?_, ?_, ⟨_, heap_new _ _ _ (by simp), rfl, rfl⟩, (((Below.refl _ _).alloc (Nat.le_refl _) _).alloc (by simp) _).alloc (by simp; omega) _⟩
    all_goals first | (rw [World.cell?_alloc_past _ _ _ (by simp; try omega), World.cell?_alloc_past _ _ _ (by simp), World.cell?_alloc_at _ _ _ _ rfl]; rfl) | (rw [World.cell?_alloc_past _ _ _ (by simp), World.cell?_alloc_at _ _ _ _ (by simp)]; rfl) | (rw [World.frozen?_alloc_past _ _ _ (by simp), World.frozen?_alloc_at _ _ _ _ (by simp)])
  intro wx hx
  have k := hx
  obtain ⟨cur, hg, hcs, h9⟩ := hx.row
  obtain ⟨w1, hap, hcv, hkc, hkf, hkb⟩ := key_text' f r 13 s wx.drew (w.heap.size + 1 + 1) cur hf hr (by omega) hcs h9 hg
  have q2 := k.p2
  have q3 := k.p3
  have q4 := k.k0
  have q5 := k.k1
  have q6 := k.g0
  have q7 := k.g1
  have r2 := (hkc (w.heap.size) 2 (by omega)).trans k.p2
  have r3 := (hkc (w.heap.size) 3 (by omega)).trans k.p3
  have r4 := (hkc (w.heap.size + 1) 0 (by omega)).trans k.k0
  have r5 := (hkc (w.heap.size + 1) 1 (by omega)).trans k.k1
  have r6 := (hkf (w.heap.size + 1) 0 (by omega)).trans k.g0
  have r7 := (hkf (w.heap.size + 1) 1 (by omega)).trans k.g1
  have hB : Below w.heap.size w w1 := hkb _ _ (by omega) k.bel.drew
  rw [hs] at hap
  have e72 : IntKind.i64.wrap (72 + (l : Int)) = ((72 + l : Nat) : Int) := by rw [IntKind.wrap_i64]; omega
  clear hg h9 hx hkc hkf hkb k
  go_wp2
  go_region_held (fun w' => w'.cell? ⟨w.heap.size, 2, none⟩ = some (.string s) ∧ w'.cell? ⟨w.heap.size, 3, none⟩ = some (.int .i64 l)) (go_keep) (fail)
  go_wp2
  exact bodyPost_ret (v := .agg #[.string (keyRow f r s), .int .i64 ((72 + l : Nat) : Int)]) (by simp [results, Tryd.results24, go_sem, r4, r5]) rfl ⟨rfl, (hB.setCell (by simp) _).setCell (by simp) _⟩
theorem mk25 (w : World) : (Instr.makeSlice 60 (.int .i64 9) (.int .i64 25)).run Tryd.prog w = .ok (.slice (some ⟨w.heap.size, 0, none⟩) 9 25) (w.alloc (.cells #[.int .u8 0, .int .u8 0, .int .u8 0, .int .u8 0, .int .u8 0, .int .u8 0, .int .u8 0, .int .u8 0, .int .u8 0, .int .u8 0, .int .u8 0, .int .u8 0, .int .u8 0, .int .u8 0, .int .u8 0, .int .u8 0, .int .u8 0, .int .u8 0, .int .u8 0, .int .u8 0, .int .u8 0, .int .u8 0, .int .u8 0, .int .u8 0, .int .u8 0] 5)) := by kernel_rfl
set_option maxRecDepth 100000 in
set_option maxHeartbeats 400000 in
theorem keyOf_16 (f r : Nat) (s : ByteArray) (l : Nat) (w : World) (hs : s.size = 16) (hf : f ≤ 5) (hl : l ≤ 128) (hr : r < 18446744073709551616) :
    Calls Tryd.prog 24 #[.agg #[.int .i64 f, .int .u64 r, .string s, .int .i64 l]] w fun e w' => e = .returned (.agg #[.string (keyRow f r s), .int .i64 ((72 + l : Nat) : Int)]) ∧ Below w.heap.size w w' := by
  have hmk := mk25
  have hs' : (s.size : Int) = 16 := by omega
  go_enter Tryd.func24, Tryd.ntmps24
  go_wp2_with fail
  clear hmk
  refine wp_loop_rounds 9 ?_
  rw [rounds_succ]
  go_wp2_with fail
  rw [rounds_succ]
  go_wp2_with fail
  rw [rounds_succ]
  go_wp2_with fail
  rw [rounds_succ]
  go_wp2_with fail
  rw [rounds_succ]
  go_wp2_with fail
  rw [rounds_succ]
  go_wp2_with fail
  rw [rounds_succ]
  go_wp2_with fail
  rw [rounds_succ]
  go_wp2_with fail
  rw [rounds_succ]
  go_wp2_with fail
  refine with_world (fun wx => KoAt w wx f r s l 25) ?_ ?_
  · refine ⟨?_, ?_, ?_, ?_, ?_, ?_, ⟨_, heap_new _ _ _ (by simp), rfl, rfl⟩, (((Below.refl _ _).alloc (Nat.le_refl _) _).alloc (by simp) _).alloc (by simp; omega) _⟩
    all_goals first | (rw [World.cell?_alloc_past _ _ _ (by simp; try omega), World.cell?_alloc_past _ _ _ (by simp), World.cell?_alloc_at _ _ _ _ rfl]; rfl) | (rw [World.cell?_alloc_past _ _ _ (by simp), World.cell?_alloc_at _ _ _ _ (by simp)]; rfl) | (rw [World.frozen?_alloc_past _ _ _ (by simp), World.frozen?_alloc_at _ _ _ _ (by simp)])
  intro wx hx
  have k := hx
  obtain ⟨cur, hg, hcs, h9⟩ := hx.row
  obtain ⟨w1, hap, hcv, hkc, hkf, hkb⟩ := key_text' f r 25 s wx.drew (w.heap.size + 1 + 1) cur hf hr (by omega) hcs h9 hg
  have q2 := k.p2
  have q3 := k.p3
  have q4 := k.k0
  have q5 := k.k1
  have q6 := k.g0
  have q7 := k.g1
  have r2 := (hkc (w.heap.size) 2 (by omega)).trans k.p2
  have r3 := (hkc (w.heap.size) 3 (by omega)).trans k.p3
  have r4 := (hkc (w.heap.size + 1) 0 (by omega)).trans k.k0
  have r5 := (hkc (w.heap.size + 1) 1 (by omega)).trans k.k1
  have r6 := (hkf (w.heap.size + 1) 0 (by omega)).trans k.g0
  have r7 := (hkf (w.heap.size + 1) 1 (by omega)).trans k.g1
  have hB : Below w.heap.size w w1 := hkb _ _ (by omega) k.bel.drew
  rw [hs] at hap
  have e72 : IntKind.i64.wrap (72 + (l : Int)) = ((72 + l : Nat) : Int) := by rw [IntKind.wrap_i64]; omega
  clear hg h9 hx hkc hkf hkb k
  go_wp2
  go_region_held (fun w' => w'.cell? ⟨w.heap.size, 2, none⟩ = some (.string s) ∧ w'.cell? ⟨w.heap.size, 3, none⟩ = some (.int .i64 l)) (go_keep) (fail)
  go_wp2
  exact bodyPost_ret (v := .agg #[.string (keyRow f r s), .int .i64 ((72 + l : Nat) : Int)]) (by simp [results, Tryd.results24, go_sem, r4, r5]) rfl ⟨rfl, (hB.setCell (by simp) _).setCell (by simp) _⟩
theorem keyOf_any (f r : Nat) (s : ByteArray) (l : Nat) (w : World) (hs : s.size = 4 ∨ s.size = 16) (hf : f ≤ 5) (hl : l ≤ 128) (hr : r < 18446744073709551616) :
    Calls Tryd.prog 24 #[.agg #[.int .i64 f, .int .u64 r, .string s, .int .i64 l]] w fun e w' => e = .returned (.agg #[.string (keyRow f r s), .int .i64 ((72 + l : Nat) : Int)]) ∧ Below w.heap.size w w' := by
  rcases hs with hs | hs
  · exact keyOf_4 f r s l w hs hf hl hr
  · exact keyOf_16 f r s l w hs hf hl hr
end Go.Proofs.YtjjhimdjhfdmiaaDoor
