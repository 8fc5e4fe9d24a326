/-
  What is known of families: the array that families makes.
-/
import Derived.Test.YtlhnfejgkhilkaaGreatDoorWA
import Derived.Laws.Rows
import Derived.Laws.Tables
import Derived.LoopN
import Derived.Laws.CopyOwn
namespace Go.Proofs.YtlhnfejgkhilkaaGreatDoor
open Go.RowKit
theorem hp_new {W : World} {o : Obj} {n : Nat} (hn : n = W.heap.size) : (W.alloc o).heap[n]? = some o := by
  subst hn
  show (W.heap.push o)[W.heap.size]? = some o
  simp
theorem hp_up {W : World} {o x : Obj} {n : Nat} (h : W.heap[n]? = some x) : (W.alloc o).heap[n]? = some x := by rw [Below.heap_alloc _ _ _ (Array.getElem?_eq_some_iff.mp h).1]; exact h
theorem cl_row {w : World} {k i : Nat} {cs : Array Value} {t : TypeId} {v : Value} (hk : w.heap[k]? = some (.cells cs t (0, 0))) (hi : cs[i]? = some v) : w.cell? ⟨k, i, none⟩ = some v := by
  rw [World.cell?, hk]
  exact hi
theorem fz_row {w : World} {k i : Nat} {cs : Array Value} {t : TypeId} (hk : w.heap[k]? = some (.cells cs t (0, 0))) : w.frozen? ⟨k, i, none⟩ = false := by
  simp [World.frozen?, hk]
/-- The eight bytes that stand where a next hop has room for a distinguisher. -/
def no8 : ByteArray := ⟨#[0, 0, 0, 0, 0, 0, 0, 0]⟩
/-- What is known of a family: its pair, the size of its next hops, what stands ahead of them, and whether a second one may follow. -/
def famC (h0 h1 h2 h3 h4 h5 : Int) : Array Value := #[.int .u16 0, .int .u8 0, .int .i64 h0, .string ⟨#[]⟩, .bool false, .int .u16 1, .int .u8 1, .int .i64 h1, .string ⟨#[]⟩, .bool false, .int .u16 2, .int .u8 1, .int .i64 h2, .string ⟨#[]⟩, .bool true, .int .u16 1, .int .u8 4, .int .i64 h3, .string ⟨#[]⟩, .bool false, .int .u16 1, .int .u8 128, .int .i64 h4, .string ⟨#[0, 0, 0, 0, 0, 0, 0, 0]⟩, .bool false, .int .u16 2, .int .u8 128, .int .i64 h5, .string ⟨#[0, 0, 0, 0, 0, 0, 0, 0]⟩, .bool false]
def famN : Array Value := #[.int .u16 0, .int .u8 0, .int .i64 0, .string ⟨#[]⟩, .bool false, .int .u16 0, .int .u8 0, .int .i64 0, .string ⟨#[]⟩, .bool false, .int .u16 0, .int .u8 0, .int .i64 0, .string ⟨#[]⟩, .bool false, .int .u16 0, .int .u8 0, .int .i64 0, .string ⟨#[]⟩, .bool false, .int .u16 0, .int .u8 0, .int .i64 0, .string ⟨#[]⟩, .bool false, .int .u16 0, .int .u8 0, .int .i64 0, .string ⟨#[]⟩, .bool false]
def famV : Array Value := famC 0 4 16 4 4 16
def famK (k : Nat) : Array Value := famC 0 (if 1 < k then 4 else 0) (if 2 < k then 16 else 0) (if 3 < k then 4 else 0) (if 4 < k then 4 else 0) (if 5 < k then 16 else 0)
structure FmAt (w wr : World) (k : Nat) (z : Array Value) : Prop where
  row : wr.heap[w.heap.size + 1]? = some (.cells (famK k) 112 (0, 0))
  res : wr.heap[w.heap.size]? = some (.cells z 112 (0, 0))
  bel : Below w.heap.size w wr
theorem FmAt.next {w wr : World} {k : Nat} {z : Array Value} (h : FmAt w wr k z) (i : Nat) (v : Value) (he : (famK k).setIfInBounds i v = famK (k + 1)) : FmAt w (wr.setCell ⟨w.heap.size + 1, i, none⟩ v) (k + 1) z := by
  refine ⟨?_, ?_, h.bel.setCell (by simp) _⟩
  · have := heap_setCell_same wr (w.heap.size + 1) i (famK k) 112 v h.row
    rw [he] at this
    exact this
  · rw [Below.heap_setCell _ _ _ _ (by simp)]; exact h.res
theorem row_same (w : World) (b : Nat) (old c : Array Value) {t : TypeId} (h : w.heap[b]? = some (.cells old t (0, 0))) : (w.setRow b c).heap[b]? = some (.cells c t (0, 0)) := by
  show (w.heap.modify b _)[b]? = _
  rw [Array.getElem?_modify, if_pos rfl, h]
  rfl
theorem row_other (w : World) (b k : Nat) (c : Array Value) (hne : k ≠ b) : (w.setRow b c).heap[k]? = w.heap[k]? := by
  show (w.heap.modify b _)[k]? = _
  rw [Array.getElem?_modify, if_neg (fun e => hne e.symm)]
theorem size58 : (Tryz.prog.info? 112).map (·.size) = some 30 := by kernel_rfl
theorem one58 (a b c d e f : Int) : (famC a b c d e f).all (·.oneCell') = true := by simp [famC, Value.oneCell']
set_option maxRecDepth 100000 in
set_option maxHeartbeats 3200000 in
theorem families_any (w : World) (hg : FamSizes w) : Calls Tryz.prog 77 #[] w fun e w' => e = .returned (.agg famV) ∧ Below w.heap.size w w' := by
  have HG : Hid (FamSizes w) := hg
  clear hg
  go_enter Tryz.func77, Tryz.ntmps77
  go_wp2_with (refine wpList_store_row rfl 112 _ _ rfl (w.heap.size + 1) (famC 0 0 0 0 0 0) rfl rfl 112 _ (hp_new (by simp)) size58 rfl (one58 _ _ _ _ _ _) ?_)
  refine with_world (fun W => ∃ z : Array Value, z.size = 30 ∧ FmAt w W 0 z) ⟨famN, rfl, ?fm⟩ ?_
  case fm =>
    refine ⟨?_, ?_, ?_⟩
    · exact row_same _ _ _ _ (hp_new (by simp))
    · exact (row_other _ _ _ _ (by simp)).trans (hp_up (hp_new rfl))
    · exact below_setRow (((Below.refl _ _).alloc (Nat.le_refl _) _).alloc (by simp) _) (by simp) _
  · rintro W ⟨z, hz, hW⟩
    have HZ : Hid (z.size = 30) := hz
    have HW : Hid (FmAt w W 0 z) := hW
    clear hz hW
    go_loopw [9] (fun i wr => ∃ k : Nat, k ≤ 6 ∧ i = .int .i64 k ∧ FmAt w wr k z) (fun i _ => 6 - (intOf i).toNat)
    case atStart => exact ⟨0, by omega, rfl, HW.out⟩
    case round =>
      obtain ⟨k, hk, rfl, hF⟩ := hrel
      by_cases hlt : k < 6
      · have hc : k = 0 ∨ k = 1 ∨ k = 2 ∨ k = 3 ∨ k = 4 ∨ k = 5 := by omega
        have HG2 : Hid (FamSizes wr) := HG.out.below hF.bel
        rcases hc with rfl | rfl | rfl | rfl | rfl | rfl
        · have c := cl_row (i := 2) hF.row rfl
          have z := fz_row (i := 2) hF.row
          have HN : Hid (FmAt w (wr.setCell ⟨w.heap.size + 1, 2, none⟩ (.int .i64 (szOf 0))) 1 _) := hF.next 2 _ rfl
          have HK : Hid (_ : Prop) := size_any 0 wr HG2.out
          clear hF HG2
          go_wp2_with (go_at_call 91; refine Calls.mono HK.out ?_; rintro e w' ⟨rfl, rfl⟩)
          go_roundw
          case rel => exact ⟨1, by omega, rfl, HN.out⟩
          case measure => simp [intOf]
        · have c := cl_row (i := 7) hF.row rfl
          have z := fz_row (i := 7) hF.row
          have HN : Hid (FmAt w (wr.setCell ⟨w.heap.size + 1, 7, none⟩ (.int .i64 (szOf 1))) 2 _) := hF.next 7 _ rfl
          have HK : Hid (_ : Prop) := size_any 1 wr HG2.out
          clear hF HG2
          go_wp2_with (go_at_call 91; refine Calls.mono HK.out ?_; rintro e w' ⟨rfl, rfl⟩)
          go_roundw
          case rel => exact ⟨2, by omega, rfl, HN.out⟩
          case measure => simp [intOf]
        · have c := cl_row (i := 12) hF.row rfl
          have z := fz_row (i := 12) hF.row
          have HN : Hid (FmAt w (wr.setCell ⟨w.heap.size + 1, 12, none⟩ (.int .i64 (szOf 2))) 3 _) := hF.next 12 _ rfl
          have HK : Hid (_ : Prop) := size_any 2 wr HG2.out
          clear hF HG2
          go_wp2_with (go_at_call 91; refine Calls.mono HK.out ?_; rintro e w' ⟨rfl, rfl⟩)
          go_roundw
          case rel => exact ⟨3, by omega, rfl, HN.out⟩
          case measure => simp [intOf]
        · have c := cl_row (i := 17) hF.row rfl
          have z := fz_row (i := 17) hF.row
          have HN : Hid (FmAt w (wr.setCell ⟨w.heap.size + 1, 17, none⟩ (.int .i64 (szOf 3))) 4 _) := hF.next 17 _ rfl
          have HK : Hid (_ : Prop) := size_any 3 wr HG2.out
          clear hF HG2
          go_wp2_with (go_at_call 91; refine Calls.mono HK.out ?_; rintro e w' ⟨rfl, rfl⟩)
          go_roundw
          case rel => exact ⟨4, by omega, rfl, HN.out⟩
          case measure => simp [intOf]
        · have c := cl_row (i := 22) hF.row rfl
          have z := fz_row (i := 22) hF.row
          have HN : Hid (FmAt w (wr.setCell ⟨w.heap.size + 1, 22, none⟩ (.int .i64 (szOf 4))) 5 _) := hF.next 22 _ rfl
          have HK : Hid (_ : Prop) := size_any 4 wr HG2.out
          clear hF HG2
          go_wp2_with (go_at_call 91; refine Calls.mono HK.out ?_; rintro e w' ⟨rfl, rfl⟩)
          go_roundw
          case rel => exact ⟨5, by omega, rfl, HN.out⟩
          case measure => simp [intOf]
        · have c := cl_row (i := 27) hF.row rfl
          have z := fz_row (i := 27) hF.row
          have HN : Hid (FmAt w (wr.setCell ⟨w.heap.size + 1, 27, none⟩ (.int .i64 (szOf 5))) 6 _) := hF.next 27 _ rfl
          have HK : Hid (_ : Prop) := size_any 5 wr HG2.out
          clear hF HG2
          go_wp2_with (go_at_call 91; refine Calls.mono HK.out ?_; rintro e w' ⟨rfl, rfl⟩)
          go_roundw
          case rel => exact ⟨6, by omega, rfl, HN.out⟩
          case measure => simp [intOf]
      · obtain rfl : k = 6 := by omega
        have HF : Hid (FmAt w wr 6 z) := hF
        clear hF
        go_wp2_with (first | (refine wpList_load_row rfl 112 _ rfl (w.heap.size + 1) rfl 112 (famK 6) (0, 0) _ HF.out.row Tryz.underlying112 rfl size58 ?_) | (refine wpList_store_row rfl 112 _ _ rfl w.heap.size (famK 6) rfl rfl 112 _ HF.out.res size58 HZ.out (one58 _ _ _ _ _ _) ?_))
        refine bodyPost_ret (v := .agg famV) (results_cell_row (P := Tryz.prog) rfl _ _ w.heap.size 112 famV (0, 0) _ rfl (row_same _ _ _ _ HF.out.res) Tryz.underlying112 rfl size58) rfl ⟨rfl, below_setRow HF.out.bel (Nat.le_refl _) _⟩
end Go.Proofs.YtlhnfejgkhilkaaGreatDoor
