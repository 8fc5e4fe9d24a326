/-
  The contract of head: the first n bits of an address of at most 16 bytes, in any world; nothing that was there is changed.
-/
import Derived.Test.YthaebbmekonacaaGreatDoorpB2
import Derived.Laws.IdiomStrings
import Derived.RegionTactic
import Derived.Deep.RegionWith
namespace Go.Proofs.YthaebbmekonacaaGreatDoor.Pr
open Go.RowKit

/-- A row of bytes that lies in block b and may be written. -/
def Row (w : World) (b : Nat) (l : List UInt8) : Prop := ∀ j (hj : j < l.length), w.cell? ⟨b, j, none⟩ = some (.int .u8 (l[j].toNat : Int)) ∧ w.frozen? ⟨b, j, none⟩ = false

theorem Row.of_bytes (w : World) (b : Nat) (s : ByteArray) (cap : Nat) (e : TypeId) (h : b = w.heap.size) :
    Row (w.alloc (.cells (bytesRow s cap) e ((bytesRow s cap).size, (bytesRow s cap).size + 1))) b s.data.toList := by
  subst h
  intro j hj
  have hj' : j < s.data.size := by simpa using hj
  refine ⟨?_, ?_⟩
  · rw [World.cell?_alloc_mark, bytesRow_at _ _ _ hj']; simp
  · rw [World.frozen?_alloc_mark]
    have : s.data.size ≤ (bytesRow s cap).size := by simp [bytesRow]
    simp; omega
theorem Row.drew {w : World} {b : Nat} {l : List UInt8} (h : Row w b l) : Row w.drew b l := h
theorem Row.set {w : World} {b : Nat} {l : List UInt8} (h : Row w b l) (k : Nat) (x : UInt8) : Row (w.setCell ⟨b, k, none⟩ (.int .u8 (x.toNat : Int))) b (l.set k x) := by
  intro j hj
  have hj' : j < l.length := by simpa using hj
  obtain ⟨h1, h2⟩ := h j hj'
  refine ⟨?_, by rw [World.frozen?_setCell]; exact h2⟩
  by_cases e : k = j
  · subst e
    rw [World.cell?_setCell_same _ _ _ h1]; simp
  · rw [World.cell?_setCell_other _ _ _ _ (by intro h; injection h; omega), h1]
    simp [e]
/-- The four cells of a prefix that lies at the head of block b. -/
structure PfxAt (w : World) (b : Nat) (f r : Int) (s : ByteArray) (l : Int) : Prop where
  c0 : w.cell? ⟨b, 0, none⟩ = some (.int .i64 f)
  c1 : w.cell? ⟨b, 1, none⟩ = some (.int .u64 r)
  c2 : w.cell? ⟨b, 2, none⟩ = some (.string s)
  c3 : w.cell? ⟨b, 3, none⟩ = some (.int .i64 l)
  f0 : w.frozen? ⟨b, 0, none⟩ = false
  f1 : w.frozen? ⟨b, 1, none⟩ = false
  f2 : w.frozen? ⟨b, 2, none⟩ = false
  f3 : w.frozen? ⟨b, 3, none⟩ = false
theorem PfxAt.of_alloc (w : World) (b : Nat) (f r : Int) (s : ByteArray) (l : Int) (h : b = w.heap.size) :
    PfxAt (w.alloc (.cells #[.int .i64 f, .int .u64 r, .string s, .int .i64 l] 50)) b f r s l := by
  subst h
  constructor <;> simp
theorem PfxAt.kept {w w' : World} {b B : Nat} {f r : Int} {s : ByteArray} {l : Int} (h : PfxAt w b f r s l) (hb : Below B w w') (hB : b < B) : PfxAt w' b f r s l := by
  obtain ⟨c0, c1, c2, c3, f0, f1, f2, f3⟩ := h
  exact ⟨(hb.cell (p := ⟨b, 0, none⟩) hB).trans c0, (hb.cell (p := ⟨b, 1, none⟩) hB).trans c1, (hb.cell (p := ⟨b, 2, none⟩) hB).trans c2, (hb.cell (p := ⟨b, 3, none⟩) hB).trans c3,
    (hb.frozen (p := ⟨b, 0, none⟩) hB).trans f0, (hb.frozen (p := ⟨b, 1, none⟩) hB).trans f1, (hb.frozen (p := ⟨b, 2, none⟩) hB).trans f2, (hb.frozen (p := ⟨b, 3, none⟩) hB).trans f3⟩

theorem PfxAt.set_other {w : World} {b : Nat} {f r : Int} {s : ByteArray} {l : Int} (h : PfxAt w b f r s l) (a : Addr) (v : Value) (hb : a.block ≠ b) : PfxAt (w.setCell a v) b f r s l := by
  obtain ⟨c0, c1, c2, c3, f0, f1, f2, f3⟩ := h
  have ne : ∀ i, a ≠ ⟨b, i, none⟩ := fun i e => hb (by rw [e])
  exact ⟨by rw [World.cell?_setCell_other _ _ _ _ (ne _)]; exact c0, by rw [World.cell?_setCell_other _ _ _ _ (ne _)]; exact c1, by rw [World.cell?_setCell_other _ _ _ _ (ne _)]; exact c2, by rw [World.cell?_setCell_other _ _ _ _ (ne _)]; exact c3,
    by rw [World.frozen?_setCell]; exact f0, by rw [World.frozen?_setCell]; exact f1, by rw [World.frozen?_setCell]; exact f2, by rw [World.frozen?_setCell]; exact f3⟩
theorem PfxAt.drew {w : World} {b : Nat} {f r : Int} {s : ByteArray} {l : Int} (h : PfxAt w b f r s l) : PfxAt w.drew b f r s l := ⟨h.c0, h.c1, h.c2, h.c3, h.f0, h.f1, h.f2, h.f3⟩

set_option maxRecDepth 100000 in
set_option maxHeartbeats 400000 in
theorem head_any (f r : Int) (s : ByteArray) (l n : Int) (w : World) (hs : s.size ≤ 16) (h0 : 0 ≤ n) (h1 : n ≤ 128) :
    Calls Tryz.prog 194 #[.agg #[.int .i64 f, .int .u64 r, .string s, .int .i64 l], .int .i64 n] w fun e w' =>
      e = .returned (.agg #[.int .i64 f, .int .u64 r, .string ⟨(msk s.data.toList n).toArray⟩, .int .i64 n]) ∧ Below w.heap.size w w' := by
  have hb := fun wx => run_bytes_of_string (P := Tryz.prog) wx 9 180 5 s Tryz.underlying9 Tryz.underlying180 Tryz.underlying5
  go_enter Tryz.func194, Tryz.ntmps194
  go_wp2_with fail
  clear hb
  generalize grownCap ((w.alloc _).alloc _) s.size 0 5 = cap
  go_loopw [12] (fun i wr => ∃ k : Nat, k ≤ s.size ∧ i = .int .i64 k ∧ Row wr (w.heap.size + 1 + 1) (mskTo s.data.toList n k) ∧ PfxAt wr w.heap.size f r s l ∧ PfxAt wr (w.heap.size + 1) 0 0 ⟨#[]⟩ 0 ∧ Below w.heap.size w wr)
    (fun i _ => s.size - (intOf i).toNat)
  case atStart => 
    refine ⟨0, Nat.zero_le _, rfl, ?_, ?_, ?_, ?_⟩
    · rw [mskTo_zero]
      exact (Row.of_bytes _ _ s cap 5 (by simp)).drew
    · exact (PfxAt.of_alloc w _ f r s l rfl).kept (B := w.heap.size + 1) (((Below.refl _ _).alloc (by simp) _).alloc (by simp) _).drew (by simp)
    · exact (PfxAt.of_alloc (w.alloc _) _ 0 0 ⟨#[]⟩ 0 (by simp)).kept (B := w.heap.size + 1 + 1) ((Below.refl _ _).alloc (by simp) _).drew (by simp)
    · exact ((((Below.refl _ _).alloc (by simp) _).alloc (by simp) _).alloc (by simp; omega) _).drew
  case round =>
    obtain ⟨k, hk, rfl, hrow, hp0, hp1, hbel⟩ := hrel
    by_cases hlt : k < s.size
    · have hk' : k < (mskTo s.data.toList n k).length := by rw [mskTo_length]; simpa using hlt
      have hc := (hrow k hk').1
      have hf := (hrow k hk').2
      rw [mskTo_at] at hc
      have e8 : IntKind.i64.wrap (8 * (k : Int)) = 8 * k := by rw [IntKind.wrap_i64]; omega
      have e9 : IntKind.i64.wrap (n - 8 * (k : Int)) = n - 8 * k := by rw [IntKind.wrap_i64]; omega
      go_wp2
      go_region_with (go_at_call 209; refine (mask_any _ _ (by omega) (by omega)).mono ?_; rintro e w' ⟨rfl, rfl⟩)
      all_goals
        go_wp2
        go_roundw
        case rel =>
          have hrow' := hrow.set k (s.data[k] &&& mk (n - 8 * k))
          rw [← and_u8] at hrow'
          refine ⟨k + 1, by omega, by go_num, ?_, (hp0.set_other _ _ (by simp; omega)).drew, (hp1.set_other _ _ (by simp)).drew, (hbel.setCell (by simp; omega) _).drew⟩
          rw [mskTo_succ _ _ _ (by simpa using hlt)]
          exact hrow'.drew
        case measure => simp [intOf]; omega
    · obtain rfl : k = s.size := by omega
      rw [mskTo_all _ _ _ (by simp)] at hrow
      have hback := run_convert_bytes_back (P := Tryz.prog) wr 180 9 5 ⟨w.heap.size + 1 + 1, 0, none⟩ cap (msk s.data.toList n) Tryz.underlying180 Tryz.underlying5 Tryz.underlying9 (fun j hj => by rw [show Addr.add ⟨w.heap.size + 1 + 1, 0, none⟩ j = ⟨w.heap.size + 1 + 1, j, none⟩ from by unfold Addr.add; by_cases e : j = 0 <;> simp [e]]; exact (hrow j hj).1)
      rw [msk_length, show s.data.toList.length = s.size from by simp] at hback
      obtain ⟨c0, c1, c2, c3, f0, f1, f2, f3⟩ := hp0
      obtain ⟨d0, d1, d2, d3, g0, g1, g2, g3⟩ := hp1
      clear hrow
      go_wp2
      exact bodyPost_ret (v := .agg #[.int .i64 f, .int .u64 r, .string ⟨(msk s.data.toList n).toArray⟩, .int .i64 n]) (by simp [results, Tryz.results194, go_sem, d0, d1, d2, d3]) rfl
        ⟨rfl, (((((hbel.setCell (by simp) _).setCell (by simp) _).setCell (by simp) _).setCell (by simp) _).setCell (by simp) _).setCell (by simp) _⟩
end Go.Proofs.YthaebbmekonacaaGreatDoor.Pr
