/-
  Contracts of the small functions of package prim and of the reference: sizes, bits, masks, orders; each for every argument of its kind.
-/
import Derived.Test.YthaebbmekonacaaGreatDoorProg
import Derived.WalkKit
import Derived.WalkSpells
import Derived.WalkLawsBesides
import Derived.Laws.BitsAllLaws
import Derived.Lib.RabinKarpLaws
import Derived.RowKit
import Derived.Laws.IdiomStrings
import Derived.RegionTactic
import Derived.Deep.RegionWith
import Derived.Deep.RegionHeld
namespace Go.Proofs.YthaebbmekonacaaGreatDoor.Pr
open Go.RowKit

/-- The size of a family's addresses. -/
def szOf (n : Int) : Int := if n = 1 ∨ n = 3 ∨ n = 4 then 4 else if n = 2 ∨ n = 5 then 16 else 0

/-- The sizes in the table of families. -/
structure FamSizes (w : World) : Prop where
  c0 : w.cell? ⟨1, 1, none⟩ = some (.int .i64 0)
  c1 : w.cell? ⟨1, 4, none⟩ = some (.int .i64 4)
  c2 : w.cell? ⟨1, 7, none⟩ = some (.int .i64 16)
  c3 : w.cell? ⟨1, 10, none⟩ = some (.int .i64 4)
  c4 : w.cell? ⟨1, 13, none⟩ = some (.int .i64 4)
  c5 : w.cell? ⟨1, 16, none⟩ = some (.int .i64 16)

set_option maxHeartbeats 400000 in
theorem size_any (n : Int) (w : World) (hg : FamSizes w) :
    Calls Tryz.prog 117 #[.int .i64 n] w fun e w' => e = .returned (.int .i64 (szOf n)) ∧ w' = w := by
  by_cases h1 : n < 0
  · have hz : szOf n = 0 := by unfold szOf; rw [if_neg (by omega), if_neg (by omega)]
    rw [hz]
    clear hz
    go_enter Tryz.func117, Tryz.ntmps117
    go_wp2
    go_ret
    exact ⟨rfl, rfl⟩
  · by_cases h2 : 6 ≤ n
    · have hz : szOf n = 0 := by unfold szOf; rw [if_neg (by omega), if_neg (by omega)]
      rw [hz]
      clear hz
      go_enter Tryz.func117, Tryz.ntmps117
      go_wp2
      go_ret
      exact ⟨rfl, rfl⟩
    · obtain ⟨c0, c1, c2, c3, c4, c5⟩ := hg
      have h : n = 0 ∨ n = 1 ∨ n = 2 ∨ n = 3 ∨ n = 4 ∨ n = 5 := by omega
      clear h1 h2
      rcases h with rfl | rfl | rfl | rfl | rfl | rfl
      all_goals
        go_enter Tryz.func117, Tryz.ntmps117
        go_wp2
        go_ret
        exact ⟨rfl, rfl⟩

end Go.Proofs.YthaebbmekonacaaGreatDoor.Pr

namespace Go.Proofs.YthaebbmekonacaaGreatDoor.Pr

/-- A byte's first n bits. -/
def mk (n : Int) : UInt8 := if n ≤ 0 then 0 else if 8 ≤ n then 255 else UInt8.ofNat (255 * 2 ^ (8 - n).toNat % 256)
/-- The first n bits of bytes, of the first k bytes alone. -/
def mskTo (l : List UInt8) (n : Int) (k : Nat) : List UInt8 := l.mapIdx (fun i b => if i < k then b &&& mk (n - 8 * i) else b)
/-- The first n bits of bytes. -/
def msk (l : List UInt8) (n : Int) : List UInt8 := l.mapIdx (fun i b => b &&& mk (n - 8 * i))
theorem mskTo_zero (l : List UInt8) (n : Int) : mskTo l n 0 = l := by
  apply List.ext_getElem
  · simp [mskTo]
  · intro i h1 h2; simp [mskTo]
theorem mskTo_all (l : List UInt8) (n : Int) (k : Nat) (h : l.length ≤ k) : mskTo l n k = msk l n := by
  apply List.ext_getElem
  · simp [mskTo, msk]
  · intro i h1 h2
    have : i < k := by simp [mskTo] at h1; omega
    simp [mskTo, msk, this]
theorem mskTo_length (l : List UInt8) (n : Int) (k : Nat) : (mskTo l n k).length = l.length := by simp [mskTo]
theorem msk_length (l : List UInt8) (n : Int) : (msk l n).length = l.length := by simp [msk]
theorem mskTo_at (l : List UInt8) (n : Int) (k : Nat) (h : k < (mskTo l n k).length) : (mskTo l n k)[k] = l[k]'(by simpa [mskTo] using h) := by simp [mskTo]
theorem mskTo_succ (l : List UInt8) (n : Int) (k : Nat) (h : k < l.length) : mskTo l n (k + 1) = (mskTo l n k).set k (l[k] &&& mk (n - 8 * k)) := by
  apply List.ext_getElem
  · simp [mskTo]
  · intro i h1 h2
    simp only [mskTo, List.getElem_mapIdx, List.getElem_set]
    by_cases e : k = i
    · subst e; simp
    · by_cases g : i < k
      · simp [e, g, show i < k + 1 by omega]
      · simp [e, g, show ¬ i < k + 1 by omega]
theorem and_u8 (a b : UInt8) : bits .and .u8 (a.toNat : Int) (b.toNat : Int) = ((a &&& b).toNat : Int) := by
  rw [u8_and_nat _ _ a.toNat_lt b.toNat_lt]; simp
theorem mk_toNat (n : Int) (h0 : 0 ≤ n) (h1 : n ≤ 8) : ((mk n).toNat : Int) = 255 * 2 ^ (8 - n).toNat % 256 := by
  have h : n = 0 ∨ n = 1 ∨ n = 2 ∨ n = 3 ∨ n = 4 ∨ n = 5 ∨ n = 6 ∨ n = 7 ∨ n = 8 := by omega
  rcases h with rfl | rfl | rfl | rfl | rfl | rfl | rfl | rfl | rfl <;> decide
theorem mk_neg (n : Int) (h0 : n < 0) : ((mk n).toNat : Int) = 0 := by simp [mk, show n ≤ 0 by omega]
theorem mk_big (n : Int) (h0 : 8 ≤ n) : ((mk n).toNat : Int) = 255 := by simp [mk, show ¬ n ≤ 0 by omega, h0]
theorem mk_all (n : Int) : ((mk n).toNat : Int) = 255 * 2 ^ (8 - min (max n 0) 8).toNat % 256 := by
  by_cases a : n < 0
  · rw [mk_neg n a, show min (max n 0) 8 = 0 by omega]; decide
  · by_cases b : 8 < n
    · rw [mk_big n (by omega), show min (max n 0) 8 = 8 by omega]; decide
    · rw [mk_toNat n (by omega) (by omega), show min (max n 0) 8 = n by omega]
end Go.Proofs.YthaebbmekonacaaGreatDoor.Pr

namespace Go.Proofs.YthaebbmekonacaaGreatDoor.Pr
open Go.RowKit
theorem ret_int {k : IntKind} {a b : Int} (h : a = b) : Ending.returned (.int k a) = .returned (.int k b) := by rw [h]
theorem mask_any (n : Int) (w : World) (h0 : -200 ≤ n) (h1 : n ≤ 200) :
    Calls Tryz.prog 209 #[.int .i64 n] w fun e w' => e = .returned (.int .u8 (mk n).toNat) ∧ w' = w := by
  go_enter Tryz.func209, Tryz.ntmps209
  go_wp2
  go_ret
  exact ⟨ret_int (mk_all n).symm, rfl⟩
end Go.Proofs.YthaebbmekonacaaGreatDoor.Pr

namespace Go.Proofs.YthaebbmekonacaaGreatDoor.Pr
open Go.RowKit

/-- A row of bytes that lies in block b and may be written. -/
def Row (w : World) (b : Nat) (l : List UInt8) : Prop := ∀ j (hj : j < l.length), w.cell? ⟨b, j, none⟩ = some (.int .u8 (l[j].toNat : Int)) ∧ w.frozen? ⟨b, j, none⟩ = false

theorem Row.of_bytes (w : World) (b : Nat) (s : ByteArray) (cap : Nat) (e : TypeId) (h : b = w.heap.size) :
    Row (w.alloc (.cells (bytesRow s cap) e ((bytesRow s cap).size, (bytesRow s cap).size + 1))) b s.data.toList := by
  subst h
  intro j hj
  have hj' : j < s.data.size := by simpa using hj
  refine ⟨?_, ?_⟩
  · rw [World.cell?_alloc_mark, bytesRow_at _ _ _ hj']; simp
  · rw [World.frozen?_alloc_mark]
    have : s.data.size ≤ (bytesRow s cap).size := by simp [bytesRow]
    simp; omega
theorem Row.drew {w : World} {b : Nat} {l : List UInt8} (h : Row w b l) : Row w.drew b l := h
theorem Row.set {w : World} {b : Nat} {l : List UInt8} (h : Row w b l) (k : Nat) (x : UInt8) : Row (w.setCell ⟨b, k, none⟩ (.int .u8 (x.toNat : Int))) b (l.set k x) := by
  intro j hj
  have hj' : j < l.length := by simpa using hj
  obtain ⟨h1, h2⟩ := h j hj'
  refine ⟨?_, by rw [World.frozen?_setCell]; exact h2⟩
  by_cases e : k = j
  · subst e
    rw [World.cell?_setCell_same _ _ _ h1]; simp
  · rw [World.cell?_setCell_other _ _ _ _ (by intro h; injection h; omega), h1]
    simp [e]
/-- The four cells of a prefix that lies at the head of block b. -/
structure PfxAt (w : World) (b : Nat) (f r : Int) (s : ByteArray) (l : Int) : Prop where
  c0 : w.cell? ⟨b, 0, none⟩ = some (.int .i64 f)
  c1 : w.cell? ⟨b, 1, none⟩ = some (.int .u64 r)
  c2 : w.cell? ⟨b, 2, none⟩ = some (.string s)
  c3 : w.cell? ⟨b, 3, none⟩ = some (.int .i64 l)
  f0 : w.frozen? ⟨b, 0, none⟩ = false
  f1 : w.frozen? ⟨b, 1, none⟩ = false
  f2 : w.frozen? ⟨b, 2, none⟩ = false
  f3 : w.frozen? ⟨b, 3, none⟩ = false
theorem PfxAt.of_alloc (w : World) (b : Nat) (f r : Int) (s : ByteArray) (l : Int) (h : b = w.heap.size) :
    PfxAt (w.alloc (.cells #[.int .i64 f, .int .u64 r, .string s, .int .i64 l] 50)) b f r s l := by
  subst h
  constructor <;> simp
theorem PfxAt.kept {w w' : World} {b B : Nat} {f r : Int} {s : ByteArray} {l : Int} (h : PfxAt w b f r s l) (hb : Below B w w') (hB : b < B) : PfxAt w' b f r s l := by
  obtain ⟨c0, c1, c2, c3, f0, f1, f2, f3⟩ := h
  exact ⟨(hb.cell (p := ⟨b, 0, none⟩) hB).trans c0, (hb.cell (p := ⟨b, 1, none⟩) hB).trans c1, (hb.cell (p := ⟨b, 2, none⟩) hB).trans c2, (hb.cell (p := ⟨b, 3, none⟩) hB).trans c3,
    (hb.frozen (p := ⟨b, 0, none⟩) hB).trans f0, (hb.frozen (p := ⟨b, 1, none⟩) hB).trans f1, (hb.frozen (p := ⟨b, 2, none⟩) hB).trans f2, (hb.frozen (p := ⟨b, 3, none⟩) hB).trans f3⟩

theorem PfxAt.set_other {w : World} {b : Nat} {f r : Int} {s : ByteArray} {l : Int} (h : PfxAt w b f r s l) (a : Addr) (v : Value) (hb : a.block ≠ b) : PfxAt (w.setCell a v) b f r s l := by
  obtain ⟨c0, c1, c2, c3, f0, f1, f2, f3⟩ := h
  have ne : ∀ i, a ≠ ⟨b, i, none⟩ := fun i e => hb (by rw [e])
  exact ⟨by rw [World.cell?_setCell_other _ _ _ _ (ne _)]; exact c0, by rw [World.cell?_setCell_other _ _ _ _ (ne _)]; exact c1, by rw [World.cell?_setCell_other _ _ _ _ (ne _)]; exact c2, by rw [World.cell?_setCell_other _ _ _ _ (ne _)]; exact c3,
    by rw [World.frozen?_setCell]; exact f0, by rw [World.frozen?_setCell]; exact f1, by rw [World.frozen?_setCell]; exact f2, by rw [World.frozen?_setCell]; exact f3⟩
theorem PfxAt.drew {w : World} {b : Nat} {f r : Int} {s : ByteArray} {l : Int} (h : PfxAt w b f r s l) : PfxAt w.drew b f r s l := ⟨h.c0, h.c1, h.c2, h.c3, h.f0, h.f1, h.f2, h.f3⟩

set_option maxRecDepth 100000 in
set_option maxHeartbeats 400000 in
theorem head_any (f r : Int) (s : ByteArray) (l n : Int) (w : World) (hs : s.size ≤ 16) (h0 : 0 ≤ n) (h1 : n ≤ 128) :
    Calls Tryz.prog 194 #[.agg #[.int .i64 f, .int .u64 r, .string s, .int .i64 l], .int .i64 n] w fun e w' =>
      e = .returned (.agg #[.int .i64 f, .int .u64 r, .string ⟨(msk s.data.toList n).toArray⟩, .int .i64 n]) ∧ Below w.heap.size w w' := by
  have hb := fun wx => run_bytes_of_string (P := Tryz.prog) wx 9 180 5 s Tryz.underlying9 Tryz.underlying180 Tryz.underlying5
  go_enter Tryz.func194, Tryz.ntmps194
  go_wp2_with fail
  clear hb
  generalize grownCap ((w.alloc _).alloc _) s.size 0 5 = cap
  go_loopw [12] (fun i wr => ∃ k : Nat, k ≤ s.size ∧ i = .int .i64 k ∧ Row wr (w.heap.size + 1 + 1) (mskTo s.data.toList n k) ∧ PfxAt wr w.heap.size f r s l ∧ PfxAt wr (w.heap.size + 1) 0 0 ⟨#[]⟩ 0 ∧ Below w.heap.size w wr)
    (fun i _ => s.size - (intOf i).toNat)
  case atStart => 
    refine ⟨0, Nat.zero_le _, rfl, ?_, ?_, ?_, ?_⟩
    · rw [mskTo_zero]
      exact (Row.of_bytes _ _ s cap 5 (by simp)).drew
    · exact (PfxAt.of_alloc w _ f r s l rfl).kept (B := w.heap.size + 1) (((Below.refl _ _).alloc (by simp) _).alloc (by simp) _).drew (by simp)
    · exact (PfxAt.of_alloc (w.alloc _) _ 0 0 ⟨#[]⟩ 0 (by simp)).kept (B := w.heap.size + 1 + 1) ((Below.refl _ _).alloc (by simp) _).drew (by simp)
    · exact ((((Below.refl _ _).alloc (by simp) _).alloc (by simp) _).alloc (by simp; omega) _).drew
  case round =>
    obtain ⟨k, hk, rfl, hrow, hp0, hp1, hbel⟩ := hrel
    by_cases hlt : k < s.size
    · have hk' : k < (mskTo s.data.toList n k).length := by rw [mskTo_length]; simpa using hlt
      have hc := (hrow k hk').1
      have hf := (hrow k hk').2
      rw [mskTo_at] at hc
      have e8 : IntKind.i64.wrap (8 * (k : Int)) = 8 * k := by rw [IntKind.wrap_i64]; omega
      have e9 : IntKind.i64.wrap (n - 8 * (k : Int)) = n - 8 * k := by rw [IntKind.wrap_i64]; omega
      go_wp2
      go_region_with (go_at_call 209; refine (mask_any _ _ (by omega) (by omega)).mono ?_; rintro e w' ⟨rfl, rfl⟩)
      all_goals
        go_wp2
        go_roundw
        case rel =>
          have hrow' := hrow.set k (s.data[k] &&& mk (n - 8 * k))
          rw [← and_u8] at hrow'
          refine ⟨k + 1, by omega, by go_num, ?_, (hp0.set_other _ _ (by simp; omega)).drew, (hp1.set_other _ _ (by simp)).drew, (hbel.setCell (by simp; omega) _).drew⟩
          rw [mskTo_succ _ _ _ (by simpa using hlt)]
          exact hrow'.drew
        case measure => simp [intOf]; omega
    · obtain rfl : k = s.size := by omega
      rw [mskTo_all _ _ _ (by simp)] at hrow
      have hback := run_convert_bytes_back (P := Tryz.prog) wr 180 9 5 ⟨w.heap.size + 1 + 1, 0, none⟩ cap (msk s.data.toList n) Tryz.underlying180 Tryz.underlying5 Tryz.underlying9 (fun j hj => by rw [show Addr.add ⟨w.heap.size + 1 + 1, 0, none⟩ j = ⟨w.heap.size + 1 + 1, j, none⟩ from by unfold Addr.add; by_cases e : j = 0 <;> simp [e]]; exact (hrow j hj).1)
      rw [msk_length, show s.data.toList.length = s.size from by simp] at hback
      obtain ⟨c0, c1, c2, c3, f0, f1, f2, f3⟩ := hp0
      obtain ⟨d0, d1, d2, d3, g0, g1, g2, g3⟩ := hp1
      clear hrow
      go_wp2
      exact bodyPost_ret (v := .agg #[.int .i64 f, .int .u64 r, .string ⟨(msk s.data.toList n).toArray⟩, .int .i64 n]) (by simp [results, Tryz.results194, go_sem, d0, d1, d2, d3]) rfl
        ⟨rfl, (((((hbel.setCell (by simp) _).setCell (by simp) _).setCell (by simp) _).setCell (by simp) _).setCell (by simp) _).setCell (by simp) _⟩
end Go.Proofs.YthaebbmekonacaaGreatDoor.Pr

namespace Go.Proofs.YthaebbmekonacaaGreatDoor.Pr
open Go.RowKit

/-- What the table of families holds besides: whether a family is with distinguishers. -/
structure FamRds (w : World) : Prop where
  c1 : w.cell? ⟨1, 5, none⟩ = some (.bool false)
  c2 : w.cell? ⟨1, 8, none⟩ = some (.bool false)
  c3 : w.cell? ⟨1, 11, none⟩ = some (.bool false)
  c4 : w.cell? ⟨1, 14, none⟩ = some (.bool true)
  c5 : w.cell? ⟨1, 17, none⟩ = some (.bool true)
theorem lt_of_cell {w : World} {b i : Nat} {v : Value} (h : w.cell? ⟨b, i, none⟩ = some v) : b < w.heap.size := by
  by_cases e : b < w.heap.size
  · exact e
  · rw [World.cell?, Array.getElem?_eq_none (by simpa using e)] at h; simp at h
theorem FamSizes.below {w w' : World} (h : FamSizes w) (hb : Below w.heap.size w w') : FamSizes w' := by
  obtain ⟨c0, c1, c2, c3, c4, c5⟩ := h
  have l := lt_of_cell c0
  exact ⟨(hb.cell (p := ⟨1, _, none⟩) l).trans c0, (hb.cell (p := ⟨1, _, none⟩) l).trans c1, (hb.cell (p := ⟨1, _, none⟩) l).trans c2, (hb.cell (p := ⟨1, _, none⟩) l).trans c3, (hb.cell (p := ⟨1, _, none⟩) l).trans c4, (hb.cell (p := ⟨1, _, none⟩) l).trans c5⟩
theorem FamRds.below {w w' : World} (h : FamRds w) (hb : Below w.heap.size w w') : FamRds w' := by
  obtain ⟨c1, c2, c3, c4, c5⟩ := h
  have l := lt_of_cell c1
  exact ⟨(hb.cell (p := ⟨1, _, none⟩) l).trans c1, (hb.cell (p := ⟨1, _, none⟩) l).trans c2, (hb.cell (p := ⟨1, _, none⟩) l).trans c3, (hb.cell (p := ⟨1, _, none⟩) l).trans c4, (hb.cell (p := ⟨1, _, none⟩) l).trans c5⟩

/-- What Check answers. -/
def chk (f r : Int) (s : ByteArray) (l : Int) : Int :=
  if szOf f ≠ 0 ∧ (s.size : Int) = szOf f ∧ 0 ≤ l ∧ l ≤ 8 * szOf f ∧ (r = 0 ∨ 4 ≤ f) ∧ msk s.data.toList l = s.data.toList then 0 else 2

theorem szOf_bd (f : Int) : 0 ≤ szOf f ∧ szOf f ≤ 16 := by
  unfold szOf; split
  · omega
  · split <;> omega
theorem szOf_pos (f : Int) (h : szOf f ≠ 0) : (f = 1 ∨ f = 3 ∨ f = 4) ∧ szOf f = 4 ∨ (f = 2 ∨ f = 5) ∧ szOf f = 16 := by
  unfold szOf at *
  by_cases a : f = 1 ∨ f = 3 ∨ f = 4
  · left; rw [if_pos a]; exact ⟨a, rfl⟩
  · rw [if_neg a] at *
    by_cases b : f = 2 ∨ f = 5
    · right; rw [if_pos b]; exact ⟨b, rfl⟩
    · rw [if_neg b] at h; exact absurd rfl h

set_option maxRecDepth 100000 in
set_option maxHeartbeats 400000 in
theorem check_first (f r : Int) (s : ByteArray) (l : Int) (w : World) (hg : FamSizes w)
    (h : szOf f = 0 ∨ (s.size : Int) ≠ szOf f ∨ l < 0 ∨ 8 * szOf f < l) :
    Calls Tryz.prog 173 #[.agg #[.int .i64 f, .int .u64 r, .string s, .int .i64 l]] w fun e w' => e = .returned (.int .i64 2) ∧ Below w.heap.size w w' := by
  have hb := szOf_bd f
  generalize hzz : szOf f = z at h hb
  have HZ : Hid (szOf f = z) := hzz
  clear hzz
  have hg' : FamSizes (w.alloc (.cells #[.int .i64 f, .int .u64 r, .string s, .int .i64 l] 50)) := hg.below ((Below.refl _ _).alloc (Nat.le_refl _) _)
  by_cases a0 : z = 0
  · clear h
    have e0 : (z == 0) = true := beq_iff_eq.2 a0
    clear a0
    go_enter Tryz.func173, Tryz.ntmps173
    go_wp2_with (go_at_call 117; refine (size_any _ _ hg').mono ?_; rintro e w' ⟨rfl, rfl⟩; rw [HZ.out])
    go_ret
    exact ⟨rfl, (Below.refl _ _).alloc (Nat.le_refl _) _⟩
  have e0 : (z == 0) = false := beq_eq_false_iff_ne.2 a0
  by_cases a1 : (s.size : Int) = z
  · have e1 : ((s.size : Int) != z) = false := by simp [a1]
    have h2 : l < 0 ∨ 8 * z < l := by omega
    clear a0 a1 h
    by_cases a2 : l < 0
    · clear h2
      go_enter Tryz.func173, Tryz.ntmps173
      go_wp2_with (go_at_call 117; refine (size_any _ _ hg').mono ?_; rintro e w' ⟨rfl, rfl⟩; rw [HZ.out])
      go_ret
      exact ⟨rfl, (Below.refl _ _).alloc (Nat.le_refl _) _⟩
    · have h3 : 8 * z < l := by omega
      clear h2
      go_enter Tryz.func173, Tryz.ntmps173
      go_wp2_with (go_at_call 117; refine (size_any _ _ hg').mono ?_; rintro e w' ⟨rfl, rfl⟩; rw [HZ.out])
      go_ret
      exact ⟨rfl, (Below.refl _ _).alloc (Nat.le_refl _) _⟩
  · have e1 : ((s.size : Int) != z) = true := by simp [a1]
    clear a0 a1 h
    go_enter Tryz.func173, Tryz.ntmps173
    go_wp2_with (go_at_call 117; refine (size_any _ _ hg').mono ?_; rintro e w' ⟨rfl, rfl⟩; rw [HZ.out])
    go_ret
    exact ⟨rfl, (Below.refl _ _).alloc (Nat.le_refl _) _⟩

set_option maxRecDepth 100000 in
set_option maxHeartbeats 400000 in
theorem check_rd (f r : Int) (s : ByteArray) (l : Int) (w : World) (hg : FamSizes w) (hr : FamRds w) (hf : f = 1 ∨ f = 2 ∨ f = 3) (h0 : (s.size : Int) = szOf f) (h1 : 0 ≤ l) (h2 : l ≤ 8 * szOf f) (h3 : r ≠ 0) :
    Calls Tryz.prog 173 #[.agg #[.int .i64 f, .int .u64 r, .string s, .int .i64 l]] w fun e w' => e = .returned (.int .i64 2) ∧ Below w.heap.size w w' := by
  have hg' : FamSizes (w.alloc (.cells #[.int .i64 f, .int .u64 r, .string s, .int .i64 l] 50)) := hg.below ((Below.refl _ _).alloc (Nat.le_refl _) _)
  have e3 : (r != 0) = true := by simp [h3]
  obtain ⟨r1, r2, r3, _, _⟩ := hr
  have l0 : 1 < w.heap.size := lt_of_cell r1
  have z1 : szOf 1 = 4 := rfl
  have z2 : szOf 2 = 16 := rfl
  have z3 : szOf 3 = 4 := rfl
  have e1 : ((s.size : Int) != szOf f) = false := by simp [h0]
  rcases hf with rfl | rfl | rfl
  all_goals
    simp only [z1, z2, z3] at h2 e1
    clear h0 h3
    go_enter Tryz.func173, Tryz.ntmps173
    go_wp2_with (go_at_call 117; refine (size_any _ _ hg').mono ?_; rintro e w' ⟨rfl, rfl⟩)
    go_ret
    exact ⟨rfl, (Below.refl _ _).alloc (Nat.le_refl _) _⟩

end Go.Proofs.YthaebbmekonacaaGreatDoor.Pr

namespace Go.Proofs.YthaebbmekonacaaGreatDoor.Pr
open Go.RowKit
set_option maxRecDepth 100000 in
set_option maxHeartbeats 400000 in
/-- The last test of Check, f and the size of its addresses as letters; y: what the last test says. -/
theorem check_last (f : Nat) (r : Int) (s : ByteArray) (l : Int) (z : Int) (b y : Bool) (w : World) (hg : FamSizes w) (hf1 : 1 ≤ f) (hf5 : f ≤ 5) (hz : szOf f = z) (h0 : (s.size : Int) = z) (h1 : 0 ≤ l) (h2 : l ≤ 8 * z) (hz1 : 4 ≤ z) (hz2 : z ≤ 16)
    (hc : w.cell? ⟨1, f * 3 + 2, none⟩ = some (.bool b)) (h3 : r = 0 ∨ b = true) (hm : (msk s.data.toList l == s.toList) = y) :
    Calls Tryz.prog 173 #[.agg #[.int .i64 f, .int .u64 r, .string s, .int .i64 l]] w fun e w' => e = .returned (.int .i64 (if y then 0 else 2)) ∧ Below w.heap.size w w' := by
  have hg' : FamSizes (w.alloc (.cells #[.int .i64 f, .int .u64 r, .string s, .int .i64 l] 50)) := hg.below ((Below.refl _ _).alloc (Nat.le_refl _) _)
  have l0 : 1 < w.heap.size := lt_of_cell hc
  have HZ : Hid (szOf f = z) := hz
  have e0 : (z == 0) = false := beq_eq_false_iff_ne.2 (by omega)
  have e1 : ((s.size : Int) != z) = false := by simp [h0]
  have hsz : s.size ≤ 16 := by omega
  have hl : l ≤ 128 := by omega
  clear hz h0
  cases y
  all_goals
    first | (have hm' := beq_eq_false_iff_ne.1 hm) | (have hm' := beq_iff_eq.1 hm)
    clear hm
    by_cases h4 : r = 0
    · subst h4
      clear h3
      go_enter Tryz.func173, Tryz.ntmps173
      go_wp2_with (go_at_call 117; refine (size_any _ _ hg').mono ?_; rintro e w' ⟨rfl, rfl⟩; rw [HZ.out])
      go_region_held (fun w' => w'.cell? ⟨w.heap.size, 0, none⟩ = some (.int .i64 f) ∧ w'.cell? ⟨w.heap.size, 1, none⟩ = some (.int .u64 0) ∧ w'.cell? ⟨w.heap.size, 2, none⟩ = some (.string s) ∧ w'.cell? ⟨w.heap.size, 3, none⟩ = some (.int .i64 l)) (go_keep)
        (first | (go_at_call 194; refine (head_any _ _ _ _ _ _ hsz h1 hl).mono ?_; rintro e w' ⟨rfl, hb⟩; obtain ⟨q0, q1, q2, q3, _, _, _, _⟩ := (PfxAt.of_alloc w _ _ _ _ _ rfl).drew.kept hb (by simp)))
      all_goals go_wp2
      all_goals go_ret
      all_goals exact ⟨rfl, ((Below.refl _ _).alloc (Nat.le_refl _) _).drew.trans (Below.mono (by assumption) (by simp))⟩
    · obtain rfl : b = true := by rcases h3 with h3 | h3; exact absurd h3 h4; exact h3
      have e4 : (r != 0) = true := by simp [h4]
      clear h3 h4
      go_enter Tryz.func173, Tryz.ntmps173
      go_wp2_with (go_at_call 117; refine (size_any _ _ hg').mono ?_; rintro e w' ⟨rfl, rfl⟩; rw [HZ.out])
      go_region_held (fun w' => w'.cell? ⟨w.heap.size, 0, none⟩ = some (.int .i64 f) ∧ w'.cell? ⟨w.heap.size, 1, none⟩ = some (.int .u64 r) ∧ w'.cell? ⟨w.heap.size, 2, none⟩ = some (.string s) ∧ w'.cell? ⟨w.heap.size, 3, none⟩ = some (.int .i64 l)) (go_keep)
        (first | (go_at_call 194; refine (head_any _ _ _ _ _ _ hsz h1 hl).mono ?_; rintro e w' ⟨rfl, hb⟩; obtain ⟨q0, q1, q2, q3, _, _, _, _⟩ := (PfxAt.of_alloc w _ _ _ _ _ rfl).drew.kept hb (by simp)))
      all_goals go_wp2
      all_goals go_ret
      all_goals exact ⟨rfl, ((Below.refl _ _).alloc (Nat.le_refl _) _).drew.trans (Below.mono (by assumption) (by simp))⟩

theorem check_any (f r : Int) (s : ByteArray) (l : Int) (w : World) (hg : FamSizes w) (hr : FamRds w) :
    Calls Tryz.prog 173 #[.agg #[.int .i64 f, .int .u64 r, .string s, .int .i64 l]] w fun e w' => e = .returned (.int .i64 (chk f r s l)) ∧ Below w.heap.size w w' := by
  by_cases hA : szOf f = 0 ∨ (s.size : Int) ≠ szOf f ∨ l < 0 ∨ 8 * szOf f < l
  · have : chk f r s l = 2 := by unfold chk; rw [if_neg (by omega)]
    rw [this]
    exact check_first f r s l w hg hA
  · have hz : szOf f ≠ 0 := by omega
    have hf := szOf_pos f hz
    by_cases hB : r ≠ 0 ∧ f < 4
    · have : chk f r s l = 2 := by unfold chk; rw [if_neg (by omega)]
      rw [this]
      exact check_rd f r s l w hg hr (by omega) (by omega) (by omega) (by omega) hB.1
    · have hb : ∃ b, w.cell? ⟨1, f.toNat * 3 + 2, none⟩ = some (.bool b) ∧ (r = 0 ∨ b = true) := by
        rcases hf with ⟨rfl | rfl | rfl, _⟩ | ⟨rfl | rfl, _⟩
        · exact ⟨_, hr.c1, by omega⟩
        · exact ⟨_, hr.c3, by omega⟩
        · exact ⟨_, hr.c4, Or.inr rfl⟩
        · exact ⟨_, hr.c2, by omega⟩
        · exact ⟨_, hr.c5, Or.inr rfl⟩
      obtain ⟨b, hc, h3⟩ := hb
      obtain ⟨n, rfl⟩ := Int.eq_ofNat_of_zero_le (show 0 ≤ f by omega)
      rw [Int.toNat_natCast] at hc
      have h := check_last n r s l _ b (msk s.data.toList l == s.toList) w hg (by omega) (by omega) rfl (by omega) (by omega) (by omega) (by omega) (by omega) hc h3 rfl
      have e : (if (msk s.data.toList l == s.toList) = true then (0 : Int) else 2) = chk n r s l := by
        unfold chk
        by_cases c : msk s.data.toList l = s.data.toList
        · rw [if_pos (by rw [ByteArray.toList_eq]; exact beq_iff_eq.2 c), if_pos ⟨hz, by omega, by omega, by omega, by omega, c⟩]
        · rw [if_neg (by rw [ByteArray.toList_eq]; simpa using c), if_neg (fun h => c h.2.2.2.2.2)]
      rw [e] at h
      exact h
end Go.Proofs.YthaebbmekonacaaGreatDoor.Pr

namespace Go.Proofs.YthaebbmekonacaaGreatDoor.Pr
open Go.RowKit

end Go.Proofs.YthaebbmekonacaaGreatDoor.Pr

namespace Go.Proofs.YthaebbmekonacaaGreatDoor.Pr
open Go.RowKit
theorem ret_bool {a b : Bool} (h : a = b) : Ending.returned (.bool a) = .returned (.bool b) := by rw [h]
end Go.Proofs.YthaebbmekonacaaGreatDoor.Pr

namespace Go.Proofs.YthaebbmekonacaaGreatDoor.Pr
open Go.RowKit
end Go.Proofs.YthaebbmekonacaaGreatDoor.Pr

namespace Go.Proofs.YthaebbmekonacaaGreatDoor.Pr
open Go.RowKit
/-- The cells of the table of families. -/
def famCells : Array Value := #[.string ⟨#[]⟩, .int .i64 0, .bool false, .string ⟨#[118, 52]⟩, .int .i64 4, .bool false, .string ⟨#[118, 54]⟩, .int .i64 16, .bool false, .string ⟨#[108, 52]⟩, .int .i64 4, .bool false, .string ⟨#[118, 112, 110, 52]⟩, .int .i64 4, .bool true, .string ⟨#[118, 112, 110, 54]⟩, .int .i64 16, .bool true]
/-- The cells of the table of styles. -/
def stCells : Array Value := #[.string ⟨#[46]⟩, .int .i64 4, .int .i64 1, .int .i64 10, .string ⟨#[58]⟩, .int .i64 8, .int .i64 2, .int .i64 16]
/-- The two tables lie in their blocks. -/
structure Tabs (w : World) : Prop where
  fam : ∃ t fr, w.heap[1]? = some (.cells famCells t fr)
  sty : ∃ t fr, w.heap[3]? = some (.cells stCells t fr)
  max : ∃ m, w.cell? ⟨5, 0, none⟩ = some (.int .i64 m)
theorem lt_of_heap {w : World} {b : Nat} {o : Obj} (h : w.heap[b]? = some o) : b < w.heap.size := by
  by_cases e : b < w.heap.size
  · exact e
  · rw [Array.getElem?_eq_none (by simpa using e)] at h; cases h
theorem Tabs.below {w w' : World} (h : Tabs w) (hb : Below w.heap.size w w') : Tabs w' := by
  obtain ⟨⟨t, fr, h0⟩, ⟨t1, fr1, h1⟩, ⟨m, h3⟩⟩ := h
  exact ⟨⟨t, fr, (hb.block 1 (lt_of_heap h0)).trans h0⟩, ⟨t1, fr1, (hb.block 3 (lt_of_heap h1)).trans h1⟩, ⟨m, (hb.cell (p := ⟨5, 0, none⟩) (lt_of_cell h3)).trans h3⟩⟩
theorem Tabs.sizes {w : World} (h : Tabs w) : FamSizes w := by
  obtain ⟨⟨t, fr, h0⟩, _, _⟩ := h
  exact ⟨cell_of_row w 1 1 _ t fr h0, cell_of_row w 1 4 _ t fr h0, cell_of_row w 1 7 _ t fr h0, cell_of_row w 1 10 _ t fr h0, cell_of_row w 1 13 _ t fr h0, cell_of_row w 1 16 _ t fr h0⟩
theorem Tabs.rds {w : World} (h : Tabs w) : FamRds w := by
  obtain ⟨⟨t, fr, h0⟩, _, _⟩ := h
  exact ⟨cell_of_row w 1 5 _ t fr h0, cell_of_row w 1 8 _ t fr h0, cell_of_row w 1 11 _ t fr h0, cell_of_row w 1 14 _ t fr h0, cell_of_row w 1 17 _ t fr h0⟩
/-- The family of a name; 0, if there is none. -/
def famOf (l : List UInt8) : Int := if ([] == l) = true then 0 else if ([118, 52] == l) = true then 1 else if ([118, 54] == l) = true then 2 else if ([108, 52] == l) = true then 3 else if ([118, 112, 110, 52] == l) = true then 4 else if ([118, 112, 110, 54] == l) = true then 5 else 0
/-- No name ahead of row k is the text. -/
def Nz (l : List UInt8) (k : Nat) : Prop := (1 ≤ k → ([] == l) = false) ∧ (2 ≤ k → ([118, 52] == l) = false) ∧ (3 ≤ k → ([118, 54] == l) = false) ∧ (4 ≤ k → ([108, 52] == l) = false) ∧ (5 ≤ k → ([118, 112, 110, 52] == l) = false) ∧ (6 ≤ k → ([118, 112, 110, 54] == l) = false)
theorem Nz.none {l : List UInt8} (z : Nz l 6) : (0 : Int) = famOf l := by
  unfold Nz at z
  unfold famOf
  simp at z
  simp [z]
end Go.Proofs.YthaebbmekonacaaGreatDoor.Pr
