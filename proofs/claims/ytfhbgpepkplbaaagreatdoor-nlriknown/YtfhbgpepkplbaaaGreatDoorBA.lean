/-
  The contract of the reference's Cmp, for every two prefixes.
-/
import Derived.Laws.BitsAllLaws
import Derived.Lib.RabinKarpLaws
import Derived.RowKit
import Derived.Test.YtfhbgpepkplbaaaGreatDoorProg
import Derived.WalkKit
import Derived.WalkSpells
import Derived.WalkLawsBesides
import Derived.Laws.IdiomStrings
import Derived.RegionTactic
import Derived.Deep.RegionWith
import Derived.Deep.RegionHeld
import Derived.LoopN
import Derived.Deep.QuietTactic
import Derived.BigQuiet
namespace Go.Proofs.YtfhbgpepkplbaaaGreatDoor

/-- A byte's first n bits. -/
def mk (n : Int) : UInt8 := if n ≤ 0 then 0 else if 8 ≤ n then 255 else UInt8.ofNat (255 * 2 ^ (8 - n).toNat % 256)
/-- The first n bits of bytes, of the first k bytes alone. -/
def mskTo (l : List UInt8) (n : Int) (k : Nat) : List UInt8 := l.mapIdx (fun i b => if i < k then b &&& mk (n - 8 * i) else b)
/-- The first n bits of bytes. -/
def msk (l : List UInt8) (n : Int) : List UInt8 := l.mapIdx (fun i b => b &&& mk (n - 8 * i))
/-- The bit n of bytes; 0, if there is none. -/
def bitAt (l : List UInt8) (n : Nat) : Nat := (l.getD (n / 8) 0).toNat / 2 ^ (7 - n % 8) % 2

theorem mskTo_zero (l : List UInt8) (n : Int) : mskTo l n 0 = l := by
  apply List.ext_getElem
  · simp [mskTo]
  · intro i h1 h2; simp [mskTo]
theorem mskTo_all (l : List UInt8) (n : Int) (k : Nat) (h : l.length ≤ k) : mskTo l n k = msk l n := by
  apply List.ext_getElem
  · simp [mskTo, msk]
  · intro i h1 h2
    have : i < k := by simp [mskTo] at h1; omega
    simp [mskTo, msk, this]
theorem mskTo_length (l : List UInt8) (n : Int) (k : Nat) : (mskTo l n k).length = l.length := by simp [mskTo]
theorem msk_length (l : List UInt8) (n : Int) : (msk l n).length = l.length := by simp [msk]
theorem mskTo_at (l : List UInt8) (n : Int) (k : Nat) (h : k < (mskTo l n k).length) : (mskTo l n k)[k] = l[k]'(by simpa [mskTo] using h) := by simp [mskTo]
theorem mskTo_succ (l : List UInt8) (n : Int) (k : Nat) (h : k < l.length) : mskTo l n (k + 1) = (mskTo l n k).set k (l[k] &&& mk (n - 8 * k)) := by
  apply List.ext_getElem
  · simp [mskTo]
  · intro i h1 h2
    simp only [mskTo, List.getElem_mapIdx, List.getElem_set]
    by_cases e : k = i
    · subst e; simp
    · by_cases g : i < k
      · simp [e, g, show i < k + 1 by omega]
      · simp [e, g, show ¬ i < k + 1 by omega]
theorem and_u8 (a b : UInt8) : bits .and .u8 (a.toNat : Int) (b.toNat : Int) = ((a &&& b).toNat : Int) := by
  rw [u8_and_nat _ _ a.toNat_lt b.toNat_lt]; simp
theorem mk_toNat (n : Int) (h0 : 0 ≤ n) (h1 : n ≤ 8) : ((mk n).toNat : Int) = 255 * 2 ^ (8 - n).toNat % 256 := by
  have h : n = 0 ∨ n = 1 ∨ n = 2 ∨ n = 3 ∨ n = 4 ∨ n = 5 ∨ n = 6 ∨ n = 7 ∨ n = 8 := by omega
  rcases h with rfl | rfl | rfl | rfl | rfl | rfl | rfl | rfl | rfl <;> decide
theorem mk_neg (n : Int) (h0 : n < 0) : ((mk n).toNat : Int) = 0 := by simp [mk, show n ≤ 0 by omega]
theorem mk_big (n : Int) (h0 : 8 ≤ n) : ((mk n).toNat : Int) = 255 := by simp [mk, show ¬ n ≤ 0 by omega, h0]
theorem mk_all (n : Int) : ((mk n).toNat : Int) = 255 * 2 ^ (8 - min (max n 0) 8).toNat % 256 := by
  by_cases a : n < 0
  · rw [mk_neg n a, show min (max n 0) 8 = 0 by omega]; decide
  · by_cases b : 8 < n
    · rw [mk_big n (by omega), show min (max n 0) 8 = 8 by omega]; decide
    · rw [mk_toNat n (by omega) (by omega), show min (max n 0) 8 = n by omega]
/-- A test of bits: the walk's spelling of a bit. -/
theorem bit_form (x n : Nat) (hx : x < 256) : bits .and .i64 (RowKit.wrap64 ((x : Int) / 2 ^ (7 - n % 8))) 1 = ((x / 2 ^ (7 - n % 8) % 2 : Nat) : Int) := by
  have hle : x / 2 ^ (7 - n % 8) ≤ x := Nat.div_le_self _ _
  have e : ((x : Int) / 2 ^ (7 - n % 8)) = ((x / 2 ^ (7 - n % 8) : Nat) : Int) := by simp
  rw [e]
  generalize x / 2 ^ (7 - n % 8) = y at *
  rw [show RowKit.wrap64 (y : Int) = (y : Int) by unfold RowKit.wrap64; omega]
  exact and_one _ (by omega)
end Go.Proofs.YtfhbgpepkplbaaaGreatDoor
namespace Go.Proofs.YtfhbgpepkplbaaaGreatDoor
open Go.RowKit

/-- The size of a family's addresses. -/
def szOf (n : Int) : Int := if n = 1 ∨ n = 3 ∨ n = 4 then 4 else if n = 2 ∨ n = 5 then 16 else 0

/-- The sizes in the table of families. -/
structure FamSizes (w : World) : Prop where
  c0 : w.cell? ⟨0, 1, none⟩ = some (.int .i64 0)
  c1 : w.cell? ⟨0, 4, none⟩ = some (.int .i64 4)
  c2 : w.cell? ⟨0, 7, none⟩ = some (.int .i64 16)
  c3 : w.cell? ⟨0, 10, none⟩ = some (.int .i64 4)
  c4 : w.cell? ⟨0, 13, none⟩ = some (.int .i64 4)
  c5 : w.cell? ⟨0, 16, none⟩ = some (.int .i64 16)

set_option maxHeartbeats 400000 in
theorem size_any (n : Int) (w : World) (hg : FamSizes w) :
    Calls Tryz.prog 34 #[.int .i64 n] w fun e w' => e = .returned (.int .i64 (szOf n)) ∧ w' = w := by
  by_cases h1 : n < 0
  · have hz : szOf n = 0 := by unfold szOf; rw [if_neg (by omega), if_neg (by omega)]
    rw [hz]
    clear hz
    go_enter Tryz.func34, Tryz.ntmps34
    go_wp2
    go_ret
    exact ⟨rfl, rfl⟩
  · by_cases h2 : 6 ≤ n
    · have hz : szOf n = 0 := by unfold szOf; rw [if_neg (by omega), if_neg (by omega)]
      rw [hz]
      clear hz
      go_enter Tryz.func34, Tryz.ntmps34
      go_wp2
      go_ret
      exact ⟨rfl, rfl⟩
    · obtain ⟨c0, c1, c2, c3, c4, c5⟩ := hg
      have h : n = 0 ∨ n = 1 ∨ n = 2 ∨ n = 3 ∨ n = 4 ∨ n = 5 := by omega
      clear h1 h2
      rcases h with rfl | rfl | rfl | rfl | rfl | rfl
      all_goals
        go_enter Tryz.func34, Tryz.ntmps34
        go_wp2
        go_ret
        exact ⟨rfl, rfl⟩

set_option maxHeartbeats 400000 in
theorem refsize_any (n : Int) (w : World) :
    Calls Tryz.prog 37 #[.int .i64 n] w fun e w' => e = .returned (.int .i64 (szOf n)) ∧ w' = w := by
  have hz : szOf n = if n = 1 ∨ n = 3 ∨ n = 4 then 4 else if n = 2 ∨ n = 5 then 16 else 0 := rfl
  by_cases h : n = 1 ∨ n = 2 ∨ n = 3 ∨ n = 4 ∨ n = 5
  · clear hz
    rcases h with rfl | rfl | rfl | rfl | rfl
    all_goals
      go_enter Tryz.func37, Tryz.ntmps37
      go_wp2
      go_ret
      exact ⟨rfl, rfl⟩
  · rw [if_neg (by omega), if_neg (by omega)] at hz
    rw [hz]
    clear hz
    have g1 : (n == 1) = false := beq_eq_false_iff_ne.2 (by omega)
    have g2 : (n == 2) = false := beq_eq_false_iff_ne.2 (by omega)
    have g3 : (n == 3) = false := beq_eq_false_iff_ne.2 (by omega)
    have g4 : (n == 4) = false := beq_eq_false_iff_ne.2 (by omega)
    have g5 : (n == 5) = false := beq_eq_false_iff_ne.2 (by omega)
    clear h
    go_enter Tryz.func37, Tryz.ntmps37
    go_wp2
    go_ret
    exact ⟨rfl, rfl⟩
end Go.Proofs.YtfhbgpepkplbaaaGreatDoor
namespace Go.Proofs.YtfhbgpepkplbaaaGreatDoor
open Go.RowKit
theorem ret_int {k : IntKind} {a b : Int} (h : a = b) : Ending.returned (.int k a) = .returned (.int k b) := by rw [h]
theorem mask_any (n : Int) (w : World) (h0 : -200 ≤ n) (h1 : n ≤ 200) :
    Calls Tryz.prog 80 #[.int .i64 n] w fun e w' => e = .returned (.int .u8 (mk n).toNat) ∧ w' = w := by
  go_enter Tryz.func80, Tryz.ntmps80
  go_wp2
  go_ret
  exact ⟨ret_int (mk_all n).symm, rfl⟩
/-- The bit of bytes at any number. -/
def bitI (s : ByteArray) (n : Int) : Int := if 0 ≤ n then (bitAt s.data.toList n.toNat : Nat) else 0
theorem bitI_at (s : ByteArray) (n : Nat) (h : n / 8 < s.size) : bitI s n = bits .and .i64 (wrap64 ((s[n / 8].toNat : Int) / 2 ^ (7 - n % 8))) 1 := by
  rw [bit_form _ _ s[n / 8].toNat_lt]
  unfold bitI bitAt
  rw [if_pos (by omega), Int.toNat_natCast]
  have e : s.data.toList.getD (n / 8) 0 = s[n / 8] := by
    rw [List.getD_eq_getElem?_getD, List.getElem?_eq_getElem (by simpa using h)]; rfl
  rw [e]
theorem bitI_out (s : ByteArray) (n : Int) (h : n < 0 ∨ (s.size : Int) ≤ n / 8) : bitI s n = 0 := by
  unfold bitI
  by_cases a : 0 ≤ n
  · obtain ⟨n, rfl⟩ := Int.eq_ofNat_of_zero_le a
    rw [if_pos a, Int.toNat_natCast]
    unfold bitAt
    rw [List.getD_eq_getElem?_getD, List.getElem?_eq_none (by simp; have : s.data.size = s.size := rfl; omega)]
    simp
  · rw [if_neg a]
set_option maxHeartbeats 400000 in
theorem bit_any (s : ByteArray) (n : Int) (w : World) (hs : s.size ≤ maxLen) (hn : n ≤ 9223372036854775807) (hm : -9223372036854775808 ≤ n) :
    Calls Tryz.prog 98 #[.string s, .int .i64 n] w fun e w' => e = .returned (.int .i64 (bitI s n)) ∧ w' = w := by
  unfold maxLen at hs
  by_cases h0 : n < 0
  · have H : Hid (bitI s n = 0) := bitI_out s n (Or.inl h0)
    go_enter Tryz.func98, Tryz.ntmps98
    go_wp2
    go_ret
    exact ⟨ret_int H.out.symm, rfl⟩
  · obtain ⟨n, rfl⟩ := Int.eq_ofNat_of_zero_le (Int.not_lt.1 h0)
    by_cases h1 : (n : Int) / 8 < s.size
    · have H : Hid (_ = _) := bitI_at s n (by omega)
      go_enter Tryz.func98, Tryz.ntmps98
      go_wp2
      go_ret
      exact ⟨ret_int H.out.symm, rfl⟩
    · have H : Hid (bitI s n = 0) := bitI_out s n (Or.inr (by omega))
      go_enter Tryz.func98, Tryz.ntmps98
      go_wp2
      go_ret
      exact ⟨ret_int H.out.symm, rfl⟩
set_option maxHeartbeats 400000 in
theorem refbit_any (s : ByteArray) (n : Int) (w : World) (hs : s.size ≤ maxLen) (hn : n ≤ 9223372036854775807) (hm : -9223372036854775808 ≤ n) :
    Calls Tryz.prog 79 #[.string s, .int .i64 n] w fun e w' => e = .returned (.int .i64 (bitI s n)) ∧ w' = w := by
  unfold maxLen at hs
  by_cases h0 : n < 0
  · have H : Hid (bitI s n = 0) := bitI_out s n (Or.inl h0)
    go_enter Tryz.func79, Tryz.ntmps79
    go_wp2
    go_ret
    exact ⟨ret_int H.out.symm, rfl⟩
  · obtain ⟨n, rfl⟩ := Int.eq_ofNat_of_zero_le (Int.not_lt.1 h0)
    by_cases h1 : (n : Int) / 8 < s.size
    · have H : Hid (_ = _) := bitI_at s n (by omega)
      go_enter Tryz.func79, Tryz.ntmps79
      go_wp2
      go_ret
      exact ⟨ret_int H.out.symm, rfl⟩
    · have H : Hid (bitI s n = 0) := bitI_out s n (Or.inr (by omega))
      go_enter Tryz.func79, Tryz.ntmps79
      go_wp2
      go_ret
      exact ⟨ret_int H.out.symm, rfl⟩
end Go.Proofs.YtfhbgpepkplbaaaGreatDoor
namespace Go.Proofs.YtfhbgpepkplbaaaGreatDoor
open Go.RowKit

/-- A row of bytes that lies in block b and may be written. -/
def Row (w : World) (b : Nat) (l : List UInt8) : Prop := ∀ j (hj : j < l.length), w.cell? ⟨b, j, none⟩ = some (.int .u8 (l[j].toNat : Int)) ∧ w.frozen? ⟨b, j, none⟩ = false

theorem Row.of_bytes (w : World) (b : Nat) (s : ByteArray) (cap : Nat) (e : TypeId) (h : b = w.heap.size) :
    Row (w.alloc (.cells (bytesRow s cap) e ((bytesRow s cap).size, (bytesRow s cap).size + 1))) b s.data.toList := by
  subst h
  intro j hj
  have hj' : j < s.data.size := by simpa using hj
  refine ⟨?_, ?_⟩
  · rw [World.cell?_alloc_mark, bytesRow_at _ _ _ hj']; simp
  · rw [World.frozen?_alloc_mark]
    have : s.data.size ≤ (bytesRow s cap).size := by simp [bytesRow]
    simp; omega
theorem Row.drew {w : World} {b : Nat} {l : List UInt8} (h : Row w b l) : Row w.drew b l := h
theorem Row.set {w : World} {b : Nat} {l : List UInt8} (h : Row w b l) (k : Nat) (x : UInt8) : Row (w.setCell ⟨b, k, none⟩ (.int .u8 (x.toNat : Int))) b (l.set k x) := by
  intro j hj
  have hj' : j < l.length := by simpa using hj
  obtain ⟨h1, h2⟩ := h j hj'
  refine ⟨?_, by rw [World.frozen?_setCell]; exact h2⟩
  by_cases e : k = j
  · subst e
    rw [World.cell?_setCell_same _ _ _ h1]; simp
  · rw [World.cell?_setCell_other _ _ _ _ (by intro h; injection h; omega), h1]
    simp [e]
/-- The four cells of a prefix that lies at the head of block b. -/
structure PfxAt (w : World) (b : Nat) (f r : Int) (s : ByteArray) (l : Int) : Prop where
  c0 : w.cell? ⟨b, 0, none⟩ = some (.int .i64 f)
  c1 : w.cell? ⟨b, 1, none⟩ = some (.int .u64 r)
  c2 : w.cell? ⟨b, 2, none⟩ = some (.string s)
  c3 : w.cell? ⟨b, 3, none⟩ = some (.int .i64 l)
  f0 : w.frozen? ⟨b, 0, none⟩ = false
  f1 : w.frozen? ⟨b, 1, none⟩ = false
  f2 : w.frozen? ⟨b, 2, none⟩ = false
  f3 : w.frozen? ⟨b, 3, none⟩ = false
theorem PfxAt.of_alloc (w : World) (b : Nat) (f r : Int) (s : ByteArray) (l : Int) (h : b = w.heap.size) :
    PfxAt (w.alloc (.cells #[.int .i64 f, .int .u64 r, .string s, .int .i64 l] 24)) b f r s l := by
  subst h
  constructor <;> simp
theorem PfxAt.kept {w w' : World} {b B : Nat} {f r : Int} {s : ByteArray} {l : Int} (h : PfxAt w b f r s l) (hb : Below B w w') (hB : b < B) : PfxAt w' b f r s l := by
  obtain ⟨c0, c1, c2, c3, f0, f1, f2, f3⟩ := h
  exact ⟨(hb.cell (p := ⟨b, 0, none⟩) hB).trans c0, (hb.cell (p := ⟨b, 1, none⟩) hB).trans c1, (hb.cell (p := ⟨b, 2, none⟩) hB).trans c2, (hb.cell (p := ⟨b, 3, none⟩) hB).trans c3,
    (hb.frozen (p := ⟨b, 0, none⟩) hB).trans f0, (hb.frozen (p := ⟨b, 1, none⟩) hB).trans f1, (hb.frozen (p := ⟨b, 2, none⟩) hB).trans f2, (hb.frozen (p := ⟨b, 3, none⟩) hB).trans f3⟩

theorem PfxAt.set_other {w : World} {b : Nat} {f r : Int} {s : ByteArray} {l : Int} (h : PfxAt w b f r s l) (a : Addr) (v : Value) (hb : a.block ≠ b) : PfxAt (w.setCell a v) b f r s l := by
  obtain ⟨c0, c1, c2, c3, f0, f1, f2, f3⟩ := h
  have ne : ∀ i, a ≠ ⟨b, i, none⟩ := fun i e => hb (by rw [e])
  exact ⟨by rw [World.cell?_setCell_other _ _ _ _ (ne _)]; exact c0, by rw [World.cell?_setCell_other _ _ _ _ (ne _)]; exact c1, by rw [World.cell?_setCell_other _ _ _ _ (ne _)]; exact c2, by rw [World.cell?_setCell_other _ _ _ _ (ne _)]; exact c3,
    by rw [World.frozen?_setCell]; exact f0, by rw [World.frozen?_setCell]; exact f1, by rw [World.frozen?_setCell]; exact f2, by rw [World.frozen?_setCell]; exact f3⟩
theorem PfxAt.drew {w : World} {b : Nat} {f r : Int} {s : ByteArray} {l : Int} (h : PfxAt w b f r s l) : PfxAt w.drew b f r s l := ⟨h.c0, h.c1, h.c2, h.c3, h.f0, h.f1, h.f2, h.f3⟩

set_option maxRecDepth 100000 in
set_option maxHeartbeats 400000 in
theorem head_any (f r : Int) (s : ByteArray) (l n : Int) (w : World) (hs : s.size ≤ 16) (h0 : 0 ≤ n) (h1 : n ≤ 128) :
    Calls Tryz.prog 53 #[.agg #[.int .i64 f, .int .u64 r, .string s, .int .i64 l], .int .i64 n] w fun e w' =>
      e = .returned (.agg #[.int .i64 f, .int .u64 r, .string ⟨(msk s.data.toList n).toArray⟩, .int .i64 n]) ∧ Below w.heap.size w w' := by
  have hb := fun wx => run_bytes_of_string (P := Tryz.prog) wx 9 60 5 s Tryz.underlying9 Tryz.underlying60 Tryz.underlying5
  go_enter Tryz.func53, Tryz.ntmps53
  go_wp2_with fail
  clear hb
  generalize grownCap ((w.alloc _).alloc _) s.size 0 5 = cap
  go_loopw [12] (fun i wr => ∃ k : Nat, k ≤ s.size ∧ i = .int .i64 k ∧ Row wr (w.heap.size + 1 + 1) (mskTo s.data.toList n k) ∧ PfxAt wr w.heap.size f r s l ∧ PfxAt wr (w.heap.size + 1) 0 0 ⟨#[]⟩ 0 ∧ Below w.heap.size w wr)
    (fun i _ => s.size - (intOf i).toNat)
  case atStart => 
    refine ⟨0, Nat.zero_le _, rfl, ?_, ?_, ?_, ?_⟩
    · rw [mskTo_zero]
      exact (Row.of_bytes _ _ s cap 5 (by simp)).drew
    · exact (PfxAt.of_alloc w _ f r s l rfl).kept (B := w.heap.size + 1) (((Below.refl _ _).alloc (by simp) _).alloc (by simp) _).drew (by simp)
    · exact (PfxAt.of_alloc (w.alloc _) _ 0 0 ⟨#[]⟩ 0 (by simp)).kept (B := w.heap.size + 1 + 1) ((Below.refl _ _).alloc (by simp) _).drew (by simp)
    · exact ((((Below.refl _ _).alloc (by simp) _).alloc (by simp) _).alloc (by simp; omega) _).drew
  case round =>
    obtain ⟨k, hk, rfl, hrow, hp0, hp1, hbel⟩ := hrel
    by_cases hlt : k < s.size
    · have hk' : k < (mskTo s.data.toList n k).length := by rw [mskTo_length]; simpa using hlt
      have hc := (hrow k hk').1
      have hf := (hrow k hk').2
      rw [mskTo_at] at hc
      have e8 : IntKind.i64.wrap (8 * (k : Int)) = 8 * k := by rw [IntKind.wrap_i64]; omega
      have e9 : IntKind.i64.wrap (n - 8 * (k : Int)) = n - 8 * k := by rw [IntKind.wrap_i64]; omega
      go_wp2
      go_region_with (go_at_call 80; refine (mask_any _ _ (by omega) (by omega)).mono ?_; rintro e w' ⟨rfl, rfl⟩)
      all_goals
        go_wp2
        go_roundw
        case rel =>
          have hrow' := hrow.set k (s.data[k] &&& mk (n - 8 * k))
          rw [← and_u8] at hrow'
          refine ⟨k + 1, by omega, by go_num, ?_, (hp0.set_other _ _ (by simp; omega)).drew, (hp1.set_other _ _ (by simp)).drew, (hbel.setCell (by simp; omega) _).drew⟩
          rw [mskTo_succ _ _ _ (by simpa using hlt)]
          exact hrow'.drew
        case measure => simp [intOf]; omega
    · obtain rfl : k = s.size := by omega
      rw [mskTo_all _ _ _ (by simp)] at hrow
      have hback := run_convert_bytes_back (P := Tryz.prog) wr 60 9 5 ⟨w.heap.size + 1 + 1, 0, none⟩ cap (msk s.data.toList n) Tryz.underlying60 Tryz.underlying5 Tryz.underlying9 (fun j hj => by rw [show Addr.add ⟨w.heap.size + 1 + 1, 0, none⟩ j = ⟨w.heap.size + 1 + 1, j, none⟩ from by unfold Addr.add; by_cases e : j = 0 <;> simp [e]]; exact (hrow j hj).1)
      rw [msk_length, show s.data.toList.length = s.size from by simp] at hback
      obtain ⟨c0, c1, c2, c3, f0, f1, f2, f3⟩ := hp0
      obtain ⟨d0, d1, d2, d3, g0, g1, g2, g3⟩ := hp1
      clear hrow
      go_wp2
      exact bodyPost_ret (v := .agg #[.int .i64 f, .int .u64 r, .string ⟨(msk s.data.toList n).toArray⟩, .int .i64 n]) (by simp [results, Tryz.results53, go_sem, d0, d1, d2, d3]) rfl
        ⟨rfl, (((((hbel.setCell (by simp) _).setCell (by simp) _).setCell (by simp) _).setCell (by simp) _).setCell (by simp) _).setCell (by simp) _⟩
end Go.Proofs.YtfhbgpepkplbaaaGreatDoor
namespace Go.Proofs.YtfhbgpepkplbaaaGreatDoor
open Go.RowKit

/-- What the table of families holds besides: whether a family is with distinguishers. -/
structure FamRds (w : World) : Prop where
  c1 : w.cell? ⟨0, 5, none⟩ = some (.bool false)
  c2 : w.cell? ⟨0, 8, none⟩ = some (.bool false)
  c3 : w.cell? ⟨0, 11, none⟩ = some (.bool false)
  c4 : w.cell? ⟨0, 14, none⟩ = some (.bool true)
  c5 : w.cell? ⟨0, 17, none⟩ = some (.bool true)
theorem lt_of_cell {w : World} {b i : Nat} {v : Value} (h : w.cell? ⟨b, i, none⟩ = some v) : b < w.heap.size := by
  by_cases e : b < w.heap.size
  · exact e
  · rw [World.cell?, Array.getElem?_eq_none (by simpa using e)] at h; simp at h
theorem FamSizes.below {w w' : World} (h : FamSizes w) (hb : Below w.heap.size w w') : FamSizes w' := by
  obtain ⟨c0, c1, c2, c3, c4, c5⟩ := h
  have l := lt_of_cell c0
  exact ⟨(hb.cell (p := ⟨0, _, none⟩) l).trans c0, (hb.cell (p := ⟨0, _, none⟩) l).trans c1, (hb.cell (p := ⟨0, _, none⟩) l).trans c2, (hb.cell (p := ⟨0, _, none⟩) l).trans c3, (hb.cell (p := ⟨0, _, none⟩) l).trans c4, (hb.cell (p := ⟨0, _, none⟩) l).trans c5⟩
theorem FamRds.below {w w' : World} (h : FamRds w) (hb : Below w.heap.size w w') : FamRds w' := by
  obtain ⟨c1, c2, c3, c4, c5⟩ := h
  have l := lt_of_cell c1
  exact ⟨(hb.cell (p := ⟨0, _, none⟩) l).trans c1, (hb.cell (p := ⟨0, _, none⟩) l).trans c2, (hb.cell (p := ⟨0, _, none⟩) l).trans c3, (hb.cell (p := ⟨0, _, none⟩) l).trans c4, (hb.cell (p := ⟨0, _, none⟩) l).trans c5⟩

/-- What Check answers. -/
def chk (f r : Int) (s : ByteArray) (l : Int) : Int :=
  if szOf f ≠ 0 ∧ (s.size : Int) = szOf f ∧ 0 ≤ l ∧ l ≤ 8 * szOf f ∧ (r = 0 ∨ 4 ≤ f) ∧ msk s.data.toList l = s.data.toList then 0 else 2

theorem szOf_bd (f : Int) : 0 ≤ szOf f ∧ szOf f ≤ 16 := by
  unfold szOf; split
  · omega
  · split <;> omega
theorem szOf_pos (f : Int) (h : szOf f ≠ 0) : (f = 1 ∨ f = 3 ∨ f = 4) ∧ szOf f = 4 ∨ (f = 2 ∨ f = 5) ∧ szOf f = 16 := by
  unfold szOf at *
  by_cases a : f = 1 ∨ f = 3 ∨ f = 4
  · left; rw [if_pos a]; exact ⟨a, rfl⟩
  · rw [if_neg a] at *
    by_cases b : f = 2 ∨ f = 5
    · right; rw [if_pos b]; exact ⟨b, rfl⟩
    · rw [if_neg b] at h; exact absurd rfl h

set_option maxRecDepth 100000 in
set_option maxHeartbeats 400000 in
theorem check_first (f r : Int) (s : ByteArray) (l : Int) (w : World) (hg : FamSizes w)
    (h : szOf f = 0 ∨ (s.size : Int) ≠ szOf f ∨ l < 0 ∨ 8 * szOf f < l) :
    Calls Tryz.prog 27 #[.agg #[.int .i64 f, .int .u64 r, .string s, .int .i64 l]] w fun e w' => e = .returned (.int .i64 2) ∧ Below w.heap.size w w' := by
  have hb := szOf_bd f
  generalize hzz : szOf f = z at h hb
  have HZ : Hid (szOf f = z) := hzz
  clear hzz
  have hg' : FamSizes (w.alloc (.cells #[.int .i64 f, .int .u64 r, .string s, .int .i64 l] 24)) := hg.below ((Below.refl _ _).alloc (Nat.le_refl _) _)
  by_cases a0 : z = 0
  · clear h
    have e0 : (z == 0) = true := beq_iff_eq.2 a0
    clear a0
    go_enter Tryz.func27, Tryz.ntmps27
    go_wp2_with (go_at_call 34; refine (size_any _ _ hg').mono ?_; rintro e w' ⟨rfl, rfl⟩; rw [HZ.out])
    go_ret
    exact ⟨rfl, (Below.refl _ _).alloc (Nat.le_refl _) _⟩
  have e0 : (z == 0) = false := beq_eq_false_iff_ne.2 a0
  by_cases a1 : (s.size : Int) = z
  · have e1 : ((s.size : Int) != z) = false := by simp [a1]
    have h2 : l < 0 ∨ 8 * z < l := by omega
    clear a0 a1 h
    by_cases a2 : l < 0
    · clear h2
      go_enter Tryz.func27, Tryz.ntmps27
      go_wp2_with (go_at_call 34; refine (size_any _ _ hg').mono ?_; rintro e w' ⟨rfl, rfl⟩; rw [HZ.out])
      go_ret
      exact ⟨rfl, (Below.refl _ _).alloc (Nat.le_refl _) _⟩
    · have h3 : 8 * z < l := by omega
      clear h2
      go_enter Tryz.func27, Tryz.ntmps27
      go_wp2_with (go_at_call 34; refine (size_any _ _ hg').mono ?_; rintro e w' ⟨rfl, rfl⟩; rw [HZ.out])
      go_ret
      exact ⟨rfl, (Below.refl _ _).alloc (Nat.le_refl _) _⟩
  · have e1 : ((s.size : Int) != z) = true := by simp [a1]
    clear a0 a1 h
    go_enter Tryz.func27, Tryz.ntmps27
    go_wp2_with (go_at_call 34; refine (size_any _ _ hg').mono ?_; rintro e w' ⟨rfl, rfl⟩; rw [HZ.out])
    go_ret
    exact ⟨rfl, (Below.refl _ _).alloc (Nat.le_refl _) _⟩

set_option maxRecDepth 100000 in
set_option maxHeartbeats 400000 in
theorem check_rd (f r : Int) (s : ByteArray) (l : Int) (w : World) (hg : FamSizes w) (hr : FamRds w) (hf : f = 1 ∨ f = 2 ∨ f = 3) (h0 : (s.size : Int) = szOf f) (h1 : 0 ≤ l) (h2 : l ≤ 8 * szOf f) (h3 : r ≠ 0) :
    Calls Tryz.prog 27 #[.agg #[.int .i64 f, .int .u64 r, .string s, .int .i64 l]] w fun e w' => e = .returned (.int .i64 2) ∧ Below w.heap.size w w' := by
  have hg' : FamSizes (w.alloc (.cells #[.int .i64 f, .int .u64 r, .string s, .int .i64 l] 24)) := hg.below ((Below.refl _ _).alloc (Nat.le_refl _) _)
  have e3 : (r != 0) = true := by simp [h3]
  obtain ⟨r1, r2, r3, _, _⟩ := hr
  have l0 : 0 < w.heap.size := lt_of_cell r1
  have z1 : szOf 1 = 4 := rfl
  have z2 : szOf 2 = 16 := rfl
  have z3 : szOf 3 = 4 := rfl
  have e1 : ((s.size : Int) != szOf f) = false := by simp [h0]
  rcases hf with rfl | rfl | rfl
  all_goals
    simp only [z1, z2, z3] at h2 e1
    clear h0 h3
    go_enter Tryz.func27, Tryz.ntmps27
    go_wp2_with (go_at_call 34; refine (size_any _ _ hg').mono ?_; rintro e w' ⟨rfl, rfl⟩)
    go_ret
    exact ⟨rfl, (Below.refl _ _).alloc (Nat.le_refl _) _⟩

end Go.Proofs.YtfhbgpepkplbaaaGreatDoor
namespace Go.Proofs.YtfhbgpepkplbaaaGreatDoor
open Go.RowKit
set_option maxRecDepth 100000 in
set_option maxHeartbeats 400000 in
/-- The last test of Check, f and the size of its addresses as letters; y: what the last test says. -/
theorem check_last (f : Nat) (r : Int) (s : ByteArray) (l : Int) (z : Int) (b y : Bool) (w : World) (hg : FamSizes w) (hf1 : 1 ≤ f) (hf5 : f ≤ 5) (hz : szOf f = z) (h0 : (s.size : Int) = z) (h1 : 0 ≤ l) (h2 : l ≤ 8 * z) (hz1 : 4 ≤ z) (hz2 : z ≤ 16)
    (hc : w.cell? ⟨0, f * 3 + 2, none⟩ = some (.bool b)) (h3 : r = 0 ∨ b = true) (hm : (msk s.data.toList l == s.toList) = y) :
    Calls Tryz.prog 27 #[.agg #[.int .i64 f, .int .u64 r, .string s, .int .i64 l]] w fun e w' => e = .returned (.int .i64 (if y then 0 else 2)) ∧ Below w.heap.size w w' := by
  have hg' : FamSizes (w.alloc (.cells #[.int .i64 f, .int .u64 r, .string s, .int .i64 l] 24)) := hg.below ((Below.refl _ _).alloc (Nat.le_refl _) _)
  have l0 : 0 < w.heap.size := lt_of_cell hc
  have HZ : Hid (szOf f = z) := hz
  have e0 : (z == 0) = false := beq_eq_false_iff_ne.2 (by omega)
  have e1 : ((s.size : Int) != z) = false := by simp [h0]
  have hsz : s.size ≤ 16 := by omega
  have hl : l ≤ 128 := by omega
  clear hz h0
  cases y
  all_goals
    first | (have hm' := beq_eq_false_iff_ne.1 hm) | (have hm' := beq_iff_eq.1 hm)
    clear hm
    by_cases h4 : r = 0
    · subst h4
      clear h3
      go_enter Tryz.func27, Tryz.ntmps27
      go_wp2_with (go_at_call 34; refine (size_any _ _ hg').mono ?_; rintro e w' ⟨rfl, rfl⟩; rw [HZ.out])
      go_region_held (fun w' => w'.cell? ⟨w.heap.size, 0, none⟩ = some (.int .i64 f) ∧ w'.cell? ⟨w.heap.size, 1, none⟩ = some (.int .u64 0) ∧ w'.cell? ⟨w.heap.size, 2, none⟩ = some (.string s) ∧ w'.cell? ⟨w.heap.size, 3, none⟩ = some (.int .i64 l)) (go_keep)
        (first | (go_at_call 53; refine (head_any _ _ _ _ _ _ hsz h1 hl).mono ?_; rintro e w' ⟨rfl, hb⟩; obtain ⟨q0, q1, q2, q3, _, _, _, _⟩ := (PfxAt.of_alloc w _ _ _ _ _ rfl).drew.kept hb (by simp)))
      all_goals go_wp2
      all_goals go_ret
      all_goals exact ⟨rfl, ((Below.refl _ _).alloc (Nat.le_refl _) _).drew.trans (Below.mono (by assumption) (by simp))⟩
    · obtain rfl : b = true := by rcases h3 with h3 | h3; exact absurd h3 h4; exact h3
      have e4 : (r != 0) = true := by simp [h4]
      clear h3 h4
      go_enter Tryz.func27, Tryz.ntmps27
      go_wp2_with (go_at_call 34; refine (size_any _ _ hg').mono ?_; rintro e w' ⟨rfl, rfl⟩; rw [HZ.out])
      go_region_held (fun w' => w'.cell? ⟨w.heap.size, 0, none⟩ = some (.int .i64 f) ∧ w'.cell? ⟨w.heap.size, 1, none⟩ = some (.int .u64 r) ∧ w'.cell? ⟨w.heap.size, 2, none⟩ = some (.string s) ∧ w'.cell? ⟨w.heap.size, 3, none⟩ = some (.int .i64 l)) (go_keep)
        (first | (go_at_call 53; refine (head_any _ _ _ _ _ _ hsz h1 hl).mono ?_; rintro e w' ⟨rfl, hb⟩; obtain ⟨q0, q1, q2, q3, _, _, _, _⟩ := (PfxAt.of_alloc w _ _ _ _ _ rfl).drew.kept hb (by simp)))
      all_goals go_wp2
      all_goals go_ret
      all_goals exact ⟨rfl, ((Below.refl _ _).alloc (Nat.le_refl _) _).drew.trans (Below.mono (by assumption) (by simp))⟩

theorem check_any (f r : Int) (s : ByteArray) (l : Int) (w : World) (hg : FamSizes w) (hr : FamRds w) :
    Calls Tryz.prog 27 #[.agg #[.int .i64 f, .int .u64 r, .string s, .int .i64 l]] w fun e w' => e = .returned (.int .i64 (chk f r s l)) ∧ Below w.heap.size w w' := by
  by_cases hA : szOf f = 0 ∨ (s.size : Int) ≠ szOf f ∨ l < 0 ∨ 8 * szOf f < l
  · have : chk f r s l = 2 := by unfold chk; rw [if_neg (by omega)]
    rw [this]
    exact check_first f r s l w hg hA
  · have hz : szOf f ≠ 0 := by omega
    have hf := szOf_pos f hz
    by_cases hB : r ≠ 0 ∧ f < 4
    · have : chk f r s l = 2 := by unfold chk; rw [if_neg (by omega)]
      rw [this]
      exact check_rd f r s l w hg hr (by omega) (by omega) (by omega) (by omega) hB.1
    · have hb : ∃ b, w.cell? ⟨0, f.toNat * 3 + 2, none⟩ = some (.bool b) ∧ (r = 0 ∨ b = true) := by
        rcases hf with ⟨rfl | rfl | rfl, _⟩ | ⟨rfl | rfl, _⟩
        · exact ⟨_, hr.c1, by omega⟩
        · exact ⟨_, hr.c3, by omega⟩
        · exact ⟨_, hr.c4, Or.inr rfl⟩
        · exact ⟨_, hr.c2, by omega⟩
        · exact ⟨_, hr.c5, Or.inr rfl⟩
      obtain ⟨b, hc, h3⟩ := hb
      obtain ⟨n, rfl⟩ := Int.eq_ofNat_of_zero_le (show 0 ≤ f by omega)
      rw [Int.toNat_natCast] at hc
      have h := check_last n r s l _ b (msk s.data.toList l == s.toList) w hg (by omega) (by omega) rfl (by omega) (by omega) (by omega) (by omega) (by omega) hc h3 rfl
      have e : (if (msk s.data.toList l == s.toList) = true then (0 : Int) else 2) = chk n r s l := by
        unfold chk
        by_cases c : msk s.data.toList l = s.data.toList
        · rw [if_pos (by rw [ByteArray.toList_eq]; exact beq_iff_eq.2 c), if_pos ⟨hz, by omega, by omega, by omega, by omega, c⟩]
        · rw [if_neg (by rw [ByteArray.toList_eq]; simpa using c), if_neg (fun h => c h.2.2.2.2.2)]
      rw [e] at h
      exact h
end Go.Proofs.YtfhbgpepkplbaaaGreatDoor
namespace Go.Proofs.YtfhbgpepkplbaaaGreatDoor
open Go.RowKit

theorem chk_zero {f r : Int} {s : ByteArray} {l : Int} (h : chk f r s l = 0) : szOf f ≠ 0 ∧ (s.size : Int) = szOf f ∧ 0 ≤ l ∧ l ≤ 8 * szOf f ∧ (r = 0 ∨ 4 ≤ f) ∧ msk s.data.toList l = s.data.toList := by
  unfold chk at h
  split at h
  · assumption
  · omega
theorem chk_two {f r : Int} {s : ByteArray} {l : Int} (h : chk f r s l ≠ 0) : chk f r s l = 2 := by
  unfold chk at *
  by_cases c : szOf f ≠ 0 ∧ (s.size : Int) = szOf f ∧ 0 ≤ l ∧ l ≤ 8 * szOf f ∧ (r = 0 ∨ 4 ≤ f) ∧ msk s.data.toList l = s.data.toList
  · rw [if_pos c] at h; exact absurd rfl h
  · rw [if_neg c]

end Go.Proofs.YtfhbgpepkplbaaaGreatDoor
namespace Go.Proofs.YtfhbgpepkplbaaaGreatDoor
open Go.RowKit
/-- The order of two numbers. -/
def ord (a b : Int) : Int := if a < b then -1 else if b < a then 1 else 0
theorem ord_lt {a b : Int} (h : a < b) : ord a b = -1 := by unfold ord; rw [if_pos h]
theorem ord_gt {a b : Int} (h : b < a) : ord a b = 1 := by unfold ord; rw [if_neg (by omega), if_pos h]
theorem ord_eq {a b : Int} (h1 : ¬ a < b) (h2 : ¬ b < a) : ord a b = 0 := by unfold ord; rw [if_neg h1, if_neg h2]
/-- The order of two texts, as the model tells it. -/
def ordS (a b : List UInt8) : Int := if Op.bytesLess a b = true then -1 else if (a == b) = true then 0 else 1

theorem cmpi_any (a b : Int) (w : World) :
    Calls Tryz.prog 56 #[.int .i64 a, .int .i64 b] w fun e w' => e = .returned (.int .i64 (ord a b)) ∧ w' = w := by
  by_cases h1 : a < b
  · have H : Hid (_ = _) := ord_lt h1
    go_enter Tryz.func56, Tryz.ntmps56
    go_wp2
    go_ret
    exact ⟨ret_int H.out.symm, rfl⟩
  · by_cases h2 : b < a
    · have H : Hid (_ = _) := ord_gt h2
      go_enter Tryz.func56, Tryz.ntmps56
      go_wp2
      go_ret
      exact ⟨ret_int H.out.symm, rfl⟩
    · have H : Hid (_ = _) := ord_eq h1 h2
      go_enter Tryz.func56, Tryz.ntmps56
      go_wp2
      go_ret
      exact ⟨ret_int H.out.symm, rfl⟩
theorem cmpu_any (a b : Int) (w : World) :
    Calls Tryz.prog 58 #[.int .u64 a, .int .u64 b] w fun e w' => e = .returned (.int .i64 (ord a b)) ∧ w' = w := by
  by_cases h1 : a < b
  · have H : Hid (_ = _) := ord_lt h1
    go_enter Tryz.func58, Tryz.ntmps58
    go_wp2
    go_ret
    exact ⟨ret_int H.out.symm, rfl⟩
  · by_cases h2 : b < a
    · have H : Hid (_ = _) := ord_gt h2
      go_enter Tryz.func58, Tryz.ntmps58
      go_wp2
      go_ret
      exact ⟨ret_int H.out.symm, rfl⟩
    · have H : Hid (_ = _) := ord_eq h1 h2
      go_enter Tryz.func58, Tryz.ntmps58
      go_wp2
      go_ret
      exact ⟨ret_int H.out.symm, rfl⟩
theorem cmps_any (a b : ByteArray) (w : World) :
    Calls Tryz.prog 60 #[.string a, .string b] w fun e w' => e = .returned (.int .i64 (ordS a.toList b.toList)) ∧ w' = w := by
  by_cases h1 : Op.bytesLess a.toList b.toList = true
  · have H : Hid (ordS a.toList b.toList = -1) := by unfold ordS; rw [if_pos h1]; rfl
    go_enter Tryz.func60, Tryz.ntmps60
    go_wp2
    go_ret
    exact ⟨ret_int H.out.symm, rfl⟩
  · have h1' : Op.bytesLess a.toList b.toList = false := by simpa using h1
    by_cases h2 : (a.toList == b.toList) = true
    · have H : Hid (ordS a.toList b.toList = 0) := by unfold ordS; rw [if_neg h1, if_pos h2]; rfl
      clear h1
      go_enter Tryz.func60, Tryz.ntmps60
      go_wp2
      go_ret
      exact ⟨ret_int H.out.symm, rfl⟩
    · have H : Hid (ordS a.toList b.toList = 1) := by unfold ordS; rw [if_neg h1, if_neg h2]; rfl
      have h2' : (a.toList == b.toList) = false := by simpa using h2
      clear h1 h2
      go_enter Tryz.func60, Tryz.ntmps60
      go_wp2
      go_ret
      exact ⟨ret_int H.out.symm, rfl⟩
theorem order_any (a b : Int) (w : World) :
    Calls Tryz.prog 63 #[.int .i64 a, .int .i64 b] w fun e w' => e = .returned (.int .i64 (ord a b)) ∧ w' = w := by
  by_cases h1 : a < b
  · have H : Hid (_ = _) := ord_lt h1
    go_enter Tryz.func63, Tryz.ntmps63
    go_wp2
    go_ret
    exact ⟨ret_int H.out.symm, rfl⟩
  · by_cases h2 : b < a
    · have H : Hid (_ = _) := ord_gt h2
      go_enter Tryz.func63, Tryz.ntmps63
      go_wp2
      go_ret
      exact ⟨ret_int H.out.symm, rfl⟩
    · have H : Hid (_ = _) := ord_eq h1 h2
      go_enter Tryz.func63, Tryz.ntmps63
      go_wp2
      go_ret
      exact ⟨ret_int H.out.symm, rfl⟩
end Go.Proofs.YtfhbgpepkplbaaaGreatDoor
namespace Go.Proofs.YtfhbgpepkplbaaaGreatDoor
open Go.RowKit
/-- The order of two prefixes. -/
def pcmp (fa ra : Int) (sa : ByteArray) (la : Int) (fb rb : Int) (sb : ByteArray) (lb : Int) : Int :=
  if ord fa fb ≠ 0 then ord fa fb else if ord ra rb ≠ 0 then ord ra rb else if ordS sa.toList sb.toList ≠ 0 then ordS sa.toList sb.toList else ord la lb

theorem cl1 (pa pb : Nat) (fa ra : Int) (sa : ByteArray) (la : Int) (fb rb : Int) (sb : ByteArray) (lb : Int) (w : World) (ha : PfxAt w pa fa ra sa la) (hb : PfxAt w pb fb rb sb lb) :
    Calls Tryz.prog 55 #[.pointer (some ⟨pa, 0, none⟩), .pointer (some ⟨pb, 0, none⟩)] w fun e w' => e = .returned (.int .i64 (ord fa fb)) ∧ w' = w := by
  obtain ⟨a0, a1, a2, a3, _, _, _, _⟩ := ha
  obtain ⟨b0, b1, b2, b3, _, _, _, _⟩ := hb
  go_enter Tryz.func55, Tryz.ntmps55
  go_wp2_with (go_at_call 56; refine (cmpi_any _ _ _).mono ?_; rintro e w' ⟨rfl, rfl⟩)
  go_ret
  exact ⟨rfl, rfl⟩
theorem cl2 (pa pb : Nat) (fa ra : Int) (sa : ByteArray) (la : Int) (fb rb : Int) (sb : ByteArray) (lb : Int) (w : World) (ha : PfxAt w pa fa ra sa la) (hb : PfxAt w pb fb rb sb lb) :
    Calls Tryz.prog 57 #[.pointer (some ⟨pa, 0, none⟩), .pointer (some ⟨pb, 0, none⟩)] w fun e w' => e = .returned (.int .i64 (ord ra rb)) ∧ w' = w := by
  obtain ⟨a0, a1, a2, a3, _, _, _, _⟩ := ha
  obtain ⟨b0, b1, b2, b3, _, _, _, _⟩ := hb
  go_enter Tryz.func57, Tryz.ntmps57
  go_wp2_with (go_at_call 58; refine (cmpu_any _ _ _).mono ?_; rintro e w' ⟨rfl, rfl⟩)
  go_ret
  exact ⟨rfl, rfl⟩
theorem cl3 (pa pb : Nat) (fa ra : Int) (sa : ByteArray) (la : Int) (fb rb : Int) (sb : ByteArray) (lb : Int) (w : World) (ha : PfxAt w pa fa ra sa la) (hb : PfxAt w pb fb rb sb lb) :
    Calls Tryz.prog 59 #[.pointer (some ⟨pa, 0, none⟩), .pointer (some ⟨pb, 0, none⟩)] w fun e w' => e = .returned (.int .i64 (ordS sa.toList sb.toList)) ∧ w' = w := by
  obtain ⟨a0, a1, a2, a3, _, _, _, _⟩ := ha
  obtain ⟨b0, b1, b2, b3, _, _, _, _⟩ := hb
  go_enter Tryz.func59, Tryz.ntmps59
  go_wp2_with (go_at_call 60; refine (cmps_any _ _ _).mono ?_; rintro e w' ⟨rfl, rfl⟩)
  go_ret
  exact ⟨rfl, rfl⟩
theorem cl4 (pa pb : Nat) (fa ra : Int) (sa : ByteArray) (la : Int) (fb rb : Int) (sb : ByteArray) (lb : Int) (w : World) (ha : PfxAt w pa fa ra sa la) (hb : PfxAt w pb fb rb sb lb) :
    Calls Tryz.prog 61 #[.pointer (some ⟨pa, 0, none⟩), .pointer (some ⟨pb, 0, none⟩)] w fun e w' => e = .returned (.int .i64 (ord la lb)) ∧ w' = w := by
  obtain ⟨a0, a1, a2, a3, _, _, _, _⟩ := ha
  obtain ⟨b0, b1, b2, b3, _, _, _, _⟩ := hb
  go_enter Tryz.func61, Tryz.ntmps61
  go_wp2_with (go_at_call 56; refine (cmpi_any _ _ _).mono ?_; rintro e w' ⟨rfl, rfl⟩)
  go_ret
  exact ⟨rfl, rfl⟩

/-- The first of four numbers that is not 0. -/
def firstOf (x0 x1 x2 x3 : Int) : Int := if x0 ≠ 0 then x0 else if x1 ≠ 0 then x1 else if x2 ≠ 0 then x2 else x3

/-- What holds ahead of round k. -/
def Zs (x0 x1 x2 x3 : Int) (k : Nat) : Prop := (1 ≤ k → x0 = 0) ∧ (2 ≤ k → x1 = 0) ∧ (3 ≤ k → x2 = 0) ∧ (4 ≤ k → x3 = 0)
theorem Zs.none {x0 x1 x2 x3 : Int} (h : Zs x0 x1 x2 x3 4) : (0 : Int) = firstOf x0 x1 x2 x3 := by
  unfold Zs at h; unfold firstOf; repeat' split
  all_goals omega
theorem Zs.hit0 {x0 x1 x2 x3 : Int} (h : (x0 != 0) = true) : x0 = firstOf x0 x1 x2 x3 := by
  rw [bne_iff_ne] at h; unfold firstOf; rw [if_pos h]
theorem Zs.hit1 {x0 x1 x2 x3 : Int} (z : Zs x0 x1 x2 x3 1) (h : (x1 != 0) = true) : x1 = firstOf x0 x1 x2 x3 := by
  rw [bne_iff_ne] at h; unfold Zs at z; unfold firstOf; rw [if_neg (by omega), if_pos h]
theorem Zs.hit2 {x0 x1 x2 x3 : Int} (z : Zs x0 x1 x2 x3 2) (h : (x2 != 0) = true) : x2 = firstOf x0 x1 x2 x3 := by
  rw [bne_iff_ne] at h; unfold Zs at z; unfold firstOf; rw [if_neg (by omega), if_neg (by omega), if_pos h]
theorem Zs.hit3 {x0 x1 x2 x3 : Int} (z : Zs x0 x1 x2 x3 3) : x3 = firstOf x0 x1 x2 x3 := by
  unfold Zs at z; unfold firstOf; rw [if_neg (by omega), if_neg (by omega), if_neg (by omega)]
theorem Zs.next0 {x0 x1 x2 x3 : Int} (h : (x0 != 0) = false) : Zs x0 x1 x2 x3 1 := by
  have : x0 = 0 := by simpa using h
  unfold Zs; omega
theorem Zs.next1 {x0 x1 x2 x3 : Int} (z : Zs x0 x1 x2 x3 1) (h : (x1 != 0) = false) : Zs x0 x1 x2 x3 2 := by
  have : x1 = 0 := by simpa using h
  unfold Zs at *; omega
theorem Zs.next2 {x0 x1 x2 x3 : Int} (z : Zs x0 x1 x2 x3 2) (h : (x2 != 0) = false) : Zs x0 x1 x2 x3 3 := by
  have : x2 = 0 := by simpa using h
  unfold Zs at *; omega
theorem Zs.next3 {x0 x1 x2 x3 : Int} (z : Zs x0 x1 x2 x3 3) (h : (x3 != 0) = false) : Zs x0 x1 x2 x3 4 := by
  have : x3 = 0 := by simpa using h
  unfold Zs at *; omega

set_option maxRecDepth 100000 in
set_option maxHeartbeats 800000 in
theorem inTurn_any (b pa pb : Nat) (fa ra : Int) (sa : ByteArray) (la : Int) (fb rb : Int) (sb : ByteArray) (lb : Int) (w : World) (ha : PfxAt w pa fa ra sa la) (hb : PfxAt w pb fb rb sb lb)
    (c0 : w.cell? ⟨b, 0, none⟩ = some (.func (.func 55) #[] #[.pointer (some ⟨pa, 0, none⟩), .pointer (some ⟨pb, 0, none⟩)]))
    (c1 : w.cell? ⟨b, 1, none⟩ = some (.func (.func 57) #[] #[.pointer (some ⟨pa, 0, none⟩), .pointer (some ⟨pb, 0, none⟩)]))
    (c2 : w.cell? ⟨b, 2, none⟩ = some (.func (.func 59) #[] #[.pointer (some ⟨pa, 0, none⟩), .pointer (some ⟨pb, 0, none⟩)]))
    (c3 : w.cell? ⟨b, 3, none⟩ = some (.func (.func 61) #[] #[.pointer (some ⟨pa, 0, none⟩), .pointer (some ⟨pb, 0, none⟩)])) :
    Calls Tryz.prog 54 #[.slice (some ⟨b, 0, none⟩) 4 4] w fun e w' => e = .returned (.int .i64 (firstOf (ord fa fb) (ord ra rb) (ordS sa.toList sb.toList) (ord la lb))) ∧ w' = w := by
  have C1 := cl1 pa pb fa ra sa la fb rb sb lb w ha hb
  have C2 := cl2 pa pb fa ra sa la fb rb sb lb w ha hb
  have C3 := cl3 pa pb fa ra sa la fb rb sb lb w ha hb
  have C4 := cl4 pa pb fa ra sa la fb rb sb lb w ha hb
  generalize ord fa fb = x0 at *
  generalize ord ra rb = x1 at *
  generalize ordS sa.toList sb.toList = x2 at *
  generalize ord la lb = x3 at *
  clear ha hb
  have K1 : Hid (Calls _ _ _ _ _) := C1
  have K2 : Hid (Calls _ _ _ _ _) := C2
  have K3 : Hid (Calls _ _ _ _ _) := C3
  have K4 : Hid (Calls _ _ _ _ _) := C4
  clear C1 C2 C3 C4
  go_enter Tryz.func54, Tryz.ntmps54
  go_wp2_with fail
  go_loop [8] (fun i => ∃ k : Nat, k ≤ 4 ∧ i = .int .i64 k ∧ Zs x0 x1 x2 x3 k) (fun i => 4 - (intOf i).toNat)
  case atStart => exact ⟨0, by omega, rfl, by unfold Zs; omega⟩
  case round =>
    obtain ⟨k, hk, rfl, R⟩ := hrel
    have hk' : k = 0 ∨ k = 1 ∨ k = 2 ∨ k = 3 ∨ k = 4 := by omega
    clear hk
    rcases hk' with rfl | rfl | rfl | rfl | rfl
    all_goals
      go_wp2_with (first | (go_at_call 55; go_must (refine Calls.mono K1.out ?_); rintro e w' ⟨rfl, rfl⟩) | (go_at_call 57; go_must (refine Calls.mono K2.out ?_); rintro e w' ⟨rfl, rfl⟩) | (go_at_call 59; go_must (refine Calls.mono K3.out ?_); rintro e w' ⟨rfl, rfl⟩) | (go_at_call 61; go_must (refine Calls.mono K4.out ?_); rintro e w' ⟨rfl, rfl⟩))
    · go_ret; exact ⟨ret_int (Zs.hit0 (by assumption)), rfl⟩
    · exact ⟨⟨1, by omega, rfl, Zs.next0 (by assumption)⟩, by simp [intOf]⟩
    · go_ret; exact ⟨ret_int (R.hit1 (by assumption)), rfl⟩
    · exact ⟨⟨2, by omega, rfl, R.next1 (by assumption)⟩, by simp [intOf]⟩
    · go_ret; exact ⟨ret_int (R.hit2 (by assumption)), rfl⟩
    · exact ⟨⟨3, by omega, rfl, R.next2 (by assumption)⟩, by simp [intOf]⟩
    · go_ret; exact ⟨ret_int R.hit3, rfl⟩
    · exact ⟨⟨4, by omega, rfl, R.next3 (by assumption)⟩, by simp [intOf]⟩
    · go_ret; exact ⟨ret_int R.none, rfl⟩

set_option maxRecDepth 100000 in
set_option maxHeartbeats 400000 in
theorem cmp_any (fa ra : Int) (sa : ByteArray) (la : Int) (fb rb : Int) (sb : ByteArray) (lb : Int) (w : World) :
    Calls Tryz.prog 30 #[.agg #[.int .i64 fa, .int .u64 ra, .string sa, .int .i64 la], .agg #[.int .i64 fb, .int .u64 rb, .string sb, .int .i64 lb]] w fun e w' => e = .returned (.int .i64 (pcmp fa ra sa la fb rb sb lb)) ∧ Below w.heap.size w w' := by
  go_enter Tryz.func30, Tryz.ntmps30
  go_wp2_with fail
  refine (inTurn_any (w.heap.size + 1 + 1) w.heap.size (w.heap.size + 1) fa ra sa la fb rb sb lb _ ?_ ?_ ?_ ?_ ?_ ?_).mono ?_
  · exact (PfxAt.of_alloc w _ fa ra sa la rfl).kept (B := w.heap.size + 1) (((Below.refl _ _).alloc (by simp) _).alloc (by simp) _) (by simp)
  · exact (PfxAt.of_alloc (w.alloc _) _ fb rb sb lb (by simp)).kept (B := w.heap.size + 1 + 1) ((Below.refl _ _).alloc (by simp) _) (by simp)
  · rw [World.cell?_alloc_at _ _ _ _ (by simp)]; rfl
  · rw [World.cell?_alloc_at _ _ _ _ (by simp)]; rfl
  · rw [World.cell?_alloc_at _ _ _ _ (by simp)]; rfl
  · rw [World.cell?_alloc_at _ _ _ _ (by simp)]; rfl
  rintro e w' ⟨rfl, rfl⟩
  go_wp2
  go_ret
  exact ⟨rfl, (((Below.refl _ _).alloc (Nat.le_refl _) _).alloc (by simp) _).alloc (by simp; omega) _⟩
end Go.Proofs.YtfhbgpepkplbaaaGreatDoor
namespace Go.Proofs.YtfhbgpepkplbaaaGreatDoor
open Go.RowKit
theorem cellOr {W' w2 : World} (hb : Below W'.heap.size W' w2) (b i : Nat) : w2.cell? ⟨b, i, none⟩ = if b < W'.heap.size then W'.cell? ⟨b, i, none⟩ else w2.cell? ⟨b, i, none⟩ := by
  split
  · exact hb.cell (by assumption)
  · rfl
theorem frozenOr {W' w2 : World} (hb : Below W'.heap.size W' w2) (b i : Nat) : w2.frozen? ⟨b, i, none⟩ = if b < W'.heap.size then W'.frozen? ⟨b, i, none⟩ else w2.frozen? ⟨b, i, none⟩ := by
  split
  · exact hb.frozen (by assumption)
  · rfl
/-- The world at a place of the walk, by what is known of it. -/
theorem with_world {P : Program} {c : Code} {Q : Exit → Act → World → Prop} {a : Act} {W : World} (F : World → Prop) (hF : F W) (h : ∀ wx, F wx → Code.wp P c Q a wx) : Code.wp P c Q a W := h W hF
theorem msk_full (l : List UInt8) (n : Int) (h : 8 * (l.length : Int) ≤ n) : msk l n = l := by
  apply List.ext_getElem
  · simp [msk]
  · intro i h1 h2
    have hm : mk (n - 8 * (i : Int)) = 255 := by unfold mk; rw [if_neg (by omega), if_pos (by omega)]
    simp only [msk, List.getElem_mapIdx, hm]
    apply UInt8.toNat_inj.1
    rw [UInt8.toNat_and]
    have := (l[i]).toNat_lt
    exact Nat.and_two_pow_sub_one_of_lt_two_pow (n := 8) this
theorem chk_full (f r : Int) (s : ByteArray) (hz : szOf f ≠ 0) (hs : (s.size : Int) = szOf f) (hr : r = 0 ∨ 4 ≤ f) : chk f r s (8 * szOf f) = 0 := by
  have hb := szOf_bd f
  unfold chk
  rw [if_pos ⟨hz, hs, by omega, by omega, hr, msk_full _ _ (by simp; omega)⟩]
end Go.Proofs.YtfhbgpepkplbaaaGreatDoor
namespace Go.Proofs.YtfhbgpepkplbaaaGreatDoor
open Go.RowKit
/-- The cells of the table of families. -/
def famCells : Array Value := #[.string ⟨#[]⟩, .int .i64 0, .bool false, .string ⟨#[118, 52]⟩, .int .i64 4, .bool false, .string ⟨#[118, 54]⟩, .int .i64 16, .bool false, .string ⟨#[108, 52]⟩, .int .i64 4, .bool false, .string ⟨#[118, 112, 110, 52]⟩, .int .i64 4, .bool true, .string ⟨#[118, 112, 110, 54]⟩, .int .i64 16, .bool true]
/-- The cells of the table of styles. -/
def stCells : Array Value := #[.string ⟨#[46]⟩, .int .i64 4, .int .i64 1, .int .i64 10, .string ⟨#[58]⟩, .int .i64 8, .int .i64 2, .int .i64 16]
/-- The two tables lie in their blocks. -/
structure Tabs (w : World) : Prop where
  fam : ∃ t fr, w.heap[0]? = some (.cells famCells t fr)
  sty : ∃ t fr, w.heap[1]? = some (.cells stCells t fr)
  max : ∃ m, w.cell? ⟨2, 0, none⟩ = some (.int .i64 m)
theorem lt_of_heap {w : World} {b : Nat} {o : Obj} (h : w.heap[b]? = some o) : b < w.heap.size := by
  by_cases e : b < w.heap.size
  · exact e
  · rw [Array.getElem?_eq_none (by simpa using e)] at h; cases h
theorem Tabs.below {w w' : World} (h : Tabs w) (hb : Below w.heap.size w w') : Tabs w' := by
  obtain ⟨⟨t, fr, h0⟩, ⟨t1, fr1, h1⟩, ⟨m, h3⟩⟩ := h
  exact ⟨⟨t, fr, (hb.block 0 (lt_of_heap h0)).trans h0⟩, ⟨t1, fr1, (hb.block 1 (lt_of_heap h1)).trans h1⟩, ⟨m, (hb.cell (p := ⟨2, 0, none⟩) (lt_of_cell h3)).trans h3⟩⟩
theorem Tabs.sizes {w : World} (h : Tabs w) : FamSizes w := by
  obtain ⟨⟨t, fr, h0⟩, _, _⟩ := h
  exact ⟨cell_of_row w 0 1 _ t fr h0, cell_of_row w 0 4 _ t fr h0, cell_of_row w 0 7 _ t fr h0, cell_of_row w 0 10 _ t fr h0, cell_of_row w 0 13 _ t fr h0, cell_of_row w 0 16 _ t fr h0⟩
theorem Tabs.rds {w : World} (h : Tabs w) : FamRds w := by
  obtain ⟨⟨t, fr, h0⟩, _, _⟩ := h
  exact ⟨cell_of_row w 0 5 _ t fr h0, cell_of_row w 0 8 _ t fr h0, cell_of_row w 0 11 _ t fr h0, cell_of_row w 0 14 _ t fr h0, cell_of_row w 0 17 _ t fr h0⟩
theorem nil_beq (l : List UInt8) : (([] : List UInt8) == l) = l.isEmpty := by cases l <;> rfl
/-- The family of a name; 0, if there is none. -/
def famOf (l : List UInt8) : Int := if ([] == l) = true then 0 else if ([118, 52] == l) = true then 1 else if ([118, 54] == l) = true then 2 else if ([108, 52] == l) = true then 3 else if ([118, 112, 110, 52] == l) = true then 4 else if ([118, 112, 110, 54] == l) = true then 5 else 0
/-- No name ahead of row k is the text. -/
def Nz (l : List UInt8) (k : Nat) : Prop := (1 ≤ k → ([] == l) = false) ∧ (2 ≤ k → ([118, 52] == l) = false) ∧ (3 ≤ k → ([118, 54] == l) = false) ∧ (4 ≤ k → ([108, 52] == l) = false) ∧ (5 ≤ k → ([118, 112, 110, 52] == l) = false) ∧ (6 ≤ k → ([118, 112, 110, 54] == l) = false)
theorem Nz.hit0 {l : List UInt8} (_z : Nz l 0) (h : ([] == l) = true) : (0 : Int) = famOf l := by
  unfold famOf
  simp [h]
theorem Nz.next0 {l : List UInt8} (_z : Nz l 0) (h : ([] == l) = false) : Nz l 1 := by
  unfold Nz at *
  simp at *
  simp [h]
theorem Nz.hit1 {l : List UInt8} (z : Nz l 1) (h : ([118, 52] == l) = true) : (1 : Int) = famOf l := by
  have z' := z
  unfold Nz at z'
  unfold famOf
  simp [z', h]
theorem Nz.next1 {l : List UInt8} (z : Nz l 1) (h : ([118, 52] == l) = false) : Nz l 2 := by
  unfold Nz at *
  simp at *
  simp [z, h]
theorem Nz.hit2 {l : List UInt8} (z : Nz l 2) (h : ([118, 54] == l) = true) : (2 : Int) = famOf l := by
  have z' := z
  unfold Nz at z'
  unfold famOf
  simp [z', h]
theorem Nz.next2 {l : List UInt8} (z : Nz l 2) (h : ([118, 54] == l) = false) : Nz l 3 := by
  unfold Nz at *
  simp at *
  simp [z, h]
theorem Nz.hit3 {l : List UInt8} (z : Nz l 3) (h : ([108, 52] == l) = true) : (3 : Int) = famOf l := by
  have z' := z
  unfold Nz at z'
  unfold famOf
  simp [z', h]
theorem Nz.next3 {l : List UInt8} (z : Nz l 3) (h : ([108, 52] == l) = false) : Nz l 4 := by
  unfold Nz at *
  simp at *
  simp [z, h]
theorem Nz.hit4 {l : List UInt8} (z : Nz l 4) (h : ([118, 112, 110, 52] == l) = true) : (4 : Int) = famOf l := by
  have z' := z
  unfold Nz at z'
  unfold famOf
  simp [z', h]
theorem Nz.next4 {l : List UInt8} (z : Nz l 4) (h : ([118, 112, 110, 52] == l) = false) : Nz l 5 := by
  unfold Nz at *
  simp at *
  simp [z, h]
theorem Nz.hit5 {l : List UInt8} (z : Nz l 5) (h : ([118, 112, 110, 54] == l) = true) : (5 : Int) = famOf l := by
  have z' := z
  unfold Nz at z'
  unfold famOf
  simp [z', h]
theorem Nz.next5 {l : List UInt8} (z : Nz l 5) (h : ([118, 112, 110, 54] == l) = false) : Nz l 6 := by
  unfold Nz at *
  simp at *
  simp [z, h]
theorem Nz.none {l : List UInt8} (z : Nz l 6) : (0 : Int) = famOf l := by
  unfold Nz at z
  unfold famOf
  simp at z
  simp [z]
theorem ix0 (w : World) : (Instr.index 81 (.agg famCells) (.int .i64 0)).run Tryz.prog w = .ok (.agg #[.string ⟨#[]⟩, .int .i64 0, .bool false]) w := by kernel_rfl
theorem ix1 (w : World) : (Instr.index 81 (.agg famCells) (.int .i64 1)).run Tryz.prog w = .ok (.agg #[.string ⟨#[118, 52]⟩, .int .i64 4, .bool false]) w := by kernel_rfl
theorem ix2 (w : World) : (Instr.index 81 (.agg famCells) (.int .i64 2)).run Tryz.prog w = .ok (.agg #[.string ⟨#[118, 54]⟩, .int .i64 16, .bool false]) w := by kernel_rfl
theorem ix3 (w : World) : (Instr.index 81 (.agg famCells) (.int .i64 3)).run Tryz.prog w = .ok (.agg #[.string ⟨#[108, 52]⟩, .int .i64 4, .bool false]) w := by kernel_rfl
theorem ix4 (w : World) : (Instr.index 81 (.agg famCells) (.int .i64 4)).run Tryz.prog w = .ok (.agg #[.string ⟨#[118, 112, 110, 52]⟩, .int .i64 4, .bool true]) w := by kernel_rfl
theorem ix5 (w : World) : (Instr.index 81 (.agg famCells) (.int .i64 5)).run Tryz.prog w = .ok (.agg #[.string ⟨#[118, 112, 110, 54]⟩, .int .i64 16, .bool true]) w := by kernel_rfl
theorem info50 : (Tryz.prog.info? 81).map (·.size) = some famCells.size := by kernel_rfl
set_option maxRecDepth 100000 in
set_option maxHeartbeats 800000 in
theorem named_any (s : ByteArray) (w : World) (h : Tabs w) :
    Calls Tryz.prog 100 #[.string s] w fun e w' => e = .returned (.int .i64 (famOf s.toList)) ∧ Below w.heap.size w w' := by
  obtain ⟨⟨t, fr, h0⟩, _, _⟩ := h
  have H0 : Hid (w.heap[0]? = some (.cells famCells t fr)) := h0
  clear h0
  go_enter Tryz.func100, Tryz.ntmps100
  go_wp2_with (refine wpList_load_row rfl 81 _ rfl 0 rfl t _ fr _ H0.out Tryz.underlying81 rfl info50 ?_)
  have hix0 := ix0
  have hix1 := ix1
  have hix2 := ix2
  have hix3 := ix3
  have hix4 := ix4
  have hix5 := ix5
  go_loopw [6] (fun i wr => ∃ k : Nat, k ≤ 6 ∧ i = .int .i64 k ∧ Nz s.toList k ∧ Below w.heap.size w wr) (fun i _ => 6 - (intOf i).toNat)
  case atStart => exact ⟨0, by omega, rfl, by unfold Nz; simp, Below.refl _ _⟩
  case round =>
    obtain ⟨k, hk, rfl, z, hb⟩ := hrel
    have hss := hb.size
    have hk' : k = 0 ∨ k = 1 ∨ k = 2 ∨ k = 3 ∨ k = 4 ∨ k = 5 ∨ k = 6 := by omega
    clear hk
    rcases hk' with rfl | rfl | rfl | rfl | rfl | rfl | rfl
    all_goals go_wp2
    · go_ret; exact ⟨ret_int (z.hit0 (by rw [nil_beq]; assumption)), hb.alloc hss _⟩
    · exact ⟨⟨1, by omega, rfl, z.next0 (by rw [nil_beq]; assumption), hb.alloc hss _⟩, by simp [intOf]⟩
    · go_ret; exact ⟨ret_int (z.hit1 (by assumption)), hb.alloc hss _⟩
    · exact ⟨⟨2, by omega, rfl, z.next1 (by assumption), hb.alloc hss _⟩, by simp [intOf]⟩
    · go_ret; exact ⟨ret_int (z.hit2 (by assumption)), hb.alloc hss _⟩
    · exact ⟨⟨3, by omega, rfl, z.next2 (by assumption), hb.alloc hss _⟩, by simp [intOf]⟩
    · go_ret; exact ⟨ret_int (z.hit3 (by assumption)), hb.alloc hss _⟩
    · exact ⟨⟨4, by omega, rfl, z.next3 (by assumption), hb.alloc hss _⟩, by simp [intOf]⟩
    · go_ret; exact ⟨ret_int (z.hit4 (by assumption)), hb.alloc hss _⟩
    · exact ⟨⟨5, by omega, rfl, z.next4 (by assumption), hb.alloc hss _⟩, by simp [intOf]⟩
    · go_ret; exact ⟨ret_int (z.hit5 (by assumption)), hb.alloc hss _⟩
    · exact ⟨⟨6, by omega, rfl, z.next5 (by assumption), hb.alloc hss _⟩, by simp [intOf]⟩
    · go_ret; exact ⟨ret_int z.none, hb⟩
end Go.Proofs.YtfhbgpepkplbaaaGreatDoor
namespace Go.Proofs.YtfhbgpepkplbaaaGreatDoor
open Go.RowKit
theorem msk_idem (l : List UInt8) (n : Int) : msk (msk l n) n = msk l n := by
  apply List.ext_getElem
  · simp [msk]
  · intro i h1 h2
    simp only [msk, List.getElem_mapIdx]
    apply UInt8.toNat_inj.1
    simp [UInt8.toNat_and, Nat.and_assoc]
theorem chk_cut (f r : Int) (l : List UInt8) (n : Int) (hz : szOf f ≠ 0) (hs : (l.length : Int) = szOf f) (h0 : 0 ≤ n) (h1 : n ≤ 8 * szOf f) (hr : r = 0 ∨ 4 ≤ f) : chk f r ⟨(msk l n).toArray⟩ n = 0 := by
  unfold chk
  have e : ((⟨(msk l n).toArray⟩ : ByteArray).size : Int) = szOf f := by
    show ((msk l n).toArray.size : Int) = szOf f
    rw [List.size_toArray, msk_length]; exact hs
  rw [if_pos ⟨hz, e, h0, h1, hr, by rw [List.toList_toArray]; exact msk_idem l n⟩]
end Go.Proofs.YtfhbgpepkplbaaaGreatDoor
namespace Go.Proofs.YtfhbgpepkplbaaaGreatDoor

theorem ord_neg (a b : Int) : ord b a = - ord a b := by unfold ord; repeat' split
                                                        all_goals omega
theorem ord_zero {a b : Int} : ord a b = 0 ↔ a = b := by
  unfold ord
  constructor
  · intro h; split at h
    · omega
    · split at h <;> omega
  · rintro rfl; simp
theorem ord_bd (a b : Int) : -1 ≤ ord a b ∧ ord a b ≤ 1 := by
  unfold ord; split
  · omega
  · split <;> omega
theorem ord_le {a b : Int} : ord a b ≤ 0 ↔ a ≤ b := by
  unfold ord
  constructor
  · intro h; split at h
    · omega
    · split at h <;> omega
  · intro h; split
    · omega
    · split <;> omega

theorem less_irrefl : ∀ l : List UInt8, Op.bytesLess l l = false
  | [] => rfl
  | a :: l => by simp [Op.bytesLess, less_irrefl l]
theorem less_asymm : ∀ l m : List UInt8, Op.bytesLess l m = true → Op.bytesLess m l = false
  | [], [], _ => rfl
  | [], _ :: _, _ => rfl
  | _ :: _, [], h => by simp [Op.bytesLess] at h
  | a :: l, b :: m, h => by
    simp only [Op.bytesLess, Bool.or_eq_true, Bool.and_eq_true, decide_eq_true_eq, beq_iff_eq] at h
    simp only [Op.bytesLess, Bool.or_eq_false_iff, Bool.and_eq_false_iff, decide_eq_false_iff_not, beq_eq_false_iff_ne]
    rcases h with h | ⟨rfl, h⟩
    · exact ⟨by rw [UInt8.lt_iff_toNat_lt] at *; omega, Or.inl (by intro e; subst e; rw [UInt8.lt_iff_toNat_lt] at h; omega)⟩
    · exact ⟨by rw [UInt8.lt_iff_toNat_lt]; omega, Or.inr (less_asymm l m h)⟩
theorem less_total : ∀ l m : List UInt8, Op.bytesLess l m = false → Op.bytesLess m l = false → l = m
  | [], [], _, _ => rfl
  | [], _ :: _, h, _ => by simp [Op.bytesLess] at h
  | _ :: _, [], _, h => by simp [Op.bytesLess] at h
  | a :: l, b :: m, h, k => by
    simp only [Op.bytesLess, Bool.or_eq_false_iff, Bool.and_eq_false_iff, decide_eq_false_iff_not, beq_eq_false_iff_ne] at h k
    rw [UInt8.lt_iff_toNat_lt] at h k
    have e : a = b := UInt8.toNat_inj.1 (by omega)
    subst e
    have h2 : Op.bytesLess l m = false := by rcases h.2 with h | h; exact absurd rfl h; exact h
    have k2 : Op.bytesLess m l = false := by rcases k.2 with k | k; exact absurd rfl k; exact k
    rw [less_total l m h2 k2]
theorem less_trans : ∀ l m n : List UInt8, Op.bytesLess l m = true → Op.bytesLess m n = true → Op.bytesLess l n = true
  | _, _, [], _, h => by simp [Op.bytesLess] at h
  | _, [], _ :: _, h, _ => by simp [Op.bytesLess] at h
  | [], _ :: _, _ :: _, _, _ => rfl
  | a :: l, b :: m, c :: n, h, k => by
    simp only [Op.bytesLess, Bool.or_eq_true, Bool.and_eq_true, decide_eq_true_eq, beq_iff_eq] at *
    rw [UInt8.lt_iff_toNat_lt] at *
    rcases h with h | ⟨rfl, h⟩
    · rcases k with k | ⟨rfl, k⟩
      · left; omega
      · left; exact h
    · rcases k with k | ⟨rfl, k⟩
      · left; exact k
      · right; exact ⟨rfl, less_trans l m n h k⟩
theorem ordS_neg (a b : List UInt8) : ordS b a = - ordS a b := by
  unfold ordS
  cases h1 : Op.bytesLess a b
  · cases h2 : Op.bytesLess b a
    · have := less_total a b h1 h2
      subst this
      simp
    · have : a ≠ b := by intro e; subst e; rw [less_irrefl] at h2; cases h2
      simp [this]
  · rw [less_asymm a b h1]
    have : b ≠ a := by intro e; subst e; rw [less_irrefl] at h1; cases h1
    simp [this]
theorem ordS_zero {a b : List UInt8} : ordS a b = 0 ↔ a = b := by
  unfold ordS
  constructor
  · intro h
    cases h1 : Op.bytesLess a b
    · rw [h1] at h; simp at h; exact h
    · rw [h1] at h; simp at h
  · rintro rfl; rw [less_irrefl]; simp
theorem ordS_bd (a b : List UInt8) : -1 ≤ ordS a b ∧ ordS a b ≤ 1 := by
  unfold ordS; split
  · omega
  · split <;> omega
theorem ordS_neg1 {a b : List UInt8} : ordS a b = -1 ↔ Op.bytesLess a b = true := by
  unfold ordS
  constructor
  · intro h; split at h
    · assumption
    · split at h <;> omega
  · intro h; rw [if_pos h]
/-- The order of prefixes is antisymmetric, and only the same stand together. -/
theorem pcmp_neg (fa ra : Int) (sa : ByteArray) (la fb rb : Int) (sb : ByteArray) (lb : Int) : pcmp fb rb sb lb fa ra sa la = - pcmp fa ra sa la fb rb sb lb := by
  unfold pcmp
  rw [ord_neg fa fb, ord_neg ra rb, ord_neg la lb, ordS_neg sa.toList sb.toList]
  generalize ord fa fb = x
  generalize ord ra rb = y
  generalize ord la lb = z
  generalize ordS sa.toList sb.toList = u
  repeat' split
  all_goals omega
theorem pcmp_self (fa ra : Int) (sa : ByteArray) (la : Int) : pcmp fa ra sa la fa ra sa la = 0 := by
  have := pcmp_neg fa ra sa la fa ra sa la
  omega
theorem pcmp_bd (fa ra : Int) (sa : ByteArray) (la fb rb : Int) (sb : ByteArray) (lb : Int) : -1 ≤ pcmp fa ra sa la fb rb sb lb ∧ pcmp fa ra sa la fb rb sb lb ≤ 1 := by
  have h1 := ord_bd fa fb
  have h2 := ord_bd ra rb
  have h3 := ord_bd la lb
  have h4 := ordS_bd sa.toList sb.toList
  unfold pcmp
  repeat' split
  all_goals omega
theorem pcmp_zero {fa ra : Int} {sa : ByteArray} {la fb rb : Int} {sb : ByteArray} {lb : Int} : pcmp fa ra sa la fb rb sb lb = 0 ↔ fa = fb ∧ ra = rb ∧ sa.toList = sb.toList ∧ la = lb := by
  have h1 := @ord_zero fa fb
  have h2 := @ord_zero ra rb
  have h3 := @ord_zero la lb
  have h4 := @ordS_zero sa.toList sb.toList
  unfold pcmp
  constructor
  · intro h
    split at h
    · omega
    · split at h
      · omega
      · split at h
        · omega
        · exact ⟨h1.1 (by omega), h2.1 (by omega), h4.1 (by omega), h3.1 (by omega)⟩
  · rintro ⟨a, b, c, d⟩
    rw [if_neg (by rw [h1.2 a]; decide), if_neg (by rw [h2.2 b]; decide), if_neg (by rw [h4.2 c]; decide), h3.2 d]
/-- Two orders put together keep what goes on and on. -/
theorem lex_trans {x1 x2 x3 y1 y2 y3 : Int} (T : x1 ≤ 0 → x2 ≤ 0 → x3 ≤ 0 ∧ (x3 = 0 → x1 = 0 ∧ x2 = 0)) (Z : x1 = 0 → x2 = 0 → x3 = 0) (U : y1 ≤ 0 → y2 ≤ 0 → y3 ≤ 0)
    (h : (if x1 ≠ 0 then x1 else y1) ≤ 0) (k : (if x2 ≠ 0 then x2 else y2) ≤ 0) : (if x3 ≠ 0 then x3 else y3) ≤ 0 := by
  by_cases a1 : x1 = 0
  · rw [if_neg (by omega)] at h
    by_cases a2 : x2 = 0
    · rw [if_neg (by omega)] at k
      have := Z a1 a2
      rw [if_neg (by omega)]
      exact U h k
    · rw [if_pos a2] at k
      have := T (by omega) k
      rw [if_pos (by omega)]; omega
  · rw [if_pos a1] at h
    by_cases a2 : x2 = 0
    · have := T h (by omega)
      rw [if_pos (by omega)]; omega
    · rw [if_pos a2] at k
      have := T h k
      rw [if_pos (by omega)]; omega
theorem ord_T (a b c : Int) : ord a b ≤ 0 → ord b c ≤ 0 → ord a c ≤ 0 ∧ (ord a c = 0 → ord a b = 0 ∧ ord b c = 0) := by
  rw [ord_le, ord_le, ord_le, ord_zero, ord_zero, ord_zero]
  omega
theorem ord_Z (a b c : Int) : ord a b = 0 → ord b c = 0 → ord a c = 0 := by
  rw [ord_zero, ord_zero, ord_zero]; omega
theorem ordS_T (a b c : List UInt8) : ordS a b ≤ 0 → ordS b c ≤ 0 → ordS a c ≤ 0 ∧ (ordS a c = 0 → ordS a b = 0 ∧ ordS b c = 0) := by
  intro p q
  have s1 := ordS_bd a b
  have s2 := ordS_bd b c
  by_cases p0 : ordS a b = 0
  · have e := ordS_zero.1 p0
    rw [← e] at q ⊢
    exact ⟨q, fun h => ⟨by rw [ordS_zero], h⟩⟩
  · by_cases q0 : ordS b c = 0
    · have e := ordS_zero.1 q0
      rw [← e]
      exact ⟨p, fun h => absurd h p0⟩
    · have := ordS_neg1.2 (less_trans _ _ _ (ordS_neg1.1 (show ordS a b = -1 by omega)) (ordS_neg1.1 (show ordS b c = -1 by omega)))
      exact ⟨by omega, fun h => by omega⟩
theorem ordS_Z (a b c : List UInt8) : ordS a b = 0 → ordS b c = 0 → ordS a c = 0 := by
  rw [ordS_zero, ordS_zero, ordS_zero]; rintro rfl rfl; rfl
theorem pcmp_trans (fa ra : Int) (sa : ByteArray) (la fb rb : Int) (sb : ByteArray) (lb fc rc : Int) (sc : ByteArray) (lc : Int)
    (h : pcmp fa ra sa la fb rb sb lb ≤ 0) (k : pcmp fb rb sb lb fc rc sc lc ≤ 0) : pcmp fa ra sa la fc rc sc lc ≤ 0 := by
  unfold pcmp at *
  exact lex_trans (ord_T fa fb fc) (ord_Z fa fb fc) (lex_trans (ord_T ra rb rc) (ord_Z ra rb rc) (lex_trans (ordS_T _ _ _) (ordS_Z _ _ _) (fun p q => (ord_T la lb lc p q).1))) h k
end Go.Proofs.YtfhbgpepkplbaaaGreatDoor
namespace Go.Proofs.YtfhbgpepkplbaaaGreatDoor
theorem mk_clamp (n : Int) : mk n = mk (min (max n 0) 8) := by
  unfold mk
  by_cases a : n ≤ 0
  · rw [if_pos a, if_pos (by omega)]
  · by_cases b : 8 ≤ n
    · rw [if_neg a, if_pos b, if_neg (by omega), if_pos (by omega)]
    · rw [show min (max n 0) 8 = n by omega]
theorem mk_and (n m : Int) : mk n &&& mk m = mk (min n m) := by
  rw [mk_clamp n, mk_clamp m, mk_clamp (min n m)]
  have h : ∀ a : Fin 9, ∀ b : Fin 9, mk (a.val : Int) &&& mk (b.val : Int) = mk (min (max (min (a.val : Int) (b.val : Int)) 0) 8) := by decide +kernel
  have h1 := h ⟨(min (max n 0) 8).toNat, by omega⟩ ⟨(min (max m 0) 8).toNat, by omega⟩
  simp only at h1
  rw [Int.toNat_of_nonneg (by omega), Int.toNat_of_nonneg (by omega)] at h1
  rw [h1]
  congr 1
  omega
theorem msk_msk (l : List UInt8) (n m : Int) : msk (msk l n) m = msk l (min n m) := by
  apply List.ext_getElem
  · simp [msk]
  · intro i h1 h2
    simp only [msk, List.getElem_mapIdx]
    rw [UInt8.and_assoc, mk_and]
    congr 2
    omega
/-- The bits behind a mask that lets them through. -/
theorem bit_mk : ∀ b : Fin 256, ∀ t : Fin 9, ∀ j : Fin 8, j.val < t.val → (b.val &&& (mk (t.val : Int)).toNat) / 2 ^ (7 - j.val) % 2 = b.val / 2 ^ (7 - j.val) % 2 := by decide +kernel
theorem bitAt_msk (l : List UInt8) (n : Int) (i : Nat) (h : (i : Int) < n) : bitAt (msk l n) i = bitAt l i := by
  unfold bitAt
  by_cases c : i / 8 < l.length
  · have c' : i / 8 < (msk l n).length := by rw [msk_length]; exact c
    rw [List.getD_eq_getElem?_getD, List.getD_eq_getElem?_getD, List.getElem?_eq_getElem c', List.getElem?_eq_getElem c]
    simp only [Option.getD_some, msk, List.getElem_mapIdx, UInt8.toNat_and]
    rw [mk_clamp]
    have := bit_mk ⟨l[i / 8].toNat, l[i / 8].toNat_lt⟩ ⟨(min (max (n - 8 * ((i / 8 : Nat) : Int)) 0) 8).toNat, by omega⟩ ⟨i % 8, by omega⟩ (by simp only; omega)
    simp only at this
    rw [Int.toNat_of_nonneg (by omega)] at this
    exact this
  · rw [List.getD_eq_getElem?_getD, List.getD_eq_getElem?_getD, List.getElem?_eq_none (by rw [msk_length]; omega), List.getElem?_eq_none (by omega)]
theorem not_less_of_le : ∀ x y : List UInt8, x.length = y.length → (∀ i (h : i < x.length) (k : i < y.length), x[i].toNat ≤ y[i].toNat) → Op.bytesLess y x = false
  | [], [], _, _ => rfl
  | [], _ :: _, h, _ => by simp at h
  | _ :: _, [], h, _ => by simp at h
  | a :: x, b :: y, h, k => by
    have k0 := k 0 (by simp) (by simp)
    simp only [List.getElem_cons_zero] at k0
    have ih := not_less_of_le x y (by simpa using h) (fun i p q => by have := k (i + 1) (by simp; omega) (by simp; omega); simpa using this)
    simp only [Op.bytesLess, Bool.or_eq_false_iff, decide_eq_false_iff_not, Bool.and_eq_false_iff]
    exact ⟨by rw [UInt8.lt_iff_toNat_lt]; omega, Or.inr ih⟩
theorem ordS_msk (l : List UInt8) (n : Int) : ordS (msk l n) l ≤ 0 := by
  have h : Op.bytesLess l (msk l n) = false := not_less_of_le (msk l n) l (msk_length l n) (fun i p q => by
    simp only [msk, List.getElem_mapIdx, UInt8.toNat_and]; exact Nat.and_le_left)
  unfold ordS
  split
  · omega
  · have : ¬ (Op.bytesLess (msk l n) l = true) := by assumption
    have e := less_total (msk l n) l (by simpa using this) h
    rw [if_pos (by rw [e]; simp)]
    exact Int.le_refl _

section
variable {fa ra : Int} {sa : ByteArray} {la fb rb : Int} {sb : ByteArray} {lb k : Int}
theorem mk_data (l : List UInt8) : (⟨l.toArray⟩ : ByteArray).data.toList = l := rfl
theorem bit_cut (i : Nat) (h : (i : Int) < k) : bitI ⟨(msk sb.data.toList k).toArray⟩ i = bitI sb i := by
  unfold bitI
  rw [if_pos (by omega), if_pos (by omega), Int.toNat_natCast, mk_data, bitAt_msk _ _ _ h]
end
end Go.Proofs.YtfhbgpepkplbaaaGreatDoor
namespace Go.Proofs.YtfhbgpepkplbaaaGreatDoor
theorem bit_mk_out : ∀ b : Fin 256, ∀ t : Fin 9, ∀ j : Fin 8, t.val ≤ j.val → (b.val &&& (mk (t.val : Int)).toNat) / 2 ^ (7 - j.val) % 2 = 0 := by decide +kernel
theorem bitAt_out (l : List UInt8) (i : Nat) (h : 8 * l.length ≤ i) : bitAt l i = 0 := by
  unfold bitAt
  rw [List.getD_eq_getElem?_getD, List.getElem?_eq_none (by omega)]
  simp
theorem bitAt_msk_out (l : List UInt8) (n : Int) (i : Nat) (h : n ≤ (i : Int)) : bitAt (msk l n) i = 0 := by
  by_cases c : i / 8 < l.length
  · unfold bitAt
    have c' : i / 8 < (msk l n).length := by rw [msk_length]; exact c
    rw [List.getD_eq_getElem?_getD, List.getElem?_eq_getElem c']
    simp only [Option.getD_some, msk, List.getElem_mapIdx, UInt8.toNat_and]
    rw [mk_clamp]
    have := bit_mk_out ⟨l[i / 8].toNat, l[i / 8].toNat_lt⟩ ⟨(min (max (n - 8 * ((i / 8 : Nat) : Int)) 0) 8).toNat, by omega⟩ ⟨i % 8, by omega⟩ (by simp only; omega)
    simp only at this
    rw [Int.toNat_of_nonneg (by omega)] at this
    exact this
  · exact bitAt_out _ _ (by rw [msk_length]; omega)
theorem byte_ext (x y : Nat) (hx : x < 256) (hy : y < 256) (h : ∀ j, j < 8 → x / 2 ^ (7 - j) % 2 = y / 2 ^ (7 - j) % 2) : x = y := by
  have h0 := h 0 (by omega)
  have h1 := h 1 (by omega)
  have h2 := h 2 (by omega)
  have h3 := h 3 (by omega)
  have h4 := h 4 (by omega)
  have h5 := h 5 (by omega)
  have h6 := h 6 (by omega)
  have h7 := h 7 (by omega)
  simp only [Nat.reduceSub, Nat.reducePow] at h0 h1 h2 h3 h4 h5 h6 h7
  omega
theorem bits_ext (a b : List UInt8) (hl : a.length = b.length) (h : ∀ i, i < 8 * a.length → bitAt a i = bitAt b i) : a = b := by
  apply List.ext_getElem hl
  intro i h1 h2
  apply UInt8.toNat_inj.1
  refine byte_ext _ _ a[i].toNat_lt b[i].toNat_lt fun j hj => ?_
  have := h (8 * i + j) (by omega)
  unfold bitAt at this
  rw [show (8 * i + j) / 8 = i from by omega, show (8 * i + j) % 8 = j from by omega, List.getD_eq_getElem?_getD, List.getD_eq_getElem?_getD, List.getElem?_eq_getElem h1, List.getElem?_eq_getElem h2] at this
  exact this
theorem msk_of_bits (l : List UInt8) (n : Int) (h : ∀ i : Nat, n ≤ (i : Int) → i < 8 * l.length → bitAt l i = 0) : msk l n = l := by
  refine bits_ext _ _ (msk_length l n) fun i hi => ?_
  rw [msk_length] at hi
  by_cases c : (i : Int) < n
  · exact bitAt_msk l n i c
  · rw [bitAt_msk_out l n i (by omega), h i (by omega) hi]
theorem bits_of_msk (l : List UInt8) (n : Int) (h : msk l n = l) (i : Nat) (hi : n ≤ (i : Int)) : bitAt l i = 0 := by
  rw [← h]; exact bitAt_msk_out l n i hi
theorem msk_eq_of_bits (a b : List UInt8) (n : Int) (hl : a.length = b.length) (ha : msk a n = a) (h : ∀ i : Nat, (i : Int) < n → bitAt a i = bitAt b i) : msk b n = a := by
  refine bits_ext _ _ (by rw [msk_length, hl]) fun i _ => ?_
  by_cases c : (i : Int) < n
  · rw [bitAt_msk b n i c, h i c]
  · rw [bitAt_msk_out b n i (by omega), bits_of_msk a n ha i (by omega)]
theorem bits_of_eq (a b : List UInt8) (n : Int) (h : msk b n = a) (i : Nat) (hi : (i : Int) < n) : bitAt a i = bitAt b i := by
  rw [← h]; exact bitAt_msk b n i hi
theorem bitI_nat (s : ByteArray) (i : Nat) : bitI s i = (bitAt s.data.toList i : Int) := by
  unfold bitI
  rw [if_pos (by omega), Int.toNat_natCast]
/-- The first byte that tells two texts apart tells their order. -/
theorem ordS_diff : ∀ (a b : List UInt8) (k : Nat) (ha : k < a.length) (hb : k < b.length), (∀ j (h1 : j < a.length) (h2 : j < b.length), j < k → a[j] = b[j]) → a[k] ≠ b[k] → ordS a b = ord (a[k].toNat : Int) (b[k].toNat : Int)
  | [], _, _, ha, _, _, _ => by simp at ha
  | _ :: _, [], _, _, hb, _, _ => by simp at hb
  | x :: a, y :: b, 0, _, _, _, hn => by
    simp only [List.getElem_cons_zero] at hn ⊢
    have hne : x.toNat ≠ y.toNat := fun e => hn (UInt8.toNat_inj.1 e)
    unfold ordS ord
    by_cases c : x.toNat < y.toNat
    · have : Op.bytesLess (x :: a) (y :: b) = true := by simp [Op.bytesLess, UInt8.lt_iff_toNat_lt, c]
      rw [if_pos this, if_pos (by omega)]
    · have h1 : Op.bytesLess (x :: a) (y :: b) = false := by simp [Op.bytesLess, UInt8.lt_iff_toNat_lt, c, hn]
      have h2 : ((x :: a) == (y :: b)) = false := by simp [hn]
      rw [h1, h2, if_neg (by simp), if_neg (by simp), if_neg (by omega), if_pos (by omega)]
  | x :: a, y :: b, k + 1, ha, hb, h, hn => by
    have e : x = y := h 0 (by simp) (by simp) (by omega)
    subst e
    have ih := ordS_diff a b k (by simpa using ha) (by simpa using hb) (fun j h1 h2 hj => by have := h (j + 1) (by simp; omega) (by simp; omega) (by omega); simpa using this) (by simpa using hn)
    simp only [List.getElem_cons_succ]
    rw [← ih]
    unfold ordS
    have e1 : Op.bytesLess (x :: a) (x :: b) = Op.bytesLess a b := by simp [Op.bytesLess]
    have e2 : ((x :: a) == (x :: b)) = (a == b) := by simp
    rw [e1, e2]
theorem ord_succ (x y : Int) : ord (x + 1) (y + 1) = ord x y := by
  have h1 : (x + 1 < y + 1) ↔ x < y := by omega
  have h2 : (y + 1 < x + 1) ↔ y < x := by omega
  unfold ord
  simp only [h1, h2]
theorem ordS_same : ∀ (a b : List UInt8), (∀ j (h1 : j < a.length) (h2 : j < b.length), a[j] = b[j]) → ordS a b = ord (a.length : Int) (b.length : Int)
  | [], [], _ => by decide
  | [], _ :: _, _ => by
    unfold ordS ord
    rw [if_pos (by simp [Op.bytesLess]), if_pos (by simp only [List.length_nil, List.length_cons]; omega)]
  | _ :: _, [], _ => by
    unfold ordS ord
    rw [if_neg (by simp [Op.bytesLess]), if_neg (by simp), if_neg (by simp only [List.length_nil, List.length_cons]; omega), if_pos (by simp only [List.length_nil, List.length_cons]; omega)]
  | x :: a, y :: b, h => by
    have e : x = y := h 0 (by simp) (by simp)
    subst e
    have ih := ordS_same a b (fun j h1 h2 => by have := h (j + 1) (by simp; omega) (by simp; omega); simpa using this)
    have e0 : ord ((x :: a).length : Int) ((x :: b).length : Int) = ord (a.length : Int) (b.length : Int) := by
      rw [List.length_cons, List.length_cons, Int.natCast_succ, Int.natCast_succ]
      exact ord_succ _ _
    rw [e0, ← ih]
    unfold ordS
    have e1 : Op.bytesLess (x :: a) (x :: b) = Op.bytesLess a b := by simp [Op.bytesLess]
    have e2 : ((x :: a) == (x :: b)) = (a == b) := by simp
    rw [e1, e2]
end Go.Proofs.YtfhbgpepkplbaaaGreatDoor
namespace Go.Proofs.YtfhbgpepkplbaaaGreatDoor
open Go.RowKit
theorem ret_bool {a b : Bool} (h : a = b) : Ending.returned (.bool a) = .returned (.bool b) := by rw [h]
theorem apart_any (f : Int) (w : World) (h : 1 ≤ f) (h5 : f ≤ 5) : Calls Tryz.prog 52 #[.int .i64 f] w fun e w' => e = .returned (.bool (decide (4 ≤ f))) ∧ w' = w := by
  have hf : f = 1 ∨ f = 2 ∨ f = 3 ∨ f = 4 ∨ f = 5 := by omega
  clear h h5
  rcases hf with rfl | rfl | rfl | rfl | rfl
  all_goals
    go_enter Tryz.func52, Tryz.ntmps52
    go_wp2
    go_ret
    exact ⟨rfl, rfl⟩
/-- May it be, by the reference's words. -/
theorem chk_iff (f r : Int) (s : ByteArray) (l : Int) : chk f r s l = 0 ↔ szOf f ≠ 0 ∧ (s.size : Int) = szOf f ∧ 0 ≤ l ∧ l ≤ 8 * szOf f ∧ (r = 0 ∨ 4 ≤ f) ∧ ∀ i : Nat, l ≤ (i : Int) → (i : Int) < 8 * szOf f → bitI s i = 0 := by
  constructor
  · intro h
    obtain ⟨h1, h2, h3, h4, h5, h6⟩ := chk_zero h
    exact ⟨h1, h2, h3, h4, h5, fun i hi _ => by rw [bitI_nat, bits_of_msk _ _ h6 i hi]; rfl⟩
  · rintro ⟨h1, h2, h3, h4, h5, h6⟩
    unfold chk
    rw [if_pos ⟨h1, h2, h3, h4, h5, msk_of_bits _ _ fun i hi hl => by
      have := h6 i hi (by have e : s.data.toList.length = s.size := by simp
                          rw [e] at hl; omega)
      rw [bitI_nat] at this; omega⟩]
end Go.Proofs.YtfhbgpepkplbaaaGreatDoor
namespace Go.Proofs.YtfhbgpepkplbaaaGreatDoor
open Go.RowKit
set_option maxRecDepth 100000 in
set_option maxHeartbeats 1600000 in
theorem may_any (f r : Int) (s : ByteArray) (l : Int) (w : World) (hs : s.size ≤ maxLen) :
    Calls Tryz.prog 48 #[.agg #[.int .i64 f, .int .u64 r, .string s, .int .i64 l]] w fun e w' => e = .returned (.bool (decide (chk f r s l = 0))) ∧ Below w.heap.size w w' := by
  have hzb := szOf_bd f
  have hzp := szOf_pos f
  generalize hz : szOf f = z at *
  have HZ : Hid (szOf f = z) := hz
  clear hz
  by_cases h1 : z = 0
  · subst h1
    clear hzp
    go_enter Tryz.func48, Tryz.ntmps48
    go_wp2_with (first | (go_at_call 37; refine (refsize_any f _).mono ?_; rintro e w' ⟨rfl, rfl⟩; rw [HZ.out]))
    go_ret
    exact ⟨ret_bool (decide_eq_false fun h => absurd (chk_zero h) (by rw [HZ.out]; omega)).symm, (Below.refl _ _).alloc (Nat.le_refl _) _⟩
  · have hz4 : 4 ≤ z ∧ (1 ≤ f ∧ f ≤ 5) := by have := hzp h1; omega
    have n1 : (z == 0) = false := by simpa using h1
    clear hzp
    by_cases h2 : (s.size : Int) = z
    · by_cases h3 : l < 0
      · go_enter Tryz.func48, Tryz.ntmps48
        go_wp2_with (first | (go_at_call 37; refine (refsize_any f _).mono ?_; rintro e w' ⟨rfl, rfl⟩; rw [HZ.out]))
        go_ret
        exact ⟨ret_bool (decide_eq_false fun h => absurd (chk_zero h) (by rw [HZ.out]; omega)).symm, (Below.refl _ _).alloc (Nat.le_refl _) _⟩
      · by_cases h4 : 8 * z < l
        · go_enter Tryz.func48, Tryz.ntmps48
          go_wp2_with (first | (go_at_call 37; refine (refsize_any f _).mono ?_; rintro e w' ⟨rfl, rfl⟩; rw [HZ.out]))
          go_ret
          exact ⟨ret_bool (decide_eq_false fun h => absurd (chk_zero h) (by rw [HZ.out]; omega)).symm, (Below.refl _ _).alloc (Nat.le_refl _) _⟩
        · by_cases h5 : r = 0
          · subst h5
            go_enter Tryz.func48, Tryz.ntmps48
            go_wp2_with (first | (go_at_call 37; refine (refsize_any f _).mono ?_; rintro e w' ⟨rfl, rfl⟩; rw [HZ.out]))
            go_loopw [4] (fun i wr => ∃ k : Int, (l ≤ k ∧ k ≤ 8 * z) ∧ i = .int .i64 k ∧ (∀ j : Nat, l ≤ (j : Int) → (j : Int) < k → bitI s j = 0) ∧ wr = w.alloc (.cells #[.int .i64 f, .int .u64 0, .string s, .int .i64 l] 24)) (fun i _ => (8 * z - intOf i).toNat)
            case atStart => exact ⟨l, by omega, rfl, fun j h1 h2 => by omega, rfl⟩
            case round =>
              obtain ⟨k, hk, rfl, hall, rfl⟩ := hrel
              have HA : Hid (∀ j : Nat, l ≤ (j : Int) → (j : Int) < k → bitI s j = 0) := hall
              clear hall
              by_cases hlt : k < 8 * z
              · obtain ⟨i, rfl⟩ := Int.eq_ofNat_of_zero_le (show 0 ≤ k by omega)
                by_cases hb : bitI s i = 0
                · have HB : Hid (bitI s i = 0) := hb
                  have C := fun w => refbit_any s i w hs (by omega) (by omega)
                  simp only [hb] at C
                  clear hb
                  have K : Hid (_ : Prop) := C
                  clear C
                  go_wp2_with (go_at_call 79; refine (K.out _).mono ?_; rintro e w' ⟨rfl, rfl⟩)
                  go_roundw
                  case rel => exact ⟨i + 1, by omega, by go_num, fun j h1 h2 => by
                    by_cases e : j = i
                    · subst e; exact HB.out
                    · exact HA.out j h1 (by omega), by trivial⟩
                  case measure => simp [intOf]; omega
                · have HB : Hid (¬ bitI s i = 0) := hb
                  have C := fun w => refbit_any s i w hs (by omega) (by omega)
                  have hb' : (bitI s i == 0) = false := by simpa using hb
                  generalize hq : bitI s i = q at *
                  clear hb
                  have HQ : Hid (bitI s i = q) := hq
                  clear hq
                  have K : Hid (_ : Prop) := C
                  clear C
                  go_wp2_with (go_at_call 79; refine (K.out _).mono ?_; rintro e w' ⟨rfl, rfl⟩)
                  go_ret
                  refine ⟨ret_bool (decide_eq_false fun h => ?_).symm, (Below.refl _ _).alloc (Nat.le_refl _) _⟩
                  have := ((chk_iff f 0 s l).1 h).2.2.2.2.2 i (by omega) (by rw [HZ.out]; omega)
                  rw [HQ.out] at this
                  exact HB.out this
              · go_wp2
                go_ret
                refine ⟨ret_bool (decide_eq_true ((chk_iff f 0 s l).2 ⟨by rw [HZ.out]; omega, by rw [HZ.out]; omega, by omega, by rw [HZ.out]; omega, Or.inl rfl, fun j h1 h2 => HA.out j h1 (by rw [HZ.out] at h2; omega)⟩)).symm, (Below.refl _ _).alloc (Nat.le_refl _) _⟩
          · have n5 : (r != 0) = true := by simpa using h5
            have HR : Hid (¬ r = 0) := h5
            by_cases h6 : 4 ≤ f
            · have d6 : decide (4 ≤ f) = true := decide_eq_true h6
              have CA := fun w => apart_any f w (by omega) (by omega)
              simp only [d6] at CA
              have KA : Hid (_ : Prop) := CA
              clear CA d6
              go_enter Tryz.func48, Tryz.ntmps48
              go_wp2_with (first | (go_at_call 37; refine (refsize_any f _).mono ?_; rintro e w' ⟨rfl, rfl⟩; rw [HZ.out]) | (go_at_call 52; refine (KA.out _).mono ?_; rintro e w' ⟨rfl, rfl⟩))
              go_loopw [4] (fun i wr => ∃ k : Int, (l ≤ k ∧ k ≤ 8 * z) ∧ i = .int .i64 k ∧ (∀ j : Nat, l ≤ (j : Int) → (j : Int) < k → bitI s j = 0) ∧ wr = w.alloc (.cells #[.int .i64 f, .int .u64 r, .string s, .int .i64 l] 24)) (fun i _ => (8 * z - intOf i).toNat)
              case atStart => exact ⟨l, by omega, rfl, fun j h1 h2 => by omega, rfl⟩
              case round =>
                obtain ⟨k, hk, rfl, hall, rfl⟩ := hrel
                have HA : Hid (∀ j : Nat, l ≤ (j : Int) → (j : Int) < k → bitI s j = 0) := hall
                clear hall
                by_cases hlt : k < 8 * z
                · obtain ⟨i, rfl⟩ := Int.eq_ofNat_of_zero_le (show 0 ≤ k by omega)
                  by_cases hb : bitI s i = 0
                  · have HB : Hid (bitI s i = 0) := hb
                    have C := fun w => refbit_any s i w hs (by omega) (by omega)
                    simp only [hb] at C
                    clear hb
                    have K : Hid (_ : Prop) := C
                    clear C
                    go_wp2_with (go_at_call 79; refine (K.out _).mono ?_; rintro e w' ⟨rfl, rfl⟩)
                    go_roundw
                    case rel => exact ⟨i + 1, by omega, by go_num, fun j h1 h2 => by
                      by_cases e : j = i
                      · subst e; exact HB.out
                      · exact HA.out j h1 (by omega), by trivial⟩
                    case measure => simp [intOf]; omega
                  · have HB : Hid (¬ bitI s i = 0) := hb
                    have C := fun w => refbit_any s i w hs (by omega) (by omega)
                    have hb' : (bitI s i == 0) = false := by simpa using hb
                    generalize hq : bitI s i = q at *
                    clear hb
                    have HQ : Hid (bitI s i = q) := hq
                    clear hq
                    have K : Hid (_ : Prop) := C
                    clear C
                    go_wp2_with (go_at_call 79; refine (K.out _).mono ?_; rintro e w' ⟨rfl, rfl⟩)
                    go_ret
                    refine ⟨ret_bool (decide_eq_false fun h => ?_).symm, (Below.refl _ _).alloc (Nat.le_refl _) _⟩
                    have := ((chk_iff f r s l).1 h).2.2.2.2.2 i (by omega) (by rw [HZ.out]; omega)
                    rw [HQ.out] at this
                    exact HB.out this
                · go_wp2
                  go_ret
                  refine ⟨ret_bool (decide_eq_true ((chk_iff f r s l).2 ⟨by rw [HZ.out]; omega, by rw [HZ.out]; omega, by omega, by rw [HZ.out]; omega, Or.inr h6, fun j h1 h2 => HA.out j h1 (by rw [HZ.out] at h2; omega)⟩)).symm, (Below.refl _ _).alloc (Nat.le_refl _) _⟩
            · have d6 : decide (4 ≤ f) = false := decide_eq_false h6
              have CA := fun w => apart_any f w (by omega) (by omega)
              simp only [d6] at CA
              have KA : Hid (_ : Prop) := CA
              clear CA d6
              go_enter Tryz.func48, Tryz.ntmps48
              go_wp2_with (first | (go_at_call 37; refine (refsize_any f _).mono ?_; rintro e w' ⟨rfl, rfl⟩; rw [HZ.out]) | (go_at_call 52; refine (KA.out _).mono ?_; rintro e w' ⟨rfl, rfl⟩))
              go_ret
              exact ⟨ret_bool (decide_eq_false fun h => by have := (chk_zero h).2.2.2.2.1; rcases this with x | x; exact HR.out x; omega).symm, (Below.refl _ _).alloc (Nat.le_refl _) _⟩
    · have n2 : ((s.size : Int) == z) = false := by simpa using h2
      go_enter Tryz.func48, Tryz.ntmps48
      go_wp2_with (first | (go_at_call 37; refine (refsize_any f _).mono ?_; rintro e w' ⟨rfl, rfl⟩; rw [HZ.out]))
      go_ret
      exact ⟨ret_bool (decide_eq_false fun h => absurd (chk_zero h) (by rw [HZ.out]; omega)).symm, (Below.refl _ _).alloc (Nat.le_refl _) _⟩
end Go.Proofs.YtfhbgpepkplbaaaGreatDoor
namespace Go.Proofs.YtfhbgpepkplbaaaGreatDoor
open Go.RowKit
theorem below_drewN {B : Nat} {a w : World} (h : Below B a w) (n : Nat) : Below B a (w.drewN n) := ⟨h.os, h.tape, h.output, h.size, h.block⟩
theorem PfxAt.drewN {w : World} {b : Nat} {f r : Int} {s : ByteArray} {l : Int} (h : PfxAt w b f r s l) (n : Nat) : PfxAt (w.drewN n) b f r s l := ⟨h.c0, h.c1, h.c2, h.c3, h.f0, h.f1, h.f2, h.f3⟩
end Go.Proofs.YtfhbgpepkplbaaaGreatDoor
namespace Go.Proofs.YtfhbgpepkplbaaaGreatDoor
open Go.RowKit
theorem pcmp_f {fa ra : Int} {sa : ByteArray} {la fb rb : Int} {sb : ByteArray} {lb : Int} (h : fa ≠ fb) : pcmp fa ra sa la fb rb sb lb = ord fa fb := by
  unfold pcmp; rw [if_pos (fun e => h (ord_zero.1 e))]
theorem pcmp_r {fa ra : Int} {sa : ByteArray} {la rb : Int} {sb : ByteArray} {lb : Int} (h : ra ≠ rb) : pcmp fa ra sa la fa rb sb lb = ord ra rb := by
  unfold pcmp; rw [if_neg (by rw [ord_zero.2 rfl]; omega), if_pos (fun e => h (ord_zero.1 e))]
theorem pcmp_s {fa ra : Int} {sa : ByteArray} {la : Int} {sb : ByteArray} {lb : Int} (h : ordS sa.toList sb.toList ≠ 0) : pcmp fa ra sa la fa ra sb lb = ordS sa.toList sb.toList := by
  unfold pcmp; rw [if_neg (by rw [ord_zero.2 rfl]; omega), if_neg (by rw [ord_zero.2 rfl]; omega), if_pos h]
theorem pcmp_l {fa ra : Int} {sa : ByteArray} {la : Int} {sb : ByteArray} {lb : Int} (h : ordS sa.toList sb.toList = 0) : pcmp fa ra sa la fa ra sb lb = ord la lb := by
  unfold pcmp; rw [if_neg (by rw [ord_zero.2 rfl]; omega), if_neg (by rw [ord_zero.2 rfl]; omega), if_neg (by omega)]
theorem getD_at (s : ByteArray) (k : Nat) (h : k < s.size) : s[k] = s.data.toList.getD k 0 := by
  have h' : k < s.data.toList.length := by simpa using h
  rw [List.getD_eq_getElem?_getD, List.getElem?_eq_getElem h']; rfl
theorem ordS_byte (sa sb : ByteArray) (k : Nat) (h1 : k < sa.size) (h2 : k < sb.size) (h : ∀ j, j < k → sa.data.toList.getD j 0 = sb.data.toList.getD j 0) (hn : sa[k] ≠ sb[k]) : ordS sa.toList sb.toList = ord (sa[k].toNat : Int) (sb[k].toNat : Int) := by
  have l1 : k < sa.data.toList.length := by simpa using h1
  have l2 : k < sb.data.toList.length := by simpa using h2
  rw [ByteArray.toList_eq, ByteArray.toList_eq]
  refine ordS_diff sa.data.toList sb.data.toList k l1 l2 (fun j p q hj => ?_) hn
  have := h j hj
  rw [List.getD_eq_getElem?_getD, List.getD_eq_getElem?_getD, List.getElem?_eq_getElem p, List.getElem?_eq_getElem q] at this
  exact this
theorem ordS_len (sa sb : ByteArray) (h : ∀ j, j < sa.size → j < sb.size → sa.data.toList.getD j 0 = sb.data.toList.getD j 0) : ordS sa.toList sb.toList = ord (sa.size : Int) (sb.size : Int) := by
  have l1 : sa.data.toList.length = sa.size := by simp
  have l2 : sb.data.toList.length = sb.size := by simp
  rw [ByteArray.toList_eq, ByteArray.toList_eq, ← l1, ← l2]
  refine ordS_same _ _ fun j p q => ?_
  have := h j (by omega) (by omega)
  rw [List.getD_eq_getElem?_getD, List.getD_eq_getElem?_getD, List.getElem?_eq_getElem p, List.getElem?_eq_getElem q] at this
  exact this
set_option maxRecDepth 100000 in
set_option maxHeartbeats 1600000 in
theorem rcmp_any (fa ra : Int) (sa : ByteArray) (la : Int) (fb rb : Int) (sb : ByteArray) (lb : Int) (w : World) (hsa : sa.size ≤ maxLen) (hsb : sb.size ≤ maxLen) :
    Calls Tryz.prog 32 #[.agg #[.int .i64 fa, .int .u64 ra, .string sa, .int .i64 la], .agg #[.int .i64 fb, .int .u64 rb, .string sb, .int .i64 lb]] w fun e w' => e = .returned (.int .i64 (pcmp fa ra sa la fb rb sb lb)) ∧ Below w.heap.size w w' := by
  unfold maxLen at hsa hsb
  have hal : Below (w.heap.size + 1) (w.alloc (.cells #[.int .i64 fa, .int .u64 ra, .string sa, .int .i64 la] 24)) ((w.alloc (.cells #[.int .i64 fa, .int .u64 ra, .string sa, .int .i64 la] 24)).alloc (.cells #[.int .i64 fb, .int .u64 rb, .string sb, .int .i64 lb] 24)) := (Below.refl _ _).alloc (by simp) _
  have pa0 := (PfxAt.of_alloc w _ fa ra sa la rfl).kept hal (by omega)
  have pb0 := PfxAt.of_alloc (w.alloc (.cells #[.int .i64 fa, .int .u64 ra, .string sa, .int .i64 la] 24)) (w.heap.size + 1) fb rb sb lb (by simp)
  have hB0 : Below w.heap.size w ((w.alloc (.cells #[.int .i64 fa, .int .u64 ra, .string sa, .int .i64 la] 24)).alloc (.cells #[.int .i64 fb, .int .u64 rb, .string sb, .int .i64 lb] 24)) := ((Below.refl _ _).alloc (Nat.le_refl _) _).alloc (by simp) _
  have HP : Hid (PfxAt _ _ _ _ _ _) := pa0
  have HQ : Hid (PfxAt _ _ _ _ _ _) := pb0
  have HB0 : Hid (Below _ _ _) := hB0
  clear hal pa0 pb0 hB0
  by_cases e1 : fa = fb
  · subst e1
    by_cases e2 : ra = rb
    · subst e2
      go_enter Tryz.func32, Tryz.ntmps32
      go_wp2_with fail
      go_loopw [5] (fun i wr => ∃ k : Nat, (k ≤ sa.size ∧ k ≤ sb.size) ∧ i = .int .i64 k ∧ (∀ j, j < k → sa.data.toList.getD j 0 = sb.data.toList.getD j 0) ∧ PfxAt wr w.heap.size fa ra sa la ∧ PfxAt wr (w.heap.size + 1) fa ra sb lb ∧ Below w.heap.size w wr) (fun i _ => sa.size - (intOf i).toNat)
      case atStart => exact ⟨0, by omega, rfl, fun j h => by omega, HP.out, HQ.out, HB0.out⟩
      case round =>
        obtain ⟨k, hk, rfl, hall, qa, qb, qB⟩ := hrel
        have HA : Hid (∀ j, j < k → sa.data.toList.getD j 0 = sb.data.toList.getD j 0) := hall
        clear hall HP HQ HB0
        have x2 := qa.c2
        have x3 := qa.c3
        have y2 := qb.c2
        have y3 := qb.c3
        by_cases hlt : k < sa.size ∧ k < sb.size
        · obtain ⟨h1, h2⟩ := hlt
          have i1 : (k : Int) < sa.size := by omega
          have i2 : (k : Int) < sb.size := by omega
          have g1 : sa[k] = sa.data.toList.getD k 0 := getD_at sa k h1
          have g2 : sb[k] = sb.data.toList.getD k 0 := getD_at sb k h2
          by_cases hb : sa[k] = sb[k]
          · have HE : Hid (sa.data.toList.getD k 0 = sb.data.toList.getD k 0) := by unfold Hid; rw [← g1, ← g2]; exact hb
            have e3 : ((sa[k].toNat : Int) == (sb[k].toNat : Int)) = true := by rw [hb]; simp
            have e4 : ((sa[k].toNat : Int) != (sb[k].toNat : Int)) = false := by rw [hb]; simp
            clear g1 g2 hb
            go_wp2_with fail
            go_quiet (fail)
            go_wp2
            go_roundw
            case rel => exact ⟨k + 1, by omega, by go_num, fun j h => by
              by_cases e : j = k
              · subst e; exact HE.out
              · exact HA.out j (by omega), qa.drewN nq, qb.drewN nq, below_drewN qB nq⟩
            case measure => simp [intOf]; omega
          · have hne : sa[k].toNat ≠ sb[k].toNat := fun e => hb (UInt8.toNat_inj.1 e)
            have e3 : ((sa[k].toNat : Int) == (sb[k].toNat : Int)) = false := by simp only [beq_eq_false_iff_ne]; omega
            have e4 : ((sa[k].toNat : Int) != (sb[k].toNat : Int)) = true := by simp only [bne_iff_ne]; omega
            have HF : Hid (pcmp fa ra sa la fa ra sb lb = ord (sa[k].toNat : Int) (sb[k].toNat : Int)) := by
              unfold Hid
              have e := ordS_byte sa sb k h1 h2 HA.out hb
              rw [pcmp_s (by rw [e]; intro z; have := ord_zero.1 z; omega), e]
            clear g1 g2 hb hne
            have u1 := sa[k].toNat_lt
            have u2 := sb[k].toNat_lt
            go_wp2_with fail
            go_quiet (fail)
            have qa' := qa.drewN nq
            have qb' := qb.drewN nq
            have qB' := below_drewN qB nq
            clear x2 x3 y2 y3 qa qb qB
            generalize wr.drewN nq = wy at *
            have x2 := qa'.c2
            have y2 := qb'.c2
            go_wp2_with fail
            go_quiet ((go_at_call 63; refine Calls.quiet_of_same (order_any _ _ _)))
            go_wp2
            go_ret
            exact ⟨ret_int HF.out.symm, below_drewN qB' _⟩
        · by_cases h1 : k < sa.size
          · have i1 : (k : Int) < sa.size := by omega
            have i2 : ¬ ((k : Int) < sb.size) := by omega
            have hS := ordS_len sa sb fun j h1 h2 => HA.out j (by omega)
            have el : sa.size ≠ sb.size := by omega
            have HF : Hid (pcmp fa ra sa la fa ra sb lb = ord sa.size sb.size) := by
              unfold Hid
              rw [pcmp_s (by rw [hS]; intro z; have := ord_zero.1 z; omega), hS]
            have m1 : ((sa.size : Int) == (sb.size : Int)) = false := by simp only [beq_eq_false_iff_ne]; omega
            have m2 : ((sa.size : Int) != (sb.size : Int)) = true := by simp only [bne_iff_ne]; omega
            clear hS
            go_wp2_with (go_at_call 63; refine (order_any _ _ _).mono ?_; rintro e w' ⟨rfl, rfl⟩)
            go_ret
            exact ⟨ret_int HF.out.symm, qB⟩
          · have i1 : ¬ ((k : Int) < sa.size) := by omega
            have hS := ordS_len sa sb fun j h1 h2 => HA.out j (by omega)
            by_cases el : sa.size = sb.size
            · have HF : Hid (pcmp fa ra sa la fa ra sb lb = ord la lb) := pcmp_l (by rw [hS, ord_zero]; omega)
              have m1 : ((sa.size : Int) == (sb.size : Int)) = true := by simp [el]
              have m2 : ((sa.size : Int) != (sb.size : Int)) = false := by simp [el]
              clear hS
              go_wp2_with (go_at_call 63; refine (order_any _ _ _).mono ?_; rintro e w' ⟨rfl, rfl⟩)
              go_ret
              exact ⟨ret_int HF.out.symm, qB⟩
            · have HF : Hid (pcmp fa ra sa la fa ra sb lb = ord sa.size sb.size) := by
                unfold Hid
                rw [pcmp_s (by rw [hS]; intro z; have := ord_zero.1 z; omega), hS]
              have m1 : ((sa.size : Int) == (sb.size : Int)) = false := by simp only [beq_eq_false_iff_ne]; omega
              have m2 : ((sa.size : Int) != (sb.size : Int)) = true := by simp only [bne_iff_ne]; omega
              clear hS
              go_wp2_with (go_at_call 63; refine (order_any _ _ _).mono ?_; rintro e w' ⟨rfl, rfl⟩)
              go_ret
              exact ⟨ret_int HF.out.symm, qB⟩
    · have HF : Hid (pcmp fa ra sa la fa rb sb lb = ord ra rb) := pcmp_r e2
      have n2 : (ra != rb) = true := by simpa using e2
      have n3 : (ra == rb) = false := by simpa using e2
      by_cases c : ra < rb
      · have HO : Hid (ord ra rb = -1) := ord_lt c
        go_enter Tryz.func32, Tryz.ntmps32
        go_wp2
        go_ret
        exact ⟨ret_int (by rw [HF.out, HO.out]), HB0.out⟩
      · have HO : Hid (ord ra rb = 1) := ord_gt (by omega)
        go_enter Tryz.func32, Tryz.ntmps32
        go_wp2
        go_ret
        exact ⟨ret_int (by rw [HF.out, HO.out]), HB0.out⟩
  · have HF : Hid (pcmp fa ra sa la fb rb sb lb = ord fa fb) := pcmp_f e1
    have n2 : (fa != fb) = true := by simpa using e1
    have n3 : (fa == fb) = false := by simpa using e1
    go_enter Tryz.func32, Tryz.ntmps32
    go_wp2_with (go_at_call 63; refine (order_any _ _ _).mono ?_; rintro e w' ⟨rfl, rfl⟩)
    go_ret
    exact ⟨ret_int HF.out.symm, HB0.out⟩
end Go.Proofs.YtfhbgpepkplbaaaGreatDoor
