/-
  The values of numbers, paths and aggregators, as package attr lays them.
-/
import Derived.Test.YtpahnebhcfpplabGreatDoorE1
import Derived.BigQuiet
import Derived.Deep.RegionHeld3
namespace Go.Proofs.YtpahnebhcfpplabGreatDoor
open Go.RowKit
theorem atMed (p : Nat) (w : World) :
    Calls Tryz.prog 55 #[.pointer (some ⟨p, 0, none⟩)] w fun e w' => e = .returned (.tuple #[.pointer (some ⟨p, 3, none⟩), .pointer (some ⟨p, 4, none⟩)]) ∧ Below w.heap.size w w' := by
  go_enter Tryz.func55, Tryz.ntmps55
  go_wp2
  go_quiet (fail)
  go_wp2
  go_ret2
  exact ⟨rfl, below_drewN' (Below.refl _ _) _⟩
set_option maxRecDepth 100000 in
set_option maxHeartbeats 800000 in
theorem layMed (p q v : Nat) (has : Bool) (w : World) (hq : w.cell? ⟨q, 0, none⟩ = some (.func (.func 55) #[] #[])) (h0 : w.cell? ⟨p, 3, none⟩ = some (.bool has)) (h1 : w.cell? ⟨p, 4, none⟩ = some (.int .u32 (v : Int))) (hv : v < 4294967296) :
    Calls Tryz.prog 90 #[.pointer (some ⟨p, 0, none⟩), .pointer (some ⟨q, 0, none⟩)] w fun e w' => e = .returned (.tuple #[.string ⟨(laid v 4).toArray⟩, .bool has]) ∧ Below w.heap.size w w' := by
  have hw : (v : Int) % 18446744073709551616 = v := by omega
  have hwr : IntKind.u64.wrap (v : Int) = (v : Int) := by rw [IntKind.wrap_u64]; omega
  have HPUT : Hid (∀ W, Calls Tryz.prog 20 #[.int .u64 (v : Int), .int .i64 4] W fun e w' => e = .returned (.string ⟨(laid v 4).toArray⟩) ∧ Below W.heap.size W w') := fun W => put47 v 4 W (by omega) (by omega) (by omega)
  generalize (⟨(laid v 4).toArray⟩ : ByteArray) = bs at *
  go_enter Tryz.func90, Tryz.ntmps90
  go_wp2_with fail
  refine (atMed p w).mono ?_
  rintro e w1 ⟨rfl, hb1⟩
  have c0 := below_cell hb1 h0
  have c1 := below_cell hb1 h1
  have HB1 : Hid (Below _ _ _) := hb1
  clear hb1 h0 h1 hq
  go_wp2
  go_region_held (fun w' => w'.cell? ⟨p, 3, none⟩ = some (.bool has) ∧ w'.cell? ⟨p, 4, none⟩ = some (.int .u32 (v : Int))) (go_keep)
    (first | (go_at_call 20; (try rw [hwr]); refine (HPUT.out _).mono ?_; rintro e w5 ⟨rfl, hb5⟩; have q0 := below_cell (w := w1.drew) hb5 c0; have q1 := below_cell (w := w1.drew) hb5 c1))
  have HB2 : Hid (Below w.heap.size w w5) := HB1.out.drew.trans (hb5.mono HB1.out.size)
  clear hb5 c0 c1 q0 q1
  go_wp2
  go_ret2
  exact ⟨rfl, HB2.out⟩
theorem atPref (p : Nat) (w : World) :
    Calls Tryz.prog 56 #[.pointer (some ⟨p, 0, none⟩)] w fun e w' => e = .returned (.tuple #[.pointer (some ⟨p, 5, none⟩), .pointer (some ⟨p, 6, none⟩)]) ∧ Below w.heap.size w w' := by
  go_enter Tryz.func56, Tryz.ntmps56
  go_wp2
  go_quiet (fail)
  go_wp2
  go_ret2
  exact ⟨rfl, below_drewN' (Below.refl _ _) _⟩
set_option maxRecDepth 100000 in
set_option maxHeartbeats 800000 in
theorem layPref (p q v : Nat) (has : Bool) (w : World) (hq : w.cell? ⟨q, 0, none⟩ = some (.func (.func 56) #[] #[])) (h0 : w.cell? ⟨p, 5, none⟩ = some (.bool has)) (h1 : w.cell? ⟨p, 6, none⟩ = some (.int .u32 (v : Int))) (hv : v < 4294967296) :
    Calls Tryz.prog 90 #[.pointer (some ⟨p, 0, none⟩), .pointer (some ⟨q, 0, none⟩)] w fun e w' => e = .returned (.tuple #[.string ⟨(laid v 4).toArray⟩, .bool has]) ∧ Below w.heap.size w w' := by
  have hw : (v : Int) % 18446744073709551616 = v := by omega
  have hwr : IntKind.u64.wrap (v : Int) = (v : Int) := by rw [IntKind.wrap_u64]; omega
  have HPUT : Hid (∀ W, Calls Tryz.prog 20 #[.int .u64 (v : Int), .int .i64 4] W fun e w' => e = .returned (.string ⟨(laid v 4).toArray⟩) ∧ Below W.heap.size W w') := fun W => put47 v 4 W (by omega) (by omega) (by omega)
  generalize (⟨(laid v 4).toArray⟩ : ByteArray) = bs at *
  go_enter Tryz.func90, Tryz.ntmps90
  go_wp2_with fail
  refine (atPref p w).mono ?_
  rintro e w1 ⟨rfl, hb1⟩
  have c0 := below_cell hb1 h0
  have c1 := below_cell hb1 h1
  have HB1 : Hid (Below _ _ _) := hb1
  clear hb1 h0 h1 hq
  go_wp2
  go_region_held (fun w' => w'.cell? ⟨p, 5, none⟩ = some (.bool has) ∧ w'.cell? ⟨p, 6, none⟩ = some (.int .u32 (v : Int))) (go_keep)
    (first | (go_at_call 20; (try rw [hwr]); refine (HPUT.out _).mono ?_; rintro e w5 ⟨rfl, hb5⟩; have q0 := below_cell (w := w1.drew) hb5 c0; have q1 := below_cell (w := w1.drew) hb5 c1))
  have HB2 : Hid (Below w.heap.size w w5) := HB1.out.drew.trans (hb5.mono HB1.out.size)
  clear hb5 c0 c1 q0 q1
  go_wp2
  go_ret2
  exact ⟨rfl, HB2.out⟩
theorem atOrig (p : Nat) (w : World) :
    Calls Tryz.prog 64 #[.pointer (some ⟨p, 0, none⟩)] w fun e w' => e = .returned (.tuple #[.pointer (some ⟨p, 13, none⟩), .pointer (some ⟨p, 14, none⟩)]) ∧ Below w.heap.size w w' := by
  go_enter Tryz.func64, Tryz.ntmps64
  go_wp2
  go_quiet (fail)
  go_wp2
  go_ret2
  exact ⟨rfl, below_drewN' (Below.refl _ _) _⟩
set_option maxRecDepth 100000 in
set_option maxHeartbeats 800000 in
theorem layOrig (p q v : Nat) (has : Bool) (w : World) (hq : w.cell? ⟨q, 0, none⟩ = some (.func (.func 64) #[] #[])) (h0 : w.cell? ⟨p, 13, none⟩ = some (.bool has)) (h1 : w.cell? ⟨p, 14, none⟩ = some (.int .u32 (v : Int))) (hv : v < 4294967296) :
    Calls Tryz.prog 90 #[.pointer (some ⟨p, 0, none⟩), .pointer (some ⟨q, 0, none⟩)] w fun e w' => e = .returned (.tuple #[.string ⟨(laid v 4).toArray⟩, .bool has]) ∧ Below w.heap.size w w' := by
  have hw : (v : Int) % 18446744073709551616 = v := by omega
  have hwr : IntKind.u64.wrap (v : Int) = (v : Int) := by rw [IntKind.wrap_u64]; omega
  have HPUT : Hid (∀ W, Calls Tryz.prog 20 #[.int .u64 (v : Int), .int .i64 4] W fun e w' => e = .returned (.string ⟨(laid v 4).toArray⟩) ∧ Below W.heap.size W w') := fun W => put47 v 4 W (by omega) (by omega) (by omega)
  generalize (⟨(laid v 4).toArray⟩ : ByteArray) = bs at *
  go_enter Tryz.func90, Tryz.ntmps90
  go_wp2_with fail
  refine (atOrig p w).mono ?_
  rintro e w1 ⟨rfl, hb1⟩
  have c0 := below_cell hb1 h0
  have c1 := below_cell hb1 h1
  have HB1 : Hid (Below _ _ _) := hb1
  clear hb1 h0 h1 hq
  go_wp2
  go_region_held (fun w' => w'.cell? ⟨p, 13, none⟩ = some (.bool has) ∧ w'.cell? ⟨p, 14, none⟩ = some (.int .u32 (v : Int))) (go_keep)
    (first | (go_at_call 20; (try rw [hwr]); refine (HPUT.out _).mono ?_; rintro e w5 ⟨rfl, hb5⟩; have q0 := below_cell (w := w1.drew) hb5 c0; have q1 := below_cell (w := w1.drew) hb5 c1))
  have HB2 : Hid (Below w.heap.size w w5) := HB1.out.drew.trans (hb5.mono HB1.out.size)
  clear hb5 c0 c1 q0 q1
  go_wp2
  go_ret2
  exact ⟨rfl, HB2.out⟩
set_option maxRecDepth 100000 in
set_option maxHeartbeats 800000 in
theorem layPath (p q : Nat) (v : Value) (L : List Sg) (four : Bool) (w : World) (hq : w.cell? ⟨q, 0, none⟩ = some (.bool four)) (h1 : w.cell? ⟨p, 1, none⟩ = some v) (hp : PathAt w v L) (hok : okPath L = true) :
    Calls Tryz.prog 86 #[.pointer (some ⟨p, 0, none⟩), .pointer (some ⟨q, 0, none⟩)] w fun e w' => e = .returned (.tuple #[.string ⟨(encOf four L).toArray⟩, .bool true]) ∧ Below w.heap.size w w' := by
  have HE : Hid (Calls Tryz.prog 87 #[v, .bool four] w.drew fun e w' => e = .returned (.tuple #[.string ⟨(encOf four L).toArray⟩, .int .i64 0]) ∧ Below w.drew.heap.size w.drew w') := encode_any v L four w.drew hp.drew hok
  obtain ⟨ad, b, off, cap, rfl, _⟩ := id hp
  clear hp hok
  generalize (⟨(encOf four L).toArray⟩ : ByteArray) = bs at *
  go_enter Tryz.func86, Tryz.ntmps86
  go_wp2
  go_region_held (fun w' => w'.cell? ⟨q, 0, none⟩ = some (.bool four) ∧ w'.cell? ⟨p, 1, none⟩ = some (.slice ad L.length cap)) (go_keep)
    (first | (go_at_call 87; refine HE.out.mono ?_; rintro e w5 ⟨rfl, hb5⟩; have q0 := below_cell (w := w.drew) hb5 hq; have q1 := below_cell (w := w.drew) hb5 h1))
  have HB2 : Hid (Below w.heap.size w w5) := (Below.refl w.heap.size w).drew.trans (hb5.mono (Nat.le_refl _))
  clear hb5 hq h1 q0 q1 HE
  go_wp2
  go_ret2
  exact ⟨rfl, HB2.out⟩
theorem strAdd (l m : List UInt8) : (⟨l.toArray⟩ : ByteArray) ++ ⟨m.toArray⟩ = ⟨(l ++ m).toArray⟩ := by
  apply ByteArray.ext
  simp
end Go.Proofs.YtpahnebhcfpplabGreatDoor
