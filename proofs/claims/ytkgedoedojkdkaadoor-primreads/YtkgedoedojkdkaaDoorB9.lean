/-
  The contract of Cmp, for every two prefixes: closures in a list, the first that tells the two apart.
-/
import Derived.Test.YtkgedoedojkdkaaDoorB7
namespace Go.Proofs.YtkgedoedojkdkaaDoor
open Go.RowKit
/-- The order of two prefixes. -/
def pcmp (fa ra : Int) (sa : ByteArray) (la : Int) (fb rb : Int) (sb : ByteArray) (lb : Int) : Int :=
  if ord fa fb ≠ 0 then ord fa fb else if ord ra rb ≠ 0 then ord ra rb else if ordS sa.toList sb.toList ≠ 0 then ordS sa.toList sb.toList else ord la lb

theorem cl1 (pa pb : Nat) (fa ra : Int) (sa : ByteArray) (la : Int) (fb rb : Int) (sb : ByteArray) (lb : Int) (w : World) (ha : PfxAt w pa fa ra sa la) (hb : PfxAt w pb fb rb sb lb) :
    Calls Tryd.prog 34 #[.pointer (some ⟨pa, 0, none⟩), .pointer (some ⟨pb, 0, none⟩)] w fun e w' => e = .returned (.int .i64 (ord fa fb)) ∧ w' = w := by
  obtain ⟨a0, a1, a2, a3, _, _, _, _⟩ := ha
  obtain ⟨b0, b1, b2, b3, _, _, _, _⟩ := hb
  go_enter Tryd.func34, Tryd.ntmps34
  go_wp2_with (go_at_call 35; refine (cmpi_any _ _ _).mono ?_; rintro e w' ⟨rfl, rfl⟩)
  go_ret
  exact ⟨rfl, rfl⟩
theorem cl2 (pa pb : Nat) (fa ra : Int) (sa : ByteArray) (la : Int) (fb rb : Int) (sb : ByteArray) (lb : Int) (w : World) (ha : PfxAt w pa fa ra sa la) (hb : PfxAt w pb fb rb sb lb) :
    Calls Tryd.prog 36 #[.pointer (some ⟨pa, 0, none⟩), .pointer (some ⟨pb, 0, none⟩)] w fun e w' => e = .returned (.int .i64 (ord ra rb)) ∧ w' = w := by
  obtain ⟨a0, a1, a2, a3, _, _, _, _⟩ := ha
  obtain ⟨b0, b1, b2, b3, _, _, _, _⟩ := hb
  go_enter Tryd.func36, Tryd.ntmps36
  go_wp2_with (go_at_call 37; refine (cmpu_any _ _ _).mono ?_; rintro e w' ⟨rfl, rfl⟩)
  go_ret
  exact ⟨rfl, rfl⟩
theorem cl3 (pa pb : Nat) (fa ra : Int) (sa : ByteArray) (la : Int) (fb rb : Int) (sb : ByteArray) (lb : Int) (w : World) (ha : PfxAt w pa fa ra sa la) (hb : PfxAt w pb fb rb sb lb) :
    Calls Tryd.prog 38 #[.pointer (some ⟨pa, 0, none⟩), .pointer (some ⟨pb, 0, none⟩)] w fun e w' => e = .returned (.int .i64 (ordS sa.toList sb.toList)) ∧ w' = w := by
  obtain ⟨a0, a1, a2, a3, _, _, _, _⟩ := ha
  obtain ⟨b0, b1, b2, b3, _, _, _, _⟩ := hb
  go_enter Tryd.func38, Tryd.ntmps38
  go_wp2_with (go_at_call 39; refine (cmps_any _ _ _).mono ?_; rintro e w' ⟨rfl, rfl⟩)
  go_ret
  exact ⟨rfl, rfl⟩
theorem cl4 (pa pb : Nat) (fa ra : Int) (sa : ByteArray) (la : Int) (fb rb : Int) (sb : ByteArray) (lb : Int) (w : World) (ha : PfxAt w pa fa ra sa la) (hb : PfxAt w pb fb rb sb lb) :
    Calls Tryd.prog 40 #[.pointer (some ⟨pa, 0, none⟩), .pointer (some ⟨pb, 0, none⟩)] w fun e w' => e = .returned (.int .i64 (ord la lb)) ∧ w' = w := by
  obtain ⟨a0, a1, a2, a3, _, _, _, _⟩ := ha
  obtain ⟨b0, b1, b2, b3, _, _, _, _⟩ := hb
  go_enter Tryd.func40, Tryd.ntmps40
  go_wp2_with (go_at_call 35; refine (cmpi_any _ _ _).mono ?_; rintro e w' ⟨rfl, rfl⟩)
  go_ret
  exact ⟨rfl, rfl⟩

/-- The first of four numbers that is not 0. -/
def firstOf (x0 x1 x2 x3 : Int) : Int := if x0 ≠ 0 then x0 else if x1 ≠ 0 then x1 else if x2 ≠ 0 then x2 else x3

/-- What holds ahead of round k. -/
def Zs (x0 x1 x2 x3 : Int) (k : Nat) : Prop := (1 ≤ k → x0 = 0) ∧ (2 ≤ k → x1 = 0) ∧ (3 ≤ k → x2 = 0) ∧ (4 ≤ k → x3 = 0)
theorem Zs.none {x0 x1 x2 x3 : Int} (h : Zs x0 x1 x2 x3 4) : (0 : Int) = firstOf x0 x1 x2 x3 := by
  unfold Zs at h; unfold firstOf; repeat' split
  all_goals omega
theorem Zs.hit0 {x0 x1 x2 x3 : Int} (h : (x0 != 0) = true) : x0 = firstOf x0 x1 x2 x3 := by
  rw [bne_iff_ne] at h; unfold firstOf; rw [if_pos h]
theorem Zs.hit1 {x0 x1 x2 x3 : Int} (z : Zs x0 x1 x2 x3 1) (h : (x1 != 0) = true) : x1 = firstOf x0 x1 x2 x3 := by
  rw [bne_iff_ne] at h; unfold Zs at z; unfold firstOf; rw [if_neg (by omega), if_pos h]
theorem Zs.hit2 {x0 x1 x2 x3 : Int} (z : Zs x0 x1 x2 x3 2) (h : (x2 != 0) = true) : x2 = firstOf x0 x1 x2 x3 := by
  rw [bne_iff_ne] at h; unfold Zs at z; unfold firstOf; rw [if_neg (by omega), if_neg (by omega), if_pos h]
theorem Zs.hit3 {x0 x1 x2 x3 : Int} (z : Zs x0 x1 x2 x3 3) : x3 = firstOf x0 x1 x2 x3 := by
  unfold Zs at z; unfold firstOf; rw [if_neg (by omega), if_neg (by omega), if_neg (by omega)]
theorem Zs.next0 {x0 x1 x2 x3 : Int} (h : (x0 != 0) = false) : Zs x0 x1 x2 x3 1 := by
  have : x0 = 0 := by simpa using h
  unfold Zs; omega
theorem Zs.next1 {x0 x1 x2 x3 : Int} (z : Zs x0 x1 x2 x3 1) (h : (x1 != 0) = false) : Zs x0 x1 x2 x3 2 := by
  have : x1 = 0 := by simpa using h
  unfold Zs at *; omega
theorem Zs.next2 {x0 x1 x2 x3 : Int} (z : Zs x0 x1 x2 x3 2) (h : (x2 != 0) = false) : Zs x0 x1 x2 x3 3 := by
  have : x2 = 0 := by simpa using h
  unfold Zs at *; omega
theorem Zs.next3 {x0 x1 x2 x3 : Int} (z : Zs x0 x1 x2 x3 3) (h : (x3 != 0) = false) : Zs x0 x1 x2 x3 4 := by
  have : x3 = 0 := by simpa using h
  unfold Zs at *; omega

set_option maxRecDepth 100000 in
set_option maxHeartbeats 800000 in
theorem inTurn_any (b pa pb : Nat) (fa ra : Int) (sa : ByteArray) (la : Int) (fb rb : Int) (sb : ByteArray) (lb : Int) (w : World) (ha : PfxAt w pa fa ra sa la) (hb : PfxAt w pb fb rb sb lb)
    (c0 : w.cell? ⟨b, 0, none⟩ = some (.func (.func 34) #[] #[.pointer (some ⟨pa, 0, none⟩), .pointer (some ⟨pb, 0, none⟩)]))
    (c1 : w.cell? ⟨b, 1, none⟩ = some (.func (.func 36) #[] #[.pointer (some ⟨pa, 0, none⟩), .pointer (some ⟨pb, 0, none⟩)]))
    (c2 : w.cell? ⟨b, 2, none⟩ = some (.func (.func 38) #[] #[.pointer (some ⟨pa, 0, none⟩), .pointer (some ⟨pb, 0, none⟩)]))
    (c3 : w.cell? ⟨b, 3, none⟩ = some (.func (.func 40) #[] #[.pointer (some ⟨pa, 0, none⟩), .pointer (some ⟨pb, 0, none⟩)])) :
    Calls Tryd.prog 33 #[.slice (some ⟨b, 0, none⟩) 4 4] w fun e w' => e = .returned (.int .i64 (firstOf (ord fa fb) (ord ra rb) (ordS sa.toList sb.toList) (ord la lb))) ∧ w' = w := by
  have C1 := cl1 pa pb fa ra sa la fb rb sb lb w ha hb
  have C2 := cl2 pa pb fa ra sa la fb rb sb lb w ha hb
  have C3 := cl3 pa pb fa ra sa la fb rb sb lb w ha hb
  have C4 := cl4 pa pb fa ra sa la fb rb sb lb w ha hb
  generalize ord fa fb = x0 at *
  generalize ord ra rb = x1 at *
  generalize ordS sa.toList sb.toList = x2 at *
  generalize ord la lb = x3 at *
  clear ha hb
  have K1 : Hid (Calls _ _ _ _ _) := C1
  have K2 : Hid (Calls _ _ _ _ _) := C2
  have K3 : Hid (Calls _ _ _ _ _) := C3
  have K4 : Hid (Calls _ _ _ _ _) := C4
  clear C1 C2 C3 C4
  go_enter Tryd.func33, Tryd.ntmps33
  go_wp2_with fail
  go_loop [8] (fun i => ∃ k : Nat, k ≤ 4 ∧ i = .int .i64 k ∧ Zs x0 x1 x2 x3 k) (fun i => 4 - (intOf i).toNat)
  case atStart => exact ⟨0, by omega, rfl, by unfold Zs; omega⟩
  case round =>
    obtain ⟨k, hk, rfl, R⟩ := hrel
    have hk' : k = 0 ∨ k = 1 ∨ k = 2 ∨ k = 3 ∨ k = 4 := by omega
    clear hk
    rcases hk' with rfl | rfl | rfl | rfl | rfl
    all_goals
      go_wp2_with (first | (go_at_call 34; go_must (refine Calls.mono K1.out ?_); rintro e w' ⟨rfl, rfl⟩) | (go_at_call 36; go_must (refine Calls.mono K2.out ?_); rintro e w' ⟨rfl, rfl⟩) | (go_at_call 38; go_must (refine Calls.mono K3.out ?_); rintro e w' ⟨rfl, rfl⟩) | (go_at_call 40; go_must (refine Calls.mono K4.out ?_); rintro e w' ⟨rfl, rfl⟩))
    · go_ret; exact ⟨ret_int (Zs.hit0 (by assumption)), rfl⟩
    · exact ⟨⟨1, by omega, rfl, Zs.next0 (by assumption)⟩, by simp [intOf]⟩
    · go_ret; exact ⟨ret_int (R.hit1 (by assumption)), rfl⟩
    · exact ⟨⟨2, by omega, rfl, R.next1 (by assumption)⟩, by simp [intOf]⟩
    · go_ret; exact ⟨ret_int (R.hit2 (by assumption)), rfl⟩
    · exact ⟨⟨3, by omega, rfl, R.next2 (by assumption)⟩, by simp [intOf]⟩
    · go_ret; exact ⟨ret_int R.hit3, rfl⟩
    · exact ⟨⟨4, by omega, rfl, R.next3 (by assumption)⟩, by simp [intOf]⟩
    · go_ret; exact ⟨ret_int R.none, rfl⟩

set_option maxRecDepth 100000 in
set_option maxHeartbeats 400000 in
theorem cmp_any (fa ra : Int) (sa : ByteArray) (la : Int) (fb rb : Int) (sb : ByteArray) (lb : Int) (w : World) :
    Calls Tryd.prog 11 #[.agg #[.int .i64 fa, .int .u64 ra, .string sa, .int .i64 la], .agg #[.int .i64 fb, .int .u64 rb, .string sb, .int .i64 lb]] w fun e w' => e = .returned (.int .i64 (pcmp fa ra sa la fb rb sb lb)) ∧ Below w.heap.size w w' := by
  go_enter Tryd.func11, Tryd.ntmps11
  go_wp2_with fail
  refine (inTurn_any (w.heap.size + 1 + 1) w.heap.size (w.heap.size + 1) fa ra sa la fb rb sb lb _ ?_ ?_ ?_ ?_ ?_ ?_).mono ?_
  · exact (PfxAt.of_alloc w _ fa ra sa la rfl).kept (B := w.heap.size + 1) (((Below.refl _ _).alloc (by simp) _).alloc (by simp) _) (by simp)
  · exact (PfxAt.of_alloc (w.alloc _) _ fb rb sb lb (by simp)).kept (B := w.heap.size + 1 + 1) ((Below.refl _ _).alloc (by simp) _) (by simp)
  · rw [World.cell?_alloc_at _ _ _ _ (by simp)]; rfl
  · rw [World.cell?_alloc_at _ _ _ _ (by simp)]; rfl
  · rw [World.cell?_alloc_at _ _ _ _ (by simp)]; rfl
  · rw [World.cell?_alloc_at _ _ _ _ (by simp)]; rfl
  rintro e w' ⟨rfl, rfl⟩
  go_wp2
  go_ret
  exact ⟨rfl, (((Below.refl _ _).alloc (Nat.le_refl _) _).alloc (by simp) _).alloc (by simp; omega) _⟩
end Go.Proofs.YtkgedoedojkdkaaDoor
