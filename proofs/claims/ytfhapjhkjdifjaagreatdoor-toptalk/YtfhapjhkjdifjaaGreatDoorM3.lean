/-
  What takes an entry of restarts, and one of path ids.
-/
import Derived.Test.YtfhapjhkjdifjaaGreatDoorM2
import Derived.Laws.BitsAllLaws
import Derived.Deep.RegionWith
set_option linter.unusedVariables false
set_option linter.unusedSimpArgs false
namespace Go.Proofs.YtfhapjhkjdifjaaGreatDoor
open Go.RowKit
theorem and_nat : ∀ n : Fin 256, ((n : Nat) &&& 128 = (n : Nat) / 128 * 128) ∧ ((n : Nat) &&& 1 = (n : Nat) % 2) ∧ ((n : Nat) &&& 2 = (n : Nat) / 2 % 2 * 2) := by decide +kernel
theorem and128 (n : Nat) (h : n < 256) : (bits .and .u8 (n : Int) 128 != 0) = decide (128 ≤ n) := by
  have h1 := (and_nat ⟨n, h⟩).1
  have h2 := u8_and_nat n 128 h (by omega)
  simp only at h1
  rw [h1] at h2
  rw [show ((128 : Nat) : Int) = 128 from rfl] at h2
  rw [h2, Bool.eq_iff_iff]
  simp
  omega
theorem and1 (n : Nat) (h : n < 256) : (bits .and .u8 (n : Int) 1 != 0) = decide (n % 2 = 1) := by
  have h1 := (and_nat ⟨n, h⟩).2.1
  have h2 := u8_and_nat n 1 h (by omega)
  simp only at h1
  rw [h1] at h2
  rw [show ((1 : Nat) : Int) = 1 from rfl] at h2
  rw [h2, Bool.eq_iff_iff]
  simp
  omega
theorem and2 (n : Nat) (h : n < 256) : (bits .and .u8 (n : Int) 2 != 0) = decide (n / 2 % 2 = 1) := by
  have h1 := (and_nat ⟨n, h⟩).2.2
  have h2 := u8_and_nat n 2 h (by omega)
  simp only at h1
  rw [h1] at h2
  rw [show ((2 : Nat) : Int) = 2 from rfl] at h2
  rw [h2, Bool.eq_iff_iff]
  simp
  omega
/-- An entry of restarts. -/
def stK (o : Opn) (f : Int) (n : Nat) : Opn := { o with kept := plA (fun x : Kp => x.f) o.kept ⟨f, decide (128 ≤ n)⟩ }
/-- An entry of path ids. -/
def stA (o : Opn) (f : Int) (n : Nat) : Opn := if 1 ≤ n ∧ n ≤ 3 then { o with adds := plA (fun x : Ad => x.f) o.adds ⟨f, decide (n / 2 % 2 = 1), decide (n % 2 = 1)⟩ } else o
set_option maxHeartbeats 3200000 in
set_option maxRecDepth 100000 in
theorem takeK_any (base p q : Nat) (o : Opn) (f : Int) (n : Nat) (Y : World) (hf : isF f = true) (hn : n < 256) (ho : OAt base Y p o) (hq : Y.heap[q]? = some (.cells #[.pointer (some ⟨p, 0, none⟩)] 76 (0, 0))) (hb : base ≤ Y.heap.size) :
    Calls Tryz.prog 78 #[.int .i64 f, .int .u8 (n : Int), .pointer (some ⟨q, 0, none⟩)] Y fun e w' => e = .returned (.tuple #[]) ∧ OAt base w' p (stK o f n) ∧ Fr base p Y w' := by
  obtain ⟨vf, va, vk, h1, h2, h3, h4, h5⟩ := ho
  have hd : Fr base p Y Y.drew := Fr.of_below (Below.refl _ _).drew (Nat.le_refl _)
  have KP : Hid (_ : Prop) := placed_kept base vk o.kept ⟨f, decide (128 ≤ n)⟩ Y.drew h4 hb (srt_of h5.k) (by have := len_of h5.k; simp at this; omega)
  have HALL : Hid (_ ∧ _ ∧ _ ∧ _ ∧ _) := ⟨h1, h2, h3, h4, h5⟩
  have HQ : Hid (_ = _) := hq
  have HQP : Hid (q ≠ p) := OAt.ne ⟨vf, va, vk, h1, h2, h3, h4, h5⟩ hq (by decide)
  have cq : Y.cell? ⟨q, 0, none⟩ = some (.pointer (some ⟨p, 0, none⟩)) := cl_row hq rfl
  have c10 : Y.cell? ⟨p, 10, none⟩ = some vk := cl_row h1 rfl
  have ha := and128 n hn
  have HIF : Hid (isF f = true) := hf
  have HST : Hid (stK o f n = { o with kept := plA (fun x : Kp => x.f) o.kept ⟨f, decide (128 ≤ n)⟩ }) := rfl
  have HD : Hid (Fr base p Y Y.drew) := hd
  have HRIS : Hid (risF 0 ((plA (fun x : Kp => x.f) o.kept ⟨f, decide (128 ≤ n)⟩).map (fun x : Kp => x.f)) = true) := ris_plA' (fun x : Kp => x.f) h5.k hf
  have hne : ∀ i j, (⟨p, i, none⟩ : Addr) ≠ ⟨q, j, none⟩ := fun i j e => HQP.out (by injection e with e1; exact e1.symm)
  generalize stK o f n = SO at *
  generalize decide (128 ≤ n) = z at *
  obtain ⟨ad, c, rfl⟩ := slice_of_owns h4
  clear h1 h2 h3 h4 h5 hq hd hf
  go_enter Tryz.func78, Tryz.ntmps78
  go_wp2
  go_region_with (first | (go_at_call 79; (try rw [ha]); refine Calls.mono KP.out ?_; rintro e w3 ⟨vk', rfl, ho3, hg3⟩; obtain ⟨hO, hF, hP⟩ := OAt.setK (w := Y.drew) HALL.out.1 HALL.out.2.1 HALL.out.2.2.1 HALL.out.2.2.2.1 HALL.out.2.2.2.2 hg3 ho3 HRIS.out; have k3 := cl_row (i := 10) hP rfl; have f3 := fz_row (i := 10) hP; have cq3 := cl_row (i := 0) (((fr_grown (p := p) (w := Y.drew) HALL.out.2.2.2.1 (Or.inr (Or.inr rfl)) hg3).keep HQ.out HQP.out (by decide))) rfl; obtain ⟨ad', c', rfl⟩ := slice_of_owns ho3; have HEND := And.intro hO (HD.out.trans hF); clear hO hF hP ho3 hg3))
  all_goals
    go_wp2
    go_end0
    exact ⟨rfl, by rw [HST.out]; exact HEND.1, HEND.2⟩
set_option maxHeartbeats 3200000 in
set_option maxRecDepth 100000 in
theorem takeA_any (base p q : Nat) (o : Opn) (f : Int) (n : Nat) (Y : World) (hf : isF f = true) (hn : n < 256) (ho : OAt base Y p o) (hq : Y.heap[q]? = some (.cells #[.pointer (some ⟨p, 0, none⟩)] 76 (0, 0))) (hb : base ≤ Y.heap.size) :
    Calls Tryz.prog 81 #[.int .i64 f, .int .u8 (n : Int), .pointer (some ⟨q, 0, none⟩)] Y fun e w' => e = .returned (.tuple #[]) ∧ OAt base w' p (stA o f n) ∧ Fr base p Y w' := by
  have ho0 := ho
  obtain ⟨vf, va, vk, h1, h2, h3, h4, h5⟩ := ho
  by_cases hr : 1 ≤ n ∧ n ≤ 3
  · have hd : Fr base p Y Y.drew := Fr.of_below (Below.refl _ _).drew (Nat.le_refl _)
    have KP : Hid (_ : Prop) := placed_add base va o.adds ⟨f, decide (n / 2 % 2 = 1), decide (n % 2 = 1)⟩ Y.drew h3 hb (srt_of h5.a) (by have := len_of h5.a; simp at this; omega)
    have HALL : Hid (_ ∧ _ ∧ _ ∧ _ ∧ _) := ⟨h1, h2, h3, h4, h5⟩
    have HQ : Hid (_ = _) := hq
    have HQP : Hid (q ≠ p) := OAt.ne ho0 hq (by decide)
    have cq : Y.cell? ⟨q, 0, none⟩ = some (.pointer (some ⟨p, 0, none⟩)) := cl_row hq rfl
    have c6 : Y.cell? ⟨p, 6, none⟩ = some va := cl_row h1 rfl
    have ha := and1 n hn
    have ha2 := and2 n hn
    have HST : Hid (stA o f n = { o with adds := plA (fun x : Ad => x.f) o.adds ⟨f, decide (n / 2 % 2 = 1), decide (n % 2 = 1)⟩ }) := if_pos hr
    have HD : Hid (Fr base p Y Y.drew) := hd
    have HRIS : Hid (risF 0 ((plA (fun x : Ad => x.f) o.adds ⟨f, decide (n / 2 % 2 = 1), decide (n % 2 = 1)⟩).map (fun x : Ad => x.f)) = true) := ris_plA' (fun x : Ad => x.f) h5.a hf
    have hne : ∀ i j, (⟨p, i, none⟩ : Addr) ≠ ⟨q, j, none⟩ := fun i j e => HQP.out (by injection e with e1; exact e1.symm)
    have hn1 : (1 : Int) ≤ (n : Int) := by omega
    have hn3 : (n : Int) ≤ 3 := by omega
    generalize stA o f n = SO at *
    generalize decide (n / 2 % 2 = 1) = z at *
    generalize decide (n % 2 = 1) = y at *
    obtain ⟨ad, c, rfl⟩ := slice_of_owns h3
    clear h1 h2 h3 h4 h5 hq hd hf ho0 hr
    go_enter Tryz.func81, Tryz.ntmps81
    go_wp2
    go_region_with (first | (go_at_call 82; (try rw [ha]); (try rw [ha2]); refine Calls.mono KP.out ?_; rintro e w3 ⟨va', rfl, ho3, hg3⟩; obtain ⟨hO, hF, hP⟩ := OAt.setA (w := Y.drew) HALL.out.1 HALL.out.2.1 HALL.out.2.2.1 HALL.out.2.2.2.1 HALL.out.2.2.2.2 hg3 ho3 HRIS.out; have k3 := cl_row (i := 6) hP rfl; have f3 := fz_row (i := 6) hP; have cq3 := cl_row (i := 0) (((fr_grown (p := p) (w := Y.drew) HALL.out.2.2.1 (Or.inr (Or.inl rfl)) hg3).keep HQ.out HQP.out (by decide))) rfl; obtain ⟨ad', c', rfl⟩ := slice_of_owns ho3; have HEND := And.intro hO (HD.out.trans hF); clear hO hF hP ho3 hg3))
    all_goals
      go_wp2
      go_end0
      exact ⟨rfl, by rw [HST.out]; exact HEND.1, HEND.2⟩
  · have HST : Hid (stA o f n = o) := if_neg hr
    have HO : Hid (OAt base Y p o) := ho0
    clear h1 h2 h3 h4 h5 hq hf ho0
    by_cases h1 : 1 ≤ n
    · have h3 : 3 < n := by omega
      have hn1 : (1 : Int) ≤ (n : Int) := by omega
      have hn3 : decide ((n : Int) ≤ 3) = false := by simp; omega
      go_enter Tryz.func81, Tryz.ntmps81
      go_wp2
      go_end0
      exact ⟨rfl, by rw [HST.out]; exact HO.out, Fr.refl _ _ _⟩
    · have hn1 : decide ((1 : Int) ≤ (n : Int)) = false := by simp; omega
      go_enter Tryz.func81, Tryz.ntmps81
      go_wp2
      go_end0
      exact ⟨rfl, by rw [HST.out]; exact HO.out, Fr.refl _ _ _⟩
theorem enter83 (args : Array Value) (W : World) : (callFunc 78 args).run Tryz.prog W = .ok (.enter 78 args) W := by kernel_rfl
theorem enter85 (args : Array Value) (W : World) : (callFunc 81 args).run Tryz.prog W = .ok (.enter 81 args) W := by kernel_rfl
end Go.Proofs.YtfhapjhkjdifjaaGreatDoor
