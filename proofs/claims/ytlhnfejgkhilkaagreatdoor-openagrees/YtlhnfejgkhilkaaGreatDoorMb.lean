/-
  What takes an entry of restarts, and one of path ids.
-/
import Derived.Test.YtlhnfejgkhilkaaGreatDoorMa
import Derived.Laws.BitsAllLaws
import Derived.Deep.RegionWith
import Derived.BigRegion
set_option linter.unusedVariables false
set_option linter.unusedSimpArgs false
namespace Go.Proofs.YtlhnfejgkhilkaaGreatDoor
open Go.RowKit
theorem and_nat : ∀ n : Fin 256, ((n : Nat) &&& 128 = (n : Nat) / 128 * 128) ∧ ((n : Nat) &&& 1 = (n : Nat) % 2) ∧ ((n : Nat) &&& 2 = (n : Nat) / 2 % 2 * 2) := by decide +kernel
theorem and128 (n : Nat) (h : n < 256) : (bits .and .u8 (n : Int) 128 != 0) = decide (128 ≤ n) := by
  have h1 := (and_nat ⟨n, h⟩).1
  have h2 := u8_and_nat n 128 h (by omega)
  simp only at h1
  rw [h1] at h2
  rw [show ((128 : Nat) : Int) = 128 from rfl] at h2
  rw [h2, Bool.eq_iff_iff]
  simp
  omega
theorem and1 (n : Nat) (h : n < 256) : (bits .and .u8 (n : Int) 1 != 0) = decide (n % 2 = 1) := by
  have h1 := (and_nat ⟨n, h⟩).2.1
  have h2 := u8_and_nat n 1 h (by omega)
  simp only at h1
  rw [h1] at h2
  rw [show ((1 : Nat) : Int) = 1 from rfl] at h2
  rw [h2, Bool.eq_iff_iff]
  simp
  omega
theorem and2 (n : Nat) (h : n < 256) : (bits .and .u8 (n : Int) 2 != 0) = decide (n / 2 % 2 = 1) := by
  have h1 := (and_nat ⟨n, h⟩).2.2
  have h2 := u8_and_nat n 2 h (by omega)
  simp only at h1
  rw [h1] at h2
  rw [show ((2 : Nat) : Int) = 2 from rfl] at h2
  rw [h2, Bool.eq_iff_iff]
  simp
  omega
/-- An entry of restarts. -/
def stK (o : Opn) (f : Int) (n : Nat) : Opn := { o with kept := plA (fun x : Kp => x.f) o.kept ⟨f, decide (128 ≤ n)⟩ }
/-- An entry of path ids. -/
def stA (o : Opn) (f : Int) (n : Nat) : Opn := if 1 ≤ n ∧ n ≤ 3 then { o with adds := plA (fun x : Ad => x.f) o.adds ⟨f, decide (n / 2 % 2 = 1), decide (n % 2 = 1)⟩ } else o
set_option maxHeartbeats 3200000 in
set_option maxRecDepth 100000 in
theorem takeK_any (base p q : Nat) (o : Opn) (f : Int) (n : Nat) (Y : World) (hf : isF f = true) (hn : n < 256) (ho : OAt base Y p o) (hq : Y.heap[q]? = some (.cells #[.pointer (some ⟨p, 0, none⟩)] 76 (0, 0))) (hb : base ≤ Y.heap.size) :
    Calls Tryz.prog 73 #[.int .i64 f, .int .u8 (n : Int), .pointer (some ⟨q, 0, none⟩)] Y fun e w' => e = .returned (.tuple #[]) ∧ OAt base w' p (stK o f n) ∧ Fr base p Y w' := by
  obtain ⟨vf, va, vk, h1, h2, h3, h4, h5⟩ := ho
  have hd : Fr base p Y Y.drew := Fr.of_below (Below.refl _ _).drew (Nat.le_refl _)
  have KP : Hid (_ : Prop) := placed_kept base vk o.kept ⟨f, decide (128 ≤ n)⟩ Y.drew h4 hb (srt_of h5.k) (by have := len_of h5.k; simp at this; omega)
  have HALL : Hid (_ ∧ _ ∧ _ ∧ _ ∧ _) := ⟨h1, h2, h3, h4, h5⟩
  have HQ : Hid (_ = _) := hq
  have HQP : Hid (q ≠ p) := OAt.ne ⟨vf, va, vk, h1, h2, h3, h4, h5⟩ hq (by decide)
  have cq : Y.cell? ⟨q, 0, none⟩ = some (.pointer (some ⟨p, 0, none⟩)) := cl_row hq rfl
  have c10 : Y.cell? ⟨p, 10, none⟩ = some vk := cl_row h1 rfl
  have ha := and128 n hn
  have HIF : Hid (isF f = true) := hf
  have HST : Hid (stK o f n = { o with kept := plA (fun x : Kp => x.f) o.kept ⟨f, decide (128 ≤ n)⟩ }) := rfl
  have HD : Hid (Fr base p Y Y.drew) := hd
  have HRIS : Hid (risF 0 ((plA (fun x : Kp => x.f) o.kept ⟨f, decide (128 ≤ n)⟩).map (fun x : Kp => x.f)) = true) := ris_plA' (fun x : Kp => x.f) h5.k hf
  have hne : ∀ i j, (⟨p, i, none⟩ : Addr) ≠ ⟨q, j, none⟩ := fun i j e => HQP.out (by injection e with e1; exact e1.symm)
  generalize stK o f n = SO at *
  generalize decide (128 ≤ n) = z at *
  obtain ⟨ad, c, rfl⟩ := slice_of_owns h4
  clear h1 h2 h3 h4 h5 hq hd hf
  go_enter Tryz.func73, Tryz.ntmps73
  go_wp2
  go_region_with (first | (go_at_call 74; (try rw [ha]); refine Calls.mono KP.out ?_; rintro e w3 ⟨vk', rfl, ho3, hg3⟩; obtain ⟨hO, hF, hP⟩ := OAt.setK (w := Y.drew) HALL.out.1 HALL.out.2.1 HALL.out.2.2.1 HALL.out.2.2.2.1 HALL.out.2.2.2.2 hg3 ho3 HRIS.out; have k3 := cl_row (i := 10) hP rfl; have f3 := fz_row (i := 10) hP; have cq3 := cl_row (i := 0) (((fr_grown (p := p) (w := Y.drew) HALL.out.2.2.2.1 (Or.inr (Or.inr rfl)) hg3).keep HQ.out HQP.out (by decide))) rfl; obtain ⟨ad', c', rfl⟩ := slice_of_owns ho3; have HEND := And.intro hO (HD.out.trans hF); clear hO hF hP ho3 hg3))
  all_goals
    go_wp2
    go_end0
    exact ⟨rfl, by rw [HST.out]; exact HEND.1, HEND.2⟩
set_option maxHeartbeats 3200000 in
set_option maxRecDepth 100000 in
theorem takeA_any (base p q : Nat) (o : Opn) (f : Int) (n : Nat) (Y : World) (hf : isF f = true) (hn : n < 256) (ho : OAt base Y p o) (hq : Y.heap[q]? = some (.cells #[.pointer (some ⟨p, 0, none⟩)] 76 (0, 0))) (hb : base ≤ Y.heap.size) :
    Calls Tryz.prog 75 #[.int .i64 f, .int .u8 (n : Int), .pointer (some ⟨q, 0, none⟩)] Y fun e w' => e = .returned (.tuple #[]) ∧ OAt base w' p (stA o f n) ∧ Fr base p Y w' := by
  have ho0 := ho
  obtain ⟨vf, va, vk, h1, h2, h3, h4, h5⟩ := ho
  by_cases hr : 1 ≤ n ∧ n ≤ 3
  · have hd : Fr base p Y Y.drew := Fr.of_below (Below.refl _ _).drew (Nat.le_refl _)
    have KP : Hid (_ : Prop) := placed_add base va o.adds ⟨f, decide (n / 2 % 2 = 1), decide (n % 2 = 1)⟩ Y.drew h3 hb (srt_of h5.a) (by have := len_of h5.a; simp at this; omega)
    have HALL : Hid (_ ∧ _ ∧ _ ∧ _ ∧ _) := ⟨h1, h2, h3, h4, h5⟩
    have HQ : Hid (_ = _) := hq
    have HQP : Hid (q ≠ p) := OAt.ne ho0 hq (by decide)
    have cq : Y.cell? ⟨q, 0, none⟩ = some (.pointer (some ⟨p, 0, none⟩)) := cl_row hq rfl
    have c6 : Y.cell? ⟨p, 6, none⟩ = some va := cl_row h1 rfl
    have ha := and1 n hn
    have ha2 := and2 n hn
    have HST : Hid (stA o f n = { o with adds := plA (fun x : Ad => x.f) o.adds ⟨f, decide (n / 2 % 2 = 1), decide (n % 2 = 1)⟩ }) := if_pos hr
    have HD : Hid (Fr base p Y Y.drew) := hd
    have HRIS : Hid (risF 0 ((plA (fun x : Ad => x.f) o.adds ⟨f, decide (n / 2 % 2 = 1), decide (n % 2 = 1)⟩).map (fun x : Ad => x.f)) = true) := ris_plA' (fun x : Ad => x.f) h5.a hf
    have hne : ∀ i j, (⟨p, i, none⟩ : Addr) ≠ ⟨q, j, none⟩ := fun i j e => HQP.out (by injection e with e1; exact e1.symm)
    have hn1 : (1 : Int) ≤ (n : Int) := by omega
    have hn3 : (n : Int) ≤ 3 := by omega
    generalize stA o f n = SO at *
    generalize decide (n / 2 % 2 = 1) = z at *
    generalize decide (n % 2 = 1) = y at *
    obtain ⟨ad, c, rfl⟩ := slice_of_owns h3
    clear h1 h2 h3 h4 h5 hq hd hf ho0 hr
    go_enter Tryz.func75, Tryz.ntmps75
    go_wp2
    go_region_with (first | (go_at_call 76; (try rw [ha]); (try rw [ha2]); refine Calls.mono KP.out ?_; rintro e w3 ⟨va', rfl, ho3, hg3⟩; obtain ⟨hO, hF, hP⟩ := OAt.setA (w := Y.drew) HALL.out.1 HALL.out.2.1 HALL.out.2.2.1 HALL.out.2.2.2.1 HALL.out.2.2.2.2 hg3 ho3 HRIS.out; have k3 := cl_row (i := 6) hP rfl; have f3 := fz_row (i := 6) hP; have cq3 := cl_row (i := 0) (((fr_grown (p := p) (w := Y.drew) HALL.out.2.2.1 (Or.inr (Or.inl rfl)) hg3).keep HQ.out HQP.out (by decide))) rfl; obtain ⟨ad', c', rfl⟩ := slice_of_owns ho3; have HEND := And.intro hO (HD.out.trans hF); clear hO hF hP ho3 hg3))
    all_goals
      go_wp2
      go_end0
      exact ⟨rfl, by rw [HST.out]; exact HEND.1, HEND.2⟩
  · have HST : Hid (stA o f n = o) := if_neg hr
    have HO : Hid (OAt base Y p o) := ho0
    clear h1 h2 h3 h4 h5 hq hf ho0
    by_cases h1 : 1 ≤ n
    · have h3 : 3 < n := by omega
      have hn1 : (1 : Int) ≤ (n : Int) := by omega
      have hn3 : decide ((n : Int) ≤ 3) = false := by simp; omega
      go_enter Tryz.func75, Tryz.ntmps75
      go_wp2
      go_end0
      exact ⟨rfl, by rw [HST.out]; exact HO.out, Fr.refl _ _ _⟩
    · have hn1 : decide ((1 : Int) ≤ (n : Int)) = false := by simp; omega
      go_enter Tryz.func75, Tryz.ntmps75
      go_wp2
      go_end0
      exact ⟨rfl, by rw [HST.out]; exact HO.out, Fr.refl _ _ _⟩
theorem enter83 (args : Array Value) (W : World) : (callFunc 73 args).run Tryz.prog W = .ok (.enter 73 args) W := by kernel_rfl
theorem enter85 (args : Array Value) (W : World) : (callFunc 75 args).run Tryz.prog W = .ok (.enter 75 args) W := by kernel_rfl
end Go.Proofs.YtlhnfejgkhilkaaGreatDoor

set_option linter.unusedVariables false
set_option linter.unusedSimpArgs false
namespace Go.Proofs.YtlhnfejgkhilkaaGreatDoor
open Go.RowKit
theorem grown_refl (w : World) (r : Option Nat) : w.grownBy w r := ⟨rfl, rfl, rfl, Nat.le_refl _, fun _ _ _ => rfl⟩
set_option maxHeartbeats 1600000 in
set_option maxRecDepth 100000 in
theorem takeAdds_any (base p r : Nat) (o : Opn) (l : List UInt8) (X w : World) (ho : OAt base w p o) (hr : Rd w r l) (hg : FamSizes w) (hb0 : 0 < base) (hbp : base ≤ p) (hX : Fr base p X w) (hXr : X.heap.size ≤ r) (hbX : base ≤ X.heap.size) (hpX : p < X.heap.size) :
    Calls Tryz.prog 62 #[.pointer (some ⟨p, 0, none⟩), .pointer (some ⟨r, 0, none⟩)] w fun e w' => e = .returned (.tuple #[]) ∧ OAt base w' p (entsL stA l { o with adds := [] }) ∧ Fr base p X w' := by
  have hb1 : Below w.heap.size w (w.alloc (.cells #[.pointer (some ⟨p, 0, none⟩)] 76)) := (Below.refl _ _).alloc (Nat.le_refl _) _
  have hq1 : (w.alloc (.cells #[.pointer (some ⟨p, 0, none⟩)] 76)).heap[w.heap.size]? = some (.cells #[.pointer (some ⟨p, 0, none⟩)] 76 (0, 0)) := hp_new rfl
  obtain ⟨vf, va, vk, h1, h2, h3, h4, h5⟩ := ho.below hb1
  obtain ⟨hO, hF, hP⟩ := OAt.setA (va' := .slice none 0 0) (L' := []) h1 h2 h3 h4 h5 (grown_refl _ _) (World.ownsRow_nil _ _ _ _) rfl
  have k6 := cl_row (i := 6) hP rfl
  have f6 := fz_row (i := 6) hP
  have hpw : p < w.heap.size := Nat.lt_of_lt_of_le hpX hX.size
  have hrp : r ≠ p := by omega
  have hFX : Fr base p X ((w.alloc (.cells #[.pointer (some ⟨p, 0, none⟩)] 76)).setCell ⟨p, 6, none⟩ (.slice none 0 0)) := (hX.later (hb1.mono hX.size)).trans hF
  have hEE : EE base p r w.heap.size X ((w.alloc (.cells #[.pointer (some ⟨p, 0, none⟩)] 76)).setCell ⟨p, 6, none⟩ (.slice none 0 0)) l { o with adds := [] } :=
    ⟨hO, (hr.below hb1).fr hF hrp, hF.keep hq1 (by omega) (by decide), hFX, (hg.below hb1).fr hF hb0 (by omega)⟩
  rw [World.setCell_alloc_past _ _ _ _ hpw] at hEE
  have K : Hid (_ : Prop) := eachEntry_any base p r w.heap.size 75 stA l { o with adds := [] } X _ hEE hXr hb0 hbp (by omega) enter85 (fun Y o' f n h1 h2 h3 h4 h5 => takeA_any base p w.heap.size o' f n Y h1 h2 h3 h4 h5) hbX
  obtain ⟨ad, c, rfl⟩ := slice_of_owns h3
  clear h1 h2 h3 h4 h5 hO hF hP hEE hFX hb1 hq1 hr hg hX ho
  go_enter Tryz.func62, Tryz.ntmps62
  go_wp2_with fail
  refine Calls.mono K.out ?_
  rintro e w2 ⟨rfl, h1, h2⟩
  go_wp2
  go_end0
  exact ⟨rfl, h1, h2⟩
theorem and_pow (t i : Nat) : t &&& 2 ^ i = if t.testBit i then 2 ^ i else 0 := by
  apply Nat.eq_of_testBit_eq
  intro j
  rw [Nat.testBit_and, Nat.testBit_two_pow]
  split
  · rename_i h
    rw [Nat.testBit_two_pow]
    by_cases e : i = j
    · subst e; simp [h]
    · simp [e]
  · rename_i h
    by_cases e : i = j
    · subst e; simp [h]
    · simp [e]
theorem and_hi (t : Nat) (h : t < 65536) : (bits .and .u64 (t : Int) 32768 != 0) = decide (32768 ≤ t) := by
  have h2 := bits_and_u64_nat t 32768 (by omega) (by omega)
  rw [show (32768 : Nat) = 2 ^ 15 from rfl, and_pow] at h2
  rw [show ((2 ^ 15 : Nat) : Int) = 32768 from rfl] at h2
  rw [h2, Nat.testBit_eq_decide_div_mod_eq, Bool.eq_iff_iff]
  simp
  omega
theorem and_lo (t : Nat) (h : t < 65536) : bits .and .u64 (t : Int) 4095 = ((t % 4096 : Nat) : Int) := by
  have h2 := bits_and_u64_nat t 4095 (by omega) (by omega)
  rw [show (4095 : Nat) = 2 ^ 12 - 1 from rfl, Nat.and_two_pow_sub_one_eq_mod] at h2
  exact h2
/-- An open of which a restart's time was read. -/
def grO (o : Opn) (t : Nat) : Opn := { o with gr := true, again := decide (32768 ≤ t), time := ((t % 4096 : Nat) : Int), kept := [] }
theorem Fr.of_beside {base p : Nat} {w w' : World} (h : Beside p w w') : Fr base p w w' := ⟨h.os, h.tape, h.output, h.size, fun k hk hp _ => h.block k hk hp⟩
theorem gr_set {base p : Nat} {w W : World} {o : Opn} {vf va vk : Value} {z : Bool} {tm : Nat} (hall : w.heap[p]? = some (.cells (opC o vf va vk) 27 (0, 0)) ∧ w.ownsRow base 3 1 vf o.fams.length (intsC o.fams) ∧ w.ownsRow base 52 3 va o.adds.length (addsC o.adds) ∧ w.ownsRow base 40 2 vk o.kept.length (keptC o.kept) ∧ OpOk o)
    (hb : Beside p w W) (h : W.heap[p]? = some (.cells (opC { o with gr := true, again := z, time := (tm : Int), kept := [] } vf va (.slice none 0 0)) 27 (0, 0))) :
    OAt base W p { o with gr := true, again := z, time := (tm : Int), kept := [] } ∧ Fr base p w W :=
  ⟨⟨vf, va, .slice none 0 0, h, owns_beside hall.2.1 hb hall.1 (by decide), owns_beside hall.2.2.1 hb hall.1 (by decide), World.ownsRow_nil _ _ _ _, ⟨hall.2.2.2.2.f, hall.2.2.2.2.a, rfl⟩⟩, Fr.of_beside hb⟩
set_option maxHeartbeats 6400000 in
set_option maxRecDepth 100000 in
theorem takeRestart_any (base p r : Nat) (o : Opn) (l : List UInt8) (X w : World) (ho : OAt base w p o) (hr : Rd w r l) (hl : 2 ≤ l.length) (hg : FamSizes w) (hb0 : 0 < base) (hbp : base ≤ p) (hX : Fr base p X w) (hXr : X.heap.size ≤ r) (hbX : base ≤ X.heap.size) (hpX : p < X.heap.size) :
    Calls Tryz.prog 61 #[.pointer (some ⟨p, 0, none⟩), .pointer (some ⟨r, 0, none⟩)] w fun e w' => e = .returned (.tuple #[]) ∧ OAt base w' p (entsL stK (l.drop 2) (grO o (worth (l.take 2)))) ∧ Fr base p X w' := by
  have hb1 : Below w.heap.size w (w.alloc (.cells #[.pointer (some ⟨p, 0, none⟩)] 76)) := (Below.refl _ _).alloc (Nat.le_refl _) _
  have hq1 : (w.alloc (.cells #[.pointer (some ⟨p, 0, none⟩)] 76)).heap[w.heap.size]? = some (.cells #[.pointer (some ⟨p, 0, none⟩)] 76 (0, 0)) := hp_new rfl
  have hpw : p < w.heap.size := Nat.lt_of_lt_of_le hpX hX.size
  have H1 : Hid (EE base p r w.heap.size X (w.alloc (.cells #[.pointer (some ⟨p, 0, none⟩)] 76)) l o) := ⟨ho.below hb1, hr.below hb1, hq1, hX.later (hb1.mono hX.size), hg.below hb1⟩
  have K1 : Hid (_ : Prop) := numR_yes r l 2 _ H1.out.rd (by omega) (by omega) hl
  have HN : Hid (X.heap.size ≤ r ∧ 0 < base ∧ base ≤ p ∧ p < w.heap.size ∧ base ≤ X.heap.size) := ⟨hXr, hb0, hbp, hpw, hbX⟩
  have hv : worth (l.take 2) < 65536 := by
    have := worth_lt (l.take 2)
    rw [show (l.take 2).length = 2 from by simp; omega] at this
    exact this
  have ha := and_hi _ hv
  have hc := and_lo _ hv
  generalize worth (l.take 2) = t at *
  have HGO : Hid (grO o t = { o with gr := true, again := decide (32768 ≤ t), time := ((t % 4096 : Nat) : Int), kept := [] }) := rfl
  have ht4 : t % 4096 < 4096 := by omega
  generalize grO o t = GO at *
  generalize decide (32768 ≤ t) = z at *
  generalize t % 4096 = tm at *
  clear hb1 hq1 hpw ho hr hg hX hXr hb0 hbp hbX hpX
  go_enter Tryz.func61, Tryz.ntmps61
  go_wp2_with fail
  generalize w.alloc (.cells #[.pointer (some ⟨p, 0, none⟩)] 76) = W1 at *
  refine Calls.mono K1.out ?_
  rintro e w2 ⟨rfl, hr2, hb2⟩
  have H2 : Hid (EE base p r w.heap.size X w2 (l.drop 2) o) := H1.out.beside hr2 hb2 HN.out.1 (by have := HN.out; omega)
  clear hr2 hb2 K1 H1
  obtain ⟨vf, va, vk, h1, h2, h3, h4, h5⟩ := H2.out.o_
  have cq : w2.cell? ⟨w.heap.size, 0, none⟩ = some (.pointer (some ⟨p, 0, none⟩)) := cl_row H2.out.box rfl
  have k7 := cl_row (i := 7) h1 rfl
  have k8 := cl_row (i := 8) h1 rfl
  have k9 := cl_row (i := 9) h1 rfl
  have k10 := cl_row (i := 10) h1 rfl
  have f7 := fz_row (i := 7) h1
  have f8 := fz_row (i := 8) h1
  have f9 := fz_row (i := 9) h1
  have f10 := fz_row (i := 10) h1
  have hqp : p ≠ w.heap.size := by have := HN.out; omega
  have hqp2 : ¬ (w.heap.size = p) := by have := HN.out; omega
  have HALL : Hid (_ ∧ _ ∧ _ ∧ _ ∧ _) := ⟨h1, h2, h3, h4, h5⟩
  obtain ⟨ad, c, rfl⟩ := slice_of_owns h4
  have HKEY : Hid (∀ W, Beside p w2 W → W.heap[p]? = some (.cells (opC { o with gr := true, again := z, time := (tm : Int), kept := [] } vf va (.slice none 0 0)) 27 (0, 0)) → EE base p r w.heap.size X W (l.drop 2) GO) := fun W hb h => by
    have hfin := gr_set HALL.out hb h
    rw [← HGO.out] at hfin
    exact H2.out.turn hfin.2 hfin.1 HN.out.2.1 HN.out.2.2.1
  have hw2d : Beside p w2 w2.drew := Beside.of_below (Below.refl _ _).drew (Nat.le_refl _)
  clear h1 h2 h3 h4 h5
  go_wp2
  go_region
  all_goals
    go_wp2_with fail
    refine Calls.mono (eachEntry_any base p r w.heap.size 73 stK (l.drop 2) GO X _ ?ee HN.out.1 HN.out.2.1 HN.out.2.2.1 (by have := HN.out; omega) enter83 (fun Y o' f n h1 h2 h3 h4 h5 => takeK_any base p w.heap.size o' f n Y h1 h2 h3 h4 h5) HN.out.2.2.2.2) ?_
    case ee =>
      exact HKEY.out _ (hw2d.trans ((((Beside.set w2.drew _ _).trans (Beside.set _ _ _)).trans (Beside.set _ _ _)).trans (Beside.set _ _ _))) ((heap_setCell_same _ p _ _ _ _ (heap_setCell_same _ p _ _ _ _ (heap_setCell_same _ p _ _ _ _ (heap_setCell_same w2.drew p _ _ _ _ HALL.out.1)))).trans rfl)
    rintro e w4 ⟨rfl, h1, h2⟩
    go_wp2
    go_end0
    exact ⟨rfl, h1, h2⟩
end Go.Proofs.YtlhnfejgkhilkaaGreatDoor
