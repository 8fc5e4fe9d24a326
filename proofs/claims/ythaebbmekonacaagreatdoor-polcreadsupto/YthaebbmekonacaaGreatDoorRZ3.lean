/-
  The reference reads a community of any text.
-/
import Derived.Test.YthaebbmekonacaaGreatDoorRZ1
set_option linter.unusedVariables false
set_option linter.unusedSimpArgs false
set_option maxRecDepth 100000
namespace Go.Proofs.YthaebbmekonacaaGreatDoor
open Go.RowKit
/-- What the reference's Parse answers. -/
def CpAns (l : List UInt8) (e : Ending) : Prop := ∃ (c : Nat) (er : Int), c < 4294967296 ∧ e = .returned (.tuple #[.int .u32 (c : Int), .int .i64 er]) ∧ ∀ c0, c0 < 4294967296 → l = comT c0 → c = c0
theorem first58 : ∀ {a b r q : List UInt8}, (58 : UInt8) ∉ a → (58 : UInt8) ∉ b → a ++ 58 :: r = b ++ 58 :: q → a = b ∧ r = q
  | [], [], r, q, _, _, h => by simpa using h
  | [], y :: b, r, q, _, hb, h => by simp at h; rw [← h.1] at hb; simp at hb
  | x :: a, [], r, q, ha, _, h => by simp at h; rw [h.1] at ha; simp at ha
  | x :: a, y :: b, r, q, ha, hb, h => by
    simp only [List.cons_append, List.cons.injEq] at h
    obtain ⟨e1, e2⟩ := first58 (fun hm => ha (by simp [hm])) (fun hm => hb (by simp [hm])) h.2
    exact ⟨by rw [h.1, e1], e2⟩
theorem dec58 (u : Nat) : (58 : UInt8) ∉ Lib.decDigits u := fun e => by
  have := (digits_are u _ e).2
  revert this; decide
theorem pieces_num {l : List UInt8} {A : List (List UInt8)} {z : List UInt8} {a b : Nat} (h1 : l = Ad.flat 58 A ++ z) (h2 : Ad.Free 58 (A ++ [z])) (e : l = numT a b) : A = [Lib.decDigits a] ∧ z = Lib.decDigits b := by
  unfold numT at e
  cases A with
  | nil =>
    have : l = z := h1
    exact absurd (show (58 : UInt8) ∈ z by rw [← this, e]; simp) (h2 z (by simp))
  | cons x A =>
    rw [Ad.flat_cons] at h1
    have h3 : x ++ 58 :: (Ad.flat 58 A ++ z) = Lib.decDigits a ++ 58 :: Lib.decDigits b := by rw [← e, h1]; simp
    obtain ⟨e1, e2⟩ := first58 (h2 x (by simp)) (dec58 a) h3
    cases A with
    | nil => exact ⟨by rw [e1], e2⟩
    | cons y A =>
      rw [Ad.flat_cons] at e2
      exact absurd (show (58 : UInt8) ∈ Lib.decDigits b by rw [← e2]; simp) (dec58 b)
theorem or32 (h l : Nat) (hh : h < 65536) (hl : l < 65536) : bits .or .u32 ((h : Int) * 65536) (l : Int) = ((h * 65536 + l : Nat) : Int) := by
  have hx : (h * 65536) ||| l < 2 ^ 32 := Nat.or_lt_two_pow (by omega) (by omega)
  have h1 : (BitVec.ofInt 32 ((h * 65536 : Nat) : Int)).toNat = h * 65536 := by
    rw [BitVec.ofInt_natCast, BitVec.toNat_ofNat]; exact Nat.mod_eq_of_lt (by omega)
  have h2 : (BitVec.ofInt 32 (l : Int)).toNat = l := by
    rw [BitVec.ofInt_natCast, BitVec.toNat_ofNat]; exact Nat.mod_eq_of_lt (by omega)
  rw [show ((h : Int) * 65536) = ((h * 65536 : Nat) : Int) from by simp]
  have e : bits .or .u32 ((h * 65536 : Nat) : Int) (l : Int) = (((h * 65536) ||| l : Nat) : Int) := by
    show IntKind.u32.wrap ((BitVec.ofInt 32 ((h * 65536 : Nat) : Int) ||| BitVec.ofInt 32 (l : Int)).toNat : Int) = _
    rw [BitVec.toNat_or, h1, h2, IntKind.wrap_u32]
    omega
  rw [e, Nat.mul_comm h 65536, Nat.two_pow_add_eq_or_of_lt (i := 16) hl h]
set_option maxHeartbeats 2000000 in
theorem rcp0 (s n0 n1 n2 : ByteArray) (w : World) (K0 : ∀ X, Calls Tryz.prog 85 #[.int .u32 4294967041] X fun e w' => e = .returned (.string n0) ∧ Below X.heap.size X w') (K1 : ∀ X, Calls Tryz.prog 85 #[.int .u32 4294967042] X fun e w' => e = .returned (.string n1) ∧ Below X.heap.size X w') (K2 : ∀ X, Calls Tryz.prog 85 #[.int .u32 4294967043] X fun e w' => e = .returned (.string n2) ∧ Below X.heap.size X w') (d0 : (n0.toList == s.toList) = true) : Calls Tryz.prog 97 #[.string s] w fun e w' => e = .returned (.tuple #[.int .u32 4294967041, .int .i64 0]) ∧ Below w.heap.size w w' := by
  have H0 : Hid (∀ X, _) := K0
  have H1 : Hid (∀ X, _) := K1
  have H2 : Hid (∀ X, _) := K2
  clear K0 K1 K2
  obtain ⟨W1, hW1⟩ : ∃ W1, w.alloc (.cells #[.int .u32 4294967041, .int .u32 4294967042, .int .u32 4294967043] 38) = W1 := ⟨_, rfl⟩
  have HB1 : Hid (Below w.heap.size w W1) := by unfold Hid; rw [← hW1]; exact (Below.refl _ _).alloc (Nat.le_refl _) _
  have HC : Hid (∀ X, Below W1.heap.size W1 X → X.cell? ⟨w.heap.size, 0, none⟩ = some (.int .u32 4294967041) ∧ X.cell? ⟨w.heap.size, 1, none⟩ = some (.int .u32 4294967042) ∧ X.cell? ⟨w.heap.size, 2, none⟩ = some (.int .u32 4294967043)) := fun X hX => ⟨below_cell hX (by rw [← hW1, World.cell?_alloc_new]; rfl), below_cell hX (by rw [← hW1, World.cell?_alloc_new]; rfl), below_cell hX (by rw [← hW1, World.cell?_alloc_new]; rfl)⟩
  go_enter Tryz.func97, Tryz.ntmps97
  go_wp2_with fail
  have HX1 : Hid (Below W1.heap.size W1 W1) := Below.refl _ _
  clear hW1
  refine wp_loop_rounds 1 ?_
  rw [rounds_succ]
  have c0 := (HC.out W1 HX1.out).1
  go_wp2_with fail
  clear c0
  refine Calls.mono (H0.out _) ?_
  rintro e W2 ⟨rfl, hb0⟩
  have HX2 : Hid (Below W1.heap.size W1 W2) := HX1.out.trans (hb0.mono HX1.out.size)
  clear hb0
  go_wp2
  go_ret2
  exact ⟨rfl, HB1.out.trans (HX2.out.mono HB1.out.size)⟩
set_option maxHeartbeats 2000000 in
theorem rcp1 (s n0 n1 n2 : ByteArray) (w : World) (K0 : ∀ X, Calls Tryz.prog 85 #[.int .u32 4294967041] X fun e w' => e = .returned (.string n0) ∧ Below X.heap.size X w') (K1 : ∀ X, Calls Tryz.prog 85 #[.int .u32 4294967042] X fun e w' => e = .returned (.string n1) ∧ Below X.heap.size X w') (K2 : ∀ X, Calls Tryz.prog 85 #[.int .u32 4294967043] X fun e w' => e = .returned (.string n2) ∧ Below X.heap.size X w') (d0 : (n0.toList == s.toList) = false) (d1 : (n1.toList == s.toList) = true) : Calls Tryz.prog 97 #[.string s] w fun e w' => e = .returned (.tuple #[.int .u32 4294967042, .int .i64 0]) ∧ Below w.heap.size w w' := by
  have H0 : Hid (∀ X, _) := K0
  have H1 : Hid (∀ X, _) := K1
  have H2 : Hid (∀ X, _) := K2
  clear K0 K1 K2
  obtain ⟨W1, hW1⟩ : ∃ W1, w.alloc (.cells #[.int .u32 4294967041, .int .u32 4294967042, .int .u32 4294967043] 38) = W1 := ⟨_, rfl⟩
  have HB1 : Hid (Below w.heap.size w W1) := by unfold Hid; rw [← hW1]; exact (Below.refl _ _).alloc (Nat.le_refl _) _
  have HC : Hid (∀ X, Below W1.heap.size W1 X → X.cell? ⟨w.heap.size, 0, none⟩ = some (.int .u32 4294967041) ∧ X.cell? ⟨w.heap.size, 1, none⟩ = some (.int .u32 4294967042) ∧ X.cell? ⟨w.heap.size, 2, none⟩ = some (.int .u32 4294967043)) := fun X hX => ⟨below_cell hX (by rw [← hW1, World.cell?_alloc_new]; rfl), below_cell hX (by rw [← hW1, World.cell?_alloc_new]; rfl), below_cell hX (by rw [← hW1, World.cell?_alloc_new]; rfl)⟩
  go_enter Tryz.func97, Tryz.ntmps97
  go_wp2_with fail
  have HX1 : Hid (Below W1.heap.size W1 W1) := Below.refl _ _
  clear hW1
  refine wp_loop_rounds 2 ?_
  rw [rounds_succ]
  have c0 := (HC.out W1 HX1.out).1
  go_wp2_with fail
  clear c0
  refine Calls.mono (H0.out _) ?_
  rintro e W2 ⟨rfl, hb0⟩
  have HX2 : Hid (Below W1.heap.size W1 W2) := HX1.out.trans (hb0.mono HX1.out.size)
  clear hb0
  go_wp2
  rw [rounds_succ]
  have c1 := (HC.out W2 HX2.out).2.1
  go_wp2_with fail
  clear c1
  refine Calls.mono (H1.out _) ?_
  rintro e W3 ⟨rfl, hb1⟩
  have HX3 : Hid (Below W1.heap.size W1 W3) := HX2.out.trans (hb1.mono HX2.out.size)
  clear hb1
  go_wp2
  go_ret2
  exact ⟨rfl, HB1.out.trans (HX3.out.mono HB1.out.size)⟩
set_option maxHeartbeats 2000000 in
theorem rcp2 (s n0 n1 n2 : ByteArray) (w : World) (K0 : ∀ X, Calls Tryz.prog 85 #[.int .u32 4294967041] X fun e w' => e = .returned (.string n0) ∧ Below X.heap.size X w') (K1 : ∀ X, Calls Tryz.prog 85 #[.int .u32 4294967042] X fun e w' => e = .returned (.string n1) ∧ Below X.heap.size X w') (K2 : ∀ X, Calls Tryz.prog 85 #[.int .u32 4294967043] X fun e w' => e = .returned (.string n2) ∧ Below X.heap.size X w') (d0 : (n0.toList == s.toList) = false) (d1 : (n1.toList == s.toList) = false) (d2 : (n2.toList == s.toList) = true) : Calls Tryz.prog 97 #[.string s] w fun e w' => e = .returned (.tuple #[.int .u32 4294967043, .int .i64 0]) ∧ Below w.heap.size w w' := by
  have H0 : Hid (∀ X, _) := K0
  have H1 : Hid (∀ X, _) := K1
  have H2 : Hid (∀ X, _) := K2
  clear K0 K1 K2
  obtain ⟨W1, hW1⟩ : ∃ W1, w.alloc (.cells #[.int .u32 4294967041, .int .u32 4294967042, .int .u32 4294967043] 38) = W1 := ⟨_, rfl⟩
  have HB1 : Hid (Below w.heap.size w W1) := by unfold Hid; rw [← hW1]; exact (Below.refl _ _).alloc (Nat.le_refl _) _
  have HC : Hid (∀ X, Below W1.heap.size W1 X → X.cell? ⟨w.heap.size, 0, none⟩ = some (.int .u32 4294967041) ∧ X.cell? ⟨w.heap.size, 1, none⟩ = some (.int .u32 4294967042) ∧ X.cell? ⟨w.heap.size, 2, none⟩ = some (.int .u32 4294967043)) := fun X hX => ⟨below_cell hX (by rw [← hW1, World.cell?_alloc_new]; rfl), below_cell hX (by rw [← hW1, World.cell?_alloc_new]; rfl), below_cell hX (by rw [← hW1, World.cell?_alloc_new]; rfl)⟩
  go_enter Tryz.func97, Tryz.ntmps97
  go_wp2_with fail
  have HX1 : Hid (Below W1.heap.size W1 W1) := Below.refl _ _
  clear hW1
  refine wp_loop_rounds 3 ?_
  rw [rounds_succ]
  have c0 := (HC.out W1 HX1.out).1
  go_wp2_with fail
  clear c0
  refine Calls.mono (H0.out _) ?_
  rintro e W2 ⟨rfl, hb0⟩
  have HX2 : Hid (Below W1.heap.size W1 W2) := HX1.out.trans (hb0.mono HX1.out.size)
  clear hb0
  go_wp2
  rw [rounds_succ]
  have c1 := (HC.out W2 HX2.out).2.1
  go_wp2_with fail
  clear c1
  refine Calls.mono (H1.out _) ?_
  rintro e W3 ⟨rfl, hb1⟩
  have HX3 : Hid (Below W1.heap.size W1 W3) := HX2.out.trans (hb1.mono HX2.out.size)
  clear hb1
  go_wp2
  rw [rounds_succ]
  have c2 := (HC.out W3 HX3.out).2.2
  go_wp2_with fail
  clear c2
  refine Calls.mono (H2.out _) ?_
  rintro e W4 ⟨rfl, hb2⟩
  have HX4 : Hid (Below W1.heap.size W1 W4) := HX3.out.trans (hb2.mono HX3.out.size)
  clear hb2
  go_wp2
  go_ret2
  exact ⟨rfl, HB1.out.trans (HX4.out.mono HB1.out.size)⟩
set_option maxHeartbeats 4000000 in
theorem rcpN (s n0 n1 n2 : ByteArray) (w : World) (K0 : ∀ X, Calls Tryz.prog 85 #[.int .u32 4294967041] X fun e w' => e = .returned (.string n0) ∧ Below X.heap.size X w') (K1 : ∀ X, Calls Tryz.prog 85 #[.int .u32 4294967042] X fun e w' => e = .returned (.string n1) ∧ Below X.heap.size X w') (K2 : ∀ X, Calls Tryz.prog 85 #[.int .u32 4294967043] X fun e w' => e = .returned (.string n2) ∧ Below X.heap.size X w') (d0 : (n0.toList == s.toList) = false) (d1 : (n1.toList == s.toList) = false) (d2 : (n2.toList == s.toList) = false) (hs : s.size ≤ 4294967296) (hnm : ∀ c0, s.data.toList = comT c0 → s.data.toList = numT (c0 / 65536) (c0 % 65536)) : Calls Tryz.prog 97 #[.string s] w fun e w' => CpAns s.data.toList e ∧ Below w.heap.size w w' := by
  have HSp : Hid (∀ W, _) := fun W => Ad.split_any s 58 W hs
  have HRd : Hid (∀ (x : List UInt8), x.length ≤ 4294967296 → ∀ W, _) := fun x hx W => Ad.rread10 65535 (by decide) (by decide) ⟨x.toArray⟩ W (by rw [Ad.lst_size']; omega)
  have HLL : Hid (s.data.toList.length ≤ 4294967296) := by unfold Hid; have : s.data.toList.length = s.size := by simp
                                                           omega
  have HNm : Hid (∀ c0, _ → _) := hnm
  have HNo : Hid ((∀ c0, c0 < 4294967296 → ¬ (s.data.toList = comT c0)) → CpAns s.data.toList (.returned (.tuple #[.int .u32 0, .int .i64 4]))) := fun h => ⟨0, 4, by omega, rfl, fun c0 h1 h2 => absurd h2 (h c0 h1)⟩
  clear hnm hs
  have H0 : Hid (∀ X, _) := K0
  have H1 : Hid (∀ X, _) := K1
  have H2 : Hid (∀ X, _) := K2
  clear K0 K1 K2
  obtain ⟨W1, hW1⟩ : ∃ W1, w.alloc (.cells #[.int .u32 4294967041, .int .u32 4294967042, .int .u32 4294967043] 38) = W1 := ⟨_, rfl⟩
  have HB1 : Hid (Below w.heap.size w W1) := by unfold Hid; rw [← hW1]; exact (Below.refl _ _).alloc (Nat.le_refl _) _
  have HC : Hid (∀ X, Below W1.heap.size W1 X → X.cell? ⟨w.heap.size, 0, none⟩ = some (.int .u32 4294967041) ∧ X.cell? ⟨w.heap.size, 1, none⟩ = some (.int .u32 4294967042) ∧ X.cell? ⟨w.heap.size, 2, none⟩ = some (.int .u32 4294967043)) := fun X hX => ⟨below_cell hX (by rw [← hW1, World.cell?_alloc_new]; rfl), below_cell hX (by rw [← hW1, World.cell?_alloc_new]; rfl), below_cell hX (by rw [← hW1, World.cell?_alloc_new]; rfl)⟩
  go_enter Tryz.func97, Tryz.ntmps97
  go_wp2_with fail
  have HX1 : Hid (Below W1.heap.size W1 W1) := Below.refl _ _
  clear hW1
  refine wp_loop_rounds 4 ?_
  rw [rounds_succ]
  have c0 := (HC.out W1 HX1.out).1
  go_wp2_with fail
  clear c0
  refine Calls.mono (H0.out _) ?_
  rintro e W2 ⟨rfl, hb0⟩
  have HX2 : Hid (Below W1.heap.size W1 W2) := HX1.out.trans (hb0.mono HX1.out.size)
  clear hb0
  go_wp2
  rw [rounds_succ]
  have c1 := (HC.out W2 HX2.out).2.1
  go_wp2_with fail
  clear c1
  refine Calls.mono (H1.out _) ?_
  rintro e W3 ⟨rfl, hb1⟩
  have HX3 : Hid (Below W1.heap.size W1 W3) := HX2.out.trans (hb1.mono HX2.out.size)
  clear hb1
  go_wp2
  rw [rounds_succ]
  have c2 := (HC.out W3 HX3.out).2.2
  go_wp2_with fail
  clear c2
  refine Calls.mono (H2.out _) ?_
  rintro e W4 ⟨rfl, hb2⟩
  have HX4 : Hid (Below W1.heap.size W1 W4) := HX3.out.trans (hb2.mono HX3.out.size)
  clear hb2
  go_wp2
  rw [rounds_succ]
  go_wp2_with fail
  have HB4 : Hid (Below w.heap.size w W4) := HB1.out.trans (HX4.out.mono HB1.out.size)
  clear HB1 HC HX1 HX2 HX3 HX4 H0 H1 H2 d0 d1 d2
  refine Calls.mono (HSp.out _) ?_
  rintro e W5 ⟨⟨v, A, z, rfl, hl, hf, ho⟩, hb5⟩
  obtain ⟨ad, cc, rfl⟩ := Ad.slice_of_owns ho
  have HPl : Hid (∀ x ∈ A ++ [z], x.length ≤ 4294967296) := fun x hx => Nat.le_trans (Ad.piece_len hl x hx) HLL.out
  have HL : Hid (∀ a b, s.data.toList = numT a b → A = [Lib.decDigits a] ∧ z = Lib.decDigits b) := fun a b e => pieces_num hl hf e
  have HLe : Hid (s.data.toList = Ad.flat 58 A ++ z) := hl
  have HO : Hid (World.ownsRow _ _ _ _ _ _ _) := ho
  have HB5 : Hid (Below w.heap.size w W5) := HB4.out.trans (hb5.mono HB4.out.size)
  clear hb5 hl hf ho HB4 HSp HLL
  by_cases hlen : (A ++ [z]).length = 2
  · obtain ⟨x, rfl⟩ : ∃ x, A = [x] := by
      match A, hlen with
      | [x], _ => exact ⟨x, rfl⟩
      | [], h => simp at h
      | x :: y :: A, h => simp at h
    obtain ⟨g, rfl, hg, hcell⟩ := Ad.row_at HO.out rfl (by simp)
    have HCe : Hid (W5.cell? ⟨g, 0, none⟩ = some (.string ⟨x.toArray⟩) ∧ W5.cell? ⟨g, 1, none⟩ = some (.string ⟨z.toArray⟩)) := ⟨hcell 0 (by simp), hcell 1 (by simp)⟩
    have HR1 : Hid (Calls _ _ _ _ _) := HRd.out x (HPl.out x (by simp)) W5
    have HR2 : Hid (∀ W, Calls _ _ _ _ _) := fun W => HRd.out z (HPl.out z (by simp)) W
    clear hg hcell HO HRd HPl hlen
    have c0 := HCe.out.1
    go_wp2_with fail
    clear c0
    refine Calls.mono HR1.out ?_
    rintro e W6 ⟨v1, b1, hv1, rfl, hb6, hy1, hn1⟩
    have HY1 : Hid (b1 = true → x = Lib.decDigits v1 ∧ v1 ≤ 65535) := fun h => by have := hy1 h; simpa using this
    have HN1 : Hid (∀ u, u ≤ 65535 → x = Lib.decDigits u → v1 = u ∧ b1 = true) := fun u hu h => hn1 u hu (by simpa using h)
    have HB6 : Hid (Below w.heap.size w W6) := HB5.out.trans (hb6.mono HB5.out.size)
    have c1 := below_cell hb6 HCe.out.2
    clear hb6 hy1 hn1 HB5 HR1 HCe
    go_wp2_with fail
    clear c1
    refine Calls.mono (HR2.out _) ?_
    rintro e W7 ⟨v2, b2, hv2, rfl, hb7, hy2, hn2⟩
    have HY2 : Hid (b2 = true → z = Lib.decDigits v2 ∧ v2 ≤ 65535) := fun h => by have := hy2 h; simpa using this
    have HN2 : Hid (∀ u, u ≤ 65535 → z = Lib.decDigits u → v2 = u ∧ b2 = true) := fun u hu h => hn2 u hu (by simpa using h)
    have HB7 : Hid (Below w.heap.size w W7) := HB6.out.trans (hb7.mono HB6.out.size)
    clear hb7 hy2 hn2 HB6 HR2
    by_cases hbb : b1 = true ∧ b2 = true
    · obtain ⟨rfl, rfl⟩ := hbb
      obtain ⟨hx, q1⟩ := HY1.out rfl
      obtain ⟨hz, q2⟩ := HY2.out rfl
      have w1 : IntKind.u32.wrap (v1 : Int) = (v1 : Int) := by rw [IntKind.wrap_u32]; omega
      have w2 : IntKind.u32.wrap (v2 : Int) = (v2 : Int) := by rw [IntKind.wrap_u32]; omega
      have w3 : IntKind.u32.wrap ((v1 : Int) * 65536) = (v1 : Int) * 65536 := by rw [IntKind.wrap_u32]; omega
      have hor := or32 v1 v2 (by omega) (by omega)
      obtain ⟨c, hc⟩ : ∃ c, c = v1 * 65536 + v2 := ⟨_, rfl⟩
      have hc32 : c < 4294967296 := by omega
      rw [← hc] at hor
      have HT : Hid (∀ X, _) := fun X => rcom_any c hc32 X
      have HNum : Hid (∀ c0, c0 < 4294967296 → s.data.toList = comT c0 → c = c0) := fun c0 h1 h2 => by
        obtain ⟨e1, e2⟩ := HL.out _ _ (HNm.out c0 h2)
        have e3 : x = Lib.decDigits (c0 / 65536) := by simpa using e1
        have := (HN1.out _ (by omega) e3).1
        have := (HN2.out _ (by omega) e2).1
        omega
      clear HL HNm HN1 HN2 HY1 HY2 hx hz hc hv1 hv2 HLe
      have he0 : ((⟨(comT c).toArray⟩ : ByteArray).toList == s.toList) = decide (comT c = s.data.toList) := by
        rw [ByteArray.toList_eq, ByteArray.toList_eq]
        by_cases h : comT c = s.data.toList
        · rw [decide_eq_true h, h]; simp
        · rw [decide_eq_false h]; simpa using h
      by_cases heq : comT c = s.data.toList
      · rw [decide_eq_true heq] at he0
        have HA : Hid (CpAns s.data.toList (.returned (.tuple #[.int .u32 (c : Int), .int .i64 0]))) := ⟨c, 0, hc32, rfl, HNum.out⟩
        clear HNum HNo heq
        generalize (⟨(comT c).toArray⟩ : ByteArray) = tx at *
        go_wp2_with (go_at_call 85; refine Calls.mono (HT.out _) ?_; rintro e W8 ⟨rfl, hb8⟩)
        go_ret2
        exact ⟨HA.out, HB7.out.trans (hb8.mono HB7.out.size)⟩
      · rw [decide_eq_false heq] at he0
        have HA : Hid (CpAns s.data.toList (.returned (.tuple #[.int .u32 0, .int .i64 4]))) := HNo.out fun c0 h1 h2 => heq (by rw [HNum.out c0 h1 h2, h2])
        clear HNum HNo heq
        generalize (⟨(comT c).toArray⟩ : ByteArray) = tx at *
        go_wp2_with (go_at_call 85; refine Calls.mono (HT.out _) ?_; rintro e W8 ⟨rfl, hb8⟩)
        go_ret2
        exact ⟨HA.out, HB7.out.trans (hb8.mono HB7.out.size)⟩
    · have HA : Hid (CpAns s.data.toList (.returned (.tuple #[.int .u32 0, .int .i64 4]))) := HNo.out fun c0 h1 h2 => by
        obtain ⟨e1, e2⟩ := HL.out _ _ (HNm.out c0 h2)
        have e3 : x = Lib.decDigits (c0 / 65536) := by simpa using e1
        exact hbb ⟨(HN1.out _ (by omega) e3).2, (HN2.out _ (by omega) e2).2⟩
      clear HL HNm HLe HNo HN1 HN2 HY1 HY2 hv1 hv2
      obtain ⟨p1, w1⟩ : ∃ p, IntKind.u32.wrap (v1 : Int) = p := ⟨_, rfl⟩
      obtain ⟨p2, w2⟩ : ∃ p, IntKind.u32.wrap (v2 : Int) = p := ⟨_, rfl⟩
      obtain ⟨p3, w3⟩ : ∃ p, IntKind.u32.wrap (p1 * 65536) = p := ⟨_, rfl⟩
      obtain ⟨p4, w4⟩ : ∃ p, bits .or .u32 p3 p2 = p := ⟨_, rfl⟩
      cases b1 with
      | false =>
        go_wp2
        go_ret2
        exact ⟨HA.out, HB7.out⟩
      | true =>
        cases b2 with
        | true => exact absurd ⟨rfl, rfl⟩ hbb
        | false =>
          clear hbb
          go_wp2
          go_ret2
          exact ⟨HA.out, HB7.out⟩
  · have HA : Hid (CpAns s.data.toList (.returned (.tuple #[.int .u32 0, .int .i64 4]))) := HNo.out fun c0 h1 h2 => by
      obtain ⟨e1, e2⟩ := HL.out _ _ (HNm.out c0 h2)
      rw [e1] at hlen
      exact hlen rfl
    have hl2 : (((A ++ [z]).length : Int) == 2) = false := by
      cases hq : (((A ++ [z]).length : Int) == 2) with
      | false => rfl
      | true => rw [beq_iff_eq] at hq; exact absurd (by omega) hlen
    clear HL HNm HLe HPl HRd HO HNo hlen
    generalize (A ++ [z]).length = n at *
    go_wp2
    go_ret2
    exact ⟨HA.out, HB5.out⟩
theorem rcparse_any (s : ByteArray) (hs : s.size ≤ 4294967296) (w : World) : Calls Tryz.prog 97 #[.string s] w fun e w' => CpAns s.data.toList e ∧ Below w.heap.size w w' := by
  have K0 : ∀ X, Calls Tryz.prog 85 #[.int .u32 4294967041] X fun e w' => e = .returned (.string (textC 4294967041)) ∧ Below X.heap.size X w' := fun X => rcom_any 4294967041 (by omega) X
  have K1 : ∀ X, Calls Tryz.prog 85 #[.int .u32 4294967042] X fun e w' => e = .returned (.string (textC 4294967042)) ∧ Below X.heap.size X w' := fun X => rcom_any 4294967042 (by omega) X
  have K2 : ∀ X, Calls Tryz.prog 85 #[.int .u32 4294967043] X fun e w' => e = .returned (.string (textC 4294967043)) ∧ Below X.heap.size X w' := fun X => rcom_any 4294967043 (by omega) X
  have tru : ∀ c, textC c = s → ((textC c).toList == s.toList) = true := fun c e => by rw [e]; simp
  have bk : ∀ c, textC c = s → s.data.toList = comT c := fun c e => by rw [← e]; simp [textC]
  have one : ∀ c, c < 4294967296 → textC c = s → ∀ c0, c0 < 4294967296 → s.data.toList = comT c0 → c = c0 := fun c hc e c0 h1 h2 => com_one hc h1 ((bk c e).symm.trans h2)
  by_cases e0 : textC 4294967041 = s
  · exact (rcp0 s _ _ _ w K0 K1 K2 (tru _ e0)).mono fun e w' ⟨h, hb⟩ => ⟨⟨4294967041, 0, by omega, h, one _ (by omega) e0⟩, hb⟩
  by_cases e1 : textC 4294967042 = s
  · exact (rcp1 s _ _ _ w K0 K1 K2 (ne_list e0) (tru _ e1)).mono fun e w' ⟨h, hb⟩ => ⟨⟨4294967042, 0, by omega, h, one _ (by omega) e1⟩, hb⟩
  by_cases e2 : textC 4294967043 = s
  · exact (rcp2 s _ _ _ w K0 K1 K2 (ne_list e0) (ne_list e1) (tru _ e2)).mono fun e w' ⟨h, hb⟩ => ⟨⟨4294967043, 0, by omega, h, one _ (by omega) e2⟩, hb⟩
  refine rcpN s _ _ _ w K0 K1 K2 (ne_list e0) (ne_list e1) (ne_list e2) hs fun c0 h => ?_
  have ht : textC c0 = s := by unfold textC; rw [← h]
  by_cases q1 : c0 = 4294967041
  · subst q1; exact absurd ht e0
  by_cases q2 : c0 = 4294967042
  · subst q2; exact absurd ht e1
  by_cases q3 : c0 = 4294967043
  · subst q3; exact absurd ht e2
  rw [h]
  unfold comT
  rw [if_neg q1, if_neg q2, if_neg q3]
  rfl
end Go.Proofs.YthaebbmekonacaaGreatDoor
