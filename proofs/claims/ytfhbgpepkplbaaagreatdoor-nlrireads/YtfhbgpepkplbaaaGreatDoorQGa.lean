/-
  The reference's first, three ways.
-/
import Derived.Test.YtfhbgpepkplbaaaGreatDoorG1
import Derived.Deep.RegionHeld3
namespace Go.Proofs.YtfhbgpepkplbaaaGreatDoor
open Go.RowKit
/-- The told prefix that is read so far lies in block B + 1, nothing in block B. -/
structure FsAt (w wx : World) (n : Nl) : Prop where
  n0 : wx.cell? ⟨w.heap.size + 1, 0, none⟩ = some (.int .i64 n.f)
  n1 : wx.cell? ⟨w.heap.size + 1, 1, none⟩ = some (.int .u64 n.r)
  n2 : wx.cell? ⟨w.heap.size + 1, 2, none⟩ = some (.string n.s)
  n3 : wx.cell? ⟨w.heap.size + 1, 3, none⟩ = some (.int .i64 n.l)
  n4 : wx.cell? ⟨w.heap.size + 1, 4, none⟩ = some (.int .u32 n.id)
  n5 : wx.cell? ⟨w.heap.size + 1, 5, none⟩ = some (.int .u32 n.lb)
  nf : ∀ i, i < 6 → wx.frozen? ⟨w.heap.size + 1, i, none⟩ = false
  z0 : wx.cell? ⟨w.heap.size, 0, none⟩ = some (.int .i64 0)
  z1 : wx.cell? ⟨w.heap.size, 1, none⟩ = some (.int .u64 0)
  z2 : wx.cell? ⟨w.heap.size, 2, none⟩ = some (.string ⟨#[]⟩)
  z3 : wx.cell? ⟨w.heap.size, 3, none⟩ = some (.int .i64 0)
  z4 : wx.cell? ⟨w.heap.size, 4, none⟩ = some (.int .u32 0)
  z5 : wx.cell? ⟨w.heap.size, 5, none⟩ = some (.int .u32 0)
  zf : ∀ i, i < 6 → wx.frozen? ⟨w.heap.size, i, none⟩ = false
  bel : Below w.heap.size w wx
  siz : w.heap.size + 2 ≤ wx.heap.size
theorem FsAt.below {w wx w' : World} {n : Nl} (h : FsAt w wx n) (hb : Below (w.heap.size + 2) wx w') : FsAt w w' n := by
  have hs := h.siz
  have c : ∀ {b i : Nat} {v : Value}, b < w.heap.size + 2 → wx.cell? ⟨b, i, none⟩ = some v → w'.cell? ⟨b, i, none⟩ = some v := fun {b i v} hb' hc => (hb.cell (p := ⟨b, i, none⟩) hb').trans hc
  exact ⟨c (by omega) h.n0, c (by omega) h.n1, c (by omega) h.n2, c (by omega) h.n3, c (by omega) h.n4, c (by omega) h.n5, fun i hi => (hb.frozen (p := ⟨w.heap.size + 1, i, none⟩) (by simp)).trans (h.nf i hi), c (by omega) h.z0, c (by omega) h.z1, c (by omega) h.z2, c (by omega) h.z3, c (by omega) h.z4, c (by omega) h.z5, fun i hi => (hb.frozen (p := ⟨w.heap.size, i, none⟩) (by simp)).trans (h.zf i hi), h.bel.trans (hb.mono (by omega)), Nat.le_trans h.siz hb.size⟩
theorem FsAt.below' {w wx w' : World} {n : Nl} (h : FsAt w wx n) (hb : Below wx.heap.size wx w') : FsAt w w' n := h.below (hb.mono h.siz)
theorem FsAt.start (w : World) : FsAt w ((w.alloc (.cells #[.int .i64 0, .int .u64 0, .string ⟨#[]⟩, .int .i64 0, .int .u32 0, .int .u32 0] 27)).alloc (.cells #[.int .i64 0, .int .u64 0, .string ⟨#[]⟩, .int .i64 0, .int .u32 0, .int .u32 0] 27)) ⟨0, 0, ⟨#[]⟩, 0, 0, 0⟩ := by
  have hb : Below w.heap.size w ((w.alloc (.cells #[.int .i64 0, .int .u64 0, .string ⟨#[]⟩, .int .i64 0, .int .u32 0, .int .u32 0] 27)).alloc (.cells #[.int .i64 0, .int .u64 0, .string ⟨#[]⟩, .int .i64 0, .int .u32 0, .int .u32 0] 27)) := ((Below.refl _ _).alloc (by simp) _).alloc (by simp) _
  refine ⟨?_, ?_, ?_, ?_, ?_, ?_, ?_, ?_, ?_, ?_, ?_, ?_, ?_, ?_, hb, by simp⟩
  all_goals (try intro i hi)
  all_goals simp
theorem FsAt.set {w wx : World} {n : Nl} (h : FsAt w wx n) (i : Nat) (v : Value) (m : Nl) (hm : m.cs = n.cs.set i v) (hi : i < 6) : FsAt w (wx.setCell ⟨w.heap.size + 1, i, none⟩ v) m := by
  have o : ∀ b j, (b ≠ w.heap.size + 1 ∨ j ≠ i) → (wx.setCell ⟨w.heap.size + 1, i, none⟩ v).cell? ⟨b, j, none⟩ = wx.cell? ⟨b, j, none⟩ := fun b j hb => World.cell?_setCell_other _ _ _ _ (by intro e; injection e with e1 e2; rcases hb with h | h <;> omega)
  have hc : ∀ j x, n.cs[j]? = some x → wx.cell? ⟨w.heap.size + 1, j, none⟩ = some x := by
    intro j x hx
    match j, hx with
    | 0, hx => simp [Nl.cs] at hx; rw [← hx]; exact h.n0
    | 1, hx => simp [Nl.cs] at hx; rw [← hx]; exact h.n1
    | 2, hx => simp [Nl.cs] at hx; rw [← hx]; exact h.n2
    | 3, hx => simp [Nl.cs] at hx; rw [← hx]; exact h.n3
    | 4, hx => simp [Nl.cs] at hx; rw [← hx]; exact h.n4
    | 5, hx => simp [Nl.cs] at hx; rw [← hx]; exact h.n5
    | j + 6, hx => simp [Nl.cs] at hx
  have hl : n.cs.length = 6 := rfl
  have hs : ∃ u, wx.cell? ⟨w.heap.size + 1, i, none⟩ = some u := ⟨_, hc i (n.cs[i]'(by omega)) (List.getElem?_eq_getElem (by omega))⟩
  obtain ⟨u, hu⟩ := hs
  have key : ∀ j x, m.cs[j]? = some x → (wx.setCell ⟨w.heap.size + 1, i, none⟩ v).cell? ⟨w.heap.size + 1, j, none⟩ = some x := by
    intro j x hx
    rw [hm, List.getElem?_set] at hx
    by_cases e : i = j
    · subst e
      rw [if_pos rfl, if_pos (by omega)] at hx
      rw [World.cell?_setCell_same _ _ _ hu]
      exact hx
    · rw [if_neg e] at hx
      rw [o _ _ (Or.inr (fun h => e h.symm))]
      exact hc j x hx
  have hz : w.heap.size ≠ w.heap.size + 1 := by omega
  exact ⟨key 0 _ rfl, key 1 _ rfl, key 2 _ rfl, key 3 _ rfl, key 4 _ rfl, key 5 _ rfl, fun j hj => by rw [World.frozen?_setCell]; exact h.nf j hj, (o _ _ (Or.inl hz)).trans h.z0, (o _ _ (Or.inl hz)).trans h.z1, (o _ _ (Or.inl hz)).trans h.z2, (o _ _ (Or.inl hz)).trans h.z3, (o _ _ (Or.inl hz)).trans h.z4, (o _ _ (Or.inl hz)).trans h.z5, fun j hj => by rw [World.frozen?_setCell]; exact h.zf j hj, h.bel.setCell (by simp) _, by rw [World.size_setCell]; exact h.siz⟩
theorem ors3 (A B C : Nat) (ha : A < 256) (hb : B < 256) (hc : C < 256) : bits .or .u32 (bits .or .u32 ((A : Int) * 65536) ((B : Int) * 256)) (C : Int) = ((A * 65536 + B * 256 + C : Nat) : Int) := by
  have := ors 0 A B C (by omega) ha hb hc
  have e := or_u32 0 (A * 65536) (by omega) (by omega)
  simp only [Nat.zero_or, Int.natCast_mul, Int.cast_ofNat_Int, Int.zero_mul] at e this
  rw [e] at this
  simpa using this
theorem worth3b (a b c : UInt8) : worth [a, b, c] = a.toNat * 65536 + b.toNat * 256 + c.toNat := by
  simp only [worth, List.foldl_cons, List.foldl_nil]
  omega
end Go.Proofs.YtfhbgpepkplbaaaGreatDoor
namespace Go.Proofs.YtfhbgpepkplbaaaGreatDoor
open Go.RowKit
def FirstOk (f : Int) (add : Bool) (l : List UInt8) (w : World) (e : Ending) (w' : World) : Prop :=
  Below w.heap.size w w' ∧ ((okI f add l ∧ e = .returned (.tuple #[.agg #[.int .i64 (nlI f add l).f, .int .u64 (nlI f add l).r, .string (nlI f add l).s, .int .i64 (nlI f add l).l, .int .u32 (nlI f add l).id, .int .u32 (nlI f add l).lb], .int .i64 ((hdN f add + (byN (bitI' f add l)).toNat : Nat) : Int)])) ∨ (¬ okI f add l ∧ ∃ id : Int, e = .returned (.tuple #[.agg #[.int .i64 0, .int .u64 0, .string ⟨#[]⟩, .int .i64 0, .int .u32 id, .int .u32 0], .int .i64 0])))
theorem FsAt.fin {w wx : World} {n : Nl} (h : FsAt w wx n) (v0 v1 v2 v3 v4 v5 : Value) : Below w.heap.size w (set6 wx w.heap.size v0 v1 v2 v3 v4 v5) :=
  (((((h.bel.setCell (Nat.le_refl _) _).setCell (Nat.le_refl _) _).setCell (Nat.le_refl _) _).setCell (Nat.le_refl _) _).setCell (Nat.le_refl _) _).setCell (Nat.le_refl _) _
theorem byte_at (l : List UInt8) (k : Nat) (h : k < l.length) : worth ((l.drop k).take 1) = l[k].toNat := by
  rw [List.drop_eq_getElem_cons h, List.take_succ_cons, List.take_zero]
  simp only [worth, List.foldl_cons, List.foldl_nil]
  omega
theorem m16 (x : Nat) (h : x < 256) : (x : Int) % 4294967296 * 65536 % 4294967296 = (x : Int) * 65536 := by omega
theorem m8 (x : Nat) (h : x < 256) : (x : Int) % 4294967296 * 256 % 4294967296 = (x : Int) * 256 := by omega
theorem m0 (x : Nat) (h : x < 256) : (x : Int) % 4294967296 = (x : Int) := by omega
/-- The three bytes of a label, as the walk spells them. -/
theorem lab_form (a b c : Nat) (ha : a < 256) (hb : b < 256) (hc : c < 256) : bits .or .u32 (bits .or .u32 ((a : Int) % 4294967296 * 65536 % 4294967296) ((b : Int) % 4294967296 * 256 % 4294967296)) ((c : Int) % 4294967296) = ((a * 65536 + b * 256 + c : Nat) : Int) := by
  rw [m16 a ha, m8 b hb, m0 c hc]
  exact ors3 a b c ha hb hc
theorem three_at (l : List UInt8) (k : Nat) (h : k + 2 < l.length) : (l.drop k).take 3 = [l[k], l[k + 1], l[k + 2]] := by
  rw [List.drop_eq_getElem_cons (by omega : k < l.length), List.take_succ_cons, List.drop_eq_getElem_cons (by omega : k + 1 < l.length), List.take_succ_cons, List.drop_eq_getElem_cons h, List.take_succ_cons, List.take_zero]
theorem and1_u32 (v : Nat) (h : v < 4294967296) : bits .and .u32 (v : Int) 1 = ((v % 2 : Nat) : Int) := by
  have := u32_and_nat v 1 h (by omega)
  rw [Nat.and_one_is_mod] at this
  exact this
theorem and_bit : ∀ b : Fin 256, ∀ j : Fin 8, b.val &&& (128 / 2 ^ j.val) = b.val / 2 ^ (7 - j.val) % 2 * 2 ^ (7 - j.val) := by decide +kernel
theorem and_bit' (b j : Nat) (hb : b < 256) (hj : j < 8) : bits .and .u8 (b : Int) ((128 : Int) / 2 ^ j) = ((b / 2 ^ (7 - j) % 2 * 2 ^ (7 - j) : Nat) : Int) := by
  have e : ((128 : Int) / 2 ^ j) = ((128 / 2 ^ j : Nat) : Int) := by simp
  rw [e, u8_and_nat b _ hb (Nat.lt_of_le_of_lt (Nat.div_le_self _ _) (by decide))]
  have := and_bit ⟨b, hb⟩ ⟨j, hj⟩
  exact congrArg Nat.cast this
theorem bitp_lt (b j : Nat) : b / 2 ^ (7 - j) % 2 * 2 ^ (7 - j) < 256 := by
  have h1 : 2 ^ (7 - j) ≤ 2 ^ 7 := Nat.pow_le_pow_right (by omega) (by omega)
  have h2 : b / 2 ^ (7 - j) % 2 ≤ 1 := by omega
  exact Nat.lt_of_le_of_lt (Nat.mul_le_mul h2 h1) (by decide)
theorem worth_nil2 : worth [] = 0 := rfl
theorem addr_zero (b j : Nat) : Addr.add ⟨b, 0, none⟩ j = ⟨b, j, none⟩ := by unfold Addr.add; by_cases e : j = 0 <;> simp [e]
theorem num4_l (l : List UInt8) (k : Nat) (W : World) (h : k + 4 ≤ l.length) (hm : l.length ≤ 1000000) : Calls Tryz.prog 77 #[.string ((⟨l.toArray⟩ : ByteArray).extract k l.length)] W fun e w' => e = .returned (.int .u32 (worth ((l.drop k).take 4) : Nat)) ∧ Below W.heap.size W w' := by
  have e : (⟨l.toArray⟩ : ByteArray).extract k l.length = ⟨(l.drop k).toArray⟩ := by
    apply ByteArray.ext
    simp
    exact List.take_of_length_le (by simp)
  rw [e]
  have := num4_any ⟨(l.drop k).toArray⟩ W (by rw [list_size, List.length_drop]; omega) (by rw [list_size, List.length_drop]; omega)
  simpa using this
theorem worth8 (l : List UInt8) (k : Nat) (h : k + 8 ≤ l.length) : worth ((l.drop k).take 8) = worth ((l.drop k).take 4) * 4294967296 + worth ((l.drop (k + 4)).take 4) := by
  have e : (l.drop k).take 8 = (l.drop k).take 4 ++ (l.drop (k + 4)).take 4 := by
    rw [← List.drop_drop, show 8 = 4 + 4 from rfl, List.take_add]
  have hl : ((l.drop (k + 4)).take 4).length = 4 := by simp; omega
  rw [e]
  show List.foldl _ 0 (_ ++ _) = _
  rw [List.foldl_append]
  have := foldl_worth ((l.drop (k + 4)).take 4) (worth ((l.drop k).take 4))
  rw [hl] at this
  exact this
theorem worth4_lt (l : List UInt8) : worth (l.take 4) < 4294967296 := by
  have := worth_lt (l.take 4)
  have hl : (l.take 4).length ≤ 4 := by simp; omega
  exact Nat.lt_of_lt_of_le this (Nat.le_trans (Nat.pow_le_pow_right (by omega) hl) (by decide))
theorem or_hi (a b : Nat) (ha : a < 4294967296) (hb : b < 4294967296) : bits .or .u64 ((a : Int) * 4294967296) (b : Int) = ((a * 4294967296 + b : Nat) : Int) := by
  have h := bits_or_u64_nat (a * 4294967296) b (by omega) (by omega)
  rw [show ((a * 4294967296 : Nat) : Int) = (a : Int) * 4294967296 from by simp] at h
  rw [h, Nat.mul_comm a 4294967296, Nat.two_pow_add_eq_or_of_lt (i := 32) hb a]
end Go.Proofs.YtfhbgpepkplbaaaGreatDoor
namespace Go.Proofs.YtfhbgpepkplbaaaGreatDoor
open Go.RowKit
set_option maxRecDepth 100000 in
set_option maxHeartbeats 12800000 in
theorem first_fn (f : Int) (l : List UInt8) (w : World) (hl : lab f = false) (hd : dst f = false) (hle : l.length ≤ 1000000) (hne : ¬ l = []) :
    Calls Tryz.prog 45 #[.string ⟨l.toArray⟩, .int .i64 f, .bool false] w fun e w' => FirstOk f false l w e w' := by
  have hlN : lbN f = 0 := by simp [lbN, hl]
  have hdN' : rdN f = 0 := by simp [rdN, hd]
  have hex : exN f = 0 := by simp [exN, hlN, hdN']
  have HID : Hid (idN false = 0) := rfl
  have HHD : Hid (hdN f false = 1) := by unfold Hid hdN; rw [hlN, hdN', HID.out]
  have HL : Hid (lbN f = 0 ∧ rdN f = 0 ∧ exN f = 0) := ⟨hlN, hdN', hex⟩
  have KA : Hid (∀ w, Calls Tryz.prog 51 #[.int .i64 f] w fun e w' => e = .returned (.int .i64 0) ∧ w' = w) := fun w => by have := ahead_any f w; rw [hex] at this; exact this
  have KL : Hid (∀ w, Calls Tryz.prog 49 #[.int .i64 f] w fun e w' => e = .returned (.bool false) ∧ w' = w) := fun w => by have := rlab_any f w; rw [hl] at this; exact this
  have KD : Hid (∀ w, Calls Tryz.prog 52 #[.int .i64 f] w fun e w' => e = .returned (.bool false) ∧ w' = w) := fun w => by have := rdst_any f w; rw [hd] at this; exact this
  obtain ⟨N, hN⟩ := Int.eq_ofNat_of_zero_le (szOf_bd f).1
  have hN16 : N ≤ 16 := by have := (szOf_bd f).2; omega
  have HN : Hid (szOf f = (N : Int)) := hN
  have KS : Hid (∀ w, Calls Tryz.prog 37 #[.int .i64 f] w fun e w' => e = .returned (.int .i64 (N : Int)) ∧ w' = w) := fun w => by have := refsize_any f w; rw [hN] at this; exact this
  have H0 : Hid (FsAt w ((w.alloc (.cells #[.int .i64 0, .int .u64 0, .string ⟨#[]⟩, .int .i64 0, .int .u32 0, .int .u32 0] 27)).alloc (.cells #[.int .i64 0, .int .u64 0, .string ⟨#[]⟩, .int .i64 0, .int .u32 0, .int .u32 0] 27)) ⟨0, 0, ⟨#[]⟩, 0, 0, 0⟩) := FsAt.start w
  clear hl hd hlN hdN' hex hN
  obtain ⟨w2, hset⟩ : ∃ w2, (w.alloc (.cells #[.int .i64 0, .int .u64 0, .string ⟨#[]⟩, .int .i64 0, .int .u32 0, .int .u32 0] 27)).alloc (.cells #[.int .i64 0, .int .u64 0, .string ⟨#[]⟩, .int .i64 0, .int .u32 0, .int .u32 0] 27) = w2 := ⟨_, rfl⟩
  have H2 : Hid (FsAt w w2 ⟨0, 0, ⟨#[]⟩, 0, 0, 0⟩) := hset ▸ H0.out
  clear H0
  go_enter Tryz.func45, Tryz.ntmps45
  have h5 : ¬ l.length ≤ 0 := by intro h; exact hne (List.length_eq_zero_iff.mp (by omega))
  have h5' : ¬ ((l.length : Int) ≤ 0) := by omega
  have h5n : 0 < l.length := by omega
  have h5b : 0 < (⟨l.toArray⟩ : ByteArray).size := by rw [list_size]; omega
  have h5c : (0 : Int) < (⟨l.toArray⟩ : ByteArray).size := by rw [list_size]; omega
  go_wp2
  go_quiet ((go_at_call 51; refine Calls.quiet_of_same (KA.out _)))
  have HCB : Hid (worth ((l.drop 0).take 1) = ((⟨l.toArray⟩ : ByteArray)[0]'h5b).toNat) := byte_at l 0 h5n
  have hcb : ((⟨l.toArray⟩ : ByteArray)[0]'h5b).toNat < 256 := UInt8.toNat_lt _
  generalize ((⟨l.toArray⟩ : ByteArray)[0]'h5b).toNat = cb at *
  obtain ⟨bt, hbt⟩ : ∃ bt : Int, bt = (cb : Int) := ⟨_, rfl⟩
  have e1 : wrap64 (cb : Int) = cb := wrap64_id _ (by omega) (by omega)
  rw [e1, ← hbt]
  have e1b : wrap64 bt = bt := by rw [hbt]; exact e1
  have HBT : Hid (bitI' f false l = bt) := by unfold Hid bitI'; rw [HID.out, HCB.out, HL.out.2.2, hbt]; simp
  have hb1 : -1000 ≤ bt := by omega
  have hb2 : bt ≤ 1000 := by omega
  have H3 : Hid (FsAt w (w2.drewN nq) ⟨0, 0, ⟨#[]⟩, 0, 0, 0⟩) := H2.out.below' (below_drewN (Below.refl _ _) _)
  generalize w2.drewN nq = w3 at *
  clear H2 hset e1 hbt hcb HCB
  by_cases h6 : bt < 0
  · have HNO : Hid (¬ okI f false l) := fun h => by have := h.2.1; rw [HBT.out] at this; omega
    have n0 := H3.out.n0
    have n1 := H3.out.n1
    have n2 := H3.out.n2
    have n3 := H3.out.n3
    have n4 := H3.out.n4
    have n5 := H3.out.n5
    have z0 := H3.out.z0
    have z1 := H3.out.z1
    have z2 := H3.out.z2
    have z3 := H3.out.z3
    have z4 := H3.out.z4
    have z5 := H3.out.z5
    have y0 := H3.out.zf 0 (by omega)
    have y1 := H3.out.zf 1 (by omega)
    have y2 := H3.out.zf 2 (by omega)
    have y3 := H3.out.zf 3 (by omega)
    have y4 := H3.out.zf 4 (by omega)
    have y5 := H3.out.zf 5 (by omega)
    simp only at n0 n1 n2 n3 n4 n5
    go_wp2_with (first | (go_at_call 37; refine Calls.mono (KS.out _) ?_; rintro e w5 ⟨rfl, hw5⟩; subst hw5) | (go_at_call 51; refine Calls.mono (KA.out _) ?_; rintro e w5 ⟨rfl, hw5⟩; subst hw5))
    refine bodyPost_ret (v := .tuple #[.agg #[.int .i64 0, .int .u64 0, .string ⟨#[]⟩, .int .i64 0, .int .u32 (0), .int .u32 0], .int .i64 0]) (by simp [results, Tryz.results45, go_sem, z0, z1, z2, z3, z4, z5]) rfl ?_
    exact ⟨H3.out.fin _ _ _ _ _ _, Or.inr ⟨HNO.out, _, rfl⟩⟩
  have h6' : ¬ (bt < 0) := h6
  have e8 : wrap64 (8 * (N : Int)) = 8 * (N : Int) := wrap64_id _ (by omega) (by omega)
  by_cases h7 : 8 * (N : Int) < bt
  · have HNO : Hid (¬ okI f false l) := fun h => by have := h.2.2.1; rw [HBT.out, HN.out] at this; omega
    have n0 := H3.out.n0
    have n1 := H3.out.n1
    have n2 := H3.out.n2
    have n3 := H3.out.n3
    have n4 := H3.out.n4
    have n5 := H3.out.n5
    have z0 := H3.out.z0
    have z1 := H3.out.z1
    have z2 := H3.out.z2
    have z3 := H3.out.z3
    have z4 := H3.out.z4
    have z5 := H3.out.z5
    have y0 := H3.out.zf 0 (by omega)
    have y1 := H3.out.zf 1 (by omega)
    have y2 := H3.out.zf 2 (by omega)
    have y3 := H3.out.zf 3 (by omega)
    have y4 := H3.out.zf 4 (by omega)
    have y5 := H3.out.zf 5 (by omega)
    simp only at n0 n1 n2 n3 n4 n5
    go_wp2_with (first | (go_at_call 37; refine Calls.mono (KS.out _) ?_; rintro e w5 ⟨rfl, hw5⟩; subst hw5) | (go_at_call 51; refine Calls.mono (KA.out _) ?_; rintro e w5 ⟨rfl, hw5⟩; subst hw5))
    refine bodyPost_ret (v := .tuple #[.agg #[.int .i64 0, .int .u64 0, .string ⟨#[]⟩, .int .i64 0, .int .u32 (0), .int .u32 0], .int .i64 0]) (by simp [results, Tryz.results45, go_sem, z0, z1, z2, z3, z4, z5]) rfl ?_
    exact ⟨H3.out.fin _ _ _ _ _ _, Or.inr ⟨HNO.out, _, rfl⟩⟩
  have h7' : ¬ (8 * (N : Int) < bt) := h7
  obtain ⟨bn, rfl⟩ := Int.eq_ofNat_of_zero_le (by omega : 0 ≤ bt)
  obtain ⟨nb, hnb⟩ : ∃ nb, nb = (bn + 7) / 8 := ⟨_, rfl⟩
  have HNB : Hid (byN (bn : Int) = (nb : Int)) := by unfold Hid; rw [byN_nat, hnb]
  have e9 : wrap64 ((bn : Int) + 7) = (bn : Int) + 7 := wrap64_id _ (by omega) (by omega)
  have e10 : wrap64 (((bn : Int) + 7).tdiv 8) = (nb : Int) := by
    have := HNB.out
    unfold byN at this
    rw [this]; exact wrap64_id _ (by omega) (by omega)
  obtain ⟨tt, htt⟩ : ∃ tt : Int, tt = 1 + (nb : Int) := ⟨_, rfl⟩
  have HTT : Hid (tt = 1 + (nb : Int)) := htt
  have hnb16 : nb ≤ 16 := by omega
  have e11 : wrap64 (1 + (nb : Int)) = tt := by rw [htt]; exact wrap64_id _ (by omega) (by omega)
  have e12 : 1 + (nb : Int) = tt := htt.symm
  clear htt
  by_cases h8 : (l.length : Int) < tt
  · have HNO : Hid (¬ okI f false l) := fun h => by have := h.2.2.2.1; rw [HBT.out, HHD.out, HNB.out] at this; have := HTT.out; omega
    have n0 := H3.out.n0
    have n1 := H3.out.n1
    have n2 := H3.out.n2
    have n3 := H3.out.n3
    have n4 := H3.out.n4
    have n5 := H3.out.n5
    have z0 := H3.out.z0
    have z1 := H3.out.z1
    have z2 := H3.out.z2
    have z3 := H3.out.z3
    have z4 := H3.out.z4
    have z5 := H3.out.z5
    have y0 := H3.out.zf 0 (by omega)
    have y1 := H3.out.zf 1 (by omega)
    have y2 := H3.out.zf 2 (by omega)
    have y3 := H3.out.zf 3 (by omega)
    have y4 := H3.out.zf 4 (by omega)
    have y5 := H3.out.zf 5 (by omega)
    simp only at n0 n1 n2 n3 n4 n5
    go_wp2_with (first | (go_at_call 37; refine Calls.mono (KS.out _) ?_; rintro e w5 ⟨rfl, hw5⟩; subst hw5) | (go_at_call 51; refine Calls.mono (KA.out _) ?_; rintro e w5 ⟨rfl, hw5⟩; subst hw5))
    refine bodyPost_ret (v := .tuple #[.agg #[.int .i64 0, .int .u64 0, .string ⟨#[]⟩, .int .i64 0, .int .u32 (0), .int .u32 0], .int .i64 0]) (by simp [results, Tryz.results45, go_sem, z0, z1, z2, z3, z4, z5]) rfl ?_
    exact ⟨H3.out.fin _ _ _ _ _ _, Or.inr ⟨HNO.out, _, rfl⟩⟩
  have h8' : ¬ ((l.length : Int) < tt) := h8
  have h8n : 1 + nb ≤ l.length := by have := HTT.out; omega
  have hmk := made_bytes N (by omega)
  obtain ⟨LB, hLB⟩ : ∃ LB : Int, LB = 0 := ⟨_, rfl⟩
  have H3b : Hid (FsAt w w3 ⟨0, 0, ⟨#[]⟩, 0, 0, LB⟩) := by unfold Hid; rw [hLB]; exact H3.out
  have HLB : Hid (LB = (((labI (labV f false l)).1 : Nat) : Int)) := by unfold Hid labV; rw [HL.out.1, hLB]; rfl
  have n0 := H3b.out.n0
  have y0 := H3b.out.nf 0 (by omega)
  obtain ⟨w8, hset0⟩ : ∃ w8, w3.setCell ⟨w.heap.size + 1, 0, none⟩ (.int .i64 f) = w8 := ⟨_, rfl⟩
  have H8 : Hid (FsAt w w8 ⟨f, 0, ⟨#[]⟩, 0, 0, LB⟩) := hset0 ▸ H3b.out.set 0 _ _ rfl (by omega)
  simp only at n0
  clear hLB H3 H3b
  go_wp2_with (first | (go_at_call 52; refine Calls.mono (KD.out _) ?_; rintro e wk ⟨rfl, hwk⟩; obtain rfl : w8 = wk := hwk.symm; clear hwk) | (go_at_call 49; refine Calls.mono (KL.out _) ?_; rintro e wk ⟨rfl, hwk⟩; obtain rfl : w3 = wk := hwk.symm; clear hwk) | (go_at_call 37; refine Calls.mono (KS.out _) ?_; rintro e wk ⟨rfl, hwk⟩; obtain rfl : w3 = wk := hwk.symm; clear hwk) | (go_at_call 51; refine Calls.mono (KA.out _) ?_; rintro e wk ⟨rfl, hwk⟩; obtain rfl : w3 = wk := hwk.symm; clear hwk))
  clear hmk hset0 n0 y0
  have H9 : Hid (FsAt w (w8.alloc (.cells (madeCells #[.int .u8 0] N) 5)) ⟨f, 0, ⟨#[]⟩, 0, 0, LB⟩) := H8.out.below' ((Below.refl _ _).alloc (Nat.le_refl _) _)
  have hrb : w.heap.size + 2 ≤ w8.heap.size := H8.out.siz
  obtain ⟨R, hR⟩ : ∃ R : List UInt8, R = (l.drop 1).take nb := ⟨_, rfl⟩
  have HM : Hid (Row (w8.alloc (.cells (madeCells #[.int .u8 0] N) 5)) w8.heap.size (adr R 0 N)) := by unfold Hid; rw [adr_zero]; exact Row.made w8 N _ rfl
  clear H8
  generalize w8.alloc (.cells (madeCells #[.int .u8 0] N) 5) = w9 at *
  generalize w8.heap.size = rb at *
  have HRB : Hid (w.heap.size + 2 ≤ rb) := hrb
  have HR : Hid (R = (l.drop 1).take nb) := hR
  have HNBE : Hid (nb = (bn + 7) / 8) := hnb
  have HBN : Hid (bn ≤ 8 * N) := by unfold Hid; omega
  clear hrb hR hnb
  go_loopw [14] (fun i wr => ∃ k : Nat, k ≤ bn ∧ i = .int .i64 k ∧ Row wr rb (adr R k N) ∧ FsAt w wr ⟨f, 0, ⟨#[]⟩, 0, 0, LB⟩) (fun i _ => bn - (intOf i).toNat)
  case atStart => exact ⟨0, Nat.zero_le _, rfl, HM.out, H9.out⟩
  case round =>
    obtain ⟨k, hk, rfl, hrow, hfs⟩ := hrel
    by_cases hlt : k < bn
    · have hkN : k / 8 < N := by have := HBN.out; omega
      have hkn : k / 8 < nb := by have := HNBE.out; omega
      have hq : k / 8 < (adr R k N).length := by rw [adr_length]; exact hkN
      have hc := (hrow (k / 8) hq).1
      have hf := (hrow (k / 8) hq).2
      have hix : 1 + k / 8 < l.length := by omega
      have HBY : Hid (bitAt R k = (((⟨l.toArray⟩ : ByteArray)[1 + k / 8]'(by rw [list_size]; exact hix)).toNat / 2 ^ (7 - k % 8) % 2)) := by
        unfold Hid bitAt
        rw [HR.out, List.getD_eq_getElem?_getD, List.getElem?_take, if_pos hkn, List.getElem?_drop, List.getElem?_eq_getElem hix, Option.getD_some]
        rfl
      have hb256 : ((⟨l.toArray⟩ : ByteArray)[1 + k / 8]'(by rw [list_size]; exact hix)).toNat < 256 := UInt8.toNat_lt _
      have HRW : Hid (Row wr rb (adr R k N)) := hrow
      have HFS : Hid (FsAt w wr ⟨f, 0, ⟨#[]⟩, 0, 0, LB⟩) := hfs
      clear hrow hfs
      have hsz : 1 + k / 8 < (⟨l.toArray⟩ : ByteArray).size := by rw [list_size]; exact hix
      have hsz2 : (1 : Int) + (k : Int) / 8 < (⟨l.toArray⟩ : ByteArray).size := by rw [list_size]; omega
      have hsz3 : ((1 + k / 8 : Nat) : Int) < (⟨l.toArray⟩ : ByteArray).size := by rw [list_size]; omega
      have hsz4 : (1 : Int) + (k : Int) / 8 < (l.length : Int) := by omega
      have ht1 : ((1 : Int) + (k : Int) / 8).toNat = 1 + k / 8 := by omega
      have h01 : (0 : Int) ≤ (1 : Int) + (k : Int) / 8 := by omega
      have hq' : (k : Int) / 8 < N := by omega
      have hq0 : (0 : Int) ≤ (k : Int) / 8 := by omega
      have hqt : ((k : Int) / 8).toNat = k / 8 := by omega
      have hq3 : ((k / 8 : Nat) : Int) < N := by omega
      have hq4 : (0 : Int) ≤ ((k / 8 : Nat) : Int) := by omega
      have w1 : IntKind.i64.wrap ((k : Int) / 8) = (k : Int) / 8 := by rw [IntKind.wrap_i64]; omega
      have w2 : Int.tmod (k : Int) 8 = ((k % 8 : Nat) : Int) := by rw [Int.tmod_eq_emod_of_nonneg (by omega)]; rfl
      have w3' : IntKind.i64.wrap ((1 : Int) + (k : Int) / 8) = (1 : Int) + (k : Int) / 8 := by rw [IntKind.wrap_i64]; omega
      have HS : Hid (adr R (k + 1) N = (adr R k N).set (k / 8) ((adr R k N).getD (k / 8) 0 ||| UInt8.ofNat (bitAt R k * 2 ^ (7 - k % 8)))) := adr_succ R k N hkN
      have HVAL : Hid (bits .or .u8 (((adr R k N)[k / 8]'hq).toNat : Int) (bits .and .u8 (((⟨l.toArray⟩ : ByteArray)[1 + k / 8]'hsz).toNat : Int) ((128 : Int) / 2 ^ (k % 8))) = (((adr R k N)[k / 8]'hq ||| UInt8.ofNat (bitAt R k * 2 ^ (7 - k % 8))).toNat : Int)) := or_u8 _ _ _ (by
        rw [and_bit' _ _ hb256 (Nat.mod_lt _ (by decide)), HBY.out, Nat.mod_eq_of_lt (bitp_lt _ _)])
      go_wp2
      go_region
      go_wp2
      go_roundw
      case rel =>
        refine ⟨k + 1, by omega, by go_num, ?_, HFS.out.below (((Below.refl _ _).setCell (p := ⟨rb, k / 8, none⟩) HRB.out _).drew)⟩
        rw [HS.out, List.getD_eq_getElem?_getD, List.getElem?_eq_getElem hq, Option.getD_some, HVAL.out]
        exact (HRW.out.set (k / 8) _).drew
      case measure => simp [intOf]; omega
    · have hkb : bn = k := by omega
      subst hkb
      have hback := run_convert_bytes_back (P := Tryz.prog) wr 60 9 5 ⟨rb, 0, none⟩ N (adr R bn N) Tryz.underlying60 Tryz.underlying5 Tryz.underlying9 (fun j hj => by rw [addr_zero]; exact (hrow j hj).1)
      rw [adr_length] at hback
      have HFS : Hid (FsAt w wr ⟨f, 0, ⟨#[]⟩, 0, 0, LB⟩) := hfs
      clear hrow hfs
      have n2 := HFS.out.n2
      have y2 := HFS.out.nf 2 (by omega)
      obtain ⟨AD, hAD⟩ : ∃ AD : ByteArray, AD = ⟨(adr R bn N).toArray⟩ := ⟨_, rfl⟩
      rw [← hAD] at hback
      have HAD : Hid (AD = ⟨(adr R bn N).toArray⟩) := hAD
      clear hAD
      obtain ⟨w11, hset2⟩ : ∃ w11, wr.setCell ⟨w.heap.size + 1, 2, none⟩ (.string AD) = w11 := ⟨_, rfl⟩
      have H11 : Hid (FsAt w w11 ⟨f, 0, AD, 0, 0, LB⟩) := hset2 ▸ HFS.out.set 2 _ _ rfl (by omega)
      have n3 := H11.out.n3
      have y3 := H11.out.nf 3 (by omega)
      obtain ⟨w12, hset3⟩ : ∃ w12, w11.setCell ⟨w.heap.size + 1, 3, none⟩ (.int .i64 (bn : Int)) = w12 := ⟨_, rfl⟩
      have H12 : Hid (FsAt w w12 ⟨f, 0, AD, (bn : Int), 0, LB⟩) := hset3 ▸ H11.out.set 3 _ _ rfl (by omega)
      simp only at n2 n3
      have HOK : Hid (okI f false l) := ⟨by rw [HID.out]; omega, by rw [HBT.out]; omega, by rw [HBT.out, HN.out]; omega, by rw [HBT.out, HHD.out, HNB.out]; omega, Or.inl HL.out.1⟩
      have HNL : Hid (nlI f false l = ⟨f, 0, AD, (bn : Int), 0, LB⟩) := by
        unfold Hid nlI
        rw [HBT.out, HHD.out, HNB.out, HN.out, HAD.out, HR.out, HLB.out]
        simp only [HL.out.1, HL.out.2.1, HID.out, Int.toNat_natCast, List.take_zero, worth_nil2]
        try rfl
      have HUS : Hid (((hdN f false + (byN (bitI' f false l)).toNat : Nat) : Int) = (1 : Int) + ((bn : Int) + 7) / 8) := by unfold Hid; rw [HBT.out, HHD.out, HNB.out, Int.toNat_natCast]; have := HNBE.out; omega
      have n0 := H12.out.n0
      have n1 := H12.out.n1
      have n2 := H12.out.n2
      have n3 := H12.out.n3
      have n4 := H12.out.n4
      have n5 := H12.out.n5
      have z0 := H12.out.z0
      have z1 := H12.out.z1
      have z2 := H12.out.z2
      have z3 := H12.out.z3
      have z4 := H12.out.z4
      have z5 := H12.out.z5
      have y0 := H12.out.zf 0 (by omega)
      have y1 := H12.out.zf 1 (by omega)
      have y2 := H12.out.zf 2 (by omega)
      have y3 := H12.out.zf 3 (by omega)
      have y4 := H12.out.zf 4 (by omega)
      have y5 := H12.out.zf 5 (by omega)
      simp only at n0 n1 n2 n3 n4 n5
      go_wp2
      refine bodyPost_ret (v := .tuple #[.agg #[.int .i64 f, .int .u64 0, .string AD, .int .i64 (bn : Int), .int .u32 (0), .int .u32 LB], .int .i64 ((1 : Int) + ((bn : Int) + 7) / 8)]) (by simp [results, Tryz.results45, go_sem, z0, z1, z2, z3, z4, z5]) rfl ?_
      refine ⟨H12.out.fin _ _ _ _ _ _, Or.inl ⟨HOK.out, ?_⟩⟩
      rw [HNL.out, HUS.out]
end Go.Proofs.YtfhbgpepkplbaaaGreatDoor
namespace Go.Proofs.YtfhbgpepkplbaaaGreatDoor
open Go.RowKit
set_option maxRecDepth 100000 in
set_option maxHeartbeats 12800000 in
theorem first_fl (f : Int) (l : List UInt8) (w : World) (hl : lab f = true) (hd : dst f = false) (hle : l.length ≤ 1000000) (hne : ¬ l = []) :
    Calls Tryz.prog 45 #[.string ⟨l.toArray⟩, .int .i64 f, .bool false] w fun e w' => FirstOk f false l w e w' := by
  have hlN : lbN f = 3 := by simp [lbN, hl]
  have hdN' : rdN f = 0 := by simp [rdN, hd]
  have hex : exN f = 24 := by simp [exN, hlN, hdN']
  have HID : Hid (idN false = 0) := rfl
  have HHD : Hid (hdN f false = 4) := by unfold Hid hdN; rw [hlN, hdN', HID.out]
  have HL : Hid (lbN f = 3 ∧ rdN f = 0 ∧ exN f = 24) := ⟨hlN, hdN', hex⟩
  have KA : Hid (∀ w, Calls Tryz.prog 51 #[.int .i64 f] w fun e w' => e = .returned (.int .i64 24) ∧ w' = w) := fun w => by have := ahead_any f w; rw [hex] at this; exact this
  have KL : Hid (∀ w, Calls Tryz.prog 49 #[.int .i64 f] w fun e w' => e = .returned (.bool true) ∧ w' = w) := fun w => by have := rlab_any f w; rw [hl] at this; exact this
  have KD : Hid (∀ w, Calls Tryz.prog 52 #[.int .i64 f] w fun e w' => e = .returned (.bool false) ∧ w' = w) := fun w => by have := rdst_any f w; rw [hd] at this; exact this
  obtain ⟨N, hN⟩ := Int.eq_ofNat_of_zero_le (szOf_bd f).1
  have hN16 : N ≤ 16 := by have := (szOf_bd f).2; omega
  have HN : Hid (szOf f = (N : Int)) := hN
  have KS : Hid (∀ w, Calls Tryz.prog 37 #[.int .i64 f] w fun e w' => e = .returned (.int .i64 (N : Int)) ∧ w' = w) := fun w => by have := refsize_any f w; rw [hN] at this; exact this
  have H0 : Hid (FsAt w ((w.alloc (.cells #[.int .i64 0, .int .u64 0, .string ⟨#[]⟩, .int .i64 0, .int .u32 0, .int .u32 0] 27)).alloc (.cells #[.int .i64 0, .int .u64 0, .string ⟨#[]⟩, .int .i64 0, .int .u32 0, .int .u32 0] 27)) ⟨0, 0, ⟨#[]⟩, 0, 0, 0⟩) := FsAt.start w
  clear hl hd hlN hdN' hex hN
  obtain ⟨w2, hset⟩ : ∃ w2, (w.alloc (.cells #[.int .i64 0, .int .u64 0, .string ⟨#[]⟩, .int .i64 0, .int .u32 0, .int .u32 0] 27)).alloc (.cells #[.int .i64 0, .int .u64 0, .string ⟨#[]⟩, .int .i64 0, .int .u32 0, .int .u32 0] 27) = w2 := ⟨_, rfl⟩
  have H2 : Hid (FsAt w w2 ⟨0, 0, ⟨#[]⟩, 0, 0, 0⟩) := hset ▸ H0.out
  clear H0
  go_enter Tryz.func45, Tryz.ntmps45
  have h5 : ¬ l.length ≤ 0 := by intro h; exact hne (List.length_eq_zero_iff.mp (by omega))
  have h5' : ¬ ((l.length : Int) ≤ 0) := by omega
  have h5n : 0 < l.length := by omega
  have h5b : 0 < (⟨l.toArray⟩ : ByteArray).size := by rw [list_size]; omega
  have h5c : (0 : Int) < (⟨l.toArray⟩ : ByteArray).size := by rw [list_size]; omega
  go_wp2
  go_quiet ((go_at_call 51; refine Calls.quiet_of_same (KA.out _)))
  have HCB : Hid (worth ((l.drop 0).take 1) = ((⟨l.toArray⟩ : ByteArray)[0]'h5b).toNat) := byte_at l 0 h5n
  have hcb : ((⟨l.toArray⟩ : ByteArray)[0]'h5b).toNat < 256 := UInt8.toNat_lt _
  generalize ((⟨l.toArray⟩ : ByteArray)[0]'h5b).toNat = cb at *
  obtain ⟨bt, hbt⟩ : ∃ bt : Int, bt = (cb : Int) - 24 := ⟨_, rfl⟩
  have e1 : wrap64 (cb : Int) = cb := wrap64_id _ (by omega) (by omega)
  have e2 : wrap64 ((cb : Int) - 24) = bt := by rw [← hbt]; exact wrap64_id _ (by omega) (by omega)
  rw [e1, e2]
  have HBT : Hid (bitI' f false l = bt) := by unfold Hid bitI'; rw [HID.out, HCB.out, HL.out.2.2, hbt]; rfl
  have hb1 : -1000 ≤ bt := by omega
  have hb2 : bt ≤ 1000 := by omega
  have H3 : Hid (FsAt w (w2.drewN nq) ⟨0, 0, ⟨#[]⟩, 0, 0, 0⟩) := H2.out.below' (below_drewN (Below.refl _ _) _)
  generalize w2.drewN nq = w3 at *
  clear H2 hset e1 e2 hbt hcb HCB
  by_cases h6 : bt < 0
  · have HNO : Hid (¬ okI f false l) := fun h => by have := h.2.1; rw [HBT.out] at this; omega
    have n0 := H3.out.n0
    have n1 := H3.out.n1
    have n2 := H3.out.n2
    have n3 := H3.out.n3
    have n4 := H3.out.n4
    have n5 := H3.out.n5
    have z0 := H3.out.z0
    have z1 := H3.out.z1
    have z2 := H3.out.z2
    have z3 := H3.out.z3
    have z4 := H3.out.z4
    have z5 := H3.out.z5
    have y0 := H3.out.zf 0 (by omega)
    have y1 := H3.out.zf 1 (by omega)
    have y2 := H3.out.zf 2 (by omega)
    have y3 := H3.out.zf 3 (by omega)
    have y4 := H3.out.zf 4 (by omega)
    have y5 := H3.out.zf 5 (by omega)
    simp only at n0 n1 n2 n3 n4 n5
    go_wp2_with (first | (go_at_call 37; refine Calls.mono (KS.out _) ?_; rintro e w5 ⟨rfl, hw5⟩; subst hw5) | (go_at_call 51; refine Calls.mono (KA.out _) ?_; rintro e w5 ⟨rfl, hw5⟩; subst hw5))
    refine bodyPost_ret (v := .tuple #[.agg #[.int .i64 0, .int .u64 0, .string ⟨#[]⟩, .int .i64 0, .int .u32 (0), .int .u32 0], .int .i64 0]) (by simp [results, Tryz.results45, go_sem, z0, z1, z2, z3, z4, z5]) rfl ?_
    exact ⟨H3.out.fin _ _ _ _ _ _, Or.inr ⟨HNO.out, _, rfl⟩⟩
  have h6' : ¬ (bt < 0) := h6
  have e8 : wrap64 (8 * (N : Int)) = 8 * (N : Int) := wrap64_id _ (by omega) (by omega)
  by_cases h7 : 8 * (N : Int) < bt
  · have HNO : Hid (¬ okI f false l) := fun h => by have := h.2.2.1; rw [HBT.out, HN.out] at this; omega
    have n0 := H3.out.n0
    have n1 := H3.out.n1
    have n2 := H3.out.n2
    have n3 := H3.out.n3
    have n4 := H3.out.n4
    have n5 := H3.out.n5
    have z0 := H3.out.z0
    have z1 := H3.out.z1
    have z2 := H3.out.z2
    have z3 := H3.out.z3
    have z4 := H3.out.z4
    have z5 := H3.out.z5
    have y0 := H3.out.zf 0 (by omega)
    have y1 := H3.out.zf 1 (by omega)
    have y2 := H3.out.zf 2 (by omega)
    have y3 := H3.out.zf 3 (by omega)
    have y4 := H3.out.zf 4 (by omega)
    have y5 := H3.out.zf 5 (by omega)
    simp only at n0 n1 n2 n3 n4 n5
    go_wp2_with (first | (go_at_call 37; refine Calls.mono (KS.out _) ?_; rintro e w5 ⟨rfl, hw5⟩; subst hw5) | (go_at_call 51; refine Calls.mono (KA.out _) ?_; rintro e w5 ⟨rfl, hw5⟩; subst hw5))
    refine bodyPost_ret (v := .tuple #[.agg #[.int .i64 0, .int .u64 0, .string ⟨#[]⟩, .int .i64 0, .int .u32 (0), .int .u32 0], .int .i64 0]) (by simp [results, Tryz.results45, go_sem, z0, z1, z2, z3, z4, z5]) rfl ?_
    exact ⟨H3.out.fin _ _ _ _ _ _, Or.inr ⟨HNO.out, _, rfl⟩⟩
  have h7' : ¬ (8 * (N : Int) < bt) := h7
  obtain ⟨bn, rfl⟩ := Int.eq_ofNat_of_zero_le (by omega : 0 ≤ bt)
  obtain ⟨nb, hnb⟩ : ∃ nb, nb = (bn + 7) / 8 := ⟨_, rfl⟩
  have HNB : Hid (byN (bn : Int) = (nb : Int)) := by unfold Hid; rw [byN_nat, hnb]
  have e9 : wrap64 ((bn : Int) + 7) = (bn : Int) + 7 := wrap64_id _ (by omega) (by omega)
  have e10 : wrap64 (((bn : Int) + 7).tdiv 8) = (nb : Int) := by
    have := HNB.out
    unfold byN at this
    rw [this]; exact wrap64_id _ (by omega) (by omega)
  obtain ⟨tt, htt⟩ : ∃ tt : Int, tt = 4 + (nb : Int) := ⟨_, rfl⟩
  have HTT : Hid (tt = 4 + (nb : Int)) := htt
  have hnb16 : nb ≤ 16 := by omega
  have e11 : wrap64 (4 + (nb : Int)) = tt := by rw [htt]; exact wrap64_id _ (by omega) (by omega)
  have e12 : 4 + (nb : Int) = tt := htt.symm
  clear htt
  by_cases h8 : (l.length : Int) < tt
  · have HNO : Hid (¬ okI f false l) := fun h => by have := h.2.2.2.1; rw [HBT.out, HHD.out, HNB.out] at this; have := HTT.out; omega
    have n0 := H3.out.n0
    have n1 := H3.out.n1
    have n2 := H3.out.n2
    have n3 := H3.out.n3
    have n4 := H3.out.n4
    have n5 := H3.out.n5
    have z0 := H3.out.z0
    have z1 := H3.out.z1
    have z2 := H3.out.z2
    have z3 := H3.out.z3
    have z4 := H3.out.z4
    have z5 := H3.out.z5
    have y0 := H3.out.zf 0 (by omega)
    have y1 := H3.out.zf 1 (by omega)
    have y2 := H3.out.zf 2 (by omega)
    have y3 := H3.out.zf 3 (by omega)
    have y4 := H3.out.zf 4 (by omega)
    have y5 := H3.out.zf 5 (by omega)
    simp only at n0 n1 n2 n3 n4 n5
    go_wp2_with (first | (go_at_call 37; refine Calls.mono (KS.out _) ?_; rintro e w5 ⟨rfl, hw5⟩; subst hw5) | (go_at_call 51; refine Calls.mono (KA.out _) ?_; rintro e w5 ⟨rfl, hw5⟩; subst hw5))
    refine bodyPost_ret (v := .tuple #[.agg #[.int .i64 0, .int .u64 0, .string ⟨#[]⟩, .int .i64 0, .int .u32 (0), .int .u32 0], .int .i64 0]) (by simp [results, Tryz.results45, go_sem, z0, z1, z2, z3, z4, z5]) rfl ?_
    exact ⟨H3.out.fin _ _ _ _ _ _, Or.inr ⟨HNO.out, _, rfl⟩⟩
  have h8' : ¬ ((l.length : Int) < tt) := h8
  have h8n : 4 + nb ≤ l.length := by have := HTT.out; omega
  have i1 : (1 : Int) < (⟨l.toArray⟩ : ByteArray).size := by rw [list_size]; omega
  have j1 : 1 < (⟨l.toArray⟩ : ByteArray).size := by rw [list_size]; omega
  have k1 : (1 : Int) < (l.length : Int) := by omega
  have q1 : wrap64 (1 + 0) = 1 := by unfold wrap64; omega
  have i2 : (2 : Int) < (⟨l.toArray⟩ : ByteArray).size := by rw [list_size]; omega
  have j2 : 2 < (⟨l.toArray⟩ : ByteArray).size := by rw [list_size]; omega
  have k2 : (2 : Int) < (l.length : Int) := by omega
  have q2 : wrap64 (1 + 1) = 2 := by unfold wrap64; omega
  have i3 : (3 : Int) < (⟨l.toArray⟩ : ByteArray).size := by rw [list_size]; omega
  have j3 : 3 < (⟨l.toArray⟩ : ByteArray).size := by rw [list_size]; omega
  have k3 : (3 : Int) < (l.length : Int) := by omega
  have q3 : wrap64 (1 + 2) = 3 := by unfold wrap64; omega
  go_wp2_with (first | (go_at_call 49; refine Calls.mono (KL.out _) ?_; rintro e w5 ⟨rfl, hw5⟩; subst hw5) | (go_at_call 37; refine Calls.mono (KS.out _) ?_; rintro e w5 ⟨rfl, hw5⟩; subst hw5) | (go_at_call 51; refine Calls.mono (KA.out _) ?_; rintro e w5 ⟨rfl, hw5⟩; subst hw5))
  go_quiet (fail)
  have HV3 : Hid (labV f false l = ((⟨l.toArray⟩ : ByteArray)[1]'j1).toNat * 65536 + ((⟨l.toArray⟩ : ByteArray)[2]'j2).toNat * 256 + ((⟨l.toArray⟩ : ByteArray)[3]'j3).toNat) := by
    unfold Hid labV
    rw [HID.out, HL.out.1, three_at l 1 (by omega), worth3b]
    rfl
  have x1 : ((⟨l.toArray⟩ : ByteArray)[1]'j1).toNat < 256 := UInt8.toNat_lt _
  have x2 : ((⟨l.toArray⟩ : ByteArray)[2]'j2).toNat < 256 := UInt8.toNat_lt _
  have x3 : ((⟨l.toArray⟩ : ByteArray)[3]'j3).toNat < 256 := UInt8.toNat_lt _
  generalize ((⟨l.toArray⟩ : ByteArray)[1]'j1).toNat = b1 at *
  generalize ((⟨l.toArray⟩ : ByteArray)[2]'j2).toNat = b2 at *
  generalize ((⟨l.toArray⟩ : ByteArray)[3]'j3).toNat = b3 at *
  rw [lab_form b1 b2 b3 x1 x2 x3]
  have hVlt : b1 * 65536 + b2 * 256 + b3 < 16777216 := by omega
  generalize b1 * 65536 + b2 * 256 + b3 = V at *
  have H4 : Hid (FsAt w (w5.drewN nq) ⟨0, 0, ⟨#[]⟩, 0, 0, 0⟩) := H3.out.below' (below_drewN (Below.refl _ _) _)
  generalize w5.drewN nq = w6 at *
  have hv1 := and1_u32 V (by omega)
  clear H3 x1 x2 x3 KA
  have hmk := made_bytes N (by omega)
  by_cases hr : V % 2 = 0 ∧ V ≠ 8388608
  · have hv0 : bits .and .u32 (V : Int) 1 = 0 := by rw [hv1, hr.1]; rfl
    have hn1 : ((V : Int) == 8388608) = false := by simp; omega
    have hn2 : ((V : Int) != 8388608) = true := by simp; omega
    have HLV : Hid (labI V = (0, false)) := by unfold Hid labI; rw [if_neg hr.2, if_pos hr.1]
    clear hv1 hr
    have HNO : Hid (¬ okI f false l) := fun h => by have := h.2.2.2.2; rw [HL.out.1, HV3.out, HLV.out] at this; simp at this
    have n0 := H4.out.n0
    have n1 := H4.out.n1
    have n2 := H4.out.n2
    have n3 := H4.out.n3
    have n4 := H4.out.n4
    have n5 := H4.out.n5
    have z0 := H4.out.z0
    have z1 := H4.out.z1
    have z2 := H4.out.z2
    have z3 := H4.out.z3
    have z4 := H4.out.z4
    have z5 := H4.out.z5
    have y0 := H4.out.zf 0 (by omega)
    have y1 := H4.out.zf 1 (by omega)
    have y2 := H4.out.zf 2 (by omega)
    have y3 := H4.out.zf 3 (by omega)
    have y4 := H4.out.zf 4 (by omega)
    have y5 := H4.out.zf 5 (by omega)
    simp only at n0 n1 n2 n3 n4 n5
    go_wp2
    refine bodyPost_ret (v := .tuple #[.agg #[.int .i64 0, .int .u64 0, .string ⟨#[]⟩, .int .i64 0, .int .u32 (0), .int .u32 0], .int .i64 0]) (by simp [results, Tryz.results45, go_sem, z0, z1, z2, z3, z4, z5]) rfl ?_
    exact ⟨H4.out.fin _ _ _ _ _ _, Or.inr ⟨HNO.out, _, rfl⟩⟩
  by_cases h80 : V = 8388608
  · subst h80
    have hv0 : bits .and .u32 (8388608 : Int) 1 = 0 := hv1
    have HLV : Hid (((labI 8388608).1 : Nat) = 0 ∧ (labI 8388608).2 = true) := ⟨rfl, rfl⟩
    obtain ⟨LB, hLB⟩ : ∃ LB : Int, LB = 0 := ⟨_, rfl⟩
    have H4b : Hid (FsAt w w6 ⟨0, 0, ⟨#[]⟩, 0, 0, LB⟩) := by unfold Hid; rw [hLB]; exact H4.out
    have HLB : Hid (LB = (((labI (labV f false l)).1 : Nat) : Int) ∧ (labI (labV f false l)).2 = true) := by unfold Hid; rw [HV3.out, hLB]; exact ⟨rfl, rfl⟩
    have n0 := H4b.out.n0
    have y0 := H4b.out.nf 0 (by omega)
    obtain ⟨w8, hset0⟩ : ∃ w8, w6.setCell ⟨w.heap.size + 1, 0, none⟩ (.int .i64 f) = w8 := ⟨_, rfl⟩
    have H8 : Hid (FsAt w w8 ⟨f, 0, ⟨#[]⟩, 0, 0, LB⟩) := hset0 ▸ H4b.out.set 0 _ _ rfl (by omega)
    simp only at n0
    clear hv1 hr HLV hLB HV3 H4 H4b
    go_wp2_with (first | (go_at_call 52; refine Calls.mono (KD.out _) ?_; rintro e wk ⟨rfl, hwk⟩; obtain rfl : w8 = wk := hwk.symm; clear hwk) | (go_at_call 49; refine Calls.mono (KL.out _) ?_; rintro e wk ⟨rfl, hwk⟩; obtain rfl : w3 = wk := hwk.symm; clear hwk))
    clear hset0 n0 y0 hmk
    have H9 : Hid (FsAt w (w8.alloc (.cells (madeCells #[.int .u8 0] N) 5)) ⟨f, 0, ⟨#[]⟩, 0, 0, LB⟩) := H8.out.below' ((Below.refl _ _).alloc (Nat.le_refl _) _)
    have hrb : w.heap.size + 2 ≤ w8.heap.size := H8.out.siz
    obtain ⟨R, hR⟩ : ∃ R : List UInt8, R = (l.drop 4).take nb := ⟨_, rfl⟩
    have HM : Hid (Row (w8.alloc (.cells (madeCells #[.int .u8 0] N) 5)) w8.heap.size (adr R 0 N)) := by unfold Hid; rw [adr_zero]; exact Row.made w8 N _ rfl
    clear H8
    generalize w8.alloc (.cells (madeCells #[.int .u8 0] N) 5) = w9 at *
    generalize w8.heap.size = rb at *
    have HRB : Hid (w.heap.size + 2 ≤ rb) := hrb
    have HR : Hid (R = (l.drop 4).take nb) := hR
    have HNBE : Hid (nb = (bn + 7) / 8) := hnb
    have HBN : Hid (bn ≤ 8 * N) := by unfold Hid; omega
    clear hrb hR hnb
    go_loopw [14] (fun i wr => ∃ k : Nat, k ≤ bn ∧ i = .int .i64 k ∧ Row wr rb (adr R k N) ∧ FsAt w wr ⟨f, 0, ⟨#[]⟩, 0, 0, LB⟩) (fun i _ => bn - (intOf i).toNat)
    case atStart => exact ⟨0, Nat.zero_le _, rfl, HM.out, H9.out⟩
    case round =>
      obtain ⟨k, hk, rfl, hrow, hfs⟩ := hrel
      by_cases hlt : k < bn
      · have hkN : k / 8 < N := by have := HBN.out; omega
        have hkn : k / 8 < nb := by have := HNBE.out; omega
        have hq : k / 8 < (adr R k N).length := by rw [adr_length]; exact hkN
        have hc := (hrow (k / 8) hq).1
        have hf := (hrow (k / 8) hq).2
        have hix : 4 + k / 8 < l.length := by omega
        have HBY : Hid (bitAt R k = (((⟨l.toArray⟩ : ByteArray)[4 + k / 8]'(by rw [list_size]; exact hix)).toNat / 2 ^ (7 - k % 8) % 2)) := by
          unfold Hid bitAt
          rw [HR.out, List.getD_eq_getElem?_getD, List.getElem?_take, if_pos hkn, List.getElem?_drop, List.getElem?_eq_getElem hix, Option.getD_some]
          rfl
        have hb256 : ((⟨l.toArray⟩ : ByteArray)[4 + k / 8]'(by rw [list_size]; exact hix)).toNat < 256 := UInt8.toNat_lt _
        have HRW : Hid (Row wr rb (adr R k N)) := hrow
        have HFS : Hid (FsAt w wr ⟨f, 0, ⟨#[]⟩, 0, 0, LB⟩) := hfs
        clear hrow hfs
        have hsz : 4 + k / 8 < (⟨l.toArray⟩ : ByteArray).size := by rw [list_size]; exact hix
        have hsz2 : (4 : Int) + (k : Int) / 8 < (⟨l.toArray⟩ : ByteArray).size := by rw [list_size]; omega
        have hsz3 : ((4 + k / 8 : Nat) : Int) < (⟨l.toArray⟩ : ByteArray).size := by rw [list_size]; omega
        have hsz4 : (4 : Int) + (k : Int) / 8 < (l.length : Int) := by omega
        have ht1 : ((4 : Int) + (k : Int) / 8).toNat = 4 + k / 8 := by omega
        have h01 : (0 : Int) ≤ (4 : Int) + (k : Int) / 8 := by omega
        have hq' : (k : Int) / 8 < N := by omega
        have hq0 : (0 : Int) ≤ (k : Int) / 8 := by omega
        have hqt : ((k : Int) / 8).toNat = k / 8 := by omega
        have hq3 : ((k / 8 : Nat) : Int) < N := by omega
        have hq4 : (0 : Int) ≤ ((k / 8 : Nat) : Int) := by omega
        have w1 : IntKind.i64.wrap ((k : Int) / 8) = (k : Int) / 8 := by rw [IntKind.wrap_i64]; omega
        have w2 : Int.tmod (k : Int) 8 = ((k % 8 : Nat) : Int) := by rw [Int.tmod_eq_emod_of_nonneg (by omega)]; rfl
        have w3' : IntKind.i64.wrap ((4 : Int) + (k : Int) / 8) = (4 : Int) + (k : Int) / 8 := by rw [IntKind.wrap_i64]; omega
        have HS : Hid (adr R (k + 1) N = (adr R k N).set (k / 8) ((adr R k N).getD (k / 8) 0 ||| UInt8.ofNat (bitAt R k * 2 ^ (7 - k % 8)))) := adr_succ R k N hkN
        have HVAL : Hid (bits .or .u8 (((adr R k N)[k / 8]'hq).toNat : Int) (bits .and .u8 (((⟨l.toArray⟩ : ByteArray)[4 + k / 8]'hsz).toNat : Int) ((128 : Int) / 2 ^ (k % 8))) = (((adr R k N)[k / 8]'hq ||| UInt8.ofNat (bitAt R k * 2 ^ (7 - k % 8))).toNat : Int)) := or_u8 _ _ _ (by
          rw [and_bit' _ _ hb256 (Nat.mod_lt _ (by decide)), HBY.out, Nat.mod_eq_of_lt (bitp_lt _ _)])
        go_wp2
        go_region
        go_wp2
        go_roundw
        case rel =>
          refine ⟨k + 1, by omega, by go_num, ?_, HFS.out.below (((Below.refl _ _).setCell (p := ⟨rb, k / 8, none⟩) HRB.out _).drew)⟩
          rw [HS.out, List.getD_eq_getElem?_getD, List.getElem?_eq_getElem hq, Option.getD_some, HVAL.out]
          exact (HRW.out.set (k / 8) _).drew
        case measure => simp [intOf]; omega
      · have hkb : bn = k := by omega
        subst hkb
        have hback := run_convert_bytes_back (P := Tryz.prog) wr 60 9 5 ⟨rb, 0, none⟩ N (adr R bn N) Tryz.underlying60 Tryz.underlying5 Tryz.underlying9 (fun j hj => by rw [addr_zero]; exact (hrow j hj).1)
        rw [adr_length] at hback
        have HFS : Hid (FsAt w wr ⟨f, 0, ⟨#[]⟩, 0, 0, LB⟩) := hfs
        clear hrow hfs
        have n2 := HFS.out.n2
        have y2 := HFS.out.nf 2 (by omega)
        obtain ⟨AD, hAD⟩ : ∃ AD : ByteArray, AD = ⟨(adr R bn N).toArray⟩ := ⟨_, rfl⟩
        rw [← hAD] at hback
        have HAD : Hid (AD = ⟨(adr R bn N).toArray⟩) := hAD
        clear hAD
        obtain ⟨w11, hset2⟩ : ∃ w11, wr.setCell ⟨w.heap.size + 1, 2, none⟩ (.string AD) = w11 := ⟨_, rfl⟩
        have H11 : Hid (FsAt w w11 ⟨f, 0, AD, 0, 0, LB⟩) := hset2 ▸ HFS.out.set 2 _ _ rfl (by omega)
        have n3 := H11.out.n3
        have y3 := H11.out.nf 3 (by omega)
        obtain ⟨w12, hset3⟩ : ∃ w12, w11.setCell ⟨w.heap.size + 1, 3, none⟩ (.int .i64 (bn : Int)) = w12 := ⟨_, rfl⟩
        have H12 : Hid (FsAt w w12 ⟨f, 0, AD, (bn : Int), 0, LB⟩) := hset3 ▸ H11.out.set 3 _ _ rfl (by omega)
        simp only at n2 n3
        have HOK : Hid (okI f false l) := ⟨by rw [HID.out]; omega, by rw [HBT.out]; omega, by rw [HBT.out, HN.out]; omega, by rw [HBT.out, HHD.out, HNB.out]; omega, Or.inr HLB.out.2⟩
        have HNL : Hid (nlI f false l = ⟨f, 0, AD, (bn : Int), 0, LB⟩) := by
          unfold Hid nlI
          rw [HBT.out, HHD.out, HNB.out, HN.out, HAD.out, HR.out, HLB.out.1]
          simp only [HL.out.1, HL.out.2.1, HID.out, Int.toNat_natCast, List.take_zero, worth_nil2]
          try rfl
        have HUS : Hid (((hdN f false + (byN (bitI' f false l)).toNat : Nat) : Int) = (4 : Int) + ((bn : Int) + 7) / 8) := by unfold Hid; rw [HBT.out, HHD.out, HNB.out, Int.toNat_natCast]; have := HNBE.out; omega
        have n0 := H12.out.n0
        have n1 := H12.out.n1
        have n2 := H12.out.n2
        have n3 := H12.out.n3
        have n4 := H12.out.n4
        have n5 := H12.out.n5
        have z0 := H12.out.z0
        have z1 := H12.out.z1
        have z2 := H12.out.z2
        have z3 := H12.out.z3
        have z4 := H12.out.z4
        have z5 := H12.out.z5
        have y0 := H12.out.zf 0 (by omega)
        have y1 := H12.out.zf 1 (by omega)
        have y2 := H12.out.zf 2 (by omega)
        have y3 := H12.out.zf 3 (by omega)
        have y4 := H12.out.zf 4 (by omega)
        have y5 := H12.out.zf 5 (by omega)
        simp only at n0 n1 n2 n3 n4 n5
        go_wp2
        refine bodyPost_ret (v := .tuple #[.agg #[.int .i64 f, .int .u64 0, .string AD, .int .i64 (bn : Int), .int .u32 (0), .int .u32 LB], .int .i64 ((4 : Int) + ((bn : Int) + 7) / 8)]) (by simp [results, Tryz.results45, go_sem, z0, z1, z2, z3, z4, z5]) rfl ?_
        refine ⟨H12.out.fin _ _ _ _ _ _, Or.inl ⟨HOK.out, ?_⟩⟩
        rw [HNL.out, HUS.out]
  · have h2 : V % 2 = 1 := by omega
    have hv0 : bits .and .u32 (V : Int) 1 = 1 := by rw [hv1, h2]; rfl
    have hn1 : ((V : Int) == 8388608) = false := by simp; omega
    have hn2 : ((V : Int) != 8388608) = true := by simp; omega
    obtain ⟨LB, hLB⟩ : ∃ LB : Int, (V : Int) / 16 = LB := ⟨_, rfl⟩
    have HLB : Hid (LB = (((labI (labV f false l)).1 : Nat) : Int) ∧ (labI (labV f false l)).2 = true) := by unfold Hid; rw [HV3.out, ← hLB]; unfold labI; rw [if_neg h80, if_neg (by omega)]; exact ⟨by simp, rfl⟩
    have n5 := H4.out.n5
    have y5 := H4.out.nf 5 (by omega)
    obtain ⟨w7, hset5⟩ : ∃ w7, w6.setCell ⟨w.heap.size + 1, 5, none⟩ (.int .u32 LB) = w7 := ⟨_, rfl⟩
    have H7 : Hid (FsAt w w7 ⟨0, 0, ⟨#[]⟩, 0, 0, LB⟩) := hset5 ▸ H4.out.set 5 _ _ rfl (by omega)
    simp only at n5
    have n0 := H7.out.n0
    have y0 := H7.out.nf 0 (by omega)
    obtain ⟨w8, hset0⟩ : ∃ w8, w7.setCell ⟨w.heap.size + 1, 0, none⟩ (.int .i64 f) = w8 := ⟨_, rfl⟩
    have H8 : Hid (FsAt w w8 ⟨f, 0, ⟨#[]⟩, 0, 0, LB⟩) := hset0 ▸ H7.out.set 0 _ _ rfl (by omega)
    simp only at n0
    clear hv1 hr h2 h80 HV3 H4 H7
    go_wp2_with (first | (go_at_call 52; refine Calls.mono (KD.out _) ?_; rintro e wk ⟨rfl, hwk⟩; obtain rfl : w8 = wk := hwk.symm; clear hwk) | (go_at_call 49; refine Calls.mono (KL.out _) ?_; rintro e wk ⟨rfl, hwk⟩; obtain rfl : w3 = wk := hwk.symm; clear hwk))
    clear hset0 hset5 n0 y0 n5 y5 hv0 hn1 hn2 hmk
    have H9 : Hid (FsAt w (w8.alloc (.cells (madeCells #[.int .u8 0] N) 5)) ⟨f, 0, ⟨#[]⟩, 0, 0, LB⟩) := H8.out.below' ((Below.refl _ _).alloc (Nat.le_refl _) _)
    have hrb : w.heap.size + 2 ≤ w8.heap.size := H8.out.siz
    obtain ⟨R, hR⟩ : ∃ R : List UInt8, R = (l.drop 4).take nb := ⟨_, rfl⟩
    have HM : Hid (Row (w8.alloc (.cells (madeCells #[.int .u8 0] N) 5)) w8.heap.size (adr R 0 N)) := by unfold Hid; rw [adr_zero]; exact Row.made w8 N _ rfl
    clear H8
    generalize w8.alloc (.cells (madeCells #[.int .u8 0] N) 5) = w9 at *
    generalize w8.heap.size = rb at *
    have HRB : Hid (w.heap.size + 2 ≤ rb) := hrb
    have HR : Hid (R = (l.drop 4).take nb) := hR
    have HNBE : Hid (nb = (bn + 7) / 8) := hnb
    have HBN : Hid (bn ≤ 8 * N) := by unfold Hid; omega
    clear hrb hR hnb
    go_loopw [14] (fun i wr => ∃ k : Nat, k ≤ bn ∧ i = .int .i64 k ∧ Row wr rb (adr R k N) ∧ FsAt w wr ⟨f, 0, ⟨#[]⟩, 0, 0, LB⟩) (fun i _ => bn - (intOf i).toNat)
    case atStart => exact ⟨0, Nat.zero_le _, rfl, HM.out, H9.out⟩
    case round =>
      obtain ⟨k, hk, rfl, hrow, hfs⟩ := hrel
      by_cases hlt : k < bn
      · have hkN : k / 8 < N := by have := HBN.out; omega
        have hkn : k / 8 < nb := by have := HNBE.out; omega
        have hq : k / 8 < (adr R k N).length := by rw [adr_length]; exact hkN
        have hc := (hrow (k / 8) hq).1
        have hf := (hrow (k / 8) hq).2
        have hix : 4 + k / 8 < l.length := by omega
        have HBY : Hid (bitAt R k = (((⟨l.toArray⟩ : ByteArray)[4 + k / 8]'(by rw [list_size]; exact hix)).toNat / 2 ^ (7 - k % 8) % 2)) := by
          unfold Hid bitAt
          rw [HR.out, List.getD_eq_getElem?_getD, List.getElem?_take, if_pos hkn, List.getElem?_drop, List.getElem?_eq_getElem hix, Option.getD_some]
          rfl
        have hb256 : ((⟨l.toArray⟩ : ByteArray)[4 + k / 8]'(by rw [list_size]; exact hix)).toNat < 256 := UInt8.toNat_lt _
        have HRW : Hid (Row wr rb (adr R k N)) := hrow
        have HFS : Hid (FsAt w wr ⟨f, 0, ⟨#[]⟩, 0, 0, LB⟩) := hfs
        clear hrow hfs
        have hsz : 4 + k / 8 < (⟨l.toArray⟩ : ByteArray).size := by rw [list_size]; exact hix
        have hsz2 : (4 : Int) + (k : Int) / 8 < (⟨l.toArray⟩ : ByteArray).size := by rw [list_size]; omega
        have hsz3 : ((4 + k / 8 : Nat) : Int) < (⟨l.toArray⟩ : ByteArray).size := by rw [list_size]; omega
        have hsz4 : (4 : Int) + (k : Int) / 8 < (l.length : Int) := by omega
        have ht1 : ((4 : Int) + (k : Int) / 8).toNat = 4 + k / 8 := by omega
        have h01 : (0 : Int) ≤ (4 : Int) + (k : Int) / 8 := by omega
        have hq' : (k : Int) / 8 < N := by omega
        have hq0 : (0 : Int) ≤ (k : Int) / 8 := by omega
        have hqt : ((k : Int) / 8).toNat = k / 8 := by omega
        have hq3 : ((k / 8 : Nat) : Int) < N := by omega
        have hq4 : (0 : Int) ≤ ((k / 8 : Nat) : Int) := by omega
        have w1 : IntKind.i64.wrap ((k : Int) / 8) = (k : Int) / 8 := by rw [IntKind.wrap_i64]; omega
        have w2 : Int.tmod (k : Int) 8 = ((k % 8 : Nat) : Int) := by rw [Int.tmod_eq_emod_of_nonneg (by omega)]; rfl
        have w3' : IntKind.i64.wrap ((4 : Int) + (k : Int) / 8) = (4 : Int) + (k : Int) / 8 := by rw [IntKind.wrap_i64]; omega
        have HS : Hid (adr R (k + 1) N = (adr R k N).set (k / 8) ((adr R k N).getD (k / 8) 0 ||| UInt8.ofNat (bitAt R k * 2 ^ (7 - k % 8)))) := adr_succ R k N hkN
        have HVAL : Hid (bits .or .u8 (((adr R k N)[k / 8]'hq).toNat : Int) (bits .and .u8 (((⟨l.toArray⟩ : ByteArray)[4 + k / 8]'hsz).toNat : Int) ((128 : Int) / 2 ^ (k % 8))) = (((adr R k N)[k / 8]'hq ||| UInt8.ofNat (bitAt R k * 2 ^ (7 - k % 8))).toNat : Int)) := or_u8 _ _ _ (by
          rw [and_bit' _ _ hb256 (Nat.mod_lt _ (by decide)), HBY.out, Nat.mod_eq_of_lt (bitp_lt _ _)])
        go_wp2
        go_region
        go_wp2
        go_roundw
        case rel =>
          refine ⟨k + 1, by omega, by go_num, ?_, HFS.out.below (((Below.refl _ _).setCell (p := ⟨rb, k / 8, none⟩) HRB.out _).drew)⟩
          rw [HS.out, List.getD_eq_getElem?_getD, List.getElem?_eq_getElem hq, Option.getD_some, HVAL.out]
          exact (HRW.out.set (k / 8) _).drew
        case measure => simp [intOf]; omega
      · have hkb : bn = k := by omega
        subst hkb
        have hback := run_convert_bytes_back (P := Tryz.prog) wr 60 9 5 ⟨rb, 0, none⟩ N (adr R bn N) Tryz.underlying60 Tryz.underlying5 Tryz.underlying9 (fun j hj => by rw [addr_zero]; exact (hrow j hj).1)
        rw [adr_length] at hback
        have HFS : Hid (FsAt w wr ⟨f, 0, ⟨#[]⟩, 0, 0, LB⟩) := hfs
        clear hrow hfs
        have n2 := HFS.out.n2
        have y2 := HFS.out.nf 2 (by omega)
        obtain ⟨AD, hAD⟩ : ∃ AD : ByteArray, AD = ⟨(adr R bn N).toArray⟩ := ⟨_, rfl⟩
        rw [← hAD] at hback
        have HAD : Hid (AD = ⟨(adr R bn N).toArray⟩) := hAD
        clear hAD
        obtain ⟨w11, hset2⟩ : ∃ w11, wr.setCell ⟨w.heap.size + 1, 2, none⟩ (.string AD) = w11 := ⟨_, rfl⟩
        have H11 : Hid (FsAt w w11 ⟨f, 0, AD, 0, 0, LB⟩) := hset2 ▸ HFS.out.set 2 _ _ rfl (by omega)
        have n3 := H11.out.n3
        have y3 := H11.out.nf 3 (by omega)
        obtain ⟨w12, hset3⟩ : ∃ w12, w11.setCell ⟨w.heap.size + 1, 3, none⟩ (.int .i64 (bn : Int)) = w12 := ⟨_, rfl⟩
        have H12 : Hid (FsAt w w12 ⟨f, 0, AD, (bn : Int), 0, LB⟩) := hset3 ▸ H11.out.set 3 _ _ rfl (by omega)
        simp only at n2 n3
        have HOK : Hid (okI f false l) := ⟨by rw [HID.out]; omega, by rw [HBT.out]; omega, by rw [HBT.out, HN.out]; omega, by rw [HBT.out, HHD.out, HNB.out]; omega, Or.inr HLB.out.2⟩
        have HNL : Hid (nlI f false l = ⟨f, 0, AD, (bn : Int), 0, LB⟩) := by
          unfold Hid nlI
          rw [HBT.out, HHD.out, HNB.out, HN.out, HAD.out, HR.out, HLB.out.1]
          simp only [HL.out.1, HL.out.2.1, HID.out, Int.toNat_natCast, List.take_zero, worth_nil2]
          try rfl
        have HUS : Hid (((hdN f false + (byN (bitI' f false l)).toNat : Nat) : Int) = (4 : Int) + ((bn : Int) + 7) / 8) := by unfold Hid; rw [HBT.out, HHD.out, HNB.out, Int.toNat_natCast]; have := HNBE.out; omega
        have n0 := H12.out.n0
        have n1 := H12.out.n1
        have n2 := H12.out.n2
        have n3 := H12.out.n3
        have n4 := H12.out.n4
        have n5 := H12.out.n5
        have z0 := H12.out.z0
        have z1 := H12.out.z1
        have z2 := H12.out.z2
        have z3 := H12.out.z3
        have z4 := H12.out.z4
        have z5 := H12.out.z5
        have y0 := H12.out.zf 0 (by omega)
        have y1 := H12.out.zf 1 (by omega)
        have y2 := H12.out.zf 2 (by omega)
        have y3 := H12.out.zf 3 (by omega)
        have y4 := H12.out.zf 4 (by omega)
        have y5 := H12.out.zf 5 (by omega)
        simp only at n0 n1 n2 n3 n4 n5
        go_wp2
        refine bodyPost_ret (v := .tuple #[.agg #[.int .i64 f, .int .u64 0, .string AD, .int .i64 (bn : Int), .int .u32 (0), .int .u32 LB], .int .i64 ((4 : Int) + ((bn : Int) + 7) / 8)]) (by simp [results, Tryz.results45, go_sem, z0, z1, z2, z3, z4, z5]) rfl ?_
        refine ⟨H12.out.fin _ _ _ _ _ _, Or.inl ⟨HOK.out, ?_⟩⟩
        rw [HNL.out, HUS.out]
end Go.Proofs.YtfhbgpepkplbaaaGreatDoor
namespace Go.Proofs.YtfhbgpepkplbaaaGreatDoor
open Go.RowKit
set_option maxRecDepth 100000 in
set_option maxHeartbeats 12800000 in
theorem first_tn (f : Int) (l : List UInt8) (w : World) (hl : lab f = false) (hd : dst f = false) (hle : l.length ≤ 1000000) :
    Calls Tryz.prog 45 #[.string ⟨l.toArray⟩, .int .i64 f, .bool true] w fun e w' => FirstOk f true l w e w' := by
  have hlN : lbN f = 0 := by simp [lbN, hl]
  have hdN' : rdN f = 0 := by simp [rdN, hd]
  have hex : exN f = 0 := by simp [exN, hlN, hdN']
  have HID : Hid (idN true = 4) := rfl
  have HHD : Hid (hdN f true = 5) := by unfold Hid hdN; rw [hlN, hdN', HID.out]
  have HL : Hid (lbN f = 0 ∧ rdN f = 0 ∧ exN f = 0) := ⟨hlN, hdN', hex⟩
  have KA : Hid (∀ w, Calls Tryz.prog 51 #[.int .i64 f] w fun e w' => e = .returned (.int .i64 0) ∧ w' = w) := fun w => by have := ahead_any f w; rw [hex] at this; exact this
  have KL : Hid (∀ w, Calls Tryz.prog 49 #[.int .i64 f] w fun e w' => e = .returned (.bool false) ∧ w' = w) := fun w => by have := rlab_any f w; rw [hl] at this; exact this
  have KD : Hid (∀ w, Calls Tryz.prog 52 #[.int .i64 f] w fun e w' => e = .returned (.bool false) ∧ w' = w) := fun w => by have := rdst_any f w; rw [hd] at this; exact this
  obtain ⟨N, hN⟩ := Int.eq_ofNat_of_zero_le (szOf_bd f).1
  have hN16 : N ≤ 16 := by have := (szOf_bd f).2; omega
  have HN : Hid (szOf f = (N : Int)) := hN
  have KS : Hid (∀ w, Calls Tryz.prog 37 #[.int .i64 f] w fun e w' => e = .returned (.int .i64 (N : Int)) ∧ w' = w) := fun w => by have := refsize_any f w; rw [hN] at this; exact this
  have H0 : Hid (FsAt w ((w.alloc (.cells #[.int .i64 0, .int .u64 0, .string ⟨#[]⟩, .int .i64 0, .int .u32 0, .int .u32 0] 27)).alloc (.cells #[.int .i64 0, .int .u64 0, .string ⟨#[]⟩, .int .i64 0, .int .u32 0, .int .u32 0] 27)) ⟨0, 0, ⟨#[]⟩, 0, 0, 0⟩) := FsAt.start w
  clear hl hd hlN hdN' hex hN
  by_cases h4 : l.length < 4
  · have h4' : (l.length : Int) < 4 := by omega
    have HNO : Hid (¬ okI f true l) := fun h => by have := h.1; rw [HID.out] at this; omega
    clear H0
    go_enter Tryz.func45, Tryz.ntmps45
    go_wp2
    refine bodyPost_ret (v := .tuple #[.agg #[.int .i64 0, .int .u64 0, .string ⟨#[]⟩, .int .i64 0, .int .u32 0, .int .u32 0], .int .i64 0]) (by simp [results, Tryz.results45, go_sem]) rfl ?_
    exact ⟨((Below.refl _ _).alloc (by simp) _).alloc (by simp) _, Or.inr ⟨HNO.out, _, rfl⟩⟩
  have h4' : ¬ ((l.length : Int) < 4) := by omega
  have KN : Hid (∀ w, Calls Tryz.prog 77 #[.string ⟨l.toArray⟩] w fun e w' => e = .returned (.int .u32 (worth (l.take 4) : Nat)) ∧ Below w.heap.size w w') := fun w => num4_any ⟨l.toArray⟩ w (by rw [list_size]; omega) (by rw [list_size]; omega)
  go_enter Tryz.func45, Tryz.ntmps45
  go_wp2_with fail
  refine Calls.mono (KN.out _) ?_
  rintro e w1 ⟨rfl, hb1⟩
  have H1 : Hid (FsAt w w1 ⟨0, 0, ⟨#[]⟩, 0, 0, 0⟩) := H0.out.below' hb1
  have n4 := H1.out.n4
  have y4 := H1.out.nf 4 (by omega)
  obtain ⟨w2, hset⟩ : ∃ w2, w1.setCell ⟨w.heap.size + 1, 4, none⟩ (.int .u32 (worth (l.take 4) : Nat)) = w2 := ⟨_, rfl⟩
  have H2 : Hid (FsAt w w2 ⟨0, 0, ⟨#[]⟩, 0, (worth (l.take 4) : Nat), 0⟩) := hset ▸ H1.out.set 4 _ _ rfl (by omega)
  simp only at n4
  clear hb1 H0 KN H1
  by_cases h5 : l.length ≤ 4
  · have h5' : (l.length : Int) ≤ 4 := by omega
    have HNO : Hid (¬ okI f true l) := fun h => by have := h.1; rw [HID.out] at this; omega
    have n0 := H2.out.n0
    have n1 := H2.out.n1
    have n2 := H2.out.n2
    have n3 := H2.out.n3
    have n4 := H2.out.n4
    have n5 := H2.out.n5
    have z0 := H2.out.z0
    have z1 := H2.out.z1
    have z2 := H2.out.z2
    have z3 := H2.out.z3
    have z4 := H2.out.z4
    have z5 := H2.out.z5
    have y0 := H2.out.zf 0 (by omega)
    have y1 := H2.out.zf 1 (by omega)
    have y2 := H2.out.zf 2 (by omega)
    have y3 := H2.out.zf 3 (by omega)
    have y4 := H2.out.zf 4 (by omega)
    have y5 := H2.out.zf 5 (by omega)
    simp only at n0 n1 n2 n3 n4 n5
    go_wp2
    refine bodyPost_ret (v := .tuple #[.agg #[.int .i64 0, .int .u64 0, .string ⟨#[]⟩, .int .i64 0, .int .u32 (((worth (l.take 4) : Nat) : Int)), .int .u32 0], .int .i64 0]) (by simp [results, Tryz.results45, go_sem, z0, z1, z2, z3, z4, z5]) rfl ?_
    exact ⟨H2.out.fin _ _ _ _ _ _, Or.inr ⟨HNO.out, _, rfl⟩⟩
  have h5' : ¬ ((l.length : Int) ≤ 4) := by omega
  have h5n : 4 < l.length := by omega
  have h5b : 4 < (⟨l.toArray⟩ : ByteArray).size := by rw [list_size]; omega
  have h5c : (4 : Int) < (⟨l.toArray⟩ : ByteArray).size := by rw [list_size]; omega
  go_wp2
  go_quiet ((go_at_call 51; refine Calls.quiet_of_same (KA.out _)))
  have HCB : Hid (worth ((l.drop 4).take 1) = ((⟨l.toArray⟩ : ByteArray)[4]'h5b).toNat) := byte_at l 4 h5n
  have hcb : ((⟨l.toArray⟩ : ByteArray)[4]'h5b).toNat < 256 := UInt8.toNat_lt _
  generalize ((⟨l.toArray⟩ : ByteArray)[4]'h5b).toNat = cb at *
  obtain ⟨bt, hbt⟩ : ∃ bt : Int, bt = (cb : Int) := ⟨_, rfl⟩
  have e1 : wrap64 (cb : Int) = cb := wrap64_id _ (by omega) (by omega)
  rw [e1, ← hbt]
  have e1b : wrap64 bt = bt := by rw [hbt]; exact e1
  have HBT : Hid (bitI' f true l = bt) := by unfold Hid bitI'; rw [HID.out, HCB.out, HL.out.2.2, hbt]; simp
  have hb1 : -1000 ≤ bt := by omega
  have hb2 : bt ≤ 1000 := by omega
  have H3 : Hid (FsAt w (w2.drewN nq) ⟨0, 0, ⟨#[]⟩, 0, ((worth (l.take 4) : Nat) : Int), 0⟩) := H2.out.below' (below_drewN (Below.refl _ _) _)
  generalize w2.drewN nq = w3 at *
  clear H2 hset e1 hbt hcb HCB
  by_cases h6 : bt < 0
  · have HNO : Hid (¬ okI f true l) := fun h => by have := h.2.1; rw [HBT.out] at this; omega
    have n0 := H3.out.n0
    have n1 := H3.out.n1
    have n2 := H3.out.n2
    have n3 := H3.out.n3
    have n4 := H3.out.n4
    have n5 := H3.out.n5
    have z0 := H3.out.z0
    have z1 := H3.out.z1
    have z2 := H3.out.z2
    have z3 := H3.out.z3
    have z4 := H3.out.z4
    have z5 := H3.out.z5
    have y0 := H3.out.zf 0 (by omega)
    have y1 := H3.out.zf 1 (by omega)
    have y2 := H3.out.zf 2 (by omega)
    have y3 := H3.out.zf 3 (by omega)
    have y4 := H3.out.zf 4 (by omega)
    have y5 := H3.out.zf 5 (by omega)
    simp only at n0 n1 n2 n3 n4 n5
    go_wp2_with (first | (go_at_call 37; refine Calls.mono (KS.out _) ?_; rintro e w5 ⟨rfl, hw5⟩; subst hw5) | (go_at_call 51; refine Calls.mono (KA.out _) ?_; rintro e w5 ⟨rfl, hw5⟩; subst hw5))
    refine bodyPost_ret (v := .tuple #[.agg #[.int .i64 0, .int .u64 0, .string ⟨#[]⟩, .int .i64 0, .int .u32 (((worth (l.take 4) : Nat) : Int)), .int .u32 0], .int .i64 0]) (by simp [results, Tryz.results45, go_sem, z0, z1, z2, z3, z4, z5]) rfl ?_
    exact ⟨H3.out.fin _ _ _ _ _ _, Or.inr ⟨HNO.out, _, rfl⟩⟩
  have h6' : ¬ (bt < 0) := h6
  have e8 : wrap64 (8 * (N : Int)) = 8 * (N : Int) := wrap64_id _ (by omega) (by omega)
  by_cases h7 : 8 * (N : Int) < bt
  · have HNO : Hid (¬ okI f true l) := fun h => by have := h.2.2.1; rw [HBT.out, HN.out] at this; omega
    have n0 := H3.out.n0
    have n1 := H3.out.n1
    have n2 := H3.out.n2
    have n3 := H3.out.n3
    have n4 := H3.out.n4
    have n5 := H3.out.n5
    have z0 := H3.out.z0
    have z1 := H3.out.z1
    have z2 := H3.out.z2
    have z3 := H3.out.z3
    have z4 := H3.out.z4
    have z5 := H3.out.z5
    have y0 := H3.out.zf 0 (by omega)
    have y1 := H3.out.zf 1 (by omega)
    have y2 := H3.out.zf 2 (by omega)
    have y3 := H3.out.zf 3 (by omega)
    have y4 := H3.out.zf 4 (by omega)
    have y5 := H3.out.zf 5 (by omega)
    simp only at n0 n1 n2 n3 n4 n5
    go_wp2_with (first | (go_at_call 37; refine Calls.mono (KS.out _) ?_; rintro e w5 ⟨rfl, hw5⟩; subst hw5) | (go_at_call 51; refine Calls.mono (KA.out _) ?_; rintro e w5 ⟨rfl, hw5⟩; subst hw5))
    refine bodyPost_ret (v := .tuple #[.agg #[.int .i64 0, .int .u64 0, .string ⟨#[]⟩, .int .i64 0, .int .u32 (((worth (l.take 4) : Nat) : Int)), .int .u32 0], .int .i64 0]) (by simp [results, Tryz.results45, go_sem, z0, z1, z2, z3, z4, z5]) rfl ?_
    exact ⟨H3.out.fin _ _ _ _ _ _, Or.inr ⟨HNO.out, _, rfl⟩⟩
  have h7' : ¬ (8 * (N : Int) < bt) := h7
  obtain ⟨bn, rfl⟩ := Int.eq_ofNat_of_zero_le (by omega : 0 ≤ bt)
  obtain ⟨nb, hnb⟩ : ∃ nb, nb = (bn + 7) / 8 := ⟨_, rfl⟩
  have HNB : Hid (byN (bn : Int) = (nb : Int)) := by unfold Hid; rw [byN_nat, hnb]
  have e9 : wrap64 ((bn : Int) + 7) = (bn : Int) + 7 := wrap64_id _ (by omega) (by omega)
  have e10 : wrap64 (((bn : Int) + 7).tdiv 8) = (nb : Int) := by
    have := HNB.out
    unfold byN at this
    rw [this]; exact wrap64_id _ (by omega) (by omega)
  obtain ⟨tt, htt⟩ : ∃ tt : Int, tt = 5 + (nb : Int) := ⟨_, rfl⟩
  have HTT : Hid (tt = 5 + (nb : Int)) := htt
  have hnb16 : nb ≤ 16 := by omega
  have e11 : wrap64 (5 + (nb : Int)) = tt := by rw [htt]; exact wrap64_id _ (by omega) (by omega)
  have e12 : 5 + (nb : Int) = tt := htt.symm
  clear htt
  by_cases h8 : (l.length : Int) < tt
  · have HNO : Hid (¬ okI f true l) := fun h => by have := h.2.2.2.1; rw [HBT.out, HHD.out, HNB.out] at this; have := HTT.out; omega
    have n0 := H3.out.n0
    have n1 := H3.out.n1
    have n2 := H3.out.n2
    have n3 := H3.out.n3
    have n4 := H3.out.n4
    have n5 := H3.out.n5
    have z0 := H3.out.z0
    have z1 := H3.out.z1
    have z2 := H3.out.z2
    have z3 := H3.out.z3
    have z4 := H3.out.z4
    have z5 := H3.out.z5
    have y0 := H3.out.zf 0 (by omega)
    have y1 := H3.out.zf 1 (by omega)
    have y2 := H3.out.zf 2 (by omega)
    have y3 := H3.out.zf 3 (by omega)
    have y4 := H3.out.zf 4 (by omega)
    have y5 := H3.out.zf 5 (by omega)
    simp only at n0 n1 n2 n3 n4 n5
    go_wp2_with (first | (go_at_call 37; refine Calls.mono (KS.out _) ?_; rintro e w5 ⟨rfl, hw5⟩; subst hw5) | (go_at_call 51; refine Calls.mono (KA.out _) ?_; rintro e w5 ⟨rfl, hw5⟩; subst hw5))
    refine bodyPost_ret (v := .tuple #[.agg #[.int .i64 0, .int .u64 0, .string ⟨#[]⟩, .int .i64 0, .int .u32 (((worth (l.take 4) : Nat) : Int)), .int .u32 0], .int .i64 0]) (by simp [results, Tryz.results45, go_sem, z0, z1, z2, z3, z4, z5]) rfl ?_
    exact ⟨H3.out.fin _ _ _ _ _ _, Or.inr ⟨HNO.out, _, rfl⟩⟩
  have h8' : ¬ ((l.length : Int) < tt) := h8
  have h8n : 5 + nb ≤ l.length := by have := HTT.out; omega
  have hmk := made_bytes N (by omega)
  obtain ⟨LB, hLB⟩ : ∃ LB : Int, LB = 0 := ⟨_, rfl⟩
  have H3b : Hid (FsAt w w3 ⟨0, 0, ⟨#[]⟩, 0, ((worth (l.take 4) : Nat) : Int), LB⟩) := by unfold Hid; rw [hLB]; exact H3.out
  have HLB : Hid (LB = (((labI (labV f true l)).1 : Nat) : Int)) := by unfold Hid labV; rw [HL.out.1, hLB]; rfl
  have n0 := H3b.out.n0
  have y0 := H3b.out.nf 0 (by omega)
  obtain ⟨w8, hset0⟩ : ∃ w8, w3.setCell ⟨w.heap.size + 1, 0, none⟩ (.int .i64 f) = w8 := ⟨_, rfl⟩
  have H8 : Hid (FsAt w w8 ⟨f, 0, ⟨#[]⟩, 0, ((worth (l.take 4) : Nat) : Int), LB⟩) := hset0 ▸ H3b.out.set 0 _ _ rfl (by omega)
  simp only at n0
  clear hLB H3 H3b
  go_wp2_with (first | (go_at_call 52; refine Calls.mono (KD.out _) ?_; rintro e wk ⟨rfl, hwk⟩; obtain rfl : w8 = wk := hwk.symm; clear hwk) | (go_at_call 49; refine Calls.mono (KL.out _) ?_; rintro e wk ⟨rfl, hwk⟩; obtain rfl : w3 = wk := hwk.symm; clear hwk) | (go_at_call 37; refine Calls.mono (KS.out _) ?_; rintro e wk ⟨rfl, hwk⟩; obtain rfl : w3 = wk := hwk.symm; clear hwk) | (go_at_call 51; refine Calls.mono (KA.out _) ?_; rintro e wk ⟨rfl, hwk⟩; obtain rfl : w3 = wk := hwk.symm; clear hwk))
  clear hmk hset0 n0 y0
  have H9 : Hid (FsAt w (w8.alloc (.cells (madeCells #[.int .u8 0] N) 5)) ⟨f, 0, ⟨#[]⟩, 0, ((worth (l.take 4) : Nat) : Int), LB⟩) := H8.out.below' ((Below.refl _ _).alloc (Nat.le_refl _) _)
  have hrb : w.heap.size + 2 ≤ w8.heap.size := H8.out.siz
  obtain ⟨R, hR⟩ : ∃ R : List UInt8, R = (l.drop 5).take nb := ⟨_, rfl⟩
  have HM : Hid (Row (w8.alloc (.cells (madeCells #[.int .u8 0] N) 5)) w8.heap.size (adr R 0 N)) := by unfold Hid; rw [adr_zero]; exact Row.made w8 N _ rfl
  clear H8
  generalize w8.alloc (.cells (madeCells #[.int .u8 0] N) 5) = w9 at *
  generalize w8.heap.size = rb at *
  have HRB : Hid (w.heap.size + 2 ≤ rb) := hrb
  have HR : Hid (R = (l.drop 5).take nb) := hR
  have HNBE : Hid (nb = (bn + 7) / 8) := hnb
  have HBN : Hid (bn ≤ 8 * N) := by unfold Hid; omega
  clear hrb hR hnb
  go_loopw [14] (fun i wr => ∃ k : Nat, k ≤ bn ∧ i = .int .i64 k ∧ Row wr rb (adr R k N) ∧ FsAt w wr ⟨f, 0, ⟨#[]⟩, 0, ((worth (l.take 4) : Nat) : Int), LB⟩) (fun i _ => bn - (intOf i).toNat)
  case atStart => exact ⟨0, Nat.zero_le _, rfl, HM.out, H9.out⟩
  case round =>
    obtain ⟨k, hk, rfl, hrow, hfs⟩ := hrel
    by_cases hlt : k < bn
    · have hkN : k / 8 < N := by have := HBN.out; omega
      have hkn : k / 8 < nb := by have := HNBE.out; omega
      have hq : k / 8 < (adr R k N).length := by rw [adr_length]; exact hkN
      have hc := (hrow (k / 8) hq).1
      have hf := (hrow (k / 8) hq).2
      have hix : 5 + k / 8 < l.length := by omega
      have HBY : Hid (bitAt R k = (((⟨l.toArray⟩ : ByteArray)[5 + k / 8]'(by rw [list_size]; exact hix)).toNat / 2 ^ (7 - k % 8) % 2)) := by
        unfold Hid bitAt
        rw [HR.out, List.getD_eq_getElem?_getD, List.getElem?_take, if_pos hkn, List.getElem?_drop, List.getElem?_eq_getElem hix, Option.getD_some]
        rfl
      have hb256 : ((⟨l.toArray⟩ : ByteArray)[5 + k / 8]'(by rw [list_size]; exact hix)).toNat < 256 := UInt8.toNat_lt _
      have HRW : Hid (Row wr rb (adr R k N)) := hrow
      have HFS : Hid (FsAt w wr ⟨f, 0, ⟨#[]⟩, 0, ((worth (l.take 4) : Nat) : Int), LB⟩) := hfs
      clear hrow hfs
      have hsz : 5 + k / 8 < (⟨l.toArray⟩ : ByteArray).size := by rw [list_size]; exact hix
      have hsz2 : (5 : Int) + (k : Int) / 8 < (⟨l.toArray⟩ : ByteArray).size := by rw [list_size]; omega
      have hsz3 : ((5 + k / 8 : Nat) : Int) < (⟨l.toArray⟩ : ByteArray).size := by rw [list_size]; omega
      have hsz4 : (5 : Int) + (k : Int) / 8 < (l.length : Int) := by omega
      have ht1 : ((5 : Int) + (k : Int) / 8).toNat = 5 + k / 8 := by omega
      have h01 : (0 : Int) ≤ (5 : Int) + (k : Int) / 8 := by omega
      have hq' : (k : Int) / 8 < N := by omega
      have hq0 : (0 : Int) ≤ (k : Int) / 8 := by omega
      have hqt : ((k : Int) / 8).toNat = k / 8 := by omega
      have hq3 : ((k / 8 : Nat) : Int) < N := by omega
      have hq4 : (0 : Int) ≤ ((k / 8 : Nat) : Int) := by omega
      have w1 : IntKind.i64.wrap ((k : Int) / 8) = (k : Int) / 8 := by rw [IntKind.wrap_i64]; omega
      have w2 : Int.tmod (k : Int) 8 = ((k % 8 : Nat) : Int) := by rw [Int.tmod_eq_emod_of_nonneg (by omega)]; rfl
      have w3' : IntKind.i64.wrap ((5 : Int) + (k : Int) / 8) = (5 : Int) + (k : Int) / 8 := by rw [IntKind.wrap_i64]; omega
      have HS : Hid (adr R (k + 1) N = (adr R k N).set (k / 8) ((adr R k N).getD (k / 8) 0 ||| UInt8.ofNat (bitAt R k * 2 ^ (7 - k % 8)))) := adr_succ R k N hkN
      have HVAL : Hid (bits .or .u8 (((adr R k N)[k / 8]'hq).toNat : Int) (bits .and .u8 (((⟨l.toArray⟩ : ByteArray)[5 + k / 8]'hsz).toNat : Int) ((128 : Int) / 2 ^ (k % 8))) = (((adr R k N)[k / 8]'hq ||| UInt8.ofNat (bitAt R k * 2 ^ (7 - k % 8))).toNat : Int)) := or_u8 _ _ _ (by
        rw [and_bit' _ _ hb256 (Nat.mod_lt _ (by decide)), HBY.out, Nat.mod_eq_of_lt (bitp_lt _ _)])
      go_wp2
      go_region
      go_wp2
      go_roundw
      case rel =>
        refine ⟨k + 1, by omega, by go_num, ?_, HFS.out.below (((Below.refl _ _).setCell (p := ⟨rb, k / 8, none⟩) HRB.out _).drew)⟩
        rw [HS.out, List.getD_eq_getElem?_getD, List.getElem?_eq_getElem hq, Option.getD_some, HVAL.out]
        exact (HRW.out.set (k / 8) _).drew
      case measure => simp [intOf]; omega
    · have hkb : bn = k := by omega
      subst hkb
      have hback := run_convert_bytes_back (P := Tryz.prog) wr 60 9 5 ⟨rb, 0, none⟩ N (adr R bn N) Tryz.underlying60 Tryz.underlying5 Tryz.underlying9 (fun j hj => by rw [addr_zero]; exact (hrow j hj).1)
      rw [adr_length] at hback
      have HFS : Hid (FsAt w wr ⟨f, 0, ⟨#[]⟩, 0, ((worth (l.take 4) : Nat) : Int), LB⟩) := hfs
      clear hrow hfs
      have n2 := HFS.out.n2
      have y2 := HFS.out.nf 2 (by omega)
      obtain ⟨AD, hAD⟩ : ∃ AD : ByteArray, AD = ⟨(adr R bn N).toArray⟩ := ⟨_, rfl⟩
      rw [← hAD] at hback
      have HAD : Hid (AD = ⟨(adr R bn N).toArray⟩) := hAD
      clear hAD
      obtain ⟨w11, hset2⟩ : ∃ w11, wr.setCell ⟨w.heap.size + 1, 2, none⟩ (.string AD) = w11 := ⟨_, rfl⟩
      have H11 : Hid (FsAt w w11 ⟨f, 0, AD, 0, ((worth (l.take 4) : Nat) : Int), LB⟩) := hset2 ▸ HFS.out.set 2 _ _ rfl (by omega)
      have n3 := H11.out.n3
      have y3 := H11.out.nf 3 (by omega)
      obtain ⟨w12, hset3⟩ : ∃ w12, w11.setCell ⟨w.heap.size + 1, 3, none⟩ (.int .i64 (bn : Int)) = w12 := ⟨_, rfl⟩
      have H12 : Hid (FsAt w w12 ⟨f, 0, AD, (bn : Int), ((worth (l.take 4) : Nat) : Int), LB⟩) := hset3 ▸ H11.out.set 3 _ _ rfl (by omega)
      simp only at n2 n3
      have HOK : Hid (okI f true l) := ⟨by rw [HID.out]; omega, by rw [HBT.out]; omega, by rw [HBT.out, HN.out]; omega, by rw [HBT.out, HHD.out, HNB.out]; omega, Or.inl HL.out.1⟩
      have HNL : Hid (nlI f true l = ⟨f, 0, AD, (bn : Int), ((worth (l.take 4) : Nat) : Int), LB⟩) := by
        unfold Hid nlI
        rw [HBT.out, HHD.out, HNB.out, HN.out, HAD.out, HR.out, HLB.out]
        simp only [HL.out.1, HL.out.2.1, HID.out, Int.toNat_natCast, List.take_zero, worth_nil2]
        try rfl
      have HUS : Hid (((hdN f true + (byN (bitI' f true l)).toNat : Nat) : Int) = (5 : Int) + ((bn : Int) + 7) / 8) := by unfold Hid; rw [HBT.out, HHD.out, HNB.out, Int.toNat_natCast]; have := HNBE.out; omega
      have n0 := H12.out.n0
      have n1 := H12.out.n1
      have n2 := H12.out.n2
      have n3 := H12.out.n3
      have n4 := H12.out.n4
      have n5 := H12.out.n5
      have z0 := H12.out.z0
      have z1 := H12.out.z1
      have z2 := H12.out.z2
      have z3 := H12.out.z3
      have z4 := H12.out.z4
      have z5 := H12.out.z5
      have y0 := H12.out.zf 0 (by omega)
      have y1 := H12.out.zf 1 (by omega)
      have y2 := H12.out.zf 2 (by omega)
      have y3 := H12.out.zf 3 (by omega)
      have y4 := H12.out.zf 4 (by omega)
      have y5 := H12.out.zf 5 (by omega)
      simp only at n0 n1 n2 n3 n4 n5
      go_wp2
      refine bodyPost_ret (v := .tuple #[.agg #[.int .i64 f, .int .u64 0, .string AD, .int .i64 (bn : Int), .int .u32 (((worth (l.take 4) : Nat) : Int)), .int .u32 LB], .int .i64 ((5 : Int) + ((bn : Int) + 7) / 8)]) (by simp [results, Tryz.results45, go_sem, z0, z1, z2, z3, z4, z5]) rfl ?_
      refine ⟨H12.out.fin _ _ _ _ _ _, Or.inl ⟨HOK.out, ?_⟩⟩
      rw [HNL.out, HUS.out]
end Go.Proofs.YtfhbgpepkplbaaaGreatDoor
