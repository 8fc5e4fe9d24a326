/-
  The reference's bytes of one told prefix, and their number.
-/
import Derived.Test.YtjliopclpjeieaaDoorN2
import Derived.Test.YtjliopclpjeieaaDoorR5
import Derived.Deep.RegionHeld3
import Derived.Test.YtjliopclpjeieaaDoorN8
import Derived.Test.YtjliopclpjeieaaDoorE3
namespace Go.Proofs.YtjliopclpjeieaaDoor
open Go.RowKit
/-- The first one that is not nought. -/
def firstNZ : List Int → Int
  | [] => 0
  | x :: l => if x = 0 then firstNZ l else x
theorem firstNZ_drop (l : List Int) (k : Nat) (h : k < l.length) (h0 : l[k] = 0) : firstNZ (l.drop k) = firstNZ (l.drop (k + 1)) := by
  rw [List.drop_eq_getElem_cons h]; simp [firstNZ, h0]
theorem firstNZ_at (l : List Int) (k : Nat) (h : k < l.length) (h0 : ¬ l[k] = 0) : firstNZ (l.drop k) = l[k] := by
  rw [List.drop_eq_getElem_cons h]; simp [firstNZ, h0]
/-- The order of two told prefixes. -/
def ncmp (fa ra : Int) (sa : ByteArray) (la ia ba fb rb : Int) (sb : ByteArray) (lb ib bb : Int) : Int := firstNZ [pcmp fa ra sa la fb rb sb lb, ord ia ib, ord ba bb]
theorem cell2 {w w' : World} (hb : Below w.heap.size w w') {b i : Nat} {v : Value} (h : w.cell? ⟨b, i, none⟩ = some v) : w'.cell? ⟨b, i, none⟩ = some v := (hb.cell (p := ⟨b, i, none⟩) (lt_of_cell h)).trans h
def AG (f r : Int) (s : ByteArray) (l id lb : Int) : Array Value := #[.int .i64 f, .int .u64 r, .string s, .int .i64 l, .int .u32 id, .int .u32 lb]
structure TwoAt (w wx : World) (fa ra : Int) (sa : ByteArray) (la ia ba fb rb : Int) (sb : ByteArray) (lb ib bb : Int) : Prop where
  a0 : wx.cell? ⟨w.heap.size, 0, none⟩ = some (.int .i64 fa)
  a1 : wx.cell? ⟨w.heap.size, 1, none⟩ = some (.int .u64 ra)
  a2 : wx.cell? ⟨w.heap.size, 2, none⟩ = some (.string sa)
  a3 : wx.cell? ⟨w.heap.size, 3, none⟩ = some (.int .i64 la)
  a4 : wx.cell? ⟨w.heap.size, 4, none⟩ = some (.int .u32 ia)
  a5 : wx.cell? ⟨w.heap.size, 5, none⟩ = some (.int .u32 ba)
  b0 : wx.cell? ⟨w.heap.size + 1, 0, none⟩ = some (.int .i64 fb)
  b1 : wx.cell? ⟨w.heap.size + 1, 1, none⟩ = some (.int .u64 rb)
  b2 : wx.cell? ⟨w.heap.size + 1, 2, none⟩ = some (.string sb)
  b3 : wx.cell? ⟨w.heap.size + 1, 3, none⟩ = some (.int .i64 lb)
  b4 : wx.cell? ⟨w.heap.size + 1, 4, none⟩ = some (.int .u32 ib)
  b5 : wx.cell? ⟨w.heap.size + 1, 5, none⟩ = some (.int .u32 bb)
  bel : Below w.heap.size w wx
theorem TwoAt.below {w wx w' : World} {fa ra : Int} {sa : ByteArray} {la ia ba fb rb : Int} {sb : ByteArray} {lb ib bb : Int} (h : TwoAt w wx fa ra sa la ia ba fb rb sb lb ib bb) (hb : Below wx.heap.size wx w') : TwoAt w w' fa ra sa la ia ba fb rb sb lb ib bb :=
  ⟨cell2 hb h.a0, cell2 hb h.a1, cell2 hb h.a2, cell2 hb h.a3, cell2 hb h.a4, cell2 hb h.a5, cell2 hb h.b0, cell2 hb h.b1, cell2 hb h.b2, cell2 hb h.b3, cell2 hb h.b4, cell2 hb h.b5, h.bel.trans (hb.mono h.bel.size)⟩
theorem TwoAt.start (w : World) (fa ra : Int) (sa : ByteArray) (la ia ba fb rb : Int) (sb : ByteArray) (lb ib bb : Int) : TwoAt w ((w.alloc (.cells #[.int .i64 fa, .int .u64 ra, .string sa, .int .i64 la, .int .u32 ia, .int .u32 ba] 46)).alloc (.cells #[.int .i64 fb, .int .u64 rb, .string sb, .int .i64 lb, .int .u32 ib, .int .u32 bb] 46)) fa ra sa la ia ba fb rb sb lb ib bb := by
  refine ⟨?_, ?_, ?_, ?_, ?_, ?_, ?_, ?_, ?_, ?_, ?_, ?_, ((Below.refl _ _).alloc (by simp) _).alloc (by simp) _⟩
  all_goals simp
theorem rlabd (f : Int) (w : World) : Calls Tryd.prog 67 #[.int .i64 f] w fun e w' => e = .returned (.bool (lab f)) ∧ w' = w := by
  by_cases h : f = 3
  · subst h
    go_enter Tryd.func67, Tryd.ntmps67
    go_wp2
    go_ret
    exact ⟨rfl, rfl⟩
  · have h' : (f == 3) = false := by simpa using h
    by_cases h4 : f = 4
    · subst h4
      go_enter Tryd.func67, Tryd.ntmps67
      go_wp2
      go_ret
      exact ⟨rfl, rfl⟩
    · have h4' : (f == 4) = false := by simpa using h4
      go_enter Tryd.func67, Tryd.ntmps67
      go_wp2
      go_ret
      exact ⟨ret_bool (by simp [lab, dst, h', h4']), rfl⟩
set_option maxRecDepth 100000 in
set_option maxHeartbeats 3200000 in
theorem rmay_any (f r : Int) (s : ByteArray) (l id lb : Int) (w : World) (hs : s.size ≤ maxLen) :
    Calls Tryd.prog 50 #[.agg #[.int .i64 f, .int .u64 r, .string s, .int .i64 l, .int .u32 id, .int .u32 lb]] w fun e w' => e = .returned (.bool (decide (nchk f r s l lb = 0))) ∧ Below w.heap.size w w' := by
  have hba : Below w.heap.size w (w.alloc (.cells #[.int .i64 f, .int .u64 r, .string s, .int .i64 l, .int .u32 id, .int .u32 lb] 46)) := (Below.refl _ _).alloc (Nat.le_refl _) _
  have HBA : Hid (Below _ _ _) := hba
  have KM : Hid (_ : Prop) := may_any f r s l (w.alloc (.cells #[.int .i64 f, .int .u64 r, .string s, .int .i64 l, .int .u32 id, .int .u32 lb] 46)) hs
  have KL : Hid (∀ w, Calls Tryd.prog 67 #[.int .i64 f] w fun e w' => e = .returned (.bool (lab f)) ∧ w' = w) := rlabd f
  have HD : Hid (nchk f r s l lb = if chk f r s l = 0 ∧ lb ≤ 1048575 ∧ (lb = 0 ∨ lab f = true) then 0 else 2) := rfl
  clear hba hs
  by_cases h0 : chk f r s l = 0
  · rw [h0] at KM
    simp only [decide_true] at KM
    go_enter Tryd.func50, Tryd.ntmps50
    go_wp2_with fail
    refine Calls.mono KM.out ?_
    rintro e w1 ⟨rfl, hb1⟩
    have c5 : w1.cell? ⟨w.heap.size, 5, none⟩ = some (.int .u32 lb) := cell2 hb1 (by simp)
    have c0 : w1.cell? ⟨w.heap.size, 0, none⟩ = some (.int .i64 f) := cell2 hb1 (by simp)
    have HB : Hid (Below w.heap.size w w1) := HBA.out.trans (hb1.mono HBA.out.size)
    clear hb1 KM
    by_cases h1 : lb ≤ 1048575
    · by_cases h2 : lb = 0
      · have HE : Hid (decide (nchk f r s l lb = 0) = true) := by unfold Hid; rw [HD.out, if_pos ⟨h0, h1, Or.inl h2⟩]; rfl
        subst h2
        go_wp2
        go_ret
        exact ⟨ret_bool HE.out.symm, HB.out⟩
      · have h2' : (lb == 0) = false := by simpa using h2
        have HE : Hid (decide (nchk f r s l lb = 0) = lab f) := by
          unfold Hid; rw [HD.out]
          cases hl : lab f with
          | true => rw [if_pos ⟨h0, h1, Or.inr rfl⟩]; rfl
          | false => rw [if_neg (by rintro ⟨_, _, h | h⟩; exact h2 h; exact absurd h (by decide))]; rfl
        clear h2
        go_wp2_with fail
        refine Calls.mono (KL.out _) ?_
        rintro e w2 ⟨rfl, hw2⟩
        obtain rfl : w1 = w2 := hw2.symm
        clear hw2
        go_wp2
        go_ret
        exact ⟨ret_bool HE.out.symm, HB.out⟩
    · have HE : Hid (decide (nchk f r s l lb = 0) = false) := by unfold Hid; rw [HD.out, if_neg (by omega)]; rfl
      go_wp2
      go_ret
      exact ⟨ret_bool HE.out.symm, HB.out⟩
  · have HE : Hid (decide (nchk f r s l lb = 0) = false) := by unfold Hid; rw [HD.out, if_neg (by omega)]; rfl
    have KM' : Hid (Calls Tryd.prog 66 #[.agg #[.int .i64 f, .int .u64 r, .string s, .int .i64 l]] (w.alloc (.cells #[.int .i64 f, .int .u64 r, .string s, .int .i64 l, .int .u32 id, .int .u32 lb] 46)) fun e w' => e = .returned (.bool false) ∧ Below (w.alloc (.cells #[.int .i64 f, .int .u64 r, .string s, .int .i64 l, .int .u32 id, .int .u32 lb] 46)).heap.size (w.alloc (.cells #[.int .i64 f, .int .u64 r, .string s, .int .i64 l, .int .u32 id, .int .u32 lb] 46)) w') := by
      have := KM.out
      rw [decide_eq_false h0] at this
      exact this
    clear KM
    go_enter Tryd.func50, Tryd.ntmps50
    go_wp2_with fail
    refine Calls.mono KM'.out ?_
    rintro e w1 ⟨rfl, hb1⟩
    have HB : Hid (Below w.heap.size w w1) := HBA.out.trans (hb1.mono HBA.out.size)
    clear hb1 KM'
    go_wp2
    go_ret
    exact ⟨ret_bool HE.out.symm, HB.out⟩
end Go.Proofs.YtjliopclpjeieaaDoor
namespace Go.Proofs.YtjliopclpjeieaaDoor
open Go.RowKit
theorem rdst_any (f : Int) (w : World) : Calls Tryd.prog 70 #[.int .i64 f] w fun e w' => e = .returned (.bool (dst f)) ∧ w' = w := by
  by_cases h : f = 4
  · subst h
    go_enter Tryd.func70, Tryd.ntmps70
    go_wp2
    go_ret
    exact ⟨rfl, rfl⟩
  · have h' : (f == 4) = false := by simpa using h
    go_enter Tryd.func70, Tryd.ntmps70
    go_wp2
    go_ret
    exact ⟨ret_bool (by simp [dst, h']), rfl⟩
theorem rlab_any (f : Int) (w : World) : Calls Tryd.prog 67 #[.int .i64 f] w fun e w' => e = .returned (.bool (lab f)) ∧ w' = w := by
  by_cases h : f = 3
  · subst h
    go_enter Tryd.func67, Tryd.ntmps67
    go_wp2
    go_ret
    exact ⟨rfl, rfl⟩
  · have h' : (f == 3) = false := by simpa using h
    go_enter Tryd.func67, Tryd.ntmps67
    go_wp2_with (go_at_call 70; refine (rdst_any f _).mono ?_; rintro e w' ⟨rfl, rfl⟩)
    go_ret
    exact ⟨ret_bool (by simp [lab, h']), rfl⟩
theorem ahead_any (f : Int) (w : World) : Calls Tryd.prog 69 #[.int .i64 f] w fun e w' => e = .returned (.int .i64 (exN f : Nat)) ∧ w' = w := by
  have KL : Hid (∀ w, Calls Tryd.prog 67 #[.int .i64 f] w fun e w' => e = .returned (.bool (lab f)) ∧ w' = w) := rlab_any f
  have KD : Hid (∀ w, Calls Tryd.prog 70 #[.int .i64 f] w fun e w' => e = .returned (.bool (dst f)) ∧ w' = w) := rdst_any f
  unfold exN lbN rdN
  cases hl : lab f <;> cases hd : dst f
  all_goals
    rw [hl] at KL
    rw [hd] at KD
    go_enter Tryd.func69, Tryd.ntmps69
    go_wp2_with (first | (go_at_call 67; refine Calls.mono (KL.out _) ?_; rintro e w' ⟨rfl, rfl⟩) | (go_at_call 70; refine Calls.mono (KD.out _) ?_; rintro e w' ⟨rfl, rfl⟩))
    go_ret
    exact ⟨rfl, rfl⟩
theorem or_u32 (a b : Nat) (ha : a < 4294967296) (hb : b < 4294967296) : bits .or .u32 (a : Int) (b : Int) = ((a ||| b : Nat) : Int) := u32_or_nat a b ha hb
theorem worth4 (a b c d : UInt8) : worth [a, b, c, d] = a.toNat * 16777216 + b.toNat * 65536 + c.toNat * 256 + d.toNat := by
  simp only [worth, List.foldl_cons, List.foldl_nil]
  omega
theorem ors (A B C D : Nat) (ha : A < 256) (hb : B < 256) (hc : C < 256) (hd : D < 256) : bits .or .u32 (bits .or .u32 (bits .or .u32 ((A : Int) * 16777216) ((B : Int) * 65536)) ((C : Int) * 256)) (D : Int) = ((A * 16777216 + B * 65536 + C * 256 + D : Nat) : Int) := by
  have h1 : A * 16777216 ||| B * 65536 = A * 16777216 + B * 65536 := by
    rw [Nat.mul_comm A, show 16777216 = 2 ^ 24 from rfl, ← Nat.two_pow_add_eq_or_of_lt (by omega) A]
  have h2 : (A * 16777216 + B * 65536) ||| C * 256 = A * 16777216 + B * 65536 + C * 256 := by
    rw [show A * 16777216 + B * 65536 = 2 ^ 16 * (A * 256 + B) by omega, ← Nat.two_pow_add_eq_or_of_lt (by omega) (A * 256 + B)]
  have h3 : (A * 16777216 + B * 65536 + C * 256) ||| D = A * 16777216 + B * 65536 + C * 256 + D := by
    rw [show A * 16777216 + B * 65536 + C * 256 = 2 ^ 8 * (A * 65536 + B * 256 + C) by omega, ← Nat.two_pow_add_eq_or_of_lt (by omega) (A * 65536 + B * 256 + C)]
  have e1 := or_u32 (A * 16777216) (B * 65536) (by omega) (by omega)
  have e2 := or_u32 (A * 16777216 + B * 65536) (C * 256) (by omega) (by omega)
  have e3 := or_u32 (A * 16777216 + B * 65536 + C * 256) D (by omega) (by omega)
  rw [h1] at e1
  rw [h2] at e2
  rw [h3] at e3
  simp only [Int.natCast_mul, Int.cast_ofNat_Int] at e1 e2
  rw [e1, e2, e3]
theorem md24 (x : Int) (h0 : 0 ≤ x) (h1 : x < 256) : x % 4294967296 * 16777216 % 4294967296 = x * 16777216 := by omega
theorem md16 (x : Int) (h0 : 0 ≤ x) (h1 : x < 256) : x % 4294967296 * 65536 % 4294967296 = x * 65536 := by omega
theorem md8 (x : Int) (h0 : 0 ≤ x) (h1 : x < 256) : x % 4294967296 * 256 % 4294967296 = x * 256 := by omega
theorem md0 (x : Int) (h0 : 0 ≤ x) (h1 : x < 256) : x % 4294967296 = x := by omega
theorem num4_any (s : ByteArray) (w : World) (h : 4 ≤ s.size) (hm : s.size ≤ 2000000) : Calls Tryd.prog 76 #[.string s] w fun e w' => e = .returned (.int .u32 (worth (s.data.toList.take 4) : Nat)) ∧ Below w.heap.size w w' := by
  have h0 : (0 : Int) < s.size := by omega
  have h1 : (1 : Int) < s.size := by omega
  have h2 : (2 : Int) < s.size := by omega
  have h3 : (3 : Int) < s.size := by omega
  have n0 : 0 < s.size := by omega
  have n1 : 1 < s.size := by omega
  have n2 : 2 < s.size := by omega
  have n3 : 3 < s.size := by omega
  have HW : Hid (s.data.toList.take 4 = [s[0], s[1], s[2], s[3]]) := by
    unfold Hid
    apply List.ext_getElem
    · simp; omega
    · intro i hi _
      have : i < 4 := by simp at hi; omega
      match i, this with
      | 0, _ => simp; rfl
      | 1, _ => simp; rfl
      | 2, _ => simp; rfl
      | 3, _ => simp; rfl
  go_enter Tryd.func76, Tryd.ntmps76
  go_wp2
  go_quiet (fail)
  go_wp2
  go_ret
  refine ⟨ret_int ?_, below_drewN (Below.refl _ _) _⟩
  have g0 := s[0].toNat_lt
  have g1 := s[1].toNat_lt
  have g2 := s[2].toNat_lt
  have g3 := s[3].toNat_lt
  rw [HW.out, worth4, ← ors _ _ _ _ g0 g1 g2 g3]
  rw [md24 _ (by omega) (by omega), md16 _ (by omega) (by omega), md8 _ (by omega) (by omega), md0 _ (by omega) (by omega)]
end Go.Proofs.YtjliopclpjeieaaDoor
namespace Go.Proofs.YtjliopclpjeieaaDoor
open Go.RowKit
theorem laid4 (v : Nat) : laid v 4 = [byteAt v 3, byteAt v 2, byteAt v 1, byteAt v 0] := rfl
set_option maxRecDepth 100000 in
theorem four_any (v : Nat) (w : World) (hv : v < 4294967296) : Calls Tryd.prog 68 #[.int .u32 (v : Int)] w fun e w' => e = .returned (.string ⟨(laid v 4).toArray⟩) ∧ Below w.heap.size w w' := by
  have e3 := byteAt_toNat v 3
  have e2 := byteAt_toNat v 2
  have e1 := byteAt_toNat v 1
  have e0 := byteAt_toNat v 0
  simp only [Nat.mul_zero, Int.pow_zero, Int.ediv_one, show 8 * 3 = 24 from rfl, show 8 * 2 = 16 from rfl, show 8 * 1 = 8 from rfl, show (2 : Int) ^ 24 = 16777216 from rfl, show (2 : Int) ^ 16 = 65536 from rfl, show (2 : Int) ^ 8 = 256 from rfl] at e0 e1 e2 e3
  have e3' : (v : Int) / 16777216 % 256 = (v : Int) / 16777216 := by omega
  rw [e3'] at e3
  clear e3'
  have hbk := run_convert_bytes_back (P := Tryd.prog) (w.alloc (.cells #[.int .u8 ((v : Int) / 16777216), .int .u8 ((v : Int) / 65536 % 256), .int .u8 ((v : Int) / 256 % 256), .int .u8 ((v : Int) % 256)] 5)) 52 9 5 ⟨w.heap.size, 0, none⟩ 4 (laid v 4) Tryd.underlying52 Tryd.underlying5 Tryd.underlying9 (fun j hj => by
    rw [show Addr.add ⟨w.heap.size, 0, none⟩ j = ⟨w.heap.size, j, none⟩ from by unfold Addr.add; by_cases e : j = 0 <;> simp [e]]
    rw [laid_length] at hj
    rw [World.cell?_alloc_at _ _ _ _ rfl]
    rcases j with _ | _ | _ | _ | j
    · simp [laid, e3]
    · simp [laid, e2]
    · simp [laid, e1]
    · simp [laid, e0]
    · omega)
  rw [laid_length] at hbk
  clear e0 e1 e2 e3
  generalize (laid v 4).toArray = res at *
  go_enter Tryd.func68, Tryd.ntmps68
  go_wp2
  go_ret
  exact ⟨rfl, (Below.refl _ _).alloc (Nat.le_refl _) _⟩
theorem fourI (n : Int) (w : World) (h : 0 ≤ n ∧ n < 4294967296) : Calls Tryd.prog 68 #[.int .u32 n] w fun e w' => e = .returned (.string ⟨(laid n.toNat 4).toArray⟩) ∧ Below w.heap.size w w' := by
  have := four_any n.toNat w (by omega)
  rw [show ((n.toNat : Nat) : Int) = n by omega] at this
  exact this
theorem laid8 (x : Nat) : laid x 8 = laid (x / 4294967296) 4 ++ laid (x % 4294967296) 4 := by
  apply List.ext_getElem
  · simp [laid_length]
  · intro i h1 h2
    rw [laid_length] at h1
    rw [laid_at, List.getElem_append]
    split
    · rename_i h3
      rw [laid_length] at h3
      rw [laid_at]
      unfold byteAt
      rw [Nat.div_div_eq_div_mul, show 4294967296 = 2 ^ 32 from rfl, ← Nat.pow_add]
      congr 3; omega
    · rename_i h3
      rw [laid_length] at h3
      rw [laid_at]
      unfold byteAt
      apply UInt8.toNat_inj.mp
      rw [UInt8.toNat_ofNat', UInt8.toNat_ofNat', laid_length]
      rw [show 8 - 1 - i = 4 - 1 - (i - 4) by omega]
      have h4 : 4 - 1 - (i - 4) < 4 := by omega
      generalize 4 - 1 - (i - 4) = j at *
      rcases (show j = 0 ∨ j = 1 ∨ j = 2 ∨ j = 3 by omega) with rfl | rfl | rfl | rfl <;> simp <;> omega
theorem add_l (X Y : List UInt8) (hx : X.length ≤ 1000) (hy : Y.length ≤ 1000) (W : World) : (Op.stringOp .add ⟨X.toArray⟩ ⟨Y.toArray⟩).run Tryd.prog W = .ok (.string ⟨(X ++ Y).toArray⟩) W := by
  have := run_string_add_sum (P := Tryd.prog) W ⟨X.toArray⟩ ⟨Y.toArray⟩ (by rw [list_size, list_size]; omega)
  rw [this]
  congr 2
theorem cat_take (A : List UInt8) (s : ByteArray) (n : Nat) : (⟨(A ++ s.data.toList.take n).toArray⟩ : ByteArray) = ⟨A.toArray⟩ ++ s.extract 0 n := by
  apply ByteArray.ext
  apply Array.ext'
  simp
theorem back1 (c : Nat) (wx : World) : (convert 52 9 (.slice (some ⟨wx.heap.size, 0, none⟩) 1 1)).run Tryd.prog (wx.alloc (.cells #[.int .u8 ((c % 256 : Nat) : Int)] 5)) = .ok (.string ⟨(laid c 1).toArray⟩) (wx.alloc (.cells #[.int .u8 ((c % 256 : Nat) : Int)] 5)) := by
  have e0 := byteAt_toNat c 0
  simp only [Nat.mul_zero, Int.pow_zero, Int.ediv_one] at e0
  have := run_convert_bytes_back (P := Tryd.prog) (wx.alloc (.cells #[.int .u8 ((c % 256 : Nat) : Int)] 5)) 52 9 5 ⟨wx.heap.size, 0, none⟩ 1 (laid c 1) Tryd.underlying52 Tryd.underlying5 Tryd.underlying9 (fun j hj => by
    rw [show Addr.add ⟨wx.heap.size, 0, none⟩ j = ⟨wx.heap.size, j, none⟩ from by unfold Addr.add; by_cases e : j = 0 <;> simp [e]]
    rw [laid_length] at hj
    rw [World.cell?_alloc_at _ _ _ _ rfl]
    rcases j with _ | j
    · simp [laid, e0]
    · omega)
  rwa [laid_length] at this
theorem back3 (v : Nat) (hv : v < 16777216) (wx : World) : (convert 52 9 (.slice (some ⟨wx.heap.size, 0, none⟩) 3 3)).run Tryd.prog (wx.alloc (.cells #[.int .u8 ((v / 65536 : Nat) : Int), .int .u8 ((v / 256 % 256 : Nat) : Int), .int .u8 ((v % 256 : Nat) : Int)] 5)) = .ok (.string ⟨(laid v 3).toArray⟩) (wx.alloc (.cells #[.int .u8 ((v / 65536 : Nat) : Int), .int .u8 ((v / 256 % 256 : Nat) : Int), .int .u8 ((v % 256 : Nat) : Int)] 5)) := by
  have e0 := byteAt_toNat v 0
  have e1 := byteAt_toNat v 1
  have e2 := byteAt_toNat v 2
  simp only [Nat.mul_zero, Int.pow_zero, Int.ediv_one, show 8 * 2 = 16 from rfl, show 8 * 1 = 8 from rfl, show (2 : Int) ^ 16 = 65536 from rfl, show (2 : Int) ^ 8 = 256 from rfl] at e0 e1 e2
  have e2' : ((byteAt v 2).toNat : Int) = ((v / 65536 : Nat) : Int) := by omega
  have e1' : ((byteAt v 1).toNat : Int) = ((v / 256 % 256 : Nat) : Int) := by omega
  have e0' : ((byteAt v 0).toNat : Int) = ((v % 256 : Nat) : Int) := by omega
  have := run_convert_bytes_back (P := Tryd.prog) (wx.alloc (.cells #[.int .u8 ((v / 65536 : Nat) : Int), .int .u8 ((v / 256 % 256 : Nat) : Int), .int .u8 ((v % 256 : Nat) : Int)] 5)) 52 9 5 ⟨wx.heap.size, 0, none⟩ 3 (laid v 3) Tryd.underlying52 Tryd.underlying5 Tryd.underlying9 (fun j hj => by
    rw [show Addr.add ⟨wx.heap.size, 0, none⟩ j = ⟨wx.heap.size, j, none⟩ from by unfold Addr.add; by_cases e : j = 0 <;> simp [e]]
    rw [laid_length] at hj
    rw [World.cell?_alloc_at _ _ _ _ rfl]
    rcases j with _ | _ | _ | j
    · show some _ = some (Value.int .u8 ((byteAt v 2).toNat : Int)); rw [e2']; rfl
    · show some _ = some (Value.int .u8 ((byteAt v 1).toNat : Int)); rw [e1']; rfl
    · show some _ = some (Value.int .u8 ((byteAt v 0).toNat : Int)); rw [e0']; rfl
    · omega)
  rwa [laid_length] at this
end Go.Proofs.YtjliopclpjeieaaDoor
namespace Go.Proofs.YtjliopclpjeieaaDoor
open Go.RowKit
set_option maxRecDepth 100000 in
set_option maxHeartbeats 3200000 in
theorem one_td (f : Int) (r : Nat) (s : ByteArray) (l id lb : Nat) (w : World) (hl : l ≤ 8 * s.size) (hs : s.size ≤ 16) (hid : id < 4294967296) (hlb : lb ≤ 1048575) (hr : r < 18446744073709551616) (hlab : lab f = true) (hdst : dst f = true) :
    Calls Tryd.prog 51 #[.agg #[.int .i64 f, .int .u64 (r : Int), .string s, .int .i64 (l : Int), .int .u32 (id : Int), .int .u32 (lb : Int)], .bool true] w fun e w' => e = .returned (.string ⟨(nlE f true r s l id lb).toArray⟩) ∧ Below w.heap.size w w' := by
  have hex : exN f ≤ 88 := by unfold exN lbN rdN; rw [hlab, hdst]; decide
  obtain ⟨ct, hct⟩ : ∃ ct, ct = l + exN f := ⟨_, rfl⟩
  obtain ⟨lv, hlv⟩ : ∃ lv, lv = lb * 16 + 1 := ⟨_, rfl⟩
  obtain ⟨rh, hrh⟩ : ∃ rh, rh = r / 4294967296 := ⟨_, rfl⟩
  obtain ⟨rl, hrl⟩ : ∃ rl, rl = r % 4294967296 := ⟨_, rfl⟩
  obtain ⟨nb, hnb⟩ : ∃ nb, nb = (l + 7) / 8 := ⟨_, rfl⟩
  have hlv0 : lv < 16777216 := by omega
  have KA : Hid (∀ w, Calls Tryd.prog 69 #[.int .i64 f] w fun e w' => e = .returned (.int .i64 (exN f : Nat)) ∧ w' = w) := ahead_any f
  have KL : Hid (∀ w, Calls Tryd.prog 67 #[.int .i64 f] w fun e w' => e = .returned (.bool true) ∧ w' = w) := by have := rlabd f; rw [hlab] at this; exact this
  have KD : Hid (∀ w, Calls Tryd.prog 70 #[.int .i64 f] w fun e w' => e = .returned (.bool true) ∧ w' = w) := by have := rdst_any f; rw [hdst] at this; exact this
  have KF : Hid (∀ w, Calls Tryd.prog 68 #[.int .u32 (id : Int)] w fun e w' => e = .returned (.string ⟨(laid id 4).toArray⟩) ∧ Below w.heap.size w w') := fun w => four_any id w hid
  have KH : Hid (∀ w, Calls Tryd.prog 68 #[.int .u32 (rh : Int)] w fun e w' => e = .returned (.string ⟨(laid rh 4).toArray⟩) ∧ Below w.heap.size w w') := fun w => four_any rh w (by omega)
  have KW : Hid (∀ w, Calls Tryd.prog 68 #[.int .u32 (rl : Int)] w fun e w' => e = .returned (.string ⟨(laid rl 4).toArray⟩) ∧ Below w.heap.size w w') := fun w => four_any rl w (by omega)
  have hw2 : IntKind.i64.wrap ((l : Int) + (exN f : Nat)) = (ct : Int) := by rw [IntKind.wrap_i64]; omega
  have hw3 : IntKind.u8.wrap (ct : Int) = ((ct % 256 : Nat) : Int) := by rw [IntKind.wrap_u8]; omega
  have HE : Hid (nlE f true r s l id lb = ((((laid id 4 ++ laid ct 1) ++ laid lv 3) ++ laid rh 4) ++ laid rl 4) ++ s.data.toList.take nb) := by
    unfold Hid nlE idN lbN rdN; rw [hlab, hdst, hct, hnb]; (try rw [hlv]); (try rw [hrh, hrl]); (try simp only [if_true]; rw [laid8 r]); simp [laid]
  have HR : Hid ((r : Int) / 4294967296 = (rh : Int) ∧ IntKind.u32.wrap (rh : Int) = (rh : Int) ∧ IntKind.u32.wrap (r : Int) = (rl : Int)) := by unfold Hid; rw [IntKind.wrap_u32, IntKind.wrap_u32]; omega
  have HN : Hid (wrap64 ((l : Int) + 7) = (l : Int) + 7 ∧ wrap64 (((l : Int) + 7).tdiv 8) = (nb : Int) ∧ nb ≤ s.size ∧ s.size ≤ 16) := by
    have e1 : ((l : Int) + 7).tdiv 8 = (nb : Int) := by rw [Int.tdiv_eq_ediv_of_nonneg (by omega)]; omega
    refine ⟨by unfold wrap64; omega, ?_, by omega, hs⟩
    rw [e1]; unfold wrap64; omega
  clear hl hs hid hlab hdst hct hex hrh hrl hnb
  go_enter Tryd.func51, Tryd.ntmps51
  go_wp2_with fail
  refine Calls.mono (KF.out _) ?_
  rintro e w1 ⟨rfl, hb1⟩
  have p0 : w1.cell? ⟨w.heap.size, 0, none⟩ = some (.int .i64 f) := cell2 hb1 (by simp)
  have p1 : w1.cell? ⟨w.heap.size, 1, none⟩ = some (.int .u64 (r : Int)) := cell2 hb1 (by simp)
  have p2 : w1.cell? ⟨w.heap.size, 2, none⟩ = some (.string s) := cell2 hb1 (by simp)
  have p3 : w1.cell? ⟨w.heap.size, 3, none⟩ = some (.int .i64 (l : Int)) := cell2 hb1 (by simp)
  have p5 : w1.cell? ⟨w.heap.size, 5, none⟩ = some (.int .u32 (lb : Int)) := cell2 hb1 (by simp)
  have HB1 : Hid (Below w.heap.size w w1) := ((Below.refl _ _).alloc (Nat.le_refl _) _).trans (hb1.mono (by simp))
  clear hb1
  have HLn : Hid ((laid id 4).length = 4) := laid_length _ _
  generalize laid id 4 = A1 at *
  have HB2 : Hid (Below w.heap.size w (w1.alloc (.cells #[.int .i64 f, .int .u64 (r : Int), .string s, .int .i64 (l : Int)] 43))) := HB1.out.alloc HB1.out.size _
  go_wp2
  have q0 : (w1.alloc (.cells #[.int .i64 f, .int .u64 (r : Int), .string s, .int .i64 (l : Int)] 43)).cell? ⟨w1.heap.size, 0, none⟩ = some (.int .i64 f) := by simp
  have q1 : (w1.alloc (.cells #[.int .i64 f, .int .u64 (r : Int), .string s, .int .i64 (l : Int)] 43)).cell? ⟨w1.heap.size, 1, none⟩ = some (.int .u64 (r : Int)) := by simp
  have q2 : (w1.alloc (.cells #[.int .i64 f, .int .u64 (r : Int), .string s, .int .i64 (l : Int)] 43)).cell? ⟨w1.heap.size, 2, none⟩ = some (.string s) := by simp
  have q3 : (w1.alloc (.cells #[.int .i64 f, .int .u64 (r : Int), .string s, .int .i64 (l : Int)] 43)).cell? ⟨w1.heap.size, 3, none⟩ = some (.int .i64 (l : Int)) := by simp
  have q5 : (w1.alloc (.cells #[.int .i64 f, .int .u64 (r : Int), .string s, .int .i64 (l : Int)] 43)).cell? ⟨w.heap.size, 5, none⟩ = some (.int .u32 (lb : Int)) := below_cell ((Below.refl _ _).alloc (Nat.le_refl _) _) p5
  clear p0 p1 p2 p3 p5
  generalize w1.alloc (.cells #[.int .i64 f, .int .u64 (r : Int), .string s, .int .i64 (l : Int)] 43) = W at *
  generalize w1.heap.size = b at *
  have hb : ∀ wx : World, (convert 52 9 (.slice (some ⟨wx.heap.size, 0, none⟩) 1 1)).run Tryd.prog (wx.alloc (.cells #[.int .u8 ((ct : Int) % 256)] 5)).drew = .ok (.string ⟨(laid ct 1).toArray⟩) (wx.alloc (.cells #[.int .u8 ((ct : Int) % 256)] 5)).drew := fun wx => back1 ct wx.drew
  have HLc : Hid ((laid ct 1).length = 1) := laid_length _ _
  have ha : ∀ wx : World, (Op.stringOp .add ⟨A1.toArray⟩ ⟨(laid ct 1).toArray⟩).run Tryd.prog wx = .ok (.string ⟨(A1 ++ laid ct 1).toArray⟩) wx := fun wx => add_l A1 (laid ct 1) (by rw [HLn.out]; omega) (by rw [laid_length]; omega) wx
  generalize laid ct 1 = A2 at *
  go_region_held (fun w' => w'.cell? ⟨b, 0, none⟩ = some (.int .i64 f) ∧ w'.cell? ⟨b, 1, none⟩ = some (.int .u64 (r : Int)) ∧ w'.cell? ⟨b, 2, none⟩ = some (.string s) ∧ w'.cell? ⟨b, 3, none⟩ = some (.int .i64 (l : Int)) ∧ w'.cell? ⟨w.heap.size, 5, none⟩ = some (.int .u32 (lb : Int))) (go_keep)
    (first | (go_at_call 69; refine Calls.mono (KA.out _) ?_; rintro e w4 ⟨rfl, rfl⟩))
  have hbx : Below W.heap.size W (W.alloc (.cells #[.int .u8 ((ct : Int) % 256)] 5)).drew := ((Below.refl _ _).alloc (Nat.le_refl _) _).drew
  have r0 := below_cell hbx q0
  have r1 := below_cell hbx q1
  have r2 := below_cell hbx q2
  have r3 := below_cell hbx q3
  have r5 := below_cell hbx q5
  have HB3 : Hid (Below w.heap.size w (W.alloc (.cells #[.int .u8 ((ct : Int) % 256)] 5)).drew) := HB2.out.trans (hbx.mono HB2.out.size)
  clear q0 q1 q2 q3 q5 hbx HB2 HB1 hb ha
  generalize (W.alloc (.cells #[.int .u8 ((ct : Int) % 256)] 5)).drew = W3 at *
  have HL3 : Hid ((A1 ++ A2).length ≤ 5) := by unfold Hid; rw [List.length_append, HLc.out, HLn.out]; omega
  generalize A1 ++ A2 = A3 at *
  have hs1 : (lb : Int) * 16 % 4294967296 = (lb : Int) * 16 := by omega
  have hor : bits .or .u32 ((lb : Int) * 16) 1 = (lv : Int) := by
    have h := u32_or_nat (lb * 16) 1 (by omega) (by omega)
    rw [show ((lb * 16 : Nat) : Int) = (lb : Int) * 16 from by simp, show ((1 : Nat) : Int) = 1 from rfl] at h
    rw [h, Nat.mul_comm lb 16, ← Nat.two_pow_add_eq_or_of_lt (i := 4) (by omega : 1 < 2 ^ 4) lb]
    omega
  clear hlv
  have hb3 : ∀ wx : World, (convert 52 9 (.slice (some ⟨wx.heap.size, 0, none⟩) 3 3)).run Tryd.prog (wx.alloc (.cells #[.int .u8 ((lv : Int) / 65536), .int .u8 ((lv : Int) / 256 % 256), .int .u8 ((lv : Int) % 256)] 5)) = .ok (.string ⟨(laid lv 3).toArray⟩) (wx.alloc (.cells #[.int .u8 ((lv : Int) / 65536), .int .u8 ((lv : Int) / 256 % 256), .int .u8 ((lv : Int) % 256)] 5)) := fun wx => back3 lv hlv0 wx
  have ha3 : ∀ wx : World, (Op.stringOp .add ⟨A3.toArray⟩ ⟨(laid lv 3).toArray⟩).run Tryd.prog wx = .ok (.string ⟨(A3 ++ laid lv 3).toArray⟩) wx := fun wx => add_l A3 (laid lv 3) (by have := HL3.out; omega) (by rw [laid_length]; omega) wx
  have HL4 : Hid ((A3 ++ laid lv 3).length ≤ 8) := by unfold Hid; rw [List.length_append, laid_length]; have := HL3.out; omega
  generalize laid lv 3 = A3' at *
  generalize hA4 : A3 ++ A3' = A4 at *
  go_wp2_with fail
  refine Calls.mono (KL.out _) ?_
  rintro e w5 ⟨rfl, hw5⟩
  obtain rfl : W3 = w5 := hw5.symm
  clear hw5
  have hbx : Below W3.heap.size W3 (W3.alloc (.cells #[.int .u8 ((lv : Int) / 65536), .int .u8 ((lv : Int) / 256 % 256), .int .u8 ((lv : Int) % 256)] 5)) := (Below.refl _ _).alloc (Nat.le_refl _) _
  have t0 := below_cell hbx r0
  have t1 := below_cell hbx r1
  have t2 := below_cell hbx r2
  have t3 := below_cell hbx r3
  have HB5 : Hid (Below w.heap.size w (W3.alloc (.cells #[.int .u8 ((lv : Int) / 65536), .int .u8 ((lv : Int) / 256 % 256), .int .u8 ((lv : Int) % 256)] 5))) := HB3.out.trans (hbx.mono HB3.out.size)
  clear hbx
  go_wp2_with fail
  refine Calls.mono (KD.out _) ?_
  rintro e w5 ⟨rfl, hw5⟩
  rw [← hw5] at t0 t1 t2 t3 HB5
  clear hw5
  clear r0 r1 r2 r3 r5 HB3 hb3 ha3 hs1 hor hA4
  have hr1 := HR.out.1
  have hr2 := HR.out.2.1
  have hr3 := HR.out.2.2
  have ha5 : ∀ wx : World, (Op.stringOp .add ⟨A4.toArray⟩ ⟨(laid rh 4).toArray⟩).run Tryd.prog wx = .ok (.string ⟨(A4 ++ laid rh 4).toArray⟩) wx := fun wx => add_l A4 (laid rh 4) (by have := HL4.out; omega) (by rw [laid_length]; omega) wx
  have HL5 : Hid ((A4 ++ laid rh 4).length ≤ 12) := by unfold Hid; rw [List.length_append, laid_length]; have := HL4.out; omega
  generalize laid rh 4 = B1 at *
  generalize A4 ++ B1 = A5 at *
  have ha6 : ∀ wx : World, (Op.stringOp .add ⟨A5.toArray⟩ ⟨(laid rl 4).toArray⟩).run Tryd.prog wx = .ok (.string ⟨(A5 ++ laid rl 4).toArray⟩) wx := fun wx => add_l A5 (laid rl 4) (by have := HL5.out; omega) (by rw [laid_length]; omega) wx
  have HL6 : Hid ((A5 ++ laid rl 4).length ≤ 16) := by unfold Hid; rw [List.length_append, laid_length]; have := HL5.out; omega
  generalize laid rl 4 = B2 at *
  generalize A5 ++ B2 = A6 at *
  go_wp2
  go_region_held (fun w' => w'.cell? ⟨b, 0, none⟩ = some (.int .i64 f) ∧ w'.cell? ⟨b, 1, none⟩ = some (.int .u64 (r : Int)) ∧ w'.cell? ⟨b, 2, none⟩ = some (.string s) ∧ w'.cell? ⟨b, 3, none⟩ = some (.int .i64 (l : Int))) (go_keep)
    (first | (go_at_call_of 68 (Value.int .u32 (rh : Int)); refine Calls.mono (KH.out _) ?_; rintro e w6 ⟨rfl, hb6⟩; have u0 := below_cell (w := w5.drew) hb6 t0; have u1 := below_cell (w := w5.drew) hb6 t1; have u2 := below_cell (w := w5.drew) hb6 t2; have u3 := below_cell (w := w5.drew) hb6 t3) | (go_at_call_of 68 (Value.int .u32 (rl : Int)); refine Calls.mono (KW.out _) ?_; rintro e w7 ⟨rfl, hb7⟩; have v0 := below_cell hb7 u0; have v1 := below_cell hb7 u1; have v2 := below_cell hb7 u2; have v3 := below_cell hb7 u3))
  have HB7 : Hid (Below w.heap.size w w7) := by
    have h1 : Below w.heap.size w w6 := HB5.out.drew.trans (hb6.mono HB5.out.size)
    exact h1.trans (hb7.mono h1.size)
  clear hb6 hb7 u0 u1 u2 u3 v0 v1 t0 t1 t2 t3 ha5 ha6 hr1 hr2 hr3
  have hn1 := HN.out.1
  have hn2 := HN.out.2.1
  have hn3 := HN.out.2.2.1
  have hn4 := HN.out.2.2.2
  have hn5 := HL6.out
  go_wp2
  go_ret
  exact ⟨by rw [HE.out, cat_take A6 s nb]; rfl, HB7.out⟩
end Go.Proofs.YtjliopclpjeieaaDoor
namespace Go.Proofs.YtjliopclpjeieaaDoor
open Go.RowKit
set_option maxRecDepth 100000 in
set_option maxHeartbeats 3200000 in
theorem one_tl (f : Int) (r : Nat) (s : ByteArray) (l id lb : Nat) (w : World) (hl : l ≤ 8 * s.size) (hs : s.size ≤ 16) (hid : id < 4294967296) (hlb : lb ≤ 1048575) (hr : r < 18446744073709551616) (hlab : lab f = true) (hdst : dst f = false) :
    Calls Tryd.prog 51 #[.agg #[.int .i64 f, .int .u64 (r : Int), .string s, .int .i64 (l : Int), .int .u32 (id : Int), .int .u32 (lb : Int)], .bool true] w fun e w' => e = .returned (.string ⟨(nlE f true r s l id lb).toArray⟩) ∧ Below w.heap.size w w' := by
  have hex : exN f ≤ 88 := by unfold exN lbN rdN; rw [hlab, hdst]; decide
  obtain ⟨ct, hct⟩ : ∃ ct, ct = l + exN f := ⟨_, rfl⟩
  obtain ⟨lv, hlv⟩ : ∃ lv, lv = lb * 16 + 1 := ⟨_, rfl⟩
  obtain ⟨rh, hrh⟩ : ∃ rh, rh = r / 4294967296 := ⟨_, rfl⟩
  obtain ⟨rl, hrl⟩ : ∃ rl, rl = r % 4294967296 := ⟨_, rfl⟩
  obtain ⟨nb, hnb⟩ : ∃ nb, nb = (l + 7) / 8 := ⟨_, rfl⟩
  have hlv0 : lv < 16777216 := by omega
  have KA : Hid (∀ w, Calls Tryd.prog 69 #[.int .i64 f] w fun e w' => e = .returned (.int .i64 (exN f : Nat)) ∧ w' = w) := ahead_any f
  have KL : Hid (∀ w, Calls Tryd.prog 67 #[.int .i64 f] w fun e w' => e = .returned (.bool true) ∧ w' = w) := by have := rlabd f; rw [hlab] at this; exact this
  have KD : Hid (∀ w, Calls Tryd.prog 70 #[.int .i64 f] w fun e w' => e = .returned (.bool false) ∧ w' = w) := by have := rdst_any f; rw [hdst] at this; exact this
  have KF : Hid (∀ w, Calls Tryd.prog 68 #[.int .u32 (id : Int)] w fun e w' => e = .returned (.string ⟨(laid id 4).toArray⟩) ∧ Below w.heap.size w w') := fun w => four_any id w hid
  have KH : Hid (∀ w, Calls Tryd.prog 68 #[.int .u32 (rh : Int)] w fun e w' => e = .returned (.string ⟨(laid rh 4).toArray⟩) ∧ Below w.heap.size w w') := fun w => four_any rh w (by omega)
  have KW : Hid (∀ w, Calls Tryd.prog 68 #[.int .u32 (rl : Int)] w fun e w' => e = .returned (.string ⟨(laid rl 4).toArray⟩) ∧ Below w.heap.size w w') := fun w => four_any rl w (by omega)
  have hw2 : IntKind.i64.wrap ((l : Int) + (exN f : Nat)) = (ct : Int) := by rw [IntKind.wrap_i64]; omega
  have hw3 : IntKind.u8.wrap (ct : Int) = ((ct % 256 : Nat) : Int) := by rw [IntKind.wrap_u8]; omega
  have HE : Hid (nlE f true r s l id lb = ((laid id 4 ++ laid ct 1) ++ laid lv 3) ++ s.data.toList.take nb) := by
    unfold Hid nlE idN lbN rdN; rw [hlab, hdst, hct, hnb]; (try rw [hlv]); (try rw [hrh, hrl]); (try simp only [if_true]; rw [laid8 r]); simp [laid]
  have HR : Hid ((r : Int) / 4294967296 = (rh : Int) ∧ (rh : Int) % 4294967296 = (rh : Int) ∧ (r : Int) % 4294967296 = (rl : Int)) := by unfold Hid; omega
  have HN : Hid (wrap64 ((l : Int) + 7) = (l : Int) + 7 ∧ wrap64 (((l : Int) + 7).tdiv 8) = (nb : Int) ∧ nb ≤ s.size ∧ s.size ≤ 16) := by
    have e1 : ((l : Int) + 7).tdiv 8 = (nb : Int) := by rw [Int.tdiv_eq_ediv_of_nonneg (by omega)]; omega
    refine ⟨by unfold wrap64; omega, ?_, by omega, hs⟩
    rw [e1]; unfold wrap64; omega
  clear hl hs hid hlab hdst hct hex hrh hrl hnb
  go_enter Tryd.func51, Tryd.ntmps51
  go_wp2_with fail
  refine Calls.mono (KF.out _) ?_
  rintro e w1 ⟨rfl, hb1⟩
  have p0 : w1.cell? ⟨w.heap.size, 0, none⟩ = some (.int .i64 f) := cell2 hb1 (by simp)
  have p1 : w1.cell? ⟨w.heap.size, 1, none⟩ = some (.int .u64 (r : Int)) := cell2 hb1 (by simp)
  have p2 : w1.cell? ⟨w.heap.size, 2, none⟩ = some (.string s) := cell2 hb1 (by simp)
  have p3 : w1.cell? ⟨w.heap.size, 3, none⟩ = some (.int .i64 (l : Int)) := cell2 hb1 (by simp)
  have p5 : w1.cell? ⟨w.heap.size, 5, none⟩ = some (.int .u32 (lb : Int)) := cell2 hb1 (by simp)
  have HB1 : Hid (Below w.heap.size w w1) := ((Below.refl _ _).alloc (Nat.le_refl _) _).trans (hb1.mono (by simp))
  clear hb1
  have HLn : Hid ((laid id 4).length = 4) := laid_length _ _
  generalize laid id 4 = A1 at *
  have HB2 : Hid (Below w.heap.size w (w1.alloc (.cells #[.int .i64 f, .int .u64 (r : Int), .string s, .int .i64 (l : Int)] 43))) := HB1.out.alloc HB1.out.size _
  go_wp2
  have q0 : (w1.alloc (.cells #[.int .i64 f, .int .u64 (r : Int), .string s, .int .i64 (l : Int)] 43)).cell? ⟨w1.heap.size, 0, none⟩ = some (.int .i64 f) := by simp
  have q1 : (w1.alloc (.cells #[.int .i64 f, .int .u64 (r : Int), .string s, .int .i64 (l : Int)] 43)).cell? ⟨w1.heap.size, 1, none⟩ = some (.int .u64 (r : Int)) := by simp
  have q2 : (w1.alloc (.cells #[.int .i64 f, .int .u64 (r : Int), .string s, .int .i64 (l : Int)] 43)).cell? ⟨w1.heap.size, 2, none⟩ = some (.string s) := by simp
  have q3 : (w1.alloc (.cells #[.int .i64 f, .int .u64 (r : Int), .string s, .int .i64 (l : Int)] 43)).cell? ⟨w1.heap.size, 3, none⟩ = some (.int .i64 (l : Int)) := by simp
  have q5 : (w1.alloc (.cells #[.int .i64 f, .int .u64 (r : Int), .string s, .int .i64 (l : Int)] 43)).cell? ⟨w.heap.size, 5, none⟩ = some (.int .u32 (lb : Int)) := below_cell ((Below.refl _ _).alloc (Nat.le_refl _) _) p5
  clear p0 p1 p2 p3 p5
  generalize w1.alloc (.cells #[.int .i64 f, .int .u64 (r : Int), .string s, .int .i64 (l : Int)] 43) = W at *
  generalize w1.heap.size = b at *
  have hb : ∀ wx : World, (convert 52 9 (.slice (some ⟨wx.heap.size, 0, none⟩) 1 1)).run Tryd.prog (wx.alloc (.cells #[.int .u8 ((ct : Int) % 256)] 5)).drew = .ok (.string ⟨(laid ct 1).toArray⟩) (wx.alloc (.cells #[.int .u8 ((ct : Int) % 256)] 5)).drew := fun wx => back1 ct wx.drew
  have HLc : Hid ((laid ct 1).length = 1) := laid_length _ _
  have ha : ∀ wx : World, (Op.stringOp .add ⟨A1.toArray⟩ ⟨(laid ct 1).toArray⟩).run Tryd.prog wx = .ok (.string ⟨(A1 ++ laid ct 1).toArray⟩) wx := fun wx => add_l A1 (laid ct 1) (by rw [HLn.out]; omega) (by rw [laid_length]; omega) wx
  generalize laid ct 1 = A2 at *
  go_region_held (fun w' => w'.cell? ⟨b, 0, none⟩ = some (.int .i64 f) ∧ w'.cell? ⟨b, 1, none⟩ = some (.int .u64 (r : Int)) ∧ w'.cell? ⟨b, 2, none⟩ = some (.string s) ∧ w'.cell? ⟨b, 3, none⟩ = some (.int .i64 (l : Int)) ∧ w'.cell? ⟨w.heap.size, 5, none⟩ = some (.int .u32 (lb : Int))) (go_keep)
    (first | (go_at_call 69; refine Calls.mono (KA.out _) ?_; rintro e w4 ⟨rfl, rfl⟩))
  have hbx : Below W.heap.size W (W.alloc (.cells #[.int .u8 ((ct : Int) % 256)] 5)).drew := ((Below.refl _ _).alloc (Nat.le_refl _) _).drew
  have r0 := below_cell hbx q0
  have r1 := below_cell hbx q1
  have r2 := below_cell hbx q2
  have r3 := below_cell hbx q3
  have r5 := below_cell hbx q5
  have HB3 : Hid (Below w.heap.size w (W.alloc (.cells #[.int .u8 ((ct : Int) % 256)] 5)).drew) := HB2.out.trans (hbx.mono HB2.out.size)
  clear q0 q1 q2 q3 q5 hbx HB2 HB1 hb ha
  generalize (W.alloc (.cells #[.int .u8 ((ct : Int) % 256)] 5)).drew = W3 at *
  have HL3 : Hid ((A1 ++ A2).length ≤ 5) := by unfold Hid; rw [List.length_append, HLc.out, HLn.out]; omega
  generalize A1 ++ A2 = A3 at *
  have hs1 : (lb : Int) * 16 % 4294967296 = (lb : Int) * 16 := by omega
  have hor : bits .or .u32 ((lb : Int) * 16) 1 = (lv : Int) := by
    have h := u32_or_nat (lb * 16) 1 (by omega) (by omega)
    rw [show ((lb * 16 : Nat) : Int) = (lb : Int) * 16 from by simp, show ((1 : Nat) : Int) = 1 from rfl] at h
    rw [h, Nat.mul_comm lb 16, ← Nat.two_pow_add_eq_or_of_lt (i := 4) (by omega : 1 < 2 ^ 4) lb]
    omega
  clear hlv
  have hb3 : ∀ wx : World, (convert 52 9 (.slice (some ⟨wx.heap.size, 0, none⟩) 3 3)).run Tryd.prog (wx.alloc (.cells #[.int .u8 ((lv : Int) / 65536), .int .u8 ((lv : Int) / 256 % 256), .int .u8 ((lv : Int) % 256)] 5)) = .ok (.string ⟨(laid lv 3).toArray⟩) (wx.alloc (.cells #[.int .u8 ((lv : Int) / 65536), .int .u8 ((lv : Int) / 256 % 256), .int .u8 ((lv : Int) % 256)] 5)) := fun wx => back3 lv hlv0 wx
  have ha3 : ∀ wx : World, (Op.stringOp .add ⟨A3.toArray⟩ ⟨(laid lv 3).toArray⟩).run Tryd.prog wx = .ok (.string ⟨(A3 ++ laid lv 3).toArray⟩) wx := fun wx => add_l A3 (laid lv 3) (by have := HL3.out; omega) (by rw [laid_length]; omega) wx
  have HL4 : Hid ((A3 ++ laid lv 3).length ≤ 8) := by unfold Hid; rw [List.length_append, laid_length]; have := HL3.out; omega
  generalize laid lv 3 = A3' at *
  generalize hA4 : A3 ++ A3' = A4 at *
  go_wp2_with fail
  refine Calls.mono (KL.out _) ?_
  rintro e w5 ⟨rfl, hw5⟩
  obtain rfl : W3 = w5 := hw5.symm
  clear hw5
  have hbx : Below W3.heap.size W3 (W3.alloc (.cells #[.int .u8 ((lv : Int) / 65536), .int .u8 ((lv : Int) / 256 % 256), .int .u8 ((lv : Int) % 256)] 5)) := (Below.refl _ _).alloc (Nat.le_refl _) _
  have t0 := below_cell hbx r0
  have t1 := below_cell hbx r1
  have t2 := below_cell hbx r2
  have t3 := below_cell hbx r3
  have HB5 : Hid (Below w.heap.size w (W3.alloc (.cells #[.int .u8 ((lv : Int) / 65536), .int .u8 ((lv : Int) / 256 % 256), .int .u8 ((lv : Int) % 256)] 5))) := HB3.out.trans (hbx.mono HB3.out.size)
  clear hbx
  go_wp2_with fail
  refine Calls.mono (KD.out _) ?_
  rintro e w5 ⟨rfl, hw5⟩
  rw [← hw5] at t0 t1 t2 t3 HB5
  clear hw5
  clear r0 r1 r2 r3 r5 HB3 hb3 ha3 hs1 hor hA4
  have hn1 := HN.out.1
  have hn2 := HN.out.2.1
  have hn3 := HN.out.2.2.1
  have hn4 := HN.out.2.2.2
  have hn5 := HL4.out
  go_wp2
  go_ret
  exact ⟨by rw [HE.out, cat_take A4 s nb]; rfl, HB5.out⟩
end Go.Proofs.YtjliopclpjeieaaDoor
namespace Go.Proofs.YtjliopclpjeieaaDoor
open Go.RowKit
set_option maxRecDepth 100000 in
set_option maxHeartbeats 3200000 in
theorem one_tn (f : Int) (r : Nat) (s : ByteArray) (l id lb : Nat) (w : World) (hl : l ≤ 8 * s.size) (hs : s.size ≤ 16) (hid : id < 4294967296) (hlb : lb ≤ 1048575) (hr : r < 18446744073709551616) (hlab : lab f = false) (hdst : dst f = false) :
    Calls Tryd.prog 51 #[.agg #[.int .i64 f, .int .u64 (r : Int), .string s, .int .i64 (l : Int), .int .u32 (id : Int), .int .u32 (lb : Int)], .bool true] w fun e w' => e = .returned (.string ⟨(nlE f true r s l id lb).toArray⟩) ∧ Below w.heap.size w w' := by
  have hex : exN f ≤ 88 := by unfold exN lbN rdN; rw [hlab, hdst]; decide
  obtain ⟨ct, hct⟩ : ∃ ct, ct = l + exN f := ⟨_, rfl⟩
  obtain ⟨lv, hlv⟩ : ∃ lv, lv = lb * 16 + 1 := ⟨_, rfl⟩
  obtain ⟨rh, hrh⟩ : ∃ rh, rh = r / 4294967296 := ⟨_, rfl⟩
  obtain ⟨rl, hrl⟩ : ∃ rl, rl = r % 4294967296 := ⟨_, rfl⟩
  obtain ⟨nb, hnb⟩ : ∃ nb, nb = (l + 7) / 8 := ⟨_, rfl⟩
  have hlv0 : lv < 16777216 := by omega
  have KA : Hid (∀ w, Calls Tryd.prog 69 #[.int .i64 f] w fun e w' => e = .returned (.int .i64 (exN f : Nat)) ∧ w' = w) := ahead_any f
  have KL : Hid (∀ w, Calls Tryd.prog 67 #[.int .i64 f] w fun e w' => e = .returned (.bool false) ∧ w' = w) := by have := rlabd f; rw [hlab] at this; exact this
  have KD : Hid (∀ w, Calls Tryd.prog 70 #[.int .i64 f] w fun e w' => e = .returned (.bool false) ∧ w' = w) := by have := rdst_any f; rw [hdst] at this; exact this
  have KF : Hid (∀ w, Calls Tryd.prog 68 #[.int .u32 (id : Int)] w fun e w' => e = .returned (.string ⟨(laid id 4).toArray⟩) ∧ Below w.heap.size w w') := fun w => four_any id w hid
  have KH : Hid (∀ w, Calls Tryd.prog 68 #[.int .u32 (rh : Int)] w fun e w' => e = .returned (.string ⟨(laid rh 4).toArray⟩) ∧ Below w.heap.size w w') := fun w => four_any rh w (by omega)
  have KW : Hid (∀ w, Calls Tryd.prog 68 #[.int .u32 (rl : Int)] w fun e w' => e = .returned (.string ⟨(laid rl 4).toArray⟩) ∧ Below w.heap.size w w') := fun w => four_any rl w (by omega)
  have hw2 : IntKind.i64.wrap ((l : Int) + (exN f : Nat)) = (ct : Int) := by rw [IntKind.wrap_i64]; omega
  have hw3 : IntKind.u8.wrap (ct : Int) = ((ct % 256 : Nat) : Int) := by rw [IntKind.wrap_u8]; omega
  have HE : Hid (nlE f true r s l id lb = (laid id 4 ++ laid ct 1) ++ s.data.toList.take nb) := by
    unfold Hid nlE idN lbN rdN; rw [hlab, hdst, hct, hnb]; (try rw [hlv]); (try rw [hrh, hrl]); (try simp only [if_true]; rw [laid8 r]); simp [laid]
  have HR : Hid ((r : Int) / 4294967296 = (rh : Int) ∧ (rh : Int) % 4294967296 = (rh : Int) ∧ (r : Int) % 4294967296 = (rl : Int)) := by unfold Hid; omega
  have HN : Hid (wrap64 ((l : Int) + 7) = (l : Int) + 7 ∧ wrap64 (((l : Int) + 7).tdiv 8) = (nb : Int) ∧ nb ≤ s.size ∧ s.size ≤ 16) := by
    have e1 : ((l : Int) + 7).tdiv 8 = (nb : Int) := by rw [Int.tdiv_eq_ediv_of_nonneg (by omega)]; omega
    refine ⟨by unfold wrap64; omega, ?_, by omega, hs⟩
    rw [e1]; unfold wrap64; omega
  clear hl hs hid hlab hdst hct hex hrh hrl hnb
  go_enter Tryd.func51, Tryd.ntmps51
  go_wp2_with fail
  refine Calls.mono (KF.out _) ?_
  rintro e w1 ⟨rfl, hb1⟩
  have p0 : w1.cell? ⟨w.heap.size, 0, none⟩ = some (.int .i64 f) := cell2 hb1 (by simp)
  have p1 : w1.cell? ⟨w.heap.size, 1, none⟩ = some (.int .u64 (r : Int)) := cell2 hb1 (by simp)
  have p2 : w1.cell? ⟨w.heap.size, 2, none⟩ = some (.string s) := cell2 hb1 (by simp)
  have p3 : w1.cell? ⟨w.heap.size, 3, none⟩ = some (.int .i64 (l : Int)) := cell2 hb1 (by simp)
  have p5 : w1.cell? ⟨w.heap.size, 5, none⟩ = some (.int .u32 (lb : Int)) := cell2 hb1 (by simp)
  have HB1 : Hid (Below w.heap.size w w1) := ((Below.refl _ _).alloc (Nat.le_refl _) _).trans (hb1.mono (by simp))
  clear hb1
  have HLn : Hid ((laid id 4).length = 4) := laid_length _ _
  generalize laid id 4 = A1 at *
  have HB2 : Hid (Below w.heap.size w (w1.alloc (.cells #[.int .i64 f, .int .u64 (r : Int), .string s, .int .i64 (l : Int)] 43))) := HB1.out.alloc HB1.out.size _
  go_wp2
  have q0 : (w1.alloc (.cells #[.int .i64 f, .int .u64 (r : Int), .string s, .int .i64 (l : Int)] 43)).cell? ⟨w1.heap.size, 0, none⟩ = some (.int .i64 f) := by simp
  have q1 : (w1.alloc (.cells #[.int .i64 f, .int .u64 (r : Int), .string s, .int .i64 (l : Int)] 43)).cell? ⟨w1.heap.size, 1, none⟩ = some (.int .u64 (r : Int)) := by simp
  have q2 : (w1.alloc (.cells #[.int .i64 f, .int .u64 (r : Int), .string s, .int .i64 (l : Int)] 43)).cell? ⟨w1.heap.size, 2, none⟩ = some (.string s) := by simp
  have q3 : (w1.alloc (.cells #[.int .i64 f, .int .u64 (r : Int), .string s, .int .i64 (l : Int)] 43)).cell? ⟨w1.heap.size, 3, none⟩ = some (.int .i64 (l : Int)) := by simp
  have q5 : (w1.alloc (.cells #[.int .i64 f, .int .u64 (r : Int), .string s, .int .i64 (l : Int)] 43)).cell? ⟨w.heap.size, 5, none⟩ = some (.int .u32 (lb : Int)) := below_cell ((Below.refl _ _).alloc (Nat.le_refl _) _) p5
  clear p0 p1 p2 p3 p5
  generalize w1.alloc (.cells #[.int .i64 f, .int .u64 (r : Int), .string s, .int .i64 (l : Int)] 43) = W at *
  generalize w1.heap.size = b at *
  have hb : ∀ wx : World, (convert 52 9 (.slice (some ⟨wx.heap.size, 0, none⟩) 1 1)).run Tryd.prog (wx.alloc (.cells #[.int .u8 ((ct : Int) % 256)] 5)).drew = .ok (.string ⟨(laid ct 1).toArray⟩) (wx.alloc (.cells #[.int .u8 ((ct : Int) % 256)] 5)).drew := fun wx => back1 ct wx.drew
  have HLc : Hid ((laid ct 1).length = 1) := laid_length _ _
  have ha : ∀ wx : World, (Op.stringOp .add ⟨A1.toArray⟩ ⟨(laid ct 1).toArray⟩).run Tryd.prog wx = .ok (.string ⟨(A1 ++ laid ct 1).toArray⟩) wx := fun wx => add_l A1 (laid ct 1) (by rw [HLn.out]; omega) (by rw [laid_length]; omega) wx
  generalize laid ct 1 = A2 at *
  go_region_held (fun w' => w'.cell? ⟨b, 0, none⟩ = some (.int .i64 f) ∧ w'.cell? ⟨b, 1, none⟩ = some (.int .u64 (r : Int)) ∧ w'.cell? ⟨b, 2, none⟩ = some (.string s) ∧ w'.cell? ⟨b, 3, none⟩ = some (.int .i64 (l : Int)) ∧ w'.cell? ⟨w.heap.size, 5, none⟩ = some (.int .u32 (lb : Int))) (go_keep)
    (first | (go_at_call 69; refine Calls.mono (KA.out _) ?_; rintro e w4 ⟨rfl, rfl⟩))
  have hbx : Below W.heap.size W (W.alloc (.cells #[.int .u8 ((ct : Int) % 256)] 5)).drew := ((Below.refl _ _).alloc (Nat.le_refl _) _).drew
  have r0 := below_cell hbx q0
  have r1 := below_cell hbx q1
  have r2 := below_cell hbx q2
  have r3 := below_cell hbx q3
  have r5 := below_cell hbx q5
  have HB3 : Hid (Below w.heap.size w (W.alloc (.cells #[.int .u8 ((ct : Int) % 256)] 5)).drew) := HB2.out.trans (hbx.mono HB2.out.size)
  clear q0 q1 q2 q3 q5 hbx HB2 HB1 hb ha
  generalize (W.alloc (.cells #[.int .u8 ((ct : Int) % 256)] 5)).drew = W3 at *
  have HL3 : Hid ((A1 ++ A2).length ≤ 5) := by unfold Hid; rw [List.length_append, HLc.out, HLn.out]; omega
  generalize A1 ++ A2 = A3 at *
  clear hlv
  go_wp2_with fail
  refine Calls.mono (KL.out _) ?_
  rintro e w5 ⟨rfl, hw5⟩
  obtain rfl : W3 = w5 := hw5.symm
  clear hw5
  go_wp2_with fail
  refine Calls.mono (KD.out _) ?_
  rintro e w5 ⟨rfl, hw5⟩
  obtain rfl : W3 = w5 := hw5.symm
  clear hw5
  have t2 := r2
  have t3 := r3
  clear r0 r1 r2 r3 r5
  have hn1 := HN.out.1
  have hn2 := HN.out.2.1
  have hn3 := HN.out.2.2.1
  have hn4 := HN.out.2.2.2
  have hn5 := HL3.out
  go_wp2
  go_ret
  exact ⟨by rw [HE.out, cat_take A3 s nb]; rfl, HB3.out⟩
end Go.Proofs.YtjliopclpjeieaaDoor
namespace Go.Proofs.YtjliopclpjeieaaDoor
open Go.RowKit
set_option maxRecDepth 100000 in
set_option maxHeartbeats 3200000 in
theorem one_fd (f : Int) (r : Nat) (s : ByteArray) (l id lb : Nat) (w : World) (hl : l ≤ 8 * s.size) (hs : s.size ≤ 16) (hid : id < 4294967296) (hlb : lb ≤ 1048575) (hr : r < 18446744073709551616) (hlab : lab f = true) (hdst : dst f = true) :
    Calls Tryd.prog 51 #[.agg #[.int .i64 f, .int .u64 (r : Int), .string s, .int .i64 (l : Int), .int .u32 (id : Int), .int .u32 (lb : Int)], .bool false] w fun e w' => e = .returned (.string ⟨(nlE f false r s l id lb).toArray⟩) ∧ Below w.heap.size w w' := by
  have hex : exN f ≤ 88 := by unfold exN lbN rdN; rw [hlab, hdst]; decide
  obtain ⟨ct, hct⟩ : ∃ ct, ct = l + exN f := ⟨_, rfl⟩
  obtain ⟨lv, hlv⟩ : ∃ lv, lv = lb * 16 + 1 := ⟨_, rfl⟩
  obtain ⟨rh, hrh⟩ : ∃ rh, rh = r / 4294967296 := ⟨_, rfl⟩
  obtain ⟨rl, hrl⟩ : ∃ rl, rl = r % 4294967296 := ⟨_, rfl⟩
  obtain ⟨nb, hnb⟩ : ∃ nb, nb = (l + 7) / 8 := ⟨_, rfl⟩
  have hlv0 : lv < 16777216 := by omega
  have KA : Hid (∀ w, Calls Tryd.prog 69 #[.int .i64 f] w fun e w' => e = .returned (.int .i64 (exN f : Nat)) ∧ w' = w) := ahead_any f
  have KL : Hid (∀ w, Calls Tryd.prog 67 #[.int .i64 f] w fun e w' => e = .returned (.bool true) ∧ w' = w) := by have := rlabd f; rw [hlab] at this; exact this
  have KD : Hid (∀ w, Calls Tryd.prog 70 #[.int .i64 f] w fun e w' => e = .returned (.bool true) ∧ w' = w) := by have := rdst_any f; rw [hdst] at this; exact this
  have KF : Hid (∀ w, Calls Tryd.prog 68 #[.int .u32 (id : Int)] w fun e w' => e = .returned (.string ⟨(laid id 4).toArray⟩) ∧ Below w.heap.size w w') := fun w => four_any id w hid
  have KH : Hid (∀ w, Calls Tryd.prog 68 #[.int .u32 (rh : Int)] w fun e w' => e = .returned (.string ⟨(laid rh 4).toArray⟩) ∧ Below w.heap.size w w') := fun w => four_any rh w (by omega)
  have KW : Hid (∀ w, Calls Tryd.prog 68 #[.int .u32 (rl : Int)] w fun e w' => e = .returned (.string ⟨(laid rl 4).toArray⟩) ∧ Below w.heap.size w w') := fun w => four_any rl w (by omega)
  have hw2 : IntKind.i64.wrap ((l : Int) + (exN f : Nat)) = (ct : Int) := by rw [IntKind.wrap_i64]; omega
  have hw3 : IntKind.u8.wrap (ct : Int) = ((ct % 256 : Nat) : Int) := by rw [IntKind.wrap_u8]; omega
  have HE : Hid (nlE f false r s l id lb = (((laid ct 1 ++ laid lv 3) ++ laid rh 4) ++ laid rl 4) ++ s.data.toList.take nb) := by
    unfold Hid nlE idN lbN rdN; rw [hlab, hdst, hct, hnb]; (try rw [hlv]); (try rw [hrh, hrl]); (try simp only [if_true]; rw [laid8 r]); simp [laid]
  have HR : Hid ((r : Int) / 4294967296 = (rh : Int) ∧ IntKind.u32.wrap (rh : Int) = (rh : Int) ∧ IntKind.u32.wrap (r : Int) = (rl : Int)) := by unfold Hid; rw [IntKind.wrap_u32, IntKind.wrap_u32]; omega
  have HN : Hid (wrap64 ((l : Int) + 7) = (l : Int) + 7 ∧ wrap64 (((l : Int) + 7).tdiv 8) = (nb : Int) ∧ nb ≤ s.size ∧ s.size ≤ 16) := by
    have e1 : ((l : Int) + 7).tdiv 8 = (nb : Int) := by rw [Int.tdiv_eq_ediv_of_nonneg (by omega)]; omega
    refine ⟨by unfold wrap64; omega, ?_, by omega, hs⟩
    rw [e1]; unfold wrap64; omega
  clear hl hs hid hlab hdst hct hex hrh hrl hnb
  go_enter Tryd.func51, Tryd.ntmps51
  generalize hw1 : w.alloc (.cells #[.int .i64 f, .int .u64 (r : Int), .string s, .int .i64 (l : Int), .int .u32 (id : Int), .int .u32 (lb : Int)] 46) = w1
  have p0 : w1.cell? ⟨w.heap.size, 0, none⟩ = some (.int .i64 f) := by subst hw1; simp
  have p1 : w1.cell? ⟨w.heap.size, 1, none⟩ = some (.int .u64 (r : Int)) := by subst hw1; simp
  have p2 : w1.cell? ⟨w.heap.size, 2, none⟩ = some (.string s) := by subst hw1; simp
  have p3 : w1.cell? ⟨w.heap.size, 3, none⟩ = some (.int .i64 (l : Int)) := by subst hw1; simp
  have p5 : w1.cell? ⟨w.heap.size, 5, none⟩ = some (.int .u32 (lb : Int)) := by subst hw1; simp
  have HB1 : Hid (Below w.heap.size w w1) := by subst hw1; exact (Below.refl _ _).alloc (Nat.le_refl _) _
  have HB2 : Hid (Below w.heap.size w (w1.alloc (.cells #[.int .i64 f, .int .u64 (r : Int), .string s, .int .i64 (l : Int)] 43))) := HB1.out.alloc HB1.out.size _
  go_wp2
  have q0 : (w1.alloc (.cells #[.int .i64 f, .int .u64 (r : Int), .string s, .int .i64 (l : Int)] 43)).cell? ⟨w1.heap.size, 0, none⟩ = some (.int .i64 f) := by simp
  have q1 : (w1.alloc (.cells #[.int .i64 f, .int .u64 (r : Int), .string s, .int .i64 (l : Int)] 43)).cell? ⟨w1.heap.size, 1, none⟩ = some (.int .u64 (r : Int)) := by simp
  have q2 : (w1.alloc (.cells #[.int .i64 f, .int .u64 (r : Int), .string s, .int .i64 (l : Int)] 43)).cell? ⟨w1.heap.size, 2, none⟩ = some (.string s) := by simp
  have q3 : (w1.alloc (.cells #[.int .i64 f, .int .u64 (r : Int), .string s, .int .i64 (l : Int)] 43)).cell? ⟨w1.heap.size, 3, none⟩ = some (.int .i64 (l : Int)) := by simp
  have q5 : (w1.alloc (.cells #[.int .i64 f, .int .u64 (r : Int), .string s, .int .i64 (l : Int)] 43)).cell? ⟨w.heap.size, 5, none⟩ = some (.int .u32 (lb : Int)) := below_cell ((Below.refl _ _).alloc (Nat.le_refl _) _) p5
  clear p0 p1 p2 p3 p5
  generalize w1.alloc (.cells #[.int .i64 f, .int .u64 (r : Int), .string s, .int .i64 (l : Int)] 43) = W at *
  generalize w1.heap.size = b at *
  have hb : ∀ wx : World, (convert 52 9 (.slice (some ⟨wx.heap.size, 0, none⟩) 1 1)).run Tryd.prog (wx.alloc (.cells #[.int .u8 ((ct : Int) % 256)] 5)).drew = .ok (.string ⟨(laid ct 1).toArray⟩) (wx.alloc (.cells #[.int .u8 ((ct : Int) % 256)] 5)).drew := fun wx => back1 ct wx.drew
  have HLc : Hid ((laid ct 1).length = 1) := laid_length _ _
  have ha : ∀ wx : World, (Op.stringOp .add ⟨#[]⟩ ⟨(laid ct 1).toArray⟩).run Tryd.prog wx = .ok (.string ⟨(laid ct 1).toArray⟩) wx := fun wx => add_l [] (laid ct 1) (by simp) (by rw [laid_length]; omega) wx
  generalize laid ct 1 = A2 at *
  go_region_held (fun w' => w'.cell? ⟨b, 0, none⟩ = some (.int .i64 f) ∧ w'.cell? ⟨b, 1, none⟩ = some (.int .u64 (r : Int)) ∧ w'.cell? ⟨b, 2, none⟩ = some (.string s) ∧ w'.cell? ⟨b, 3, none⟩ = some (.int .i64 (l : Int)) ∧ w'.cell? ⟨w.heap.size, 5, none⟩ = some (.int .u32 (lb : Int))) (go_keep)
    (first | (go_at_call 69; refine Calls.mono (KA.out _) ?_; rintro e w4 ⟨rfl, rfl⟩))
  have hbx : Below W.heap.size W (W.alloc (.cells #[.int .u8 ((ct : Int) % 256)] 5)).drew := ((Below.refl _ _).alloc (Nat.le_refl _) _).drew
  have r0 := below_cell hbx q0
  have r1 := below_cell hbx q1
  have r2 := below_cell hbx q2
  have r3 := below_cell hbx q3
  have r5 := below_cell hbx q5
  have HB3 : Hid (Below w.heap.size w (W.alloc (.cells #[.int .u8 ((ct : Int) % 256)] 5)).drew) := HB2.out.trans (hbx.mono HB2.out.size)
  clear q0 q1 q2 q3 q5 hbx HB2 HB1 hb ha
  generalize (W.alloc (.cells #[.int .u8 ((ct : Int) % 256)] 5)).drew = W3 at *
  have HL3 : Hid (A2.length ≤ 5) := by unfold Hid; rw [HLc.out]; omega
  clear HLc
  generalize A2 = A3 at *
  have hs1 : (lb : Int) * 16 % 4294967296 = (lb : Int) * 16 := by omega
  have hor : bits .or .u32 ((lb : Int) * 16) 1 = (lv : Int) := by
    have h := u32_or_nat (lb * 16) 1 (by omega) (by omega)
    rw [show ((lb * 16 : Nat) : Int) = (lb : Int) * 16 from by simp, show ((1 : Nat) : Int) = 1 from rfl] at h
    rw [h, Nat.mul_comm lb 16, ← Nat.two_pow_add_eq_or_of_lt (i := 4) (by omega : 1 < 2 ^ 4) lb]
    omega
  clear hlv
  have hb3 : ∀ wx : World, (convert 52 9 (.slice (some ⟨wx.heap.size, 0, none⟩) 3 3)).run Tryd.prog (wx.alloc (.cells #[.int .u8 ((lv : Int) / 65536), .int .u8 ((lv : Int) / 256 % 256), .int .u8 ((lv : Int) % 256)] 5)) = .ok (.string ⟨(laid lv 3).toArray⟩) (wx.alloc (.cells #[.int .u8 ((lv : Int) / 65536), .int .u8 ((lv : Int) / 256 % 256), .int .u8 ((lv : Int) % 256)] 5)) := fun wx => back3 lv hlv0 wx
  have ha3 : ∀ wx : World, (Op.stringOp .add ⟨A3.toArray⟩ ⟨(laid lv 3).toArray⟩).run Tryd.prog wx = .ok (.string ⟨(A3 ++ laid lv 3).toArray⟩) wx := fun wx => add_l A3 (laid lv 3) (by have := HL3.out; omega) (by rw [laid_length]; omega) wx
  have HL4 : Hid ((A3 ++ laid lv 3).length ≤ 8) := by unfold Hid; rw [List.length_append, laid_length]; have := HL3.out; omega
  generalize laid lv 3 = A3' at *
  generalize hA4 : A3 ++ A3' = A4 at *
  go_wp2_with fail
  refine Calls.mono (KL.out _) ?_
  rintro e w5 ⟨rfl, hw5⟩
  obtain rfl : W3 = w5 := hw5.symm
  clear hw5
  have hbx : Below W3.heap.size W3 (W3.alloc (.cells #[.int .u8 ((lv : Int) / 65536), .int .u8 ((lv : Int) / 256 % 256), .int .u8 ((lv : Int) % 256)] 5)) := (Below.refl _ _).alloc (Nat.le_refl _) _
  have t0 := below_cell hbx r0
  have t1 := below_cell hbx r1
  have t2 := below_cell hbx r2
  have t3 := below_cell hbx r3
  have HB5 : Hid (Below w.heap.size w (W3.alloc (.cells #[.int .u8 ((lv : Int) / 65536), .int .u8 ((lv : Int) / 256 % 256), .int .u8 ((lv : Int) % 256)] 5))) := HB3.out.trans (hbx.mono HB3.out.size)
  clear hbx
  go_wp2_with fail
  refine Calls.mono (KD.out _) ?_
  rintro e w5 ⟨rfl, hw5⟩
  rw [← hw5] at t0 t1 t2 t3 HB5
  clear hw5
  clear r0 r1 r2 r3 r5 HB3 hb3 ha3 hs1 hor hA4
  have hr1 := HR.out.1
  have hr2 := HR.out.2.1
  have hr3 := HR.out.2.2
  have ha5 : ∀ wx : World, (Op.stringOp .add ⟨A4.toArray⟩ ⟨(laid rh 4).toArray⟩).run Tryd.prog wx = .ok (.string ⟨(A4 ++ laid rh 4).toArray⟩) wx := fun wx => add_l A4 (laid rh 4) (by have := HL4.out; omega) (by rw [laid_length]; omega) wx
  have HL5 : Hid ((A4 ++ laid rh 4).length ≤ 12) := by unfold Hid; rw [List.length_append, laid_length]; have := HL4.out; omega
  generalize laid rh 4 = B1 at *
  generalize A4 ++ B1 = A5 at *
  have ha6 : ∀ wx : World, (Op.stringOp .add ⟨A5.toArray⟩ ⟨(laid rl 4).toArray⟩).run Tryd.prog wx = .ok (.string ⟨(A5 ++ laid rl 4).toArray⟩) wx := fun wx => add_l A5 (laid rl 4) (by have := HL5.out; omega) (by rw [laid_length]; omega) wx
  have HL6 : Hid ((A5 ++ laid rl 4).length ≤ 16) := by unfold Hid; rw [List.length_append, laid_length]; have := HL5.out; omega
  generalize laid rl 4 = B2 at *
  generalize A5 ++ B2 = A6 at *
  go_wp2
  go_region_held (fun w' => w'.cell? ⟨b, 0, none⟩ = some (.int .i64 f) ∧ w'.cell? ⟨b, 1, none⟩ = some (.int .u64 (r : Int)) ∧ w'.cell? ⟨b, 2, none⟩ = some (.string s) ∧ w'.cell? ⟨b, 3, none⟩ = some (.int .i64 (l : Int))) (go_keep)
    (first | (go_at_call_of 68 (Value.int .u32 (rh : Int)); refine Calls.mono (KH.out _) ?_; rintro e w6 ⟨rfl, hb6⟩; have u0 := below_cell (w := w5.drew) hb6 t0; have u1 := below_cell (w := w5.drew) hb6 t1; have u2 := below_cell (w := w5.drew) hb6 t2; have u3 := below_cell (w := w5.drew) hb6 t3) | (go_at_call_of 68 (Value.int .u32 (rl : Int)); refine Calls.mono (KW.out _) ?_; rintro e w7 ⟨rfl, hb7⟩; have v0 := below_cell hb7 u0; have v1 := below_cell hb7 u1; have v2 := below_cell hb7 u2; have v3 := below_cell hb7 u3))
  have HB7 : Hid (Below w.heap.size w w7) := by
    have h1 : Below w.heap.size w w6 := HB5.out.drew.trans (hb6.mono HB5.out.size)
    exact h1.trans (hb7.mono h1.size)
  clear hb6 hb7 u0 u1 u2 u3 v0 v1 t0 t1 t2 t3 ha5 ha6 hr1 hr2 hr3
  have hn1 := HN.out.1
  have hn2 := HN.out.2.1
  have hn3 := HN.out.2.2.1
  have hn4 := HN.out.2.2.2
  have hn5 := HL6.out
  go_wp2
  go_ret
  exact ⟨by rw [HE.out, cat_take A6 s nb]; rfl, HB7.out⟩
end Go.Proofs.YtjliopclpjeieaaDoor
namespace Go.Proofs.YtjliopclpjeieaaDoor
open Go.RowKit
set_option maxRecDepth 100000 in
set_option maxHeartbeats 3200000 in
theorem one_fl (f : Int) (r : Nat) (s : ByteArray) (l id lb : Nat) (w : World) (hl : l ≤ 8 * s.size) (hs : s.size ≤ 16) (hid : id < 4294967296) (hlb : lb ≤ 1048575) (hr : r < 18446744073709551616) (hlab : lab f = true) (hdst : dst f = false) :
    Calls Tryd.prog 51 #[.agg #[.int .i64 f, .int .u64 (r : Int), .string s, .int .i64 (l : Int), .int .u32 (id : Int), .int .u32 (lb : Int)], .bool false] w fun e w' => e = .returned (.string ⟨(nlE f false r s l id lb).toArray⟩) ∧ Below w.heap.size w w' := by
  have hex : exN f ≤ 88 := by unfold exN lbN rdN; rw [hlab, hdst]; decide
  obtain ⟨ct, hct⟩ : ∃ ct, ct = l + exN f := ⟨_, rfl⟩
  obtain ⟨lv, hlv⟩ : ∃ lv, lv = lb * 16 + 1 := ⟨_, rfl⟩
  obtain ⟨rh, hrh⟩ : ∃ rh, rh = r / 4294967296 := ⟨_, rfl⟩
  obtain ⟨rl, hrl⟩ : ∃ rl, rl = r % 4294967296 := ⟨_, rfl⟩
  obtain ⟨nb, hnb⟩ : ∃ nb, nb = (l + 7) / 8 := ⟨_, rfl⟩
  have hlv0 : lv < 16777216 := by omega
  have KA : Hid (∀ w, Calls Tryd.prog 69 #[.int .i64 f] w fun e w' => e = .returned (.int .i64 (exN f : Nat)) ∧ w' = w) := ahead_any f
  have KL : Hid (∀ w, Calls Tryd.prog 67 #[.int .i64 f] w fun e w' => e = .returned (.bool true) ∧ w' = w) := by have := rlabd f; rw [hlab] at this; exact this
  have KD : Hid (∀ w, Calls Tryd.prog 70 #[.int .i64 f] w fun e w' => e = .returned (.bool false) ∧ w' = w) := by have := rdst_any f; rw [hdst] at this; exact this
  have KF : Hid (∀ w, Calls Tryd.prog 68 #[.int .u32 (id : Int)] w fun e w' => e = .returned (.string ⟨(laid id 4).toArray⟩) ∧ Below w.heap.size w w') := fun w => four_any id w hid
  have KH : Hid (∀ w, Calls Tryd.prog 68 #[.int .u32 (rh : Int)] w fun e w' => e = .returned (.string ⟨(laid rh 4).toArray⟩) ∧ Below w.heap.size w w') := fun w => four_any rh w (by omega)
  have KW : Hid (∀ w, Calls Tryd.prog 68 #[.int .u32 (rl : Int)] w fun e w' => e = .returned (.string ⟨(laid rl 4).toArray⟩) ∧ Below w.heap.size w w') := fun w => four_any rl w (by omega)
  have hw2 : IntKind.i64.wrap ((l : Int) + (exN f : Nat)) = (ct : Int) := by rw [IntKind.wrap_i64]; omega
  have hw3 : IntKind.u8.wrap (ct : Int) = ((ct % 256 : Nat) : Int) := by rw [IntKind.wrap_u8]; omega
  have HE : Hid (nlE f false r s l id lb = (laid ct 1 ++ laid lv 3) ++ s.data.toList.take nb) := by
    unfold Hid nlE idN lbN rdN; rw [hlab, hdst, hct, hnb]; (try rw [hlv]); (try rw [hrh, hrl]); (try simp only [if_true]; rw [laid8 r]); simp [laid]
  have HR : Hid ((r : Int) / 4294967296 = (rh : Int) ∧ (rh : Int) % 4294967296 = (rh : Int) ∧ (r : Int) % 4294967296 = (rl : Int)) := by unfold Hid; omega
  have HN : Hid (wrap64 ((l : Int) + 7) = (l : Int) + 7 ∧ wrap64 (((l : Int) + 7).tdiv 8) = (nb : Int) ∧ nb ≤ s.size ∧ s.size ≤ 16) := by
    have e1 : ((l : Int) + 7).tdiv 8 = (nb : Int) := by rw [Int.tdiv_eq_ediv_of_nonneg (by omega)]; omega
    refine ⟨by unfold wrap64; omega, ?_, by omega, hs⟩
    rw [e1]; unfold wrap64; omega
  clear hl hs hid hlab hdst hct hex hrh hrl hnb
  go_enter Tryd.func51, Tryd.ntmps51
  generalize hw1 : w.alloc (.cells #[.int .i64 f, .int .u64 (r : Int), .string s, .int .i64 (l : Int), .int .u32 (id : Int), .int .u32 (lb : Int)] 46) = w1
  have p0 : w1.cell? ⟨w.heap.size, 0, none⟩ = some (.int .i64 f) := by subst hw1; simp
  have p1 : w1.cell? ⟨w.heap.size, 1, none⟩ = some (.int .u64 (r : Int)) := by subst hw1; simp
  have p2 : w1.cell? ⟨w.heap.size, 2, none⟩ = some (.string s) := by subst hw1; simp
  have p3 : w1.cell? ⟨w.heap.size, 3, none⟩ = some (.int .i64 (l : Int)) := by subst hw1; simp
  have p5 : w1.cell? ⟨w.heap.size, 5, none⟩ = some (.int .u32 (lb : Int)) := by subst hw1; simp
  have HB1 : Hid (Below w.heap.size w w1) := by subst hw1; exact (Below.refl _ _).alloc (Nat.le_refl _) _
  have HB2 : Hid (Below w.heap.size w (w1.alloc (.cells #[.int .i64 f, .int .u64 (r : Int), .string s, .int .i64 (l : Int)] 43))) := HB1.out.alloc HB1.out.size _
  go_wp2
  have q0 : (w1.alloc (.cells #[.int .i64 f, .int .u64 (r : Int), .string s, .int .i64 (l : Int)] 43)).cell? ⟨w1.heap.size, 0, none⟩ = some (.int .i64 f) := by simp
  have q1 : (w1.alloc (.cells #[.int .i64 f, .int .u64 (r : Int), .string s, .int .i64 (l : Int)] 43)).cell? ⟨w1.heap.size, 1, none⟩ = some (.int .u64 (r : Int)) := by simp
  have q2 : (w1.alloc (.cells #[.int .i64 f, .int .u64 (r : Int), .string s, .int .i64 (l : Int)] 43)).cell? ⟨w1.heap.size, 2, none⟩ = some (.string s) := by simp
  have q3 : (w1.alloc (.cells #[.int .i64 f, .int .u64 (r : Int), .string s, .int .i64 (l : Int)] 43)).cell? ⟨w1.heap.size, 3, none⟩ = some (.int .i64 (l : Int)) := by simp
  have q5 : (w1.alloc (.cells #[.int .i64 f, .int .u64 (r : Int), .string s, .int .i64 (l : Int)] 43)).cell? ⟨w.heap.size, 5, none⟩ = some (.int .u32 (lb : Int)) := below_cell ((Below.refl _ _).alloc (Nat.le_refl _) _) p5
  clear p0 p1 p2 p3 p5
  generalize w1.alloc (.cells #[.int .i64 f, .int .u64 (r : Int), .string s, .int .i64 (l : Int)] 43) = W at *
  generalize w1.heap.size = b at *
  have hb : ∀ wx : World, (convert 52 9 (.slice (some ⟨wx.heap.size, 0, none⟩) 1 1)).run Tryd.prog (wx.alloc (.cells #[.int .u8 ((ct : Int) % 256)] 5)).drew = .ok (.string ⟨(laid ct 1).toArray⟩) (wx.alloc (.cells #[.int .u8 ((ct : Int) % 256)] 5)).drew := fun wx => back1 ct wx.drew
  have HLc : Hid ((laid ct 1).length = 1) := laid_length _ _
  have ha : ∀ wx : World, (Op.stringOp .add ⟨#[]⟩ ⟨(laid ct 1).toArray⟩).run Tryd.prog wx = .ok (.string ⟨(laid ct 1).toArray⟩) wx := fun wx => add_l [] (laid ct 1) (by simp) (by rw [laid_length]; omega) wx
  generalize laid ct 1 = A2 at *
  go_region_held (fun w' => w'.cell? ⟨b, 0, none⟩ = some (.int .i64 f) ∧ w'.cell? ⟨b, 1, none⟩ = some (.int .u64 (r : Int)) ∧ w'.cell? ⟨b, 2, none⟩ = some (.string s) ∧ w'.cell? ⟨b, 3, none⟩ = some (.int .i64 (l : Int)) ∧ w'.cell? ⟨w.heap.size, 5, none⟩ = some (.int .u32 (lb : Int))) (go_keep)
    (first | (go_at_call 69; refine Calls.mono (KA.out _) ?_; rintro e w4 ⟨rfl, rfl⟩))
  have hbx : Below W.heap.size W (W.alloc (.cells #[.int .u8 ((ct : Int) % 256)] 5)).drew := ((Below.refl _ _).alloc (Nat.le_refl _) _).drew
  have r0 := below_cell hbx q0
  have r1 := below_cell hbx q1
  have r2 := below_cell hbx q2
  have r3 := below_cell hbx q3
  have r5 := below_cell hbx q5
  have HB3 : Hid (Below w.heap.size w (W.alloc (.cells #[.int .u8 ((ct : Int) % 256)] 5)).drew) := HB2.out.trans (hbx.mono HB2.out.size)
  clear q0 q1 q2 q3 q5 hbx HB2 HB1 hb ha
  generalize (W.alloc (.cells #[.int .u8 ((ct : Int) % 256)] 5)).drew = W3 at *
  have HL3 : Hid (A2.length ≤ 5) := by unfold Hid; rw [HLc.out]; omega
  clear HLc
  generalize A2 = A3 at *
  have hs1 : (lb : Int) * 16 % 4294967296 = (lb : Int) * 16 := by omega
  have hor : bits .or .u32 ((lb : Int) * 16) 1 = (lv : Int) := by
    have h := u32_or_nat (lb * 16) 1 (by omega) (by omega)
    rw [show ((lb * 16 : Nat) : Int) = (lb : Int) * 16 from by simp, show ((1 : Nat) : Int) = 1 from rfl] at h
    rw [h, Nat.mul_comm lb 16, ← Nat.two_pow_add_eq_or_of_lt (i := 4) (by omega : 1 < 2 ^ 4) lb]
    omega
  clear hlv
  have hb3 : ∀ wx : World, (convert 52 9 (.slice (some ⟨wx.heap.size, 0, none⟩) 3 3)).run Tryd.prog (wx.alloc (.cells #[.int .u8 ((lv : Int) / 65536), .int .u8 ((lv : Int) / 256 % 256), .int .u8 ((lv : Int) % 256)] 5)) = .ok (.string ⟨(laid lv 3).toArray⟩) (wx.alloc (.cells #[.int .u8 ((lv : Int) / 65536), .int .u8 ((lv : Int) / 256 % 256), .int .u8 ((lv : Int) % 256)] 5)) := fun wx => back3 lv hlv0 wx
  have ha3 : ∀ wx : World, (Op.stringOp .add ⟨A3.toArray⟩ ⟨(laid lv 3).toArray⟩).run Tryd.prog wx = .ok (.string ⟨(A3 ++ laid lv 3).toArray⟩) wx := fun wx => add_l A3 (laid lv 3) (by have := HL3.out; omega) (by rw [laid_length]; omega) wx
  have HL4 : Hid ((A3 ++ laid lv 3).length ≤ 8) := by unfold Hid; rw [List.length_append, laid_length]; have := HL3.out; omega
  generalize laid lv 3 = A3' at *
  generalize hA4 : A3 ++ A3' = A4 at *
  go_wp2_with fail
  refine Calls.mono (KL.out _) ?_
  rintro e w5 ⟨rfl, hw5⟩
  obtain rfl : W3 = w5 := hw5.symm
  clear hw5
  have hbx : Below W3.heap.size W3 (W3.alloc (.cells #[.int .u8 ((lv : Int) / 65536), .int .u8 ((lv : Int) / 256 % 256), .int .u8 ((lv : Int) % 256)] 5)) := (Below.refl _ _).alloc (Nat.le_refl _) _
  have t0 := below_cell hbx r0
  have t1 := below_cell hbx r1
  have t2 := below_cell hbx r2
  have t3 := below_cell hbx r3
  have HB5 : Hid (Below w.heap.size w (W3.alloc (.cells #[.int .u8 ((lv : Int) / 65536), .int .u8 ((lv : Int) / 256 % 256), .int .u8 ((lv : Int) % 256)] 5))) := HB3.out.trans (hbx.mono HB3.out.size)
  clear hbx
  go_wp2_with fail
  refine Calls.mono (KD.out _) ?_
  rintro e w5 ⟨rfl, hw5⟩
  rw [← hw5] at t0 t1 t2 t3 HB5
  clear hw5
  clear r0 r1 r2 r3 r5 HB3 hb3 ha3 hs1 hor hA4
  have hn1 := HN.out.1
  have hn2 := HN.out.2.1
  have hn3 := HN.out.2.2.1
  have hn4 := HN.out.2.2.2
  have hn5 := HL4.out
  go_wp2
  go_ret
  exact ⟨by rw [HE.out, cat_take A4 s nb]; rfl, HB5.out⟩
end Go.Proofs.YtjliopclpjeieaaDoor
namespace Go.Proofs.YtjliopclpjeieaaDoor
open Go.RowKit
set_option maxRecDepth 100000 in
set_option maxHeartbeats 3200000 in
theorem one_fn (f : Int) (r : Nat) (s : ByteArray) (l id lb : Nat) (w : World) (hl : l ≤ 8 * s.size) (hs : s.size ≤ 16) (hid : id < 4294967296) (hlb : lb ≤ 1048575) (hr : r < 18446744073709551616) (hlab : lab f = false) (hdst : dst f = false) :
    Calls Tryd.prog 51 #[.agg #[.int .i64 f, .int .u64 (r : Int), .string s, .int .i64 (l : Int), .int .u32 (id : Int), .int .u32 (lb : Int)], .bool false] w fun e w' => e = .returned (.string ⟨(nlE f false r s l id lb).toArray⟩) ∧ Below w.heap.size w w' := by
  have hex : exN f ≤ 88 := by unfold exN lbN rdN; rw [hlab, hdst]; decide
  obtain ⟨ct, hct⟩ : ∃ ct, ct = l + exN f := ⟨_, rfl⟩
  obtain ⟨lv, hlv⟩ : ∃ lv, lv = lb * 16 + 1 := ⟨_, rfl⟩
  obtain ⟨rh, hrh⟩ : ∃ rh, rh = r / 4294967296 := ⟨_, rfl⟩
  obtain ⟨rl, hrl⟩ : ∃ rl, rl = r % 4294967296 := ⟨_, rfl⟩
  obtain ⟨nb, hnb⟩ : ∃ nb, nb = (l + 7) / 8 := ⟨_, rfl⟩
  have hlv0 : lv < 16777216 := by omega
  have KA : Hid (∀ w, Calls Tryd.prog 69 #[.int .i64 f] w fun e w' => e = .returned (.int .i64 (exN f : Nat)) ∧ w' = w) := ahead_any f
  have KL : Hid (∀ w, Calls Tryd.prog 67 #[.int .i64 f] w fun e w' => e = .returned (.bool false) ∧ w' = w) := by have := rlabd f; rw [hlab] at this; exact this
  have KD : Hid (∀ w, Calls Tryd.prog 70 #[.int .i64 f] w fun e w' => e = .returned (.bool false) ∧ w' = w) := by have := rdst_any f; rw [hdst] at this; exact this
  have KF : Hid (∀ w, Calls Tryd.prog 68 #[.int .u32 (id : Int)] w fun e w' => e = .returned (.string ⟨(laid id 4).toArray⟩) ∧ Below w.heap.size w w') := fun w => four_any id w hid
  have KH : Hid (∀ w, Calls Tryd.prog 68 #[.int .u32 (rh : Int)] w fun e w' => e = .returned (.string ⟨(laid rh 4).toArray⟩) ∧ Below w.heap.size w w') := fun w => four_any rh w (by omega)
  have KW : Hid (∀ w, Calls Tryd.prog 68 #[.int .u32 (rl : Int)] w fun e w' => e = .returned (.string ⟨(laid rl 4).toArray⟩) ∧ Below w.heap.size w w') := fun w => four_any rl w (by omega)
  have hw2 : IntKind.i64.wrap ((l : Int) + (exN f : Nat)) = (ct : Int) := by rw [IntKind.wrap_i64]; omega
  have hw3 : IntKind.u8.wrap (ct : Int) = ((ct % 256 : Nat) : Int) := by rw [IntKind.wrap_u8]; omega
  have HE : Hid (nlE f false r s l id lb = laid ct 1 ++ s.data.toList.take nb) := by
    unfold Hid nlE idN lbN rdN; rw [hlab, hdst, hct, hnb]; (try rw [hlv]); (try rw [hrh, hrl]); (try simp only [if_true]; rw [laid8 r]); simp [laid]
  have HR : Hid ((r : Int) / 4294967296 = (rh : Int) ∧ (rh : Int) % 4294967296 = (rh : Int) ∧ (r : Int) % 4294967296 = (rl : Int)) := by unfold Hid; omega
  have HN : Hid (wrap64 ((l : Int) + 7) = (l : Int) + 7 ∧ wrap64 (((l : Int) + 7).tdiv 8) = (nb : Int) ∧ nb ≤ s.size ∧ s.size ≤ 16) := by
    have e1 : ((l : Int) + 7).tdiv 8 = (nb : Int) := by rw [Int.tdiv_eq_ediv_of_nonneg (by omega)]; omega
    refine ⟨by unfold wrap64; omega, ?_, by omega, hs⟩
    rw [e1]; unfold wrap64; omega
  clear hl hs hid hlab hdst hct hex hrh hrl hnb
  go_enter Tryd.func51, Tryd.ntmps51
  generalize hw1 : w.alloc (.cells #[.int .i64 f, .int .u64 (r : Int), .string s, .int .i64 (l : Int), .int .u32 (id : Int), .int .u32 (lb : Int)] 46) = w1
  have p0 : w1.cell? ⟨w.heap.size, 0, none⟩ = some (.int .i64 f) := by subst hw1; simp
  have p1 : w1.cell? ⟨w.heap.size, 1, none⟩ = some (.int .u64 (r : Int)) := by subst hw1; simp
  have p2 : w1.cell? ⟨w.heap.size, 2, none⟩ = some (.string s) := by subst hw1; simp
  have p3 : w1.cell? ⟨w.heap.size, 3, none⟩ = some (.int .i64 (l : Int)) := by subst hw1; simp
  have p5 : w1.cell? ⟨w.heap.size, 5, none⟩ = some (.int .u32 (lb : Int)) := by subst hw1; simp
  have HB1 : Hid (Below w.heap.size w w1) := by subst hw1; exact (Below.refl _ _).alloc (Nat.le_refl _) _
  have HB2 : Hid (Below w.heap.size w (w1.alloc (.cells #[.int .i64 f, .int .u64 (r : Int), .string s, .int .i64 (l : Int)] 43))) := HB1.out.alloc HB1.out.size _
  go_wp2
  have q0 : (w1.alloc (.cells #[.int .i64 f, .int .u64 (r : Int), .string s, .int .i64 (l : Int)] 43)).cell? ⟨w1.heap.size, 0, none⟩ = some (.int .i64 f) := by simp
  have q1 : (w1.alloc (.cells #[.int .i64 f, .int .u64 (r : Int), .string s, .int .i64 (l : Int)] 43)).cell? ⟨w1.heap.size, 1, none⟩ = some (.int .u64 (r : Int)) := by simp
  have q2 : (w1.alloc (.cells #[.int .i64 f, .int .u64 (r : Int), .string s, .int .i64 (l : Int)] 43)).cell? ⟨w1.heap.size, 2, none⟩ = some (.string s) := by simp
  have q3 : (w1.alloc (.cells #[.int .i64 f, .int .u64 (r : Int), .string s, .int .i64 (l : Int)] 43)).cell? ⟨w1.heap.size, 3, none⟩ = some (.int .i64 (l : Int)) := by simp
  have q5 : (w1.alloc (.cells #[.int .i64 f, .int .u64 (r : Int), .string s, .int .i64 (l : Int)] 43)).cell? ⟨w.heap.size, 5, none⟩ = some (.int .u32 (lb : Int)) := below_cell ((Below.refl _ _).alloc (Nat.le_refl _) _) p5
  clear p0 p1 p2 p3 p5
  generalize w1.alloc (.cells #[.int .i64 f, .int .u64 (r : Int), .string s, .int .i64 (l : Int)] 43) = W at *
  generalize w1.heap.size = b at *
  have hb : ∀ wx : World, (convert 52 9 (.slice (some ⟨wx.heap.size, 0, none⟩) 1 1)).run Tryd.prog (wx.alloc (.cells #[.int .u8 ((ct : Int) % 256)] 5)).drew = .ok (.string ⟨(laid ct 1).toArray⟩) (wx.alloc (.cells #[.int .u8 ((ct : Int) % 256)] 5)).drew := fun wx => back1 ct wx.drew
  have HLc : Hid ((laid ct 1).length = 1) := laid_length _ _
  have ha : ∀ wx : World, (Op.stringOp .add ⟨#[]⟩ ⟨(laid ct 1).toArray⟩).run Tryd.prog wx = .ok (.string ⟨(laid ct 1).toArray⟩) wx := fun wx => add_l [] (laid ct 1) (by simp) (by rw [laid_length]; omega) wx
  generalize laid ct 1 = A2 at *
  go_region_held (fun w' => w'.cell? ⟨b, 0, none⟩ = some (.int .i64 f) ∧ w'.cell? ⟨b, 1, none⟩ = some (.int .u64 (r : Int)) ∧ w'.cell? ⟨b, 2, none⟩ = some (.string s) ∧ w'.cell? ⟨b, 3, none⟩ = some (.int .i64 (l : Int)) ∧ w'.cell? ⟨w.heap.size, 5, none⟩ = some (.int .u32 (lb : Int))) (go_keep)
    (first | (go_at_call 69; refine Calls.mono (KA.out _) ?_; rintro e w4 ⟨rfl, rfl⟩))
  have hbx : Below W.heap.size W (W.alloc (.cells #[.int .u8 ((ct : Int) % 256)] 5)).drew := ((Below.refl _ _).alloc (Nat.le_refl _) _).drew
  have r0 := below_cell hbx q0
  have r1 := below_cell hbx q1
  have r2 := below_cell hbx q2
  have r3 := below_cell hbx q3
  have r5 := below_cell hbx q5
  have HB3 : Hid (Below w.heap.size w (W.alloc (.cells #[.int .u8 ((ct : Int) % 256)] 5)).drew) := HB2.out.trans (hbx.mono HB2.out.size)
  clear q0 q1 q2 q3 q5 hbx HB2 HB1 hb ha
  generalize (W.alloc (.cells #[.int .u8 ((ct : Int) % 256)] 5)).drew = W3 at *
  have HL3 : Hid (A2.length ≤ 5) := by unfold Hid; rw [HLc.out]; omega
  clear HLc
  generalize A2 = A3 at *
  clear hlv
  go_wp2_with fail
  refine Calls.mono (KL.out _) ?_
  rintro e w5 ⟨rfl, hw5⟩
  obtain rfl : W3 = w5 := hw5.symm
  clear hw5
  go_wp2_with fail
  refine Calls.mono (KD.out _) ?_
  rintro e w5 ⟨rfl, hw5⟩
  obtain rfl : W3 = w5 := hw5.symm
  clear hw5
  have t2 := r2
  have t3 := r3
  clear r0 r1 r2 r3 r5
  have hn1 := HN.out.1
  have hn2 := HN.out.2.1
  have hn3 := HN.out.2.2.1
  have hn4 := HN.out.2.2.2
  have hn5 := HL3.out
  go_wp2
  go_ret
  exact ⟨by rw [HE.out, cat_take A3 s nb]; rfl, HB3.out⟩
end Go.Proofs.YtjliopclpjeieaaDoor
namespace Go.Proofs.YtjliopclpjeieaaDoor
open Go.RowKit
theorem one_any (f : Int) (add : Bool) (r : Nat) (s : ByteArray) (l id lb : Nat) (w : World) (hl : l ≤ 8 * s.size) (hs : s.size ≤ 16) (hid : id < 4294967296) (hlb : lb ≤ 1048575) (hr : r < 18446744073709551616) :
    Calls Tryd.prog 51 #[.agg #[.int .i64 f, .int .u64 (r : Int), .string s, .int .i64 (l : Int), .int .u32 (id : Int), .int .u32 (lb : Int)], .bool add] w fun e w' => e = .returned (.string ⟨(nlE f add r s l id lb).toArray⟩) ∧ Below w.heap.size w w' := by
  cases hd : dst f with
  | true =>
    have hl2 : lab f = true := by unfold lab; rw [hd]; simp
    cases add with
    | true => exact one_td f r s l id lb w hl hs hid hlb hr hl2 hd
    | false => exact one_fd f r s l id lb w hl hs hid hlb hr hl2 hd
  | false =>
    cases hl2 : lab f with
    | true =>
      cases add with
      | true => exact one_tl f r s l id lb w hl hs hid hlb hr hl2 hd
      | false => exact one_fl f r s l id lb w hl hs hid hlb hr hl2 hd
    | false =>
      cases add with
      | true => exact one_tn f r s l id lb w hl hs hid hlb hr hl2 hd
      | false => exact one_fn f r s l id lb w hl hs hid hlb hr hl2 hd
theorem nlE_len (f : Int) (add : Bool) (r : Nat) (s : ByteArray) (l id lb : Nat) (h : l ≤ 8 * s.size) : ((nlE f add r s l id lb).length : Int) = nsz f l add := by
  unfold nlE nsz
  rw [byN_nat]
  simp only [List.length_append, laid_length, List.length_take]
  rw [show s.data.toList.length = s.size by simp]
  omega
/-- A told prefix, as one value. -/
def nv (n : Nl) : Value := .agg #[.int .i64 n.f, .int .u64 n.r, .string n.s, .int .i64 n.l, .int .u32 n.id, .int .u32 n.lb]
end Go.Proofs.YtjliopclpjeieaaDoor
