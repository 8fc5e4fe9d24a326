/-
  May a told prefix be, and the order of two: the program's and the reference's.
-/
import Derived.Test.YtfhbgpepkplbaaaGreatDoorN2
import Derived.Test.YtfhbgpepkplbaaaGreatDoorBA
import Derived.Deep.RegionHeld3
namespace Go.Proofs.YtfhbgpepkplbaaaGreatDoor
open Go.RowKit
/-- The first one that is not nought. -/
def firstNZ : List Int → Int
  | [] => 0
  | x :: l => if x = 0 then firstNZ l else x
theorem firstNZ_drop (l : List Int) (k : Nat) (h : k < l.length) (h0 : l[k] = 0) : firstNZ (l.drop k) = firstNZ (l.drop (k + 1)) := by
  rw [List.drop_eq_getElem_cons h]; simp [firstNZ, h0]
theorem firstNZ_at (l : List Int) (k : Nat) (h : k < l.length) (h0 : ¬ l[k] = 0) : firstNZ (l.drop k) = l[k] := by
  rw [List.drop_eq_getElem_cons h]; simp [firstNZ, h0]
theorem or_any (b cap : Nat) (l : List Int) (w : World) (hl : l.length ≤ 1000) (hr : ∀ j (h : j < l.length), w.cell? ⟨b, j, none⟩ = some (.int .i64 l[j])) :
    Calls Tryz.prog 29 #[.slice (some ⟨b, 0, none⟩) l.length cap] w fun e w' => e = .returned (.int .i64 (firstNZ l)) ∧ w' = w := by
  have HR : Hid (∀ j (h : j < l.length), w.cell? ⟨b, j, none⟩ = some (.int .i64 l[j])) := hr
  clear hr
  go_enter Tryz.func29, Tryz.ntmps29
  go_wp2
  go_loopw [8] (fun i wr => ∃ k : Nat, k ≤ l.length ∧ i = .int .i64 k ∧ wr = w ∧ firstNZ (l.drop k) = firstNZ l) (fun i _ => l.length - (intOf i).toNat)
  case atStart => exact ⟨0, Nat.zero_le _, rfl, rfl, by simp⟩
  case round =>
    obtain ⟨k, hk, rfl, rfl, hn⟩ := hrel
    have HN : Hid (firstNZ (l.drop k) = firstNZ l) := hn
    clear hn
    by_cases hlt : k < l.length
    · have c1 := HR.out k hlt
      by_cases h0 : l[k] = 0
      · have HE : Hid (firstNZ (l.drop (k + 1)) = firstNZ l) := by unfold Hid; rw [← firstNZ_drop l k hlt h0]; exact HN.out
        rw [h0] at c1
        clear h0
        go_wp2
        go_roundw
        case rel => exact ⟨k + 1, by omega, by go_num, trivial, HE.out⟩
        case measure => simp [intOf]; omega
      · have HE : Hid (l[k] = firstNZ l) := by unfold Hid; rw [← firstNZ_at l k hlt h0]; exact HN.out
        generalize l[k] = x at *
        go_wp2
        go_ret
        exact ⟨ret_int HE.out, rfl⟩
    · obtain rfl : k = l.length := by omega
      have HE : Hid (0 = firstNZ l) := by unfold Hid; rw [← HN.out]; simp [firstNZ]
      go_wp2
      go_ret
      exact ⟨ret_int HE.out, rfl⟩

theorem cmp32_any (a b : Int) (w : World) :
    Calls Tryz.prog 31 #[.int .u32 a, .int .u32 b] w fun e w' => e = .returned (.int .i64 (ord a b)) ∧ w' = w := by
  by_cases h1 : a < b
  · have H : Hid (_ = _) := ord_lt h1
    go_enter Tryz.func31, Tryz.ntmps31
    go_wp2
    go_ret
    exact ⟨ret_int H.out.symm, rfl⟩
  · by_cases h2 : b < a
    · have H : Hid (_ = _) := ord_gt h2
      go_enter Tryz.func31, Tryz.ntmps31
      go_wp2
      go_ret
      exact ⟨ret_int H.out.symm, rfl⟩
    · have H : Hid (_ = _) := ord_eq h1 h2
      go_enter Tryz.func31, Tryz.ntmps31
      go_wp2
      go_ret
      exact ⟨ret_int H.out.symm, rfl⟩
theorem ord32_any (a b : Int) (w : World) :
    Calls Tryz.prog 33 #[.int .u32 a, .int .u32 b] w fun e w' => e = .returned (.int .i64 (ord a b)) ∧ w' = w := by
  by_cases h1 : a < b
  · have H : Hid (_ = _) := ord_lt h1
    go_enter Tryz.func33, Tryz.ntmps33
    go_wp2
    go_ret
    exact ⟨ret_int H.out.symm, rfl⟩
  · by_cases h2 : b < a
    · have H : Hid (_ = _) := ord_gt h2
      go_enter Tryz.func33, Tryz.ntmps33
      go_wp2
      go_ret
      exact ⟨ret_int H.out.symm, rfl⟩
    · have H : Hid (_ = _) := ord_eq h1 h2
      go_enter Tryz.func33, Tryz.ntmps33
      go_wp2
      go_ret
      exact ⟨ret_int H.out.symm, rfl⟩
/-- The order of two told prefixes. -/
def ncmp (fa ra : Int) (sa : ByteArray) (la ia ba fb rb : Int) (sb : ByteArray) (lb ib bb : Int) : Int := firstNZ [pcmp fa ra sa la fb rb sb lb, ord ia ib, ord ba bb]
theorem cell2 {w w' : World} (hb : Below w.heap.size w w') {b i : Nat} {v : Value} (h : w.cell? ⟨b, i, none⟩ = some v) : w'.cell? ⟨b, i, none⟩ = some v := (hb.cell (p := ⟨b, i, none⟩) (lt_of_cell h)).trans h
def AG (f r : Int) (s : ByteArray) (l id lb : Int) : Array Value := #[.int .i64 f, .int .u64 r, .string s, .int .i64 l, .int .u32 id, .int .u32 lb]
structure TwoAt (w wx : World) (fa ra : Int) (sa : ByteArray) (la ia ba fb rb : Int) (sb : ByteArray) (lb ib bb : Int) : Prop where
  a0 : wx.cell? ⟨w.heap.size, 0, none⟩ = some (.int .i64 fa)
  a1 : wx.cell? ⟨w.heap.size, 1, none⟩ = some (.int .u64 ra)
  a2 : wx.cell? ⟨w.heap.size, 2, none⟩ = some (.string sa)
  a3 : wx.cell? ⟨w.heap.size, 3, none⟩ = some (.int .i64 la)
  a4 : wx.cell? ⟨w.heap.size, 4, none⟩ = some (.int .u32 ia)
  a5 : wx.cell? ⟨w.heap.size, 5, none⟩ = some (.int .u32 ba)
  b0 : wx.cell? ⟨w.heap.size + 1, 0, none⟩ = some (.int .i64 fb)
  b1 : wx.cell? ⟨w.heap.size + 1, 1, none⟩ = some (.int .u64 rb)
  b2 : wx.cell? ⟨w.heap.size + 1, 2, none⟩ = some (.string sb)
  b3 : wx.cell? ⟨w.heap.size + 1, 3, none⟩ = some (.int .i64 lb)
  b4 : wx.cell? ⟨w.heap.size + 1, 4, none⟩ = some (.int .u32 ib)
  b5 : wx.cell? ⟨w.heap.size + 1, 5, none⟩ = some (.int .u32 bb)
  bel : Below w.heap.size w wx
theorem TwoAt.below {w wx w' : World} {fa ra : Int} {sa : ByteArray} {la ia ba fb rb : Int} {sb : ByteArray} {lb ib bb : Int} (h : TwoAt w wx fa ra sa la ia ba fb rb sb lb ib bb) (hb : Below wx.heap.size wx w') : TwoAt w w' fa ra sa la ia ba fb rb sb lb ib bb :=
  ⟨cell2 hb h.a0, cell2 hb h.a1, cell2 hb h.a2, cell2 hb h.a3, cell2 hb h.a4, cell2 hb h.a5, cell2 hb h.b0, cell2 hb h.b1, cell2 hb h.b2, cell2 hb h.b3, cell2 hb h.b4, cell2 hb h.b5, h.bel.trans (hb.mono h.bel.size)⟩
theorem TwoAt.start (w : World) (fa ra : Int) (sa : ByteArray) (la ia ba fb rb : Int) (sb : ByteArray) (lb ib bb : Int) : TwoAt w ((w.alloc (.cells #[.int .i64 fa, .int .u64 ra, .string sa, .int .i64 la, .int .u32 ia, .int .u32 ba] 27)).alloc (.cells #[.int .i64 fb, .int .u64 rb, .string sb, .int .i64 lb, .int .u32 ib, .int .u32 bb] 27)) fa ra sa la ia ba fb rb sb lb ib bb := by
  refine ⟨?_, ?_, ?_, ?_, ?_, ?_, ?_, ?_, ?_, ?_, ?_, ?_, ((Below.refl _ _).alloc (by simp) _).alloc (by simp) _⟩
  all_goals simp
set_option maxRecDepth 100000 in
set_option maxHeartbeats 3200000 in
theorem ncmp_any (fa ra : Int) (sa : ByteArray) (la ia ba fb rb : Int) (sb : ByteArray) (lb ib bb : Int) (w : World) :
    Calls Tryz.prog 11 #[.agg #[.int .i64 fa, .int .u64 ra, .string sa, .int .i64 la, .int .u32 ia, .int .u32 ba], .agg #[.int .i64 fb, .int .u64 rb, .string sb, .int .i64 lb, .int .u32 ib, .int .u32 bb]] w fun e w' => e = .returned (.int .i64 (ncmp fa ra sa la ia ba fb rb sb lb ib bb)) ∧ Below w.heap.size w w' := by
  have H0 : Hid (TwoAt w ((w.alloc (.cells #[.int .i64 fa, .int .u64 ra, .string sa, .int .i64 la, .int .u32 ia, .int .u32 ba] 27)).alloc (.cells #[.int .i64 fb, .int .u64 rb, .string sb, .int .i64 lb, .int .u32 ib, .int .u32 bb] 27)) fa ra sa la ia ba fb rb sb lb ib bb) := TwoAt.start w fa ra sa la ia ba fb rb sb lb ib bb
  go_enter Tryz.func11, Tryz.ntmps11
  go_wp2
  generalize (w.alloc (.cells #[.int .i64 fa, .int .u64 ra, .string sa, .int .i64 la, .int .u32 ia, .int .u32 ba] 27)).alloc (.cells #[.int .i64 fb, .int .u64 rb, .string sb, .int .i64 lb, .int .u32 ib, .int .u32 bb] 27) = W at *
  have H1 : Hid (TwoAt w W.drew fa ra sa la ia ba fb rb sb lb ib bb) := H0.out.below (Below.refl _ _).drew
  obtain ⟨a0, a1, a2, a3, a4, a5, b0, b1, b2, b3, b4, b5, _⟩ := H0.out
  have HC : Hid (_ : Prop) := cmp_any fa ra sa la fb rb sb lb W.drew
  have HOR : Hid (∀ wx : World, Calls Tryz.prog 29 #[.slice (some ⟨wx.heap.size, 0, none⟩) 3 3] (wx.alloc (.cells #[.int .i64 (pcmp fa ra sa la fb rb sb lb), .int .i64 (ord ia ib), .int .i64 (ord ba bb)] 3)) fun e w' => e = .returned (.int .i64 (ncmp fa ra sa la ia ba fb rb sb lb ib bb)) ∧ w' = (wx.alloc (.cells #[.int .i64 (pcmp fa ra sa la fb rb sb lb), .int .i64 (ord ia ib), .int .i64 (ord ba bb)] 3))) := fun wx =>
    or_any wx.heap.size 3 [pcmp fa ra sa la fb rb sb lb, ord ia ib, ord ba bb] _ (by simp) (by
      intro j hj
      simp only [List.length_cons, List.length_nil] at hj
      rw [World.cell?_alloc_at _ _ _ _ rfl]
      rcases j with _ | _ | _ | j
      · rfl
      · rfl
      · rfl
      · omega)
  obtain ⟨nc, hnc⟩ : ∃ nc, nc = ncmp fa ra sa la ia ba fb rb sb lb ib bb := ⟨_, rfl⟩
  rw [← hnc] at HOR
  have HNC : Hid (nc = ncmp fa ra sa la ia ba fb rb sb lb ib bb) := hnc
  clear hnc
  generalize pcmp fa ra sa la fb rb sb lb = pc at HC HOR
  go_region_held (fun w' => w'.cell? ⟨w.heap.size, 0, none⟩ = some (.int .i64 fa) ∧ w'.cell? ⟨w.heap.size, 1, none⟩ = some (.int .u64 ra) ∧ w'.cell? ⟨w.heap.size, 2, none⟩ = some (.string sa) ∧ w'.cell? ⟨w.heap.size, 3, none⟩ = some (.int .i64 la) ∧ w'.cell? ⟨w.heap.size, 4, none⟩ = some (.int .u32 ia) ∧ w'.cell? ⟨w.heap.size, 5, none⟩ = some (.int .u32 ba) ∧ w'.cell? ⟨w.heap.size + 1, 0, none⟩ = some (.int .i64 fb) ∧ w'.cell? ⟨w.heap.size + 1, 1, none⟩ = some (.int .u64 rb) ∧ w'.cell? ⟨w.heap.size + 1, 2, none⟩ = some (.string sb) ∧ w'.cell? ⟨w.heap.size + 1, 3, none⟩ = some (.int .i64 lb) ∧ w'.cell? ⟨w.heap.size + 1, 4, none⟩ = some (.int .u32 ib) ∧ w'.cell? ⟨w.heap.size + 1, 5, none⟩ = some (.int .u32 bb)) (go_keep)
    (first | (go_at_call 30; refine Calls.mono HC.out ?_; rintro e w2 ⟨rfl, hb2⟩; have h2 := TwoAt.below H1.out hb2; obtain ⟨d0, d1, d2, d3, d4, d5, g0, g1, g2, g3, g4, g5, hbel⟩ := id h2) | (go_at_call 31; refine (cmp32_any _ _ _).mono ?_; rintro e w3 ⟨rfl, rfl⟩) | (go_at_call 29; refine Calls.mono (HOR.out _) ?_; rintro e w4 ⟨rfl, rfl⟩))
  have HB : Hid (Below w.heap.size w _) := hbel
  clear h2 hb2 d0 d1 d2 d3 d4 d5 g0 g1 g2 g3 g4 g5 a0 a1 a2 a3 a4 a5 b0 b1 b2 b3 b4 b5 HC HOR H0 H1 hbel
  go_wp2
  go_ret
  exact ⟨ret_int HNC.out, HB.out.alloc HB.out.size _⟩
set_option maxRecDepth 100000 in
set_option maxHeartbeats 3200000 in
theorem rncmp_any (fa ra : Int) (sa : ByteArray) (la ia ba fb rb : Int) (sb : ByteArray) (lb ib bb : Int) (w : World) (hsa : sa.size ≤ maxLen) (hsb : sb.size ≤ maxLen) :
    Calls Tryz.prog 12 #[.agg #[.int .i64 fa, .int .u64 ra, .string sa, .int .i64 la, .int .u32 ia, .int .u32 ba], .agg #[.int .i64 fb, .int .u64 rb, .string sb, .int .i64 lb, .int .u32 ib, .int .u32 bb]] w fun e w' => e = .returned (.int .i64 (ncmp fa ra sa la ia ba fb rb sb lb ib bb)) ∧ Below w.heap.size w w' := by
  have H0 : Hid (TwoAt w ((w.alloc (.cells #[.int .i64 fa, .int .u64 ra, .string sa, .int .i64 la, .int .u32 ia, .int .u32 ba] 27)).alloc (.cells #[.int .i64 fb, .int .u64 rb, .string sb, .int .i64 lb, .int .u32 ib, .int .u32 bb] 27)) fa ra sa la ia ba fb rb sb lb ib bb) := TwoAt.start w fa ra sa la ia ba fb rb sb lb ib bb
  have HC : Hid (∀ w, _) := fun w => rcmp_any fa ra sa la fb rb sb lb w hsa hsb
  have HNC : Hid (ncmp fa ra sa la ia ba fb rb sb lb ib bb = firstNZ [pcmp fa ra sa la fb rb sb lb, ord ia ib, ord ba bb]) := rfl
  clear hsa hsb
  generalize pcmp fa ra sa la fb rb sb lb = pc at HC HNC
  go_enter Tryz.func12, Tryz.ntmps12
  go_wp2_with fail
  refine Calls.mono (HC.out _) ?_
  rintro e w1 ⟨rfl, hb1⟩
  have h1 := H0.out.below hb1
  obtain ⟨a0, a1, a2, a3, a4, a5, b0, b1, b2, b3, b4, b5, hbel⟩ := h1
  have HB : Hid (Below w.heap.size w w1) := hbel
  clear hb1 H0 HC hbel
  by_cases h0 : pc = 0
  · subst h0
    by_cases h2 : ord ia ib = 0
    · have HE : Hid (ncmp fa ra sa la ia ba fb rb sb lb ib bb = ord ba bb) := by
        unfold Hid; rw [HNC.out]; simp only [firstNZ, if_true, h2]; split <;> simp_all
      have K1 : Hid (∀ w, Calls Tryz.prog 33 #[.int .u32 ia, .int .u32 ib] w fun e w' => e = .returned (.int .i64 0) ∧ w' = w) := fun w => by have := ord32_any ia ib w; rw [h2] at this; exact this
      clear h2
      go_wp2_with fail
      refine Calls.mono (K1.out _) ?_
      rintro e w2 ⟨rfl, hw2⟩
      obtain rfl : w1 = w2 := hw2.symm
      clear hw2
      go_wp2_with fail
      refine (ord32_any ba bb _).mono ?_
      rintro e w2 ⟨rfl, hw2⟩
      obtain rfl : w1 = w2 := hw2.symm
      clear hw2
      go_wp2
      go_ret
      exact ⟨ret_int HE.out.symm, HB.out⟩
    · have HE : Hid (ncmp fa ra sa la ia ba fb rb sb lb ib bb = ord ia ib) := by
        unfold Hid; rw [HNC.out]; simp [firstNZ, h2]
      have h2' : (ord ia ib == 0) = false := by simpa using h2
      go_wp2_with fail
      refine (ord32_any ia ib _).mono ?_
      rintro e w2 ⟨rfl, hw2⟩
      obtain rfl : w1 = w2 := hw2.symm
      clear hw2
      go_wp2
      go_ret
      exact ⟨ret_int HE.out.symm, HB.out⟩
  · have HE : Hid (ncmp fa ra sa la ia ba fb rb sb lb ib bb = pc) := by
      unfold Hid; rw [HNC.out]; simp [firstNZ, h0]
    have h0' : (pc == 0) = false := by simpa using h0
    go_wp2
    go_ret
    exact ⟨ret_int HE.out.symm, HB.out⟩
theorem rlabd (f : Int) (w : World) : Calls Tryz.prog 49 #[.int .i64 f] w fun e w' => e = .returned (.bool (lab f)) ∧ w' = w := by
  by_cases h : f = 3
  · subst h
    go_enter Tryz.func49, Tryz.ntmps49
    go_wp2
    go_ret
    exact ⟨rfl, rfl⟩
  · have h' : (f == 3) = false := by simpa using h
    by_cases h4 : f = 4
    · subst h4
      go_enter Tryz.func49, Tryz.ntmps49
      go_wp2
      go_ret
      exact ⟨rfl, rfl⟩
    · have h4' : (f == 4) = false := by simpa using h4
      go_enter Tryz.func49, Tryz.ntmps49
      go_wp2
      go_ret
      exact ⟨ret_bool (by simp [lab, dst, h', h4']), rfl⟩
set_option maxRecDepth 100000 in
set_option maxHeartbeats 3200000 in
theorem rmay_any (f r : Int) (s : ByteArray) (l id lb : Int) (w : World) (hs : s.size ≤ maxLen) :
    Calls Tryz.prog 25 #[.agg #[.int .i64 f, .int .u64 r, .string s, .int .i64 l, .int .u32 id, .int .u32 lb]] w fun e w' => e = .returned (.bool (decide (nchk f r s l lb = 0))) ∧ Below w.heap.size w w' := by
  have hba : Below w.heap.size w (w.alloc (.cells #[.int .i64 f, .int .u64 r, .string s, .int .i64 l, .int .u32 id, .int .u32 lb] 27)) := (Below.refl _ _).alloc (Nat.le_refl _) _
  have HBA : Hid (Below _ _ _) := hba
  have KM : Hid (_ : Prop) := may_any f r s l (w.alloc (.cells #[.int .i64 f, .int .u64 r, .string s, .int .i64 l, .int .u32 id, .int .u32 lb] 27)) hs
  have KL : Hid (∀ w, Calls Tryz.prog 49 #[.int .i64 f] w fun e w' => e = .returned (.bool (lab f)) ∧ w' = w) := rlabd f
  have HD : Hid (nchk f r s l lb = if chk f r s l = 0 ∧ lb ≤ 1048575 ∧ (lb = 0 ∨ lab f = true) then 0 else 2) := rfl
  clear hba hs
  by_cases h0 : chk f r s l = 0
  · rw [h0] at KM
    simp only [decide_true] at KM
    go_enter Tryz.func25, Tryz.ntmps25
    go_wp2_with fail
    refine Calls.mono KM.out ?_
    rintro e w1 ⟨rfl, hb1⟩
    have c5 : w1.cell? ⟨w.heap.size, 5, none⟩ = some (.int .u32 lb) := cell2 hb1 (by simp)
    have c0 : w1.cell? ⟨w.heap.size, 0, none⟩ = some (.int .i64 f) := cell2 hb1 (by simp)
    have HB : Hid (Below w.heap.size w w1) := HBA.out.trans (hb1.mono HBA.out.size)
    clear hb1 KM
    by_cases h1 : lb ≤ 1048575
    · by_cases h2 : lb = 0
      · have HE : Hid (decide (nchk f r s l lb = 0) = true) := by unfold Hid; rw [HD.out, if_pos ⟨h0, h1, Or.inl h2⟩]; rfl
        subst h2
        go_wp2
        go_ret
        exact ⟨ret_bool HE.out.symm, HB.out⟩
      · have h2' : (lb == 0) = false := by simpa using h2
        have HE : Hid (decide (nchk f r s l lb = 0) = lab f) := by
          unfold Hid; rw [HD.out]
          cases hl : lab f with
          | true => rw [if_pos ⟨h0, h1, Or.inr rfl⟩]; rfl
          | false => rw [if_neg (by rintro ⟨_, _, h | h⟩; exact h2 h; exact absurd h (by decide))]; rfl
        clear h2
        go_wp2_with fail
        refine Calls.mono (KL.out _) ?_
        rintro e w2 ⟨rfl, hw2⟩
        obtain rfl : w1 = w2 := hw2.symm
        clear hw2
        go_wp2
        go_ret
        exact ⟨ret_bool HE.out.symm, HB.out⟩
    · have HE : Hid (decide (nchk f r s l lb = 0) = false) := by unfold Hid; rw [HD.out, if_neg (by omega)]; rfl
      go_wp2
      go_ret
      exact ⟨ret_bool HE.out.symm, HB.out⟩
  · have HE : Hid (decide (nchk f r s l lb = 0) = false) := by unfold Hid; rw [HD.out, if_neg (by omega)]; rfl
    have KM' : Hid (Calls Tryz.prog 48 #[.agg #[.int .i64 f, .int .u64 r, .string s, .int .i64 l]] (w.alloc (.cells #[.int .i64 f, .int .u64 r, .string s, .int .i64 l, .int .u32 id, .int .u32 lb] 27)) fun e w' => e = .returned (.bool false) ∧ Below (w.alloc (.cells #[.int .i64 f, .int .u64 r, .string s, .int .i64 l, .int .u32 id, .int .u32 lb] 27)).heap.size (w.alloc (.cells #[.int .i64 f, .int .u64 r, .string s, .int .i64 l, .int .u32 id, .int .u32 lb] 27)) w') := by
      have := KM.out
      rw [decide_eq_false h0] at this
      exact this
    clear KM
    go_enter Tryz.func25, Tryz.ntmps25
    go_wp2_with fail
    refine Calls.mono KM'.out ?_
    rintro e w1 ⟨rfl, hb1⟩
    have HB : Hid (Below w.heap.size w w1) := HBA.out.trans (hb1.mono HBA.out.size)
    clear hb1 KM'
    go_wp2
    go_ret
    exact ⟨ret_bool HE.out.symm, HB.out⟩
theorem rncheck_any (f r : Int) (s : ByteArray) (l id lb : Int) (w : World) (hs : s.size ≤ maxLen) :
    Calls Tryz.prog 10 #[.agg #[.int .i64 f, .int .u64 r, .string s, .int .i64 l, .int .u32 id, .int .u32 lb]] w fun e w' => e = .returned (.int .i64 (nchk f r s l lb)) ∧ Below w.heap.size w w' := by
  have hba : Below w.heap.size w (w.alloc (.cells #[.int .i64 f, .int .u64 r, .string s, .int .i64 l, .int .u32 id, .int .u32 lb] 27)) := (Below.refl _ _).alloc (Nat.le_refl _) _
  have HBA : Hid (Below _ _ _) := hba
  have KM : Hid (_ : Prop) := rmay_any f r s l id lb (w.alloc (.cells #[.int .i64 f, .int .u64 r, .string s, .int .i64 l, .int .u32 id, .int .u32 lb] 27)) hs
  clear hba
  by_cases h0 : nchk f r s l lb = 0
  · have HE : Hid (nchk f r s l lb = 0) := h0
    rw [decide_eq_true h0] at KM
    clear h0
    go_enter Tryz.func10, Tryz.ntmps10
    go_wp2_with fail
    refine Calls.mono KM.out ?_
    rintro e w1 ⟨rfl, hb1⟩
    have HB : Hid (Below w.heap.size w w1) := HBA.out.trans (hb1.mono HBA.out.size)
    clear hb1 KM
    go_wp2
    go_ret
    exact ⟨ret_int HE.out.symm, HB.out⟩
  · have HE : Hid (nchk f r s l lb = 2) := nchk_two h0
    rw [decide_eq_false h0] at KM
    clear h0
    go_enter Tryz.func10, Tryz.ntmps10
    go_wp2_with fail
    refine Calls.mono KM.out ?_
    rintro e w1 ⟨rfl, hb1⟩
    have HB : Hid (Below w.heap.size w w1) := HBA.out.trans (hb1.mono HBA.out.size)
    clear hb1 KM
    go_wp2
    go_ret
    exact ⟨ret_int HE.out.symm, HB.out⟩
end Go.Proofs.YtfhbgpepkplbaaaGreatDoor
