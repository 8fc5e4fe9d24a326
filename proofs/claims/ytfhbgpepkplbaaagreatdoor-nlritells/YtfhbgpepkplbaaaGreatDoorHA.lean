/-
  The reference's bytes of one told prefix, and their number.
-/
import Derived.Test.YtfhbgpepkplbaaaGreatDoorN2
import Derived.Test.YtfhbgpepkplbaaaGreatDoorR5
import Derived.Deep.RegionHeld3
import Derived.Test.YtfhbgpepkplbaaaGreatDoorN8
import Derived.Test.YtfhbgpepkplbaaaGreatDoorE3
namespace Go.Proofs.YtfhbgpepkplbaaaGreatDoor
open Go.RowKit
/-- The first one that is not nought. -/
def firstNZ : List Int → Int
  | [] => 0
  | x :: l => if x = 0 then firstNZ l else x
theorem firstNZ_drop (l : List Int) (k : Nat) (h : k < l.length) (h0 : l[k] = 0) : firstNZ (l.drop k) = firstNZ (l.drop (k + 1)) := by
  rw [List.drop_eq_getElem_cons h]; simp [firstNZ, h0]
theorem firstNZ_at (l : List Int) (k : Nat) (h : k < l.length) (h0 : ¬ l[k] = 0) : firstNZ (l.drop k) = l[k] := by
  rw [List.drop_eq_getElem_cons h]; simp [firstNZ, h0]
theorem or_any (b cap : Nat) (l : List Int) (w : World) (hl : l.length ≤ 1000) (hr : ∀ j (h : j < l.length), w.cell? ⟨b, j, none⟩ = some (.int .i64 l[j])) :
    Calls Tryz.prog 29 #[.slice (some ⟨b, 0, none⟩) l.length cap] w fun e w' => e = .returned (.int .i64 (firstNZ l)) ∧ w' = w := by
  have HR : Hid (∀ j (h : j < l.length), w.cell? ⟨b, j, none⟩ = some (.int .i64 l[j])) := hr
  clear hr
  go_enter Tryz.func29, Tryz.ntmps29
  go_wp2
  go_loopw [8] (fun i wr => ∃ k : Nat, k ≤ l.length ∧ i = .int .i64 k ∧ wr = w ∧ firstNZ (l.drop k) = firstNZ l) (fun i _ => l.length - (intOf i).toNat)
  case atStart => exact ⟨0, Nat.zero_le _, rfl, rfl, by simp⟩
  case round =>
    obtain ⟨k, hk, rfl, rfl, hn⟩ := hrel
    have HN : Hid (firstNZ (l.drop k) = firstNZ l) := hn
    clear hn
    by_cases hlt : k < l.length
    · have c1 := HR.out k hlt
      by_cases h0 : l[k] = 0
      · have HE : Hid (firstNZ (l.drop (k + 1)) = firstNZ l) := by unfold Hid; rw [← firstNZ_drop l k hlt h0]; exact HN.out
        rw [h0] at c1
        clear h0
        go_wp2
        go_roundw
        case rel => exact ⟨k + 1, by omega, by go_num, trivial, HE.out⟩
        case measure => simp [intOf]; omega
      · have HE : Hid (l[k] = firstNZ l) := by unfold Hid; rw [← firstNZ_at l k hlt h0]; exact HN.out
        generalize l[k] = x at *
        go_wp2
        go_ret
        exact ⟨ret_int HE.out, rfl⟩
    · obtain rfl : k = l.length := by omega
      have HE : Hid (0 = firstNZ l) := by unfold Hid; rw [← HN.out]; simp [firstNZ]
      go_wp2
      go_ret
      exact ⟨ret_int HE.out, rfl⟩

theorem cmp32_any (a b : Int) (w : World) :
    Calls Tryz.prog 31 #[.int .u32 a, .int .u32 b] w fun e w' => e = .returned (.int .i64 (ord a b)) ∧ w' = w := by
  by_cases h1 : a < b
  · have H : Hid (_ = _) := ord_lt h1
    go_enter Tryz.func31, Tryz.ntmps31
    go_wp2
    go_ret
    exact ⟨ret_int H.out.symm, rfl⟩
  · by_cases h2 : b < a
    · have H : Hid (_ = _) := ord_gt h2
      go_enter Tryz.func31, Tryz.ntmps31
      go_wp2
      go_ret
      exact ⟨ret_int H.out.symm, rfl⟩
    · have H : Hid (_ = _) := ord_eq h1 h2
      go_enter Tryz.func31, Tryz.ntmps31
      go_wp2
      go_ret
      exact ⟨ret_int H.out.symm, rfl⟩
theorem ord32_any (a b : Int) (w : World) :
    Calls Tryz.prog 33 #[.int .u32 a, .int .u32 b] w fun e w' => e = .returned (.int .i64 (ord a b)) ∧ w' = w := by
  by_cases h1 : a < b
  · have H : Hid (_ = _) := ord_lt h1
    go_enter Tryz.func33, Tryz.ntmps33
    go_wp2
    go_ret
    exact ⟨ret_int H.out.symm, rfl⟩
  · by_cases h2 : b < a
    · have H : Hid (_ = _) := ord_gt h2
      go_enter Tryz.func33, Tryz.ntmps33
      go_wp2
      go_ret
      exact ⟨ret_int H.out.symm, rfl⟩
    · have H : Hid (_ = _) := ord_eq h1 h2
      go_enter Tryz.func33, Tryz.ntmps33
      go_wp2
      go_ret
      exact ⟨ret_int H.out.symm, rfl⟩
/-- The order of two told prefixes. -/
def ncmp (fa ra : Int) (sa : ByteArray) (la ia ba fb rb : Int) (sb : ByteArray) (lb ib bb : Int) : Int := firstNZ [pcmp fa ra sa la fb rb sb lb, ord ia ib, ord ba bb]
theorem cell2 {w w' : World} (hb : Below w.heap.size w w') {b i : Nat} {v : Value} (h : w.cell? ⟨b, i, none⟩ = some v) : w'.cell? ⟨b, i, none⟩ = some v := (hb.cell (p := ⟨b, i, none⟩) (lt_of_cell h)).trans h
def AG (f r : Int) (s : ByteArray) (l id lb : Int) : Array Value := #[.int .i64 f, .int .u64 r, .string s, .int .i64 l, .int .u32 id, .int .u32 lb]
structure TwoAt (w wx : World) (fa ra : Int) (sa : ByteArray) (la ia ba fb rb : Int) (sb : ByteArray) (lb ib bb : Int) : Prop where
  a0 : wx.cell? ⟨w.heap.size, 0, none⟩ = some (.int .i64 fa)
  a1 : wx.cell? ⟨w.heap.size, 1, none⟩ = some (.int .u64 ra)
  a2 : wx.cell? ⟨w.heap.size, 2, none⟩ = some (.string sa)
  a3 : wx.cell? ⟨w.heap.size, 3, none⟩ = some (.int .i64 la)
  a4 : wx.cell? ⟨w.heap.size, 4, none⟩ = some (.int .u32 ia)
  a5 : wx.cell? ⟨w.heap.size, 5, none⟩ = some (.int .u32 ba)
  b0 : wx.cell? ⟨w.heap.size + 1, 0, none⟩ = some (.int .i64 fb)
  b1 : wx.cell? ⟨w.heap.size + 1, 1, none⟩ = some (.int .u64 rb)
  b2 : wx.cell? ⟨w.heap.size + 1, 2, none⟩ = some (.string sb)
  b3 : wx.cell? ⟨w.heap.size + 1, 3, none⟩ = some (.int .i64 lb)
  b4 : wx.cell? ⟨w.heap.size + 1, 4, none⟩ = some (.int .u32 ib)
  b5 : wx.cell? ⟨w.heap.size + 1, 5, none⟩ = some (.int .u32 bb)
  bel : Below w.heap.size w wx
theorem TwoAt.below {w wx w' : World} {fa ra : Int} {sa : ByteArray} {la ia ba fb rb : Int} {sb : ByteArray} {lb ib bb : Int} (h : TwoAt w wx fa ra sa la ia ba fb rb sb lb ib bb) (hb : Below wx.heap.size wx w') : TwoAt w w' fa ra sa la ia ba fb rb sb lb ib bb :=
  ⟨cell2 hb h.a0, cell2 hb h.a1, cell2 hb h.a2, cell2 hb h.a3, cell2 hb h.a4, cell2 hb h.a5, cell2 hb h.b0, cell2 hb h.b1, cell2 hb h.b2, cell2 hb h.b3, cell2 hb h.b4, cell2 hb h.b5, h.bel.trans (hb.mono h.bel.size)⟩
theorem TwoAt.start (w : World) (fa ra : Int) (sa : ByteArray) (la ia ba fb rb : Int) (sb : ByteArray) (lb ib bb : Int) : TwoAt w ((w.alloc (.cells #[.int .i64 fa, .int .u64 ra, .string sa, .int .i64 la, .int .u32 ia, .int .u32 ba] 27)).alloc (.cells #[.int .i64 fb, .int .u64 rb, .string sb, .int .i64 lb, .int .u32 ib, .int .u32 bb] 27)) fa ra sa la ia ba fb rb sb lb ib bb := by
  refine ⟨?_, ?_, ?_, ?_, ?_, ?_, ?_, ?_, ?_, ?_, ?_, ?_, ((Below.refl _ _).alloc (by simp) _).alloc (by simp) _⟩
  all_goals simp
set_option maxRecDepth 100000 in
set_option maxHeartbeats 3200000 in
theorem ncmp_any (fa ra : Int) (sa : ByteArray) (la ia ba fb rb : Int) (sb : ByteArray) (lb ib bb : Int) (w : World) :
    Calls Tryz.prog 11 #[.agg #[.int .i64 fa, .int .u64 ra, .string sa, .int .i64 la, .int .u32 ia, .int .u32 ba], .agg #[.int .i64 fb, .int .u64 rb, .string sb, .int .i64 lb, .int .u32 ib, .int .u32 bb]] w fun e w' => e = .returned (.int .i64 (ncmp fa ra sa la ia ba fb rb sb lb ib bb)) ∧ Below w.heap.size w w' := by
  have H0 : Hid (TwoAt w ((w.alloc (.cells #[.int .i64 fa, .int .u64 ra, .string sa, .int .i64 la, .int .u32 ia, .int .u32 ba] 27)).alloc (.cells #[.int .i64 fb, .int .u64 rb, .string sb, .int .i64 lb, .int .u32 ib, .int .u32 bb] 27)) fa ra sa la ia ba fb rb sb lb ib bb) := TwoAt.start w fa ra sa la ia ba fb rb sb lb ib bb
  go_enter Tryz.func11, Tryz.ntmps11
  go_wp2
  generalize (w.alloc (.cells #[.int .i64 fa, .int .u64 ra, .string sa, .int .i64 la, .int .u32 ia, .int .u32 ba] 27)).alloc (.cells #[.int .i64 fb, .int .u64 rb, .string sb, .int .i64 lb, .int .u32 ib, .int .u32 bb] 27) = W at *
  have H1 : Hid (TwoAt w W.drew fa ra sa la ia ba fb rb sb lb ib bb) := H0.out.below (Below.refl _ _).drew
  obtain ⟨a0, a1, a2, a3, a4, a5, b0, b1, b2, b3, b4, b5, _⟩ := H0.out
  have HC : Hid (_ : Prop) := cmp_any fa ra sa la fb rb sb lb W.drew
  have HOR : Hid (∀ wx : World, Calls Tryz.prog 29 #[.slice (some ⟨wx.heap.size, 0, none⟩) 3 3] (wx.alloc (.cells #[.int .i64 (pcmp fa ra sa la fb rb sb lb), .int .i64 (ord ia ib), .int .i64 (ord ba bb)] 3)) fun e w' => e = .returned (.int .i64 (ncmp fa ra sa la ia ba fb rb sb lb ib bb)) ∧ w' = (wx.alloc (.cells #[.int .i64 (pcmp fa ra sa la fb rb sb lb), .int .i64 (ord ia ib), .int .i64 (ord ba bb)] 3))) := fun wx =>
    or_any wx.heap.size 3 [pcmp fa ra sa la fb rb sb lb, ord ia ib, ord ba bb] _ (by simp) (by
      intro j hj
      simp only [List.length_cons, List.length_nil] at hj
      rw [World.cell?_alloc_at _ _ _ _ rfl]
      rcases j with _ | _ | _ | j
      · rfl
      · rfl
      · rfl
      · omega)
  obtain ⟨nc, hnc⟩ : ∃ nc, nc = ncmp fa ra sa la ia ba fb rb sb lb ib bb := ⟨_, rfl⟩
  rw [← hnc] at HOR
  have HNC : Hid (nc = ncmp fa ra sa la ia ba fb rb sb lb ib bb) := hnc
  clear hnc
  generalize pcmp fa ra sa la fb rb sb lb = pc at HC HOR
  go_region_held (fun w' => w'.cell? ⟨w.heap.size, 0, none⟩ = some (.int .i64 fa) ∧ w'.cell? ⟨w.heap.size, 1, none⟩ = some (.int .u64 ra) ∧ w'.cell? ⟨w.heap.size, 2, none⟩ = some (.string sa) ∧ w'.cell? ⟨w.heap.size, 3, none⟩ = some (.int .i64 la) ∧ w'.cell? ⟨w.heap.size, 4, none⟩ = some (.int .u32 ia) ∧ w'.cell? ⟨w.heap.size, 5, none⟩ = some (.int .u32 ba) ∧ w'.cell? ⟨w.heap.size + 1, 0, none⟩ = some (.int .i64 fb) ∧ w'.cell? ⟨w.heap.size + 1, 1, none⟩ = some (.int .u64 rb) ∧ w'.cell? ⟨w.heap.size + 1, 2, none⟩ = some (.string sb) ∧ w'.cell? ⟨w.heap.size + 1, 3, none⟩ = some (.int .i64 lb) ∧ w'.cell? ⟨w.heap.size + 1, 4, none⟩ = some (.int .u32 ib) ∧ w'.cell? ⟨w.heap.size + 1, 5, none⟩ = some (.int .u32 bb)) (go_keep)
    (first | (go_at_call 30; refine Calls.mono HC.out ?_; rintro e w2 ⟨rfl, hb2⟩; have h2 := TwoAt.below H1.out hb2; obtain ⟨d0, d1, d2, d3, d4, d5, g0, g1, g2, g3, g4, g5, hbel⟩ := id h2) | (go_at_call 31; refine (cmp32_any _ _ _).mono ?_; rintro e w3 ⟨rfl, rfl⟩) | (go_at_call 29; refine Calls.mono (HOR.out _) ?_; rintro e w4 ⟨rfl, rfl⟩))
  have HB : Hid (Below w.heap.size w _) := hbel
  clear h2 hb2 d0 d1 d2 d3 d4 d5 g0 g1 g2 g3 g4 g5 a0 a1 a2 a3 a4 a5 b0 b1 b2 b3 b4 b5 HC HOR H0 H1 hbel
  go_wp2
  go_ret
  exact ⟨ret_int HNC.out, HB.out.alloc HB.out.size _⟩
set_option maxRecDepth 100000 in
set_option maxHeartbeats 3200000 in
theorem rncmp_any (fa ra : Int) (sa : ByteArray) (la ia ba fb rb : Int) (sb : ByteArray) (lb ib bb : Int) (w : World) (hsa : sa.size ≤ maxLen) (hsb : sb.size ≤ maxLen) :
    Calls Tryz.prog 12 #[.agg #[.int .i64 fa, .int .u64 ra, .string sa, .int .i64 la, .int .u32 ia, .int .u32 ba], .agg #[.int .i64 fb, .int .u64 rb, .string sb, .int .i64 lb, .int .u32 ib, .int .u32 bb]] w fun e w' => e = .returned (.int .i64 (ncmp fa ra sa la ia ba fb rb sb lb ib bb)) ∧ Below w.heap.size w w' := by
  have H0 : Hid (TwoAt w ((w.alloc (.cells #[.int .i64 fa, .int .u64 ra, .string sa, .int .i64 la, .int .u32 ia, .int .u32 ba] 27)).alloc (.cells #[.int .i64 fb, .int .u64 rb, .string sb, .int .i64 lb, .int .u32 ib, .int .u32 bb] 27)) fa ra sa la ia ba fb rb sb lb ib bb) := TwoAt.start w fa ra sa la ia ba fb rb sb lb ib bb
  have HC : Hid (∀ w, _) := fun w => rcmp_any fa ra sa la fb rb sb lb w hsa hsb
  have HNC : Hid (ncmp fa ra sa la ia ba fb rb sb lb ib bb = firstNZ [pcmp fa ra sa la fb rb sb lb, ord ia ib, ord ba bb]) := rfl
  clear hsa hsb
  generalize pcmp fa ra sa la fb rb sb lb = pc at HC HNC
  go_enter Tryz.func12, Tryz.ntmps12
  go_wp2_with fail
  refine Calls.mono (HC.out _) ?_
  rintro e w1 ⟨rfl, hb1⟩
  have h1 := H0.out.below hb1
  obtain ⟨a0, a1, a2, a3, a4, a5, b0, b1, b2, b3, b4, b5, hbel⟩ := h1
  have HB : Hid (Below w.heap.size w w1) := hbel
  clear hb1 H0 HC hbel
  by_cases h0 : pc = 0
  · subst h0
    by_cases h2 : ord ia ib = 0
    · have HE : Hid (ncmp fa ra sa la ia ba fb rb sb lb ib bb = ord ba bb) := by
        unfold Hid; rw [HNC.out]; simp only [firstNZ, if_true, h2]; split <;> simp_all
      have K1 : Hid (∀ w, Calls Tryz.prog 33 #[.int .u32 ia, .int .u32 ib] w fun e w' => e = .returned (.int .i64 0) ∧ w' = w) := fun w => by have := ord32_any ia ib w; rw [h2] at this; exact this
      clear h2
      go_wp2_with fail
      refine Calls.mono (K1.out _) ?_
      rintro e w2 ⟨rfl, hw2⟩
      obtain rfl : w1 = w2 := hw2.symm
      clear hw2
      go_wp2_with fail
      refine (ord32_any ba bb _).mono ?_
      rintro e w2 ⟨rfl, hw2⟩
      obtain rfl : w1 = w2 := hw2.symm
      clear hw2
      go_wp2
      go_ret
      exact ⟨ret_int HE.out.symm, HB.out⟩
    · have HE : Hid (ncmp fa ra sa la ia ba fb rb sb lb ib bb = ord ia ib) := by
        unfold Hid; rw [HNC.out]; simp [firstNZ, h2]
      have h2' : (ord ia ib == 0) = false := by simpa using h2
      go_wp2_with fail
      refine (ord32_any ia ib _).mono ?_
      rintro e w2 ⟨rfl, hw2⟩
      obtain rfl : w1 = w2 := hw2.symm
      clear hw2
      go_wp2
      go_ret
      exact ⟨ret_int HE.out.symm, HB.out⟩
  · have HE : Hid (ncmp fa ra sa la ia ba fb rb sb lb ib bb = pc) := by
      unfold Hid; rw [HNC.out]; simp [firstNZ, h0]
    have h0' : (pc == 0) = false := by simpa using h0
    go_wp2
    go_ret
    exact ⟨ret_int HE.out.symm, HB.out⟩
theorem rlabd (f : Int) (w : World) : Calls Tryz.prog 49 #[.int .i64 f] w fun e w' => e = .returned (.bool (lab f)) ∧ w' = w := by
  by_cases h : f = 3
  · subst h
    go_enter Tryz.func49, Tryz.ntmps49
    go_wp2
    go_ret
    exact ⟨rfl, rfl⟩
  · have h' : (f == 3) = false := by simpa using h
    by_cases h4 : f = 4
    · subst h4
      go_enter Tryz.func49, Tryz.ntmps49
      go_wp2
      go_ret
      exact ⟨rfl, rfl⟩
    · have h4' : (f == 4) = false := by simpa using h4
      go_enter Tryz.func49, Tryz.ntmps49
      go_wp2
      go_ret
      exact ⟨ret_bool (by simp [lab, dst, h', h4']), rfl⟩
set_option maxRecDepth 100000 in
set_option maxHeartbeats 3200000 in
theorem rmay_any (f r : Int) (s : ByteArray) (l id lb : Int) (w : World) (hs : s.size ≤ maxLen) :
    Calls Tryz.prog 25 #[.agg #[.int .i64 f, .int .u64 r, .string s, .int .i64 l, .int .u32 id, .int .u32 lb]] w fun e w' => e = .returned (.bool (decide (nchk f r s l lb = 0))) ∧ Below w.heap.size w w' := by
  have hba : Below w.heap.size w (w.alloc (.cells #[.int .i64 f, .int .u64 r, .string s, .int .i64 l, .int .u32 id, .int .u32 lb] 27)) := (Below.refl _ _).alloc (Nat.le_refl _) _
  have HBA : Hid (Below _ _ _) := hba
  have KM : Hid (_ : Prop) := may_any f r s l (w.alloc (.cells #[.int .i64 f, .int .u64 r, .string s, .int .i64 l, .int .u32 id, .int .u32 lb] 27)) hs
  have KL : Hid (∀ w, Calls Tryz.prog 49 #[.int .i64 f] w fun e w' => e = .returned (.bool (lab f)) ∧ w' = w) := rlabd f
  have HD : Hid (nchk f r s l lb = if chk f r s l = 0 ∧ lb ≤ 1048575 ∧ (lb = 0 ∨ lab f = true) then 0 else 2) := rfl
  clear hba hs
  by_cases h0 : chk f r s l = 0
  · rw [h0] at KM
    simp only [decide_true] at KM
    go_enter Tryz.func25, Tryz.ntmps25
    go_wp2_with fail
    refine Calls.mono KM.out ?_
    rintro e w1 ⟨rfl, hb1⟩
    have c5 : w1.cell? ⟨w.heap.size, 5, none⟩ = some (.int .u32 lb) := cell2 hb1 (by simp)
    have c0 : w1.cell? ⟨w.heap.size, 0, none⟩ = some (.int .i64 f) := cell2 hb1 (by simp)
    have HB : Hid (Below w.heap.size w w1) := HBA.out.trans (hb1.mono HBA.out.size)
    clear hb1 KM
    by_cases h1 : lb ≤ 1048575
    · by_cases h2 : lb = 0
      · have HE : Hid (decide (nchk f r s l lb = 0) = true) := by unfold Hid; rw [HD.out, if_pos ⟨h0, h1, Or.inl h2⟩]; rfl
        subst h2
        go_wp2
        go_ret
        exact ⟨ret_bool HE.out.symm, HB.out⟩
      · have h2' : (lb == 0) = false := by simpa using h2
        have HE : Hid (decide (nchk f r s l lb = 0) = lab f) := by
          unfold Hid; rw [HD.out]
          cases hl : lab f with
          | true => rw [if_pos ⟨h0, h1, Or.inr rfl⟩]; rfl
          | false => rw [if_neg (by rintro ⟨_, _, h | h⟩; exact h2 h; exact absurd h (by decide))]; rfl
        clear h2
        go_wp2_with fail
        refine Calls.mono (KL.out _) ?_
        rintro e w2 ⟨rfl, hw2⟩
        obtain rfl : w1 = w2 := hw2.symm
        clear hw2
        go_wp2
        go_ret
        exact ⟨ret_bool HE.out.symm, HB.out⟩
    · have HE : Hid (decide (nchk f r s l lb = 0) = false) := by unfold Hid; rw [HD.out, if_neg (by omega)]; rfl
      go_wp2
      go_ret
      exact ⟨ret_bool HE.out.symm, HB.out⟩
  · have HE : Hid (decide (nchk f r s l lb = 0) = false) := by unfold Hid; rw [HD.out, if_neg (by omega)]; rfl
    have KM' : Hid (Calls Tryz.prog 48 #[.agg #[.int .i64 f, .int .u64 r, .string s, .int .i64 l]] (w.alloc (.cells #[.int .i64 f, .int .u64 r, .string s, .int .i64 l, .int .u32 id, .int .u32 lb] 27)) fun e w' => e = .returned (.bool false) ∧ Below (w.alloc (.cells #[.int .i64 f, .int .u64 r, .string s, .int .i64 l, .int .u32 id, .int .u32 lb] 27)).heap.size (w.alloc (.cells #[.int .i64 f, .int .u64 r, .string s, .int .i64 l, .int .u32 id, .int .u32 lb] 27)) w') := by
      have := KM.out
      rw [decide_eq_false h0] at this
      exact this
    clear KM
    go_enter Tryz.func25, Tryz.ntmps25
    go_wp2_with fail
    refine Calls.mono KM'.out ?_
    rintro e w1 ⟨rfl, hb1⟩
    have HB : Hid (Below w.heap.size w w1) := HBA.out.trans (hb1.mono HBA.out.size)
    clear hb1 KM'
    go_wp2
    go_ret
    exact ⟨ret_bool HE.out.symm, HB.out⟩
theorem rncheck_any (f r : Int) (s : ByteArray) (l id lb : Int) (w : World) (hs : s.size ≤ maxLen) :
    Calls Tryz.prog 10 #[.agg #[.int .i64 f, .int .u64 r, .string s, .int .i64 l, .int .u32 id, .int .u32 lb]] w fun e w' => e = .returned (.int .i64 (nchk f r s l lb)) ∧ Below w.heap.size w w' := by
  have hba : Below w.heap.size w (w.alloc (.cells #[.int .i64 f, .int .u64 r, .string s, .int .i64 l, .int .u32 id, .int .u32 lb] 27)) := (Below.refl _ _).alloc (Nat.le_refl _) _
  have HBA : Hid (Below _ _ _) := hba
  have KM : Hid (_ : Prop) := rmay_any f r s l id lb (w.alloc (.cells #[.int .i64 f, .int .u64 r, .string s, .int .i64 l, .int .u32 id, .int .u32 lb] 27)) hs
  clear hba
  by_cases h0 : nchk f r s l lb = 0
  · have HE : Hid (nchk f r s l lb = 0) := h0
    rw [decide_eq_true h0] at KM
    clear h0
    go_enter Tryz.func10, Tryz.ntmps10
    go_wp2_with fail
    refine Calls.mono KM.out ?_
    rintro e w1 ⟨rfl, hb1⟩
    have HB : Hid (Below w.heap.size w w1) := HBA.out.trans (hb1.mono HBA.out.size)
    clear hb1 KM
    go_wp2
    go_ret
    exact ⟨ret_int HE.out.symm, HB.out⟩
  · have HE : Hid (nchk f r s l lb = 2) := nchk_two h0
    rw [decide_eq_false h0] at KM
    clear h0
    go_enter Tryz.func10, Tryz.ntmps10
    go_wp2_with fail
    refine Calls.mono KM.out ?_
    rintro e w1 ⟨rfl, hb1⟩
    have HB : Hid (Below w.heap.size w w1) := HBA.out.trans (hb1.mono HBA.out.size)
    clear hb1 KM
    go_wp2
    go_ret
    exact ⟨ret_int HE.out.symm, HB.out⟩
end Go.Proofs.YtfhbgpepkplbaaaGreatDoor
namespace Go.Proofs.YtfhbgpepkplbaaaGreatDoor
open Go.RowKit
theorem rdst_any (f : Int) (w : World) : Calls Tryz.prog 52 #[.int .i64 f] w fun e w' => e = .returned (.bool (dst f)) ∧ w' = w := by
  by_cases h : f = 4
  · subst h
    go_enter Tryz.func52, Tryz.ntmps52
    go_wp2
    go_ret
    exact ⟨rfl, rfl⟩
  · have h' : (f == 4) = false := by simpa using h
    go_enter Tryz.func52, Tryz.ntmps52
    go_wp2
    go_ret
    exact ⟨ret_bool (by simp [dst, h']), rfl⟩
theorem rlab_any (f : Int) (w : World) : Calls Tryz.prog 49 #[.int .i64 f] w fun e w' => e = .returned (.bool (lab f)) ∧ w' = w := by
  by_cases h : f = 3
  · subst h
    go_enter Tryz.func49, Tryz.ntmps49
    go_wp2
    go_ret
    exact ⟨rfl, rfl⟩
  · have h' : (f == 3) = false := by simpa using h
    go_enter Tryz.func49, Tryz.ntmps49
    go_wp2_with (go_at_call 52; refine (rdst_any f _).mono ?_; rintro e w' ⟨rfl, rfl⟩)
    go_ret
    exact ⟨ret_bool (by simp [lab, h']), rfl⟩
theorem ahead_any (f : Int) (w : World) : Calls Tryz.prog 51 #[.int .i64 f] w fun e w' => e = .returned (.int .i64 (exN f : Nat)) ∧ w' = w := by
  have KL : Hid (∀ w, Calls Tryz.prog 49 #[.int .i64 f] w fun e w' => e = .returned (.bool (lab f)) ∧ w' = w) := rlab_any f
  have KD : Hid (∀ w, Calls Tryz.prog 52 #[.int .i64 f] w fun e w' => e = .returned (.bool (dst f)) ∧ w' = w) := rdst_any f
  unfold exN lbN rdN
  cases hl : lab f <;> cases hd : dst f
  all_goals
    rw [hl] at KL
    rw [hd] at KD
    go_enter Tryz.func51, Tryz.ntmps51
    go_wp2_with (first | (go_at_call 49; refine Calls.mono (KL.out _) ?_; rintro e w' ⟨rfl, rfl⟩) | (go_at_call 52; refine Calls.mono (KD.out _) ?_; rintro e w' ⟨rfl, rfl⟩))
    go_ret
    exact ⟨rfl, rfl⟩
theorem or_u32 (a b : Nat) (ha : a < 4294967296) (hb : b < 4294967296) : bits .or .u32 (a : Int) (b : Int) = ((a ||| b : Nat) : Int) := u32_or_nat a b ha hb
theorem worth4 (a b c d : UInt8) : worth [a, b, c, d] = a.toNat * 16777216 + b.toNat * 65536 + c.toNat * 256 + d.toNat := by
  simp only [worth, List.foldl_cons, List.foldl_nil]
  omega
theorem ors (A B C D : Nat) (ha : A < 256) (hb : B < 256) (hc : C < 256) (hd : D < 256) : bits .or .u32 (bits .or .u32 (bits .or .u32 ((A : Int) * 16777216) ((B : Int) * 65536)) ((C : Int) * 256)) (D : Int) = ((A * 16777216 + B * 65536 + C * 256 + D : Nat) : Int) := by
  have h1 : A * 16777216 ||| B * 65536 = A * 16777216 + B * 65536 := by
    rw [Nat.mul_comm A, show 16777216 = 2 ^ 24 from rfl, ← Nat.two_pow_add_eq_or_of_lt (by omega) A]
  have h2 : (A * 16777216 + B * 65536) ||| C * 256 = A * 16777216 + B * 65536 + C * 256 := by
    rw [show A * 16777216 + B * 65536 = 2 ^ 16 * (A * 256 + B) by omega, ← Nat.two_pow_add_eq_or_of_lt (by omega) (A * 256 + B)]
  have h3 : (A * 16777216 + B * 65536 + C * 256) ||| D = A * 16777216 + B * 65536 + C * 256 + D := by
    rw [show A * 16777216 + B * 65536 + C * 256 = 2 ^ 8 * (A * 65536 + B * 256 + C) by omega, ← Nat.two_pow_add_eq_or_of_lt (by omega) (A * 65536 + B * 256 + C)]
  have e1 := or_u32 (A * 16777216) (B * 65536) (by omega) (by omega)
  have e2 := or_u32 (A * 16777216 + B * 65536) (C * 256) (by omega) (by omega)
  have e3 := or_u32 (A * 16777216 + B * 65536 + C * 256) D (by omega) (by omega)
  rw [h1] at e1
  rw [h2] at e2
  rw [h3] at e3
  simp only [Int.natCast_mul, Int.cast_ofNat_Int] at e1 e2
  rw [e1, e2, e3]
theorem md24 (x : Int) (h0 : 0 ≤ x) (h1 : x < 256) : x % 4294967296 * 16777216 % 4294967296 = x * 16777216 := by omega
theorem md16 (x : Int) (h0 : 0 ≤ x) (h1 : x < 256) : x % 4294967296 * 65536 % 4294967296 = x * 65536 := by omega
theorem md8 (x : Int) (h0 : 0 ≤ x) (h1 : x < 256) : x % 4294967296 * 256 % 4294967296 = x * 256 := by omega
theorem md0 (x : Int) (h0 : 0 ≤ x) (h1 : x < 256) : x % 4294967296 = x := by omega
theorem num4_any (s : ByteArray) (w : World) (h : 4 ≤ s.size) (hm : s.size ≤ 1000000) : Calls Tryz.prog 77 #[.string s] w fun e w' => e = .returned (.int .u32 (worth (s.data.toList.take 4) : Nat)) ∧ Below w.heap.size w w' := by
  have h0 : (0 : Int) < s.size := by omega
  have h1 : (1 : Int) < s.size := by omega
  have h2 : (2 : Int) < s.size := by omega
  have h3 : (3 : Int) < s.size := by omega
  have n0 : 0 < s.size := by omega
  have n1 : 1 < s.size := by omega
  have n2 : 2 < s.size := by omega
  have n3 : 3 < s.size := by omega
  have HW : Hid (s.data.toList.take 4 = [s[0], s[1], s[2], s[3]]) := by
    unfold Hid
    apply List.ext_getElem
    · simp; omega
    · intro i hi _
      have : i < 4 := by simp at hi; omega
      match i, this with
      | 0, _ => simp; rfl
      | 1, _ => simp; rfl
      | 2, _ => simp; rfl
      | 3, _ => simp; rfl
  go_enter Tryz.func77, Tryz.ntmps77
  go_wp2
  go_quiet (fail)
  go_wp2
  go_ret
  refine ⟨ret_int ?_, below_drewN (Below.refl _ _) _⟩
  have g0 := s[0].toNat_lt
  have g1 := s[1].toNat_lt
  have g2 := s[2].toNat_lt
  have g3 := s[3].toNat_lt
  rw [HW.out, worth4, ← ors _ _ _ _ g0 g1 g2 g3]
  rw [md24 _ (by omega) (by omega), md16 _ (by omega) (by omega), md8 _ (by omega) (by omega), md0 _ (by omega) (by omega)]
end Go.Proofs.YtfhbgpepkplbaaaGreatDoor
namespace Go.Proofs.YtfhbgpepkplbaaaGreatDoor
open Go.RowKit
theorem laid4 (v : Nat) : laid v 4 = [byteAt v 3, byteAt v 2, byteAt v 1, byteAt v 0] := rfl
set_option maxRecDepth 100000 in
theorem four_any (v : Nat) (w : World) (hv : v < 4294967296) : Calls Tryz.prog 50 #[.int .u32 (v : Int)] w fun e w' => e = .returned (.string ⟨(laid v 4).toArray⟩) ∧ Below w.heap.size w w' := by
  have e3 := byteAt_toNat v 3
  have e2 := byteAt_toNat v 2
  have e1 := byteAt_toNat v 1
  have e0 := byteAt_toNat v 0
  simp only [Nat.mul_zero, Int.pow_zero, Int.ediv_one, show 8 * 3 = 24 from rfl, show 8 * 2 = 16 from rfl, show 8 * 1 = 8 from rfl, show (2 : Int) ^ 24 = 16777216 from rfl, show (2 : Int) ^ 16 = 65536 from rfl, show (2 : Int) ^ 8 = 256 from rfl] at e0 e1 e2 e3
  have e3' : (v : Int) / 16777216 % 256 = (v : Int) / 16777216 := by omega
  rw [e3'] at e3
  clear e3'
  have hbk := run_convert_bytes_back (P := Tryz.prog) (w.alloc (.cells #[.int .u8 ((v : Int) / 16777216), .int .u8 ((v : Int) / 65536 % 256), .int .u8 ((v : Int) / 256 % 256), .int .u8 ((v : Int) % 256)] 5)) 60 9 5 ⟨w.heap.size, 0, none⟩ 4 (laid v 4) Tryz.underlying60 Tryz.underlying5 Tryz.underlying9 (fun j hj => by
    rw [show Addr.add ⟨w.heap.size, 0, none⟩ j = ⟨w.heap.size, j, none⟩ from by unfold Addr.add; by_cases e : j = 0 <;> simp [e]]
    rw [laid_length] at hj
    rw [World.cell?_alloc_at _ _ _ _ rfl]
    rcases j with _ | _ | _ | _ | j
    · simp [laid, e3]
    · simp [laid, e2]
    · simp [laid, e1]
    · simp [laid, e0]
    · omega)
  rw [laid_length] at hbk
  clear e0 e1 e2 e3
  generalize (laid v 4).toArray = res at *
  go_enter Tryz.func50, Tryz.ntmps50
  go_wp2
  go_ret
  exact ⟨rfl, (Below.refl _ _).alloc (Nat.le_refl _) _⟩
theorem fourI (n : Int) (w : World) (h : 0 ≤ n ∧ n < 4294967296) : Calls Tryz.prog 50 #[.int .u32 n] w fun e w' => e = .returned (.string ⟨(laid n.toNat 4).toArray⟩) ∧ Below w.heap.size w w' := by
  have := four_any n.toNat w (by omega)
  rw [show ((n.toNat : Nat) : Int) = n by omega] at this
  exact this
theorem laid8 (x : Nat) : laid x 8 = laid (x / 4294967296) 4 ++ laid (x % 4294967296) 4 := by
  apply List.ext_getElem
  · simp [laid_length]
  · intro i h1 h2
    rw [laid_length] at h1
    rw [laid_at, List.getElem_append]
    split
    · rename_i h3
      rw [laid_length] at h3
      rw [laid_at]
      unfold byteAt
      rw [Nat.div_div_eq_div_mul, show 4294967296 = 2 ^ 32 from rfl, ← Nat.pow_add]
      congr 3; omega
    · rename_i h3
      rw [laid_length] at h3
      rw [laid_at]
      unfold byteAt
      apply UInt8.toNat_inj.mp
      rw [UInt8.toNat_ofNat', UInt8.toNat_ofNat', laid_length]
      rw [show 8 - 1 - i = 4 - 1 - (i - 4) by omega]
      have h4 : 4 - 1 - (i - 4) < 4 := by omega
      generalize 4 - 1 - (i - 4) = j at *
      rcases (show j = 0 ∨ j = 1 ∨ j = 2 ∨ j = 3 by omega) with rfl | rfl | rfl | rfl <;> simp <;> omega
theorem add_l (X Y : List UInt8) (hx : X.length ≤ 1000) (hy : Y.length ≤ 1000) (W : World) : (Op.stringOp .add ⟨X.toArray⟩ ⟨Y.toArray⟩).run Tryz.prog W = .ok (.string ⟨(X ++ Y).toArray⟩) W := by
  have := run_string_add_sum (P := Tryz.prog) W ⟨X.toArray⟩ ⟨Y.toArray⟩ (by rw [list_size, list_size]; omega)
  rw [this]
  congr 2
theorem cat_take (A : List UInt8) (s : ByteArray) (n : Nat) : (⟨(A ++ s.data.toList.take n).toArray⟩ : ByteArray) = ⟨A.toArray⟩ ++ s.extract 0 n := by
  apply ByteArray.ext
  apply Array.ext'
  simp
theorem back1 (c : Nat) (wx : World) : (convert 60 9 (.slice (some ⟨wx.heap.size, 0, none⟩) 1 1)).run Tryz.prog (wx.alloc (.cells #[.int .u8 ((c % 256 : Nat) : Int)] 5)) = .ok (.string ⟨(laid c 1).toArray⟩) (wx.alloc (.cells #[.int .u8 ((c % 256 : Nat) : Int)] 5)) := by
  have e0 := byteAt_toNat c 0
  simp only [Nat.mul_zero, Int.pow_zero, Int.ediv_one] at e0
  have := run_convert_bytes_back (P := Tryz.prog) (wx.alloc (.cells #[.int .u8 ((c % 256 : Nat) : Int)] 5)) 60 9 5 ⟨wx.heap.size, 0, none⟩ 1 (laid c 1) Tryz.underlying60 Tryz.underlying5 Tryz.underlying9 (fun j hj => by
    rw [show Addr.add ⟨wx.heap.size, 0, none⟩ j = ⟨wx.heap.size, j, none⟩ from by unfold Addr.add; by_cases e : j = 0 <;> simp [e]]
    rw [laid_length] at hj
    rw [World.cell?_alloc_at _ _ _ _ rfl]
    rcases j with _ | j
    · simp [laid, e0]
    · omega)
  rwa [laid_length] at this
theorem back3 (v : Nat) (hv : v < 16777216) (wx : World) : (convert 60 9 (.slice (some ⟨wx.heap.size, 0, none⟩) 3 3)).run Tryz.prog (wx.alloc (.cells #[.int .u8 ((v / 65536 : Nat) : Int), .int .u8 ((v / 256 % 256 : Nat) : Int), .int .u8 ((v % 256 : Nat) : Int)] 5)) = .ok (.string ⟨(laid v 3).toArray⟩) (wx.alloc (.cells #[.int .u8 ((v / 65536 : Nat) : Int), .int .u8 ((v / 256 % 256 : Nat) : Int), .int .u8 ((v % 256 : Nat) : Int)] 5)) := by
  have e0 := byteAt_toNat v 0
  have e1 := byteAt_toNat v 1
  have e2 := byteAt_toNat v 2
  simp only [Nat.mul_zero, Int.pow_zero, Int.ediv_one, show 8 * 2 = 16 from rfl, show 8 * 1 = 8 from rfl, show (2 : Int) ^ 16 = 65536 from rfl, show (2 : Int) ^ 8 = 256 from rfl] at e0 e1 e2
  have e2' : ((byteAt v 2).toNat : Int) = ((v / 65536 : Nat) : Int) := by omega
  have e1' : ((byteAt v 1).toNat : Int) = ((v / 256 % 256 : Nat) : Int) := by omega
  have e0' : ((byteAt v 0).toNat : Int) = ((v % 256 : Nat) : Int) := by omega
  have := run_convert_bytes_back (P := Tryz.prog) (wx.alloc (.cells #[.int .u8 ((v / 65536 : Nat) : Int), .int .u8 ((v / 256 % 256 : Nat) : Int), .int .u8 ((v % 256 : Nat) : Int)] 5)) 60 9 5 ⟨wx.heap.size, 0, none⟩ 3 (laid v 3) Tryz.underlying60 Tryz.underlying5 Tryz.underlying9 (fun j hj => by
    rw [show Addr.add ⟨wx.heap.size, 0, none⟩ j = ⟨wx.heap.size, j, none⟩ from by unfold Addr.add; by_cases e : j = 0 <;> simp [e]]
    rw [laid_length] at hj
    rw [World.cell?_alloc_at _ _ _ _ rfl]
    rcases j with _ | _ | _ | j
    · show some _ = some (Value.int .u8 ((byteAt v 2).toNat : Int)); rw [e2']; rfl
    · show some _ = some (Value.int .u8 ((byteAt v 1).toNat : Int)); rw [e1']; rfl
    · show some _ = some (Value.int .u8 ((byteAt v 0).toNat : Int)); rw [e0']; rfl
    · omega)
  rwa [laid_length] at this
end Go.Proofs.YtfhbgpepkplbaaaGreatDoor
namespace Go.Proofs.YtfhbgpepkplbaaaGreatDoor
open Go.RowKit
set_option maxRecDepth 100000 in
set_option maxHeartbeats 3200000 in
theorem one_td (f : Int) (r : Nat) (s : ByteArray) (l id lb : Nat) (w : World) (hl : l ≤ 8 * s.size) (hs : s.size ≤ 16) (hid : id < 4294967296) (hlb : lb ≤ 1048575) (hr : r < 18446744073709551616) (hlab : lab f = true) (hdst : dst f = true) :
    Calls Tryz.prog 26 #[.agg #[.int .i64 f, .int .u64 (r : Int), .string s, .int .i64 (l : Int), .int .u32 (id : Int), .int .u32 (lb : Int)], .bool true] w fun e w' => e = .returned (.string ⟨(nlE f true r s l id lb).toArray⟩) ∧ Below w.heap.size w w' := by
  have hex : exN f ≤ 88 := by unfold exN lbN rdN; rw [hlab, hdst]; decide
  obtain ⟨ct, hct⟩ : ∃ ct, ct = l + exN f := ⟨_, rfl⟩
  obtain ⟨lv, hlv⟩ : ∃ lv, lv = lb * 16 + 1 := ⟨_, rfl⟩
  obtain ⟨rh, hrh⟩ : ∃ rh, rh = r / 4294967296 := ⟨_, rfl⟩
  obtain ⟨rl, hrl⟩ : ∃ rl, rl = r % 4294967296 := ⟨_, rfl⟩
  obtain ⟨nb, hnb⟩ : ∃ nb, nb = (l + 7) / 8 := ⟨_, rfl⟩
  have hlv0 : lv < 16777216 := by omega
  have KA : Hid (∀ w, Calls Tryz.prog 51 #[.int .i64 f] w fun e w' => e = .returned (.int .i64 (exN f : Nat)) ∧ w' = w) := ahead_any f
  have KL : Hid (∀ w, Calls Tryz.prog 49 #[.int .i64 f] w fun e w' => e = .returned (.bool true) ∧ w' = w) := by have := rlabd f; rw [hlab] at this; exact this
  have KD : Hid (∀ w, Calls Tryz.prog 52 #[.int .i64 f] w fun e w' => e = .returned (.bool true) ∧ w' = w) := by have := rdst_any f; rw [hdst] at this; exact this
  have KF : Hid (∀ w, Calls Tryz.prog 50 #[.int .u32 (id : Int)] w fun e w' => e = .returned (.string ⟨(laid id 4).toArray⟩) ∧ Below w.heap.size w w') := fun w => four_any id w hid
  have KH : Hid (∀ w, Calls Tryz.prog 50 #[.int .u32 (rh : Int)] w fun e w' => e = .returned (.string ⟨(laid rh 4).toArray⟩) ∧ Below w.heap.size w w') := fun w => four_any rh w (by omega)
  have KW : Hid (∀ w, Calls Tryz.prog 50 #[.int .u32 (rl : Int)] w fun e w' => e = .returned (.string ⟨(laid rl 4).toArray⟩) ∧ Below w.heap.size w w') := fun w => four_any rl w (by omega)
  have hw2 : IntKind.i64.wrap ((l : Int) + (exN f : Nat)) = (ct : Int) := by rw [IntKind.wrap_i64]; omega
  have hw3 : IntKind.u8.wrap (ct : Int) = ((ct % 256 : Nat) : Int) := by rw [IntKind.wrap_u8]; omega
  have HE : Hid (nlE f true r s l id lb = ((((laid id 4 ++ laid ct 1) ++ laid lv 3) ++ laid rh 4) ++ laid rl 4) ++ s.data.toList.take nb) := by
    unfold Hid nlE idN lbN rdN; rw [hlab, hdst, hct, hnb]; (try rw [hlv]); (try rw [hrh, hrl]); (try simp only [if_true]; rw [laid8 r]); simp [laid]
  have HR : Hid ((r : Int) / 4294967296 = (rh : Int) ∧ IntKind.u32.wrap (rh : Int) = (rh : Int) ∧ IntKind.u32.wrap (r : Int) = (rl : Int)) := by unfold Hid; rw [IntKind.wrap_u32, IntKind.wrap_u32]; omega
  have HN : Hid (wrap64 ((l : Int) + 7) = (l : Int) + 7 ∧ wrap64 (((l : Int) + 7).tdiv 8) = (nb : Int) ∧ nb ≤ s.size ∧ s.size ≤ 16) := by
    have e1 : ((l : Int) + 7).tdiv 8 = (nb : Int) := by rw [Int.tdiv_eq_ediv_of_nonneg (by omega)]; omega
    refine ⟨by unfold wrap64; omega, ?_, by omega, hs⟩
    rw [e1]; unfold wrap64; omega
  clear hl hs hid hlab hdst hct hex hrh hrl hnb
  go_enter Tryz.func26, Tryz.ntmps26
  go_wp2_with fail
  refine Calls.mono (KF.out _) ?_
  rintro e w1 ⟨rfl, hb1⟩
  have p0 : w1.cell? ⟨w.heap.size, 0, none⟩ = some (.int .i64 f) := cell2 hb1 (by simp)
  have p1 : w1.cell? ⟨w.heap.size, 1, none⟩ = some (.int .u64 (r : Int)) := cell2 hb1 (by simp)
  have p2 : w1.cell? ⟨w.heap.size, 2, none⟩ = some (.string s) := cell2 hb1 (by simp)
  have p3 : w1.cell? ⟨w.heap.size, 3, none⟩ = some (.int .i64 (l : Int)) := cell2 hb1 (by simp)
  have p5 : w1.cell? ⟨w.heap.size, 5, none⟩ = some (.int .u32 (lb : Int)) := cell2 hb1 (by simp)
  have HB1 : Hid (Below w.heap.size w w1) := ((Below.refl _ _).alloc (Nat.le_refl _) _).trans (hb1.mono (by simp))
  clear hb1
  have HLn : Hid ((laid id 4).length = 4) := laid_length _ _
  generalize laid id 4 = A1 at *
  have HB2 : Hid (Below w.heap.size w (w1.alloc (.cells #[.int .i64 f, .int .u64 (r : Int), .string s, .int .i64 (l : Int)] 24))) := HB1.out.alloc HB1.out.size _
  go_wp2
  have q0 : (w1.alloc (.cells #[.int .i64 f, .int .u64 (r : Int), .string s, .int .i64 (l : Int)] 24)).cell? ⟨w1.heap.size, 0, none⟩ = some (.int .i64 f) := by simp
  have q1 : (w1.alloc (.cells #[.int .i64 f, .int .u64 (r : Int), .string s, .int .i64 (l : Int)] 24)).cell? ⟨w1.heap.size, 1, none⟩ = some (.int .u64 (r : Int)) := by simp
  have q2 : (w1.alloc (.cells #[.int .i64 f, .int .u64 (r : Int), .string s, .int .i64 (l : Int)] 24)).cell? ⟨w1.heap.size, 2, none⟩ = some (.string s) := by simp
  have q3 : (w1.alloc (.cells #[.int .i64 f, .int .u64 (r : Int), .string s, .int .i64 (l : Int)] 24)).cell? ⟨w1.heap.size, 3, none⟩ = some (.int .i64 (l : Int)) := by simp
  have q5 : (w1.alloc (.cells #[.int .i64 f, .int .u64 (r : Int), .string s, .int .i64 (l : Int)] 24)).cell? ⟨w.heap.size, 5, none⟩ = some (.int .u32 (lb : Int)) := below_cell ((Below.refl _ _).alloc (Nat.le_refl _) _) p5
  clear p0 p1 p2 p3 p5
  generalize w1.alloc (.cells #[.int .i64 f, .int .u64 (r : Int), .string s, .int .i64 (l : Int)] 24) = W at *
  generalize w1.heap.size = b at *
  have hb : ∀ wx : World, (convert 60 9 (.slice (some ⟨wx.heap.size, 0, none⟩) 1 1)).run Tryz.prog (wx.alloc (.cells #[.int .u8 ((ct : Int) % 256)] 5)).drew = .ok (.string ⟨(laid ct 1).toArray⟩) (wx.alloc (.cells #[.int .u8 ((ct : Int) % 256)] 5)).drew := fun wx => back1 ct wx.drew
  have HLc : Hid ((laid ct 1).length = 1) := laid_length _ _
  have ha : ∀ wx : World, (Op.stringOp .add ⟨A1.toArray⟩ ⟨(laid ct 1).toArray⟩).run Tryz.prog wx = .ok (.string ⟨(A1 ++ laid ct 1).toArray⟩) wx := fun wx => add_l A1 (laid ct 1) (by rw [HLn.out]; omega) (by rw [laid_length]; omega) wx
  generalize laid ct 1 = A2 at *
  go_region_held (fun w' => w'.cell? ⟨b, 0, none⟩ = some (.int .i64 f) ∧ w'.cell? ⟨b, 1, none⟩ = some (.int .u64 (r : Int)) ∧ w'.cell? ⟨b, 2, none⟩ = some (.string s) ∧ w'.cell? ⟨b, 3, none⟩ = some (.int .i64 (l : Int)) ∧ w'.cell? ⟨w.heap.size, 5, none⟩ = some (.int .u32 (lb : Int))) (go_keep)
    (first | (go_at_call 51; refine Calls.mono (KA.out _) ?_; rintro e w4 ⟨rfl, rfl⟩))
  have hbx : Below W.heap.size W (W.alloc (.cells #[.int .u8 ((ct : Int) % 256)] 5)).drew := ((Below.refl _ _).alloc (Nat.le_refl _) _).drew
  have r0 := below_cell hbx q0
  have r1 := below_cell hbx q1
  have r2 := below_cell hbx q2
  have r3 := below_cell hbx q3
  have r5 := below_cell hbx q5
  have HB3 : Hid (Below w.heap.size w (W.alloc (.cells #[.int .u8 ((ct : Int) % 256)] 5)).drew) := HB2.out.trans (hbx.mono HB2.out.size)
  clear q0 q1 q2 q3 q5 hbx HB2 HB1 hb ha
  generalize (W.alloc (.cells #[.int .u8 ((ct : Int) % 256)] 5)).drew = W3 at *
  have HL3 : Hid ((A1 ++ A2).length ≤ 5) := by unfold Hid; rw [List.length_append, HLc.out, HLn.out]; omega
  generalize A1 ++ A2 = A3 at *
  have hs1 : (lb : Int) * 16 % 4294967296 = (lb : Int) * 16 := by omega
  have hor : bits .or .u32 ((lb : Int) * 16) 1 = (lv : Int) := by
    have h := u32_or_nat (lb * 16) 1 (by omega) (by omega)
    rw [show ((lb * 16 : Nat) : Int) = (lb : Int) * 16 from by simp, show ((1 : Nat) : Int) = 1 from rfl] at h
    rw [h, Nat.mul_comm lb 16, ← Nat.two_pow_add_eq_or_of_lt (i := 4) (by omega : 1 < 2 ^ 4) lb]
    omega
  clear hlv
  have hb3 : ∀ wx : World, (convert 60 9 (.slice (some ⟨wx.heap.size, 0, none⟩) 3 3)).run Tryz.prog (wx.alloc (.cells #[.int .u8 ((lv : Int) / 65536), .int .u8 ((lv : Int) / 256 % 256), .int .u8 ((lv : Int) % 256)] 5)) = .ok (.string ⟨(laid lv 3).toArray⟩) (wx.alloc (.cells #[.int .u8 ((lv : Int) / 65536), .int .u8 ((lv : Int) / 256 % 256), .int .u8 ((lv : Int) % 256)] 5)) := fun wx => back3 lv hlv0 wx
  have ha3 : ∀ wx : World, (Op.stringOp .add ⟨A3.toArray⟩ ⟨(laid lv 3).toArray⟩).run Tryz.prog wx = .ok (.string ⟨(A3 ++ laid lv 3).toArray⟩) wx := fun wx => add_l A3 (laid lv 3) (by have := HL3.out; omega) (by rw [laid_length]; omega) wx
  have HL4 : Hid ((A3 ++ laid lv 3).length ≤ 8) := by unfold Hid; rw [List.length_append, laid_length]; have := HL3.out; omega
  generalize laid lv 3 = A3' at *
  generalize hA4 : A3 ++ A3' = A4 at *
  go_wp2_with fail
  refine Calls.mono (KL.out _) ?_
  rintro e w5 ⟨rfl, hw5⟩
  obtain rfl : W3 = w5 := hw5.symm
  clear hw5
  have hbx : Below W3.heap.size W3 (W3.alloc (.cells #[.int .u8 ((lv : Int) / 65536), .int .u8 ((lv : Int) / 256 % 256), .int .u8 ((lv : Int) % 256)] 5)) := (Below.refl _ _).alloc (Nat.le_refl _) _
  have t0 := below_cell hbx r0
  have t1 := below_cell hbx r1
  have t2 := below_cell hbx r2
  have t3 := below_cell hbx r3
  have HB5 : Hid (Below w.heap.size w (W3.alloc (.cells #[.int .u8 ((lv : Int) / 65536), .int .u8 ((lv : Int) / 256 % 256), .int .u8 ((lv : Int) % 256)] 5))) := HB3.out.trans (hbx.mono HB3.out.size)
  clear hbx
  go_wp2_with fail
  refine Calls.mono (KD.out _) ?_
  rintro e w5 ⟨rfl, hw5⟩
  rw [← hw5] at t0 t1 t2 t3 HB5
  clear hw5
  clear r0 r1 r2 r3 r5 HB3 hb3 ha3 hs1 hor hA4
  have hr1 := HR.out.1
  have hr2 := HR.out.2.1
  have hr3 := HR.out.2.2
  have ha5 : ∀ wx : World, (Op.stringOp .add ⟨A4.toArray⟩ ⟨(laid rh 4).toArray⟩).run Tryz.prog wx = .ok (.string ⟨(A4 ++ laid rh 4).toArray⟩) wx := fun wx => add_l A4 (laid rh 4) (by have := HL4.out; omega) (by rw [laid_length]; omega) wx
  have HL5 : Hid ((A4 ++ laid rh 4).length ≤ 12) := by unfold Hid; rw [List.length_append, laid_length]; have := HL4.out; omega
  generalize laid rh 4 = B1 at *
  generalize A4 ++ B1 = A5 at *
  have ha6 : ∀ wx : World, (Op.stringOp .add ⟨A5.toArray⟩ ⟨(laid rl 4).toArray⟩).run Tryz.prog wx = .ok (.string ⟨(A5 ++ laid rl 4).toArray⟩) wx := fun wx => add_l A5 (laid rl 4) (by have := HL5.out; omega) (by rw [laid_length]; omega) wx
  have HL6 : Hid ((A5 ++ laid rl 4).length ≤ 16) := by unfold Hid; rw [List.length_append, laid_length]; have := HL5.out; omega
  generalize laid rl 4 = B2 at *
  generalize A5 ++ B2 = A6 at *
  go_wp2
  go_region_held (fun w' => w'.cell? ⟨b, 0, none⟩ = some (.int .i64 f) ∧ w'.cell? ⟨b, 1, none⟩ = some (.int .u64 (r : Int)) ∧ w'.cell? ⟨b, 2, none⟩ = some (.string s) ∧ w'.cell? ⟨b, 3, none⟩ = some (.int .i64 (l : Int))) (go_keep)
    (first | (go_at_call_of 50 (Value.int .u32 (rh : Int)); refine Calls.mono (KH.out _) ?_; rintro e w6 ⟨rfl, hb6⟩; have u0 := below_cell (w := w5.drew) hb6 t0; have u1 := below_cell (w := w5.drew) hb6 t1; have u2 := below_cell (w := w5.drew) hb6 t2; have u3 := below_cell (w := w5.drew) hb6 t3) | (go_at_call_of 50 (Value.int .u32 (rl : Int)); refine Calls.mono (KW.out _) ?_; rintro e w7 ⟨rfl, hb7⟩; have v0 := below_cell hb7 u0; have v1 := below_cell hb7 u1; have v2 := below_cell hb7 u2; have v3 := below_cell hb7 u3))
  have HB7 : Hid (Below w.heap.size w w7) := by
    have h1 : Below w.heap.size w w6 := HB5.out.drew.trans (hb6.mono HB5.out.size)
    exact h1.trans (hb7.mono h1.size)
  clear hb6 hb7 u0 u1 u2 u3 v0 v1 t0 t1 t2 t3 ha5 ha6 hr1 hr2 hr3
  have hn1 := HN.out.1
  have hn2 := HN.out.2.1
  have hn3 := HN.out.2.2.1
  have hn4 := HN.out.2.2.2
  have hn5 := HL6.out
  go_wp2
  go_ret
  exact ⟨by rw [HE.out, cat_take A6 s nb]; rfl, HB7.out⟩
end Go.Proofs.YtfhbgpepkplbaaaGreatDoor
namespace Go.Proofs.YtfhbgpepkplbaaaGreatDoor
open Go.RowKit
set_option maxRecDepth 100000 in
set_option maxHeartbeats 3200000 in
theorem one_tl (f : Int) (r : Nat) (s : ByteArray) (l id lb : Nat) (w : World) (hl : l ≤ 8 * s.size) (hs : s.size ≤ 16) (hid : id < 4294967296) (hlb : lb ≤ 1048575) (hr : r < 18446744073709551616) (hlab : lab f = true) (hdst : dst f = false) :
    Calls Tryz.prog 26 #[.agg #[.int .i64 f, .int .u64 (r : Int), .string s, .int .i64 (l : Int), .int .u32 (id : Int), .int .u32 (lb : Int)], .bool true] w fun e w' => e = .returned (.string ⟨(nlE f true r s l id lb).toArray⟩) ∧ Below w.heap.size w w' := by
  have hex : exN f ≤ 88 := by unfold exN lbN rdN; rw [hlab, hdst]; decide
  obtain ⟨ct, hct⟩ : ∃ ct, ct = l + exN f := ⟨_, rfl⟩
  obtain ⟨lv, hlv⟩ : ∃ lv, lv = lb * 16 + 1 := ⟨_, rfl⟩
  obtain ⟨rh, hrh⟩ : ∃ rh, rh = r / 4294967296 := ⟨_, rfl⟩
  obtain ⟨rl, hrl⟩ : ∃ rl, rl = r % 4294967296 := ⟨_, rfl⟩
  obtain ⟨nb, hnb⟩ : ∃ nb, nb = (l + 7) / 8 := ⟨_, rfl⟩
  have hlv0 : lv < 16777216 := by omega
  have KA : Hid (∀ w, Calls Tryz.prog 51 #[.int .i64 f] w fun e w' => e = .returned (.int .i64 (exN f : Nat)) ∧ w' = w) := ahead_any f
  have KL : Hid (∀ w, Calls Tryz.prog 49 #[.int .i64 f] w fun e w' => e = .returned (.bool true) ∧ w' = w) := by have := rlabd f; rw [hlab] at this; exact this
  have KD : Hid (∀ w, Calls Tryz.prog 52 #[.int .i64 f] w fun e w' => e = .returned (.bool false) ∧ w' = w) := by have := rdst_any f; rw [hdst] at this; exact this
  have KF : Hid (∀ w, Calls Tryz.prog 50 #[.int .u32 (id : Int)] w fun e w' => e = .returned (.string ⟨(laid id 4).toArray⟩) ∧ Below w.heap.size w w') := fun w => four_any id w hid
  have KH : Hid (∀ w, Calls Tryz.prog 50 #[.int .u32 (rh : Int)] w fun e w' => e = .returned (.string ⟨(laid rh 4).toArray⟩) ∧ Below w.heap.size w w') := fun w => four_any rh w (by omega)
  have KW : Hid (∀ w, Calls Tryz.prog 50 #[.int .u32 (rl : Int)] w fun e w' => e = .returned (.string ⟨(laid rl 4).toArray⟩) ∧ Below w.heap.size w w') := fun w => four_any rl w (by omega)
  have hw2 : IntKind.i64.wrap ((l : Int) + (exN f : Nat)) = (ct : Int) := by rw [IntKind.wrap_i64]; omega
  have hw3 : IntKind.u8.wrap (ct : Int) = ((ct % 256 : Nat) : Int) := by rw [IntKind.wrap_u8]; omega
  have HE : Hid (nlE f true r s l id lb = ((laid id 4 ++ laid ct 1) ++ laid lv 3) ++ s.data.toList.take nb) := by
    unfold Hid nlE idN lbN rdN; rw [hlab, hdst, hct, hnb]; (try rw [hlv]); (try rw [hrh, hrl]); (try simp only [if_true]; rw [laid8 r]); simp [laid]
  have HR : Hid ((r : Int) / 4294967296 = (rh : Int) ∧ (rh : Int) % 4294967296 = (rh : Int) ∧ (r : Int) % 4294967296 = (rl : Int)) := by unfold Hid; omega
  have HN : Hid (wrap64 ((l : Int) + 7) = (l : Int) + 7 ∧ wrap64 (((l : Int) + 7).tdiv 8) = (nb : Int) ∧ nb ≤ s.size ∧ s.size ≤ 16) := by
    have e1 : ((l : Int) + 7).tdiv 8 = (nb : Int) := by rw [Int.tdiv_eq_ediv_of_nonneg (by omega)]; omega
    refine ⟨by unfold wrap64; omega, ?_, by omega, hs⟩
    rw [e1]; unfold wrap64; omega
  clear hl hs hid hlab hdst hct hex hrh hrl hnb
  go_enter Tryz.func26, Tryz.ntmps26
  go_wp2_with fail
  refine Calls.mono (KF.out _) ?_
  rintro e w1 ⟨rfl, hb1⟩
  have p0 : w1.cell? ⟨w.heap.size, 0, none⟩ = some (.int .i64 f) := cell2 hb1 (by simp)
  have p1 : w1.cell? ⟨w.heap.size, 1, none⟩ = some (.int .u64 (r : Int)) := cell2 hb1 (by simp)
  have p2 : w1.cell? ⟨w.heap.size, 2, none⟩ = some (.string s) := cell2 hb1 (by simp)
  have p3 : w1.cell? ⟨w.heap.size, 3, none⟩ = some (.int .i64 (l : Int)) := cell2 hb1 (by simp)
  have p5 : w1.cell? ⟨w.heap.size, 5, none⟩ = some (.int .u32 (lb : Int)) := cell2 hb1 (by simp)
  have HB1 : Hid (Below w.heap.size w w1) := ((Below.refl _ _).alloc (Nat.le_refl _) _).trans (hb1.mono (by simp))
  clear hb1
  have HLn : Hid ((laid id 4).length = 4) := laid_length _ _
  generalize laid id 4 = A1 at *
  have HB2 : Hid (Below w.heap.size w (w1.alloc (.cells #[.int .i64 f, .int .u64 (r : Int), .string s, .int .i64 (l : Int)] 24))) := HB1.out.alloc HB1.out.size _
  go_wp2
  have q0 : (w1.alloc (.cells #[.int .i64 f, .int .u64 (r : Int), .string s, .int .i64 (l : Int)] 24)).cell? ⟨w1.heap.size, 0, none⟩ = some (.int .i64 f) := by simp
  have q1 : (w1.alloc (.cells #[.int .i64 f, .int .u64 (r : Int), .string s, .int .i64 (l : Int)] 24)).cell? ⟨w1.heap.size, 1, none⟩ = some (.int .u64 (r : Int)) := by simp
  have q2 : (w1.alloc (.cells #[.int .i64 f, .int .u64 (r : Int), .string s, .int .i64 (l : Int)] 24)).cell? ⟨w1.heap.size, 2, none⟩ = some (.string s) := by simp
  have q3 : (w1.alloc (.cells #[.int .i64 f, .int .u64 (r : Int), .string s, .int .i64 (l : Int)] 24)).cell? ⟨w1.heap.size, 3, none⟩ = some (.int .i64 (l : Int)) := by simp
  have q5 : (w1.alloc (.cells #[.int .i64 f, .int .u64 (r : Int), .string s, .int .i64 (l : Int)] 24)).cell? ⟨w.heap.size, 5, none⟩ = some (.int .u32 (lb : Int)) := below_cell ((Below.refl _ _).alloc (Nat.le_refl _) _) p5
  clear p0 p1 p2 p3 p5
  generalize w1.alloc (.cells #[.int .i64 f, .int .u64 (r : Int), .string s, .int .i64 (l : Int)] 24) = W at *
  generalize w1.heap.size = b at *
  have hb : ∀ wx : World, (convert 60 9 (.slice (some ⟨wx.heap.size, 0, none⟩) 1 1)).run Tryz.prog (wx.alloc (.cells #[.int .u8 ((ct : Int) % 256)] 5)).drew = .ok (.string ⟨(laid ct 1).toArray⟩) (wx.alloc (.cells #[.int .u8 ((ct : Int) % 256)] 5)).drew := fun wx => back1 ct wx.drew
  have HLc : Hid ((laid ct 1).length = 1) := laid_length _ _
  have ha : ∀ wx : World, (Op.stringOp .add ⟨A1.toArray⟩ ⟨(laid ct 1).toArray⟩).run Tryz.prog wx = .ok (.string ⟨(A1 ++ laid ct 1).toArray⟩) wx := fun wx => add_l A1 (laid ct 1) (by rw [HLn.out]; omega) (by rw [laid_length]; omega) wx
  generalize laid ct 1 = A2 at *
  go_region_held (fun w' => w'.cell? ⟨b, 0, none⟩ = some (.int .i64 f) ∧ w'.cell? ⟨b, 1, none⟩ = some (.int .u64 (r : Int)) ∧ w'.cell? ⟨b, 2, none⟩ = some (.string s) ∧ w'.cell? ⟨b, 3, none⟩ = some (.int .i64 (l : Int)) ∧ w'.cell? ⟨w.heap.size, 5, none⟩ = some (.int .u32 (lb : Int))) (go_keep)
    (first | (go_at_call 51; refine Calls.mono (KA.out _) ?_; rintro e w4 ⟨rfl, rfl⟩))
  have hbx : Below W.heap.size W (W.alloc (.cells #[.int .u8 ((ct : Int) % 256)] 5)).drew := ((Below.refl _ _).alloc (Nat.le_refl _) _).drew
  have r0 := below_cell hbx q0
  have r1 := below_cell hbx q1
  have r2 := below_cell hbx q2
  have r3 := below_cell hbx q3
  have r5 := below_cell hbx q5
  have HB3 : Hid (Below w.heap.size w (W.alloc (.cells #[.int .u8 ((ct : Int) % 256)] 5)).drew) := HB2.out.trans (hbx.mono HB2.out.size)
  clear q0 q1 q2 q3 q5 hbx HB2 HB1 hb ha
  generalize (W.alloc (.cells #[.int .u8 ((ct : Int) % 256)] 5)).drew = W3 at *
  have HL3 : Hid ((A1 ++ A2).length ≤ 5) := by unfold Hid; rw [List.length_append, HLc.out, HLn.out]; omega
  generalize A1 ++ A2 = A3 at *
  have hs1 : (lb : Int) * 16 % 4294967296 = (lb : Int) * 16 := by omega
  have hor : bits .or .u32 ((lb : Int) * 16) 1 = (lv : Int) := by
    have h := u32_or_nat (lb * 16) 1 (by omega) (by omega)
    rw [show ((lb * 16 : Nat) : Int) = (lb : Int) * 16 from by simp, show ((1 : Nat) : Int) = 1 from rfl] at h
    rw [h, Nat.mul_comm lb 16, ← Nat.two_pow_add_eq_or_of_lt (i := 4) (by omega : 1 < 2 ^ 4) lb]
    omega
  clear hlv
  have hb3 : ∀ wx : World, (convert 60 9 (.slice (some ⟨wx.heap.size, 0, none⟩) 3 3)).run Tryz.prog (wx.alloc (.cells #[.int .u8 ((lv : Int) / 65536), .int .u8 ((lv : Int) / 256 % 256), .int .u8 ((lv : Int) % 256)] 5)) = .ok (.string ⟨(laid lv 3).toArray⟩) (wx.alloc (.cells #[.int .u8 ((lv : Int) / 65536), .int .u8 ((lv : Int) / 256 % 256), .int .u8 ((lv : Int) % 256)] 5)) := fun wx => back3 lv hlv0 wx
  have ha3 : ∀ wx : World, (Op.stringOp .add ⟨A3.toArray⟩ ⟨(laid lv 3).toArray⟩).run Tryz.prog wx = .ok (.string ⟨(A3 ++ laid lv 3).toArray⟩) wx := fun wx => add_l A3 (laid lv 3) (by have := HL3.out; omega) (by rw [laid_length]; omega) wx
  have HL4 : Hid ((A3 ++ laid lv 3).length ≤ 8) := by unfold Hid; rw [List.length_append, laid_length]; have := HL3.out; omega
  generalize laid lv 3 = A3' at *
  generalize hA4 : A3 ++ A3' = A4 at *
  go_wp2_with fail
  refine Calls.mono (KL.out _) ?_
  rintro e w5 ⟨rfl, hw5⟩
  obtain rfl : W3 = w5 := hw5.symm
  clear hw5
  have hbx : Below W3.heap.size W3 (W3.alloc (.cells #[.int .u8 ((lv : Int) / 65536), .int .u8 ((lv : Int) / 256 % 256), .int .u8 ((lv : Int) % 256)] 5)) := (Below.refl _ _).alloc (Nat.le_refl _) _
  have t0 := below_cell hbx r0
  have t1 := below_cell hbx r1
  have t2 := below_cell hbx r2
  have t3 := below_cell hbx r3
  have HB5 : Hid (Below w.heap.size w (W3.alloc (.cells #[.int .u8 ((lv : Int) / 65536), .int .u8 ((lv : Int) / 256 % 256), .int .u8 ((lv : Int) % 256)] 5))) := HB3.out.trans (hbx.mono HB3.out.size)
  clear hbx
  go_wp2_with fail
  refine Calls.mono (KD.out _) ?_
  rintro e w5 ⟨rfl, hw5⟩
  rw [← hw5] at t0 t1 t2 t3 HB5
  clear hw5
  clear r0 r1 r2 r3 r5 HB3 hb3 ha3 hs1 hor hA4
  have hn1 := HN.out.1
  have hn2 := HN.out.2.1
  have hn3 := HN.out.2.2.1
  have hn4 := HN.out.2.2.2
  have hn5 := HL4.out
  go_wp2
  go_ret
  exact ⟨by rw [HE.out, cat_take A4 s nb]; rfl, HB5.out⟩
end Go.Proofs.YtfhbgpepkplbaaaGreatDoor
namespace Go.Proofs.YtfhbgpepkplbaaaGreatDoor
open Go.RowKit
set_option maxRecDepth 100000 in
set_option maxHeartbeats 3200000 in
theorem one_tn (f : Int) (r : Nat) (s : ByteArray) (l id lb : Nat) (w : World) (hl : l ≤ 8 * s.size) (hs : s.size ≤ 16) (hid : id < 4294967296) (hlb : lb ≤ 1048575) (hr : r < 18446744073709551616) (hlab : lab f = false) (hdst : dst f = false) :
    Calls Tryz.prog 26 #[.agg #[.int .i64 f, .int .u64 (r : Int), .string s, .int .i64 (l : Int), .int .u32 (id : Int), .int .u32 (lb : Int)], .bool true] w fun e w' => e = .returned (.string ⟨(nlE f true r s l id lb).toArray⟩) ∧ Below w.heap.size w w' := by
  have hex : exN f ≤ 88 := by unfold exN lbN rdN; rw [hlab, hdst]; decide
  obtain ⟨ct, hct⟩ : ∃ ct, ct = l + exN f := ⟨_, rfl⟩
  obtain ⟨lv, hlv⟩ : ∃ lv, lv = lb * 16 + 1 := ⟨_, rfl⟩
  obtain ⟨rh, hrh⟩ : ∃ rh, rh = r / 4294967296 := ⟨_, rfl⟩
  obtain ⟨rl, hrl⟩ : ∃ rl, rl = r % 4294967296 := ⟨_, rfl⟩
  obtain ⟨nb, hnb⟩ : ∃ nb, nb = (l + 7) / 8 := ⟨_, rfl⟩
  have hlv0 : lv < 16777216 := by omega
  have KA : Hid (∀ w, Calls Tryz.prog 51 #[.int .i64 f] w fun e w' => e = .returned (.int .i64 (exN f : Nat)) ∧ w' = w) := ahead_any f
  have KL : Hid (∀ w, Calls Tryz.prog 49 #[.int .i64 f] w fun e w' => e = .returned (.bool false) ∧ w' = w) := by have := rlabd f; rw [hlab] at this; exact this
  have KD : Hid (∀ w, Calls Tryz.prog 52 #[.int .i64 f] w fun e w' => e = .returned (.bool false) ∧ w' = w) := by have := rdst_any f; rw [hdst] at this; exact this
  have KF : Hid (∀ w, Calls Tryz.prog 50 #[.int .u32 (id : Int)] w fun e w' => e = .returned (.string ⟨(laid id 4).toArray⟩) ∧ Below w.heap.size w w') := fun w => four_any id w hid
  have KH : Hid (∀ w, Calls Tryz.prog 50 #[.int .u32 (rh : Int)] w fun e w' => e = .returned (.string ⟨(laid rh 4).toArray⟩) ∧ Below w.heap.size w w') := fun w => four_any rh w (by omega)
  have KW : Hid (∀ w, Calls Tryz.prog 50 #[.int .u32 (rl : Int)] w fun e w' => e = .returned (.string ⟨(laid rl 4).toArray⟩) ∧ Below w.heap.size w w') := fun w => four_any rl w (by omega)
  have hw2 : IntKind.i64.wrap ((l : Int) + (exN f : Nat)) = (ct : Int) := by rw [IntKind.wrap_i64]; omega
  have hw3 : IntKind.u8.wrap (ct : Int) = ((ct % 256 : Nat) : Int) := by rw [IntKind.wrap_u8]; omega
  have HE : Hid (nlE f true r s l id lb = (laid id 4 ++ laid ct 1) ++ s.data.toList.take nb) := by
    unfold Hid nlE idN lbN rdN; rw [hlab, hdst, hct, hnb]; (try rw [hlv]); (try rw [hrh, hrl]); (try simp only [if_true]; rw [laid8 r]); simp [laid]
  have HR : Hid ((r : Int) / 4294967296 = (rh : Int) ∧ (rh : Int) % 4294967296 = (rh : Int) ∧ (r : Int) % 4294967296 = (rl : Int)) := by unfold Hid; omega
  have HN : Hid (wrap64 ((l : Int) + 7) = (l : Int) + 7 ∧ wrap64 (((l : Int) + 7).tdiv 8) = (nb : Int) ∧ nb ≤ s.size ∧ s.size ≤ 16) := by
    have e1 : ((l : Int) + 7).tdiv 8 = (nb : Int) := by rw [Int.tdiv_eq_ediv_of_nonneg (by omega)]; omega
    refine ⟨by unfold wrap64; omega, ?_, by omega, hs⟩
    rw [e1]; unfold wrap64; omega
  clear hl hs hid hlab hdst hct hex hrh hrl hnb
  go_enter Tryz.func26, Tryz.ntmps26
  go_wp2_with fail
  refine Calls.mono (KF.out _) ?_
  rintro e w1 ⟨rfl, hb1⟩
  have p0 : w1.cell? ⟨w.heap.size, 0, none⟩ = some (.int .i64 f) := cell2 hb1 (by simp)
  have p1 : w1.cell? ⟨w.heap.size, 1, none⟩ = some (.int .u64 (r : Int)) := cell2 hb1 (by simp)
  have p2 : w1.cell? ⟨w.heap.size, 2, none⟩ = some (.string s) := cell2 hb1 (by simp)
  have p3 : w1.cell? ⟨w.heap.size, 3, none⟩ = some (.int .i64 (l : Int)) := cell2 hb1 (by simp)
  have p5 : w1.cell? ⟨w.heap.size, 5, none⟩ = some (.int .u32 (lb : Int)) := cell2 hb1 (by simp)
  have HB1 : Hid (Below w.heap.size w w1) := ((Below.refl _ _).alloc (Nat.le_refl _) _).trans (hb1.mono (by simp))
  clear hb1
  have HLn : Hid ((laid id 4).length = 4) := laid_length _ _
  generalize laid id 4 = A1 at *
  have HB2 : Hid (Below w.heap.size w (w1.alloc (.cells #[.int .i64 f, .int .u64 (r : Int), .string s, .int .i64 (l : Int)] 24))) := HB1.out.alloc HB1.out.size _
  go_wp2
  have q0 : (w1.alloc (.cells #[.int .i64 f, .int .u64 (r : Int), .string s, .int .i64 (l : Int)] 24)).cell? ⟨w1.heap.size, 0, none⟩ = some (.int .i64 f) := by simp
  have q1 : (w1.alloc (.cells #[.int .i64 f, .int .u64 (r : Int), .string s, .int .i64 (l : Int)] 24)).cell? ⟨w1.heap.size, 1, none⟩ = some (.int .u64 (r : Int)) := by simp
  have q2 : (w1.alloc (.cells #[.int .i64 f, .int .u64 (r : Int), .string s, .int .i64 (l : Int)] 24)).cell? ⟨w1.heap.size, 2, none⟩ = some (.string s) := by simp
  have q3 : (w1.alloc (.cells #[.int .i64 f, .int .u64 (r : Int), .string s, .int .i64 (l : Int)] 24)).cell? ⟨w1.heap.size, 3, none⟩ = some (.int .i64 (l : Int)) := by simp
  have q5 : (w1.alloc (.cells #[.int .i64 f, .int .u64 (r : Int), .string s, .int .i64 (l : Int)] 24)).cell? ⟨w.heap.size, 5, none⟩ = some (.int .u32 (lb : Int)) := below_cell ((Below.refl _ _).alloc (Nat.le_refl _) _) p5
  clear p0 p1 p2 p3 p5
  generalize w1.alloc (.cells #[.int .i64 f, .int .u64 (r : Int), .string s, .int .i64 (l : Int)] 24) = W at *
  generalize w1.heap.size = b at *
  have hb : ∀ wx : World, (convert 60 9 (.slice (some ⟨wx.heap.size, 0, none⟩) 1 1)).run Tryz.prog (wx.alloc (.cells #[.int .u8 ((ct : Int) % 256)] 5)).drew = .ok (.string ⟨(laid ct 1).toArray⟩) (wx.alloc (.cells #[.int .u8 ((ct : Int) % 256)] 5)).drew := fun wx => back1 ct wx.drew
  have HLc : Hid ((laid ct 1).length = 1) := laid_length _ _
  have ha : ∀ wx : World, (Op.stringOp .add ⟨A1.toArray⟩ ⟨(laid ct 1).toArray⟩).run Tryz.prog wx = .ok (.string ⟨(A1 ++ laid ct 1).toArray⟩) wx := fun wx => add_l A1 (laid ct 1) (by rw [HLn.out]; omega) (by rw [laid_length]; omega) wx
  generalize laid ct 1 = A2 at *
  go_region_held (fun w' => w'.cell? ⟨b, 0, none⟩ = some (.int .i64 f) ∧ w'.cell? ⟨b, 1, none⟩ = some (.int .u64 (r : Int)) ∧ w'.cell? ⟨b, 2, none⟩ = some (.string s) ∧ w'.cell? ⟨b, 3, none⟩ = some (.int .i64 (l : Int)) ∧ w'.cell? ⟨w.heap.size, 5, none⟩ = some (.int .u32 (lb : Int))) (go_keep)
    (first | (go_at_call 51; refine Calls.mono (KA.out _) ?_; rintro e w4 ⟨rfl, rfl⟩))
  have hbx : Below W.heap.size W (W.alloc (.cells #[.int .u8 ((ct : Int) % 256)] 5)).drew := ((Below.refl _ _).alloc (Nat.le_refl _) _).drew
  have r0 := below_cell hbx q0
  have r1 := below_cell hbx q1
  have r2 := below_cell hbx q2
  have r3 := below_cell hbx q3
  have r5 := below_cell hbx q5
  have HB3 : Hid (Below w.heap.size w (W.alloc (.cells #[.int .u8 ((ct : Int) % 256)] 5)).drew) := HB2.out.trans (hbx.mono HB2.out.size)
  clear q0 q1 q2 q3 q5 hbx HB2 HB1 hb ha
  generalize (W.alloc (.cells #[.int .u8 ((ct : Int) % 256)] 5)).drew = W3 at *
  have HL3 : Hid ((A1 ++ A2).length ≤ 5) := by unfold Hid; rw [List.length_append, HLc.out, HLn.out]; omega
  generalize A1 ++ A2 = A3 at *
  clear hlv
  go_wp2_with fail
  refine Calls.mono (KL.out _) ?_
  rintro e w5 ⟨rfl, hw5⟩
  obtain rfl : W3 = w5 := hw5.symm
  clear hw5
  go_wp2_with fail
  refine Calls.mono (KD.out _) ?_
  rintro e w5 ⟨rfl, hw5⟩
  obtain rfl : W3 = w5 := hw5.symm
  clear hw5
  have t2 := r2
  have t3 := r3
  clear r0 r1 r2 r3 r5
  have hn1 := HN.out.1
  have hn2 := HN.out.2.1
  have hn3 := HN.out.2.2.1
  have hn4 := HN.out.2.2.2
  have hn5 := HL3.out
  go_wp2
  go_ret
  exact ⟨by rw [HE.out, cat_take A3 s nb]; rfl, HB3.out⟩
end Go.Proofs.YtfhbgpepkplbaaaGreatDoor
namespace Go.Proofs.YtfhbgpepkplbaaaGreatDoor
open Go.RowKit
set_option maxRecDepth 100000 in
set_option maxHeartbeats 3200000 in
theorem one_fd (f : Int) (r : Nat) (s : ByteArray) (l id lb : Nat) (w : World) (hl : l ≤ 8 * s.size) (hs : s.size ≤ 16) (hid : id < 4294967296) (hlb : lb ≤ 1048575) (hr : r < 18446744073709551616) (hlab : lab f = true) (hdst : dst f = true) :
    Calls Tryz.prog 26 #[.agg #[.int .i64 f, .int .u64 (r : Int), .string s, .int .i64 (l : Int), .int .u32 (id : Int), .int .u32 (lb : Int)], .bool false] w fun e w' => e = .returned (.string ⟨(nlE f false r s l id lb).toArray⟩) ∧ Below w.heap.size w w' := by
  have hex : exN f ≤ 88 := by unfold exN lbN rdN; rw [hlab, hdst]; decide
  obtain ⟨ct, hct⟩ : ∃ ct, ct = l + exN f := ⟨_, rfl⟩
  obtain ⟨lv, hlv⟩ : ∃ lv, lv = lb * 16 + 1 := ⟨_, rfl⟩
  obtain ⟨rh, hrh⟩ : ∃ rh, rh = r / 4294967296 := ⟨_, rfl⟩
  obtain ⟨rl, hrl⟩ : ∃ rl, rl = r % 4294967296 := ⟨_, rfl⟩
  obtain ⟨nb, hnb⟩ : ∃ nb, nb = (l + 7) / 8 := ⟨_, rfl⟩
  have hlv0 : lv < 16777216 := by omega
  have KA : Hid (∀ w, Calls Tryz.prog 51 #[.int .i64 f] w fun e w' => e = .returned (.int .i64 (exN f : Nat)) ∧ w' = w) := ahead_any f
  have KL : Hid (∀ w, Calls Tryz.prog 49 #[.int .i64 f] w fun e w' => e = .returned (.bool true) ∧ w' = w) := by have := rlabd f; rw [hlab] at this; exact this
  have KD : Hid (∀ w, Calls Tryz.prog 52 #[.int .i64 f] w fun e w' => e = .returned (.bool true) ∧ w' = w) := by have := rdst_any f; rw [hdst] at this; exact this
  have KF : Hid (∀ w, Calls Tryz.prog 50 #[.int .u32 (id : Int)] w fun e w' => e = .returned (.string ⟨(laid id 4).toArray⟩) ∧ Below w.heap.size w w') := fun w => four_any id w hid
  have KH : Hid (∀ w, Calls Tryz.prog 50 #[.int .u32 (rh : Int)] w fun e w' => e = .returned (.string ⟨(laid rh 4).toArray⟩) ∧ Below w.heap.size w w') := fun w => four_any rh w (by omega)
  have KW : Hid (∀ w, Calls Tryz.prog 50 #[.int .u32 (rl : Int)] w fun e w' => e = .returned (.string ⟨(laid rl 4).toArray⟩) ∧ Below w.heap.size w w') := fun w => four_any rl w (by omega)
  have hw2 : IntKind.i64.wrap ((l : Int) + (exN f : Nat)) = (ct : Int) := by rw [IntKind.wrap_i64]; omega
  have hw3 : IntKind.u8.wrap (ct : Int) = ((ct % 256 : Nat) : Int) := by rw [IntKind.wrap_u8]; omega
  have HE : Hid (nlE f false r s l id lb = (((laid ct 1 ++ laid lv 3) ++ laid rh 4) ++ laid rl 4) ++ s.data.toList.take nb) := by
    unfold Hid nlE idN lbN rdN; rw [hlab, hdst, hct, hnb]; (try rw [hlv]); (try rw [hrh, hrl]); (try simp only [if_true]; rw [laid8 r]); simp [laid]
  have HR : Hid ((r : Int) / 4294967296 = (rh : Int) ∧ IntKind.u32.wrap (rh : Int) = (rh : Int) ∧ IntKind.u32.wrap (r : Int) = (rl : Int)) := by unfold Hid; rw [IntKind.wrap_u32, IntKind.wrap_u32]; omega
  have HN : Hid (wrap64 ((l : Int) + 7) = (l : Int) + 7 ∧ wrap64 (((l : Int) + 7).tdiv 8) = (nb : Int) ∧ nb ≤ s.size ∧ s.size ≤ 16) := by
    have e1 : ((l : Int) + 7).tdiv 8 = (nb : Int) := by rw [Int.tdiv_eq_ediv_of_nonneg (by omega)]; omega
    refine ⟨by unfold wrap64; omega, ?_, by omega, hs⟩
    rw [e1]; unfold wrap64; omega
  clear hl hs hid hlab hdst hct hex hrh hrl hnb
  go_enter Tryz.func26, Tryz.ntmps26
  generalize hw1 : w.alloc (.cells #[.int .i64 f, .int .u64 (r : Int), .string s, .int .i64 (l : Int), .int .u32 (id : Int), .int .u32 (lb : Int)] 27) = w1
  have p0 : w1.cell? ⟨w.heap.size, 0, none⟩ = some (.int .i64 f) := by subst hw1; simp
  have p1 : w1.cell? ⟨w.heap.size, 1, none⟩ = some (.int .u64 (r : Int)) := by subst hw1; simp
  have p2 : w1.cell? ⟨w.heap.size, 2, none⟩ = some (.string s) := by subst hw1; simp
  have p3 : w1.cell? ⟨w.heap.size, 3, none⟩ = some (.int .i64 (l : Int)) := by subst hw1; simp
  have p5 : w1.cell? ⟨w.heap.size, 5, none⟩ = some (.int .u32 (lb : Int)) := by subst hw1; simp
  have HB1 : Hid (Below w.heap.size w w1) := by subst hw1; exact (Below.refl _ _).alloc (Nat.le_refl _) _
  have HB2 : Hid (Below w.heap.size w (w1.alloc (.cells #[.int .i64 f, .int .u64 (r : Int), .string s, .int .i64 (l : Int)] 24))) := HB1.out.alloc HB1.out.size _
  go_wp2
  have q0 : (w1.alloc (.cells #[.int .i64 f, .int .u64 (r : Int), .string s, .int .i64 (l : Int)] 24)).cell? ⟨w1.heap.size, 0, none⟩ = some (.int .i64 f) := by simp
  have q1 : (w1.alloc (.cells #[.int .i64 f, .int .u64 (r : Int), .string s, .int .i64 (l : Int)] 24)).cell? ⟨w1.heap.size, 1, none⟩ = some (.int .u64 (r : Int)) := by simp
  have q2 : (w1.alloc (.cells #[.int .i64 f, .int .u64 (r : Int), .string s, .int .i64 (l : Int)] 24)).cell? ⟨w1.heap.size, 2, none⟩ = some (.string s) := by simp
  have q3 : (w1.alloc (.cells #[.int .i64 f, .int .u64 (r : Int), .string s, .int .i64 (l : Int)] 24)).cell? ⟨w1.heap.size, 3, none⟩ = some (.int .i64 (l : Int)) := by simp
  have q5 : (w1.alloc (.cells #[.int .i64 f, .int .u64 (r : Int), .string s, .int .i64 (l : Int)] 24)).cell? ⟨w.heap.size, 5, none⟩ = some (.int .u32 (lb : Int)) := below_cell ((Below.refl _ _).alloc (Nat.le_refl _) _) p5
  clear p0 p1 p2 p3 p5
  generalize w1.alloc (.cells #[.int .i64 f, .int .u64 (r : Int), .string s, .int .i64 (l : Int)] 24) = W at *
  generalize w1.heap.size = b at *
  have hb : ∀ wx : World, (convert 60 9 (.slice (some ⟨wx.heap.size, 0, none⟩) 1 1)).run Tryz.prog (wx.alloc (.cells #[.int .u8 ((ct : Int) % 256)] 5)).drew = .ok (.string ⟨(laid ct 1).toArray⟩) (wx.alloc (.cells #[.int .u8 ((ct : Int) % 256)] 5)).drew := fun wx => back1 ct wx.drew
  have HLc : Hid ((laid ct 1).length = 1) := laid_length _ _
  have ha : ∀ wx : World, (Op.stringOp .add ⟨#[]⟩ ⟨(laid ct 1).toArray⟩).run Tryz.prog wx = .ok (.string ⟨(laid ct 1).toArray⟩) wx := fun wx => add_l [] (laid ct 1) (by simp) (by rw [laid_length]; omega) wx
  generalize laid ct 1 = A2 at *
  go_region_held (fun w' => w'.cell? ⟨b, 0, none⟩ = some (.int .i64 f) ∧ w'.cell? ⟨b, 1, none⟩ = some (.int .u64 (r : Int)) ∧ w'.cell? ⟨b, 2, none⟩ = some (.string s) ∧ w'.cell? ⟨b, 3, none⟩ = some (.int .i64 (l : Int)) ∧ w'.cell? ⟨w.heap.size, 5, none⟩ = some (.int .u32 (lb : Int))) (go_keep)
    (first | (go_at_call 51; refine Calls.mono (KA.out _) ?_; rintro e w4 ⟨rfl, rfl⟩))
  have hbx : Below W.heap.size W (W.alloc (.cells #[.int .u8 ((ct : Int) % 256)] 5)).drew := ((Below.refl _ _).alloc (Nat.le_refl _) _).drew
  have r0 := below_cell hbx q0
  have r1 := below_cell hbx q1
  have r2 := below_cell hbx q2
  have r3 := below_cell hbx q3
  have r5 := below_cell hbx q5
  have HB3 : Hid (Below w.heap.size w (W.alloc (.cells #[.int .u8 ((ct : Int) % 256)] 5)).drew) := HB2.out.trans (hbx.mono HB2.out.size)
  clear q0 q1 q2 q3 q5 hbx HB2 HB1 hb ha
  generalize (W.alloc (.cells #[.int .u8 ((ct : Int) % 256)] 5)).drew = W3 at *
  have HL3 : Hid (A2.length ≤ 5) := by unfold Hid; rw [HLc.out]; omega
  clear HLc
  generalize A2 = A3 at *
  have hs1 : (lb : Int) * 16 % 4294967296 = (lb : Int) * 16 := by omega
  have hor : bits .or .u32 ((lb : Int) * 16) 1 = (lv : Int) := by
    have h := u32_or_nat (lb * 16) 1 (by omega) (by omega)
    rw [show ((lb * 16 : Nat) : Int) = (lb : Int) * 16 from by simp, show ((1 : Nat) : Int) = 1 from rfl] at h
    rw [h, Nat.mul_comm lb 16, ← Nat.two_pow_add_eq_or_of_lt (i := 4) (by omega : 1 < 2 ^ 4) lb]
    omega
  clear hlv
  have hb3 : ∀ wx : World, (convert 60 9 (.slice (some ⟨wx.heap.size, 0, none⟩) 3 3)).run Tryz.prog (wx.alloc (.cells #[.int .u8 ((lv : Int) / 65536), .int .u8 ((lv : Int) / 256 % 256), .int .u8 ((lv : Int) % 256)] 5)) = .ok (.string ⟨(laid lv 3).toArray⟩) (wx.alloc (.cells #[.int .u8 ((lv : Int) / 65536), .int .u8 ((lv : Int) / 256 % 256), .int .u8 ((lv : Int) % 256)] 5)) := fun wx => back3 lv hlv0 wx
  have ha3 : ∀ wx : World, (Op.stringOp .add ⟨A3.toArray⟩ ⟨(laid lv 3).toArray⟩).run Tryz.prog wx = .ok (.string ⟨(A3 ++ laid lv 3).toArray⟩) wx := fun wx => add_l A3 (laid lv 3) (by have := HL3.out; omega) (by rw [laid_length]; omega) wx
  have HL4 : Hid ((A3 ++ laid lv 3).length ≤ 8) := by unfold Hid; rw [List.length_append, laid_length]; have := HL3.out; omega
  generalize laid lv 3 = A3' at *
  generalize hA4 : A3 ++ A3' = A4 at *
  go_wp2_with fail
  refine Calls.mono (KL.out _) ?_
  rintro e w5 ⟨rfl, hw5⟩
  obtain rfl : W3 = w5 := hw5.symm
  clear hw5
  have hbx : Below W3.heap.size W3 (W3.alloc (.cells #[.int .u8 ((lv : Int) / 65536), .int .u8 ((lv : Int) / 256 % 256), .int .u8 ((lv : Int) % 256)] 5)) := (Below.refl _ _).alloc (Nat.le_refl _) _
  have t0 := below_cell hbx r0
  have t1 := below_cell hbx r1
  have t2 := below_cell hbx r2
  have t3 := below_cell hbx r3
  have HB5 : Hid (Below w.heap.size w (W3.alloc (.cells #[.int .u8 ((lv : Int) / 65536), .int .u8 ((lv : Int) / 256 % 256), .int .u8 ((lv : Int) % 256)] 5))) := HB3.out.trans (hbx.mono HB3.out.size)
  clear hbx
  go_wp2_with fail
  refine Calls.mono (KD.out _) ?_
  rintro e w5 ⟨rfl, hw5⟩
  rw [← hw5] at t0 t1 t2 t3 HB5
  clear hw5
  clear r0 r1 r2 r3 r5 HB3 hb3 ha3 hs1 hor hA4
  have hr1 := HR.out.1
  have hr2 := HR.out.2.1
  have hr3 := HR.out.2.2
  have ha5 : ∀ wx : World, (Op.stringOp .add ⟨A4.toArray⟩ ⟨(laid rh 4).toArray⟩).run Tryz.prog wx = .ok (.string ⟨(A4 ++ laid rh 4).toArray⟩) wx := fun wx => add_l A4 (laid rh 4) (by have := HL4.out; omega) (by rw [laid_length]; omega) wx
  have HL5 : Hid ((A4 ++ laid rh 4).length ≤ 12) := by unfold Hid; rw [List.length_append, laid_length]; have := HL4.out; omega
  generalize laid rh 4 = B1 at *
  generalize A4 ++ B1 = A5 at *
  have ha6 : ∀ wx : World, (Op.stringOp .add ⟨A5.toArray⟩ ⟨(laid rl 4).toArray⟩).run Tryz.prog wx = .ok (.string ⟨(A5 ++ laid rl 4).toArray⟩) wx := fun wx => add_l A5 (laid rl 4) (by have := HL5.out; omega) (by rw [laid_length]; omega) wx
  have HL6 : Hid ((A5 ++ laid rl 4).length ≤ 16) := by unfold Hid; rw [List.length_append, laid_length]; have := HL5.out; omega
  generalize laid rl 4 = B2 at *
  generalize A5 ++ B2 = A6 at *
  go_wp2
  go_region_held (fun w' => w'.cell? ⟨b, 0, none⟩ = some (.int .i64 f) ∧ w'.cell? ⟨b, 1, none⟩ = some (.int .u64 (r : Int)) ∧ w'.cell? ⟨b, 2, none⟩ = some (.string s) ∧ w'.cell? ⟨b, 3, none⟩ = some (.int .i64 (l : Int))) (go_keep)
    (first | (go_at_call_of 50 (Value.int .u32 (rh : Int)); refine Calls.mono (KH.out _) ?_; rintro e w6 ⟨rfl, hb6⟩; have u0 := below_cell (w := w5.drew) hb6 t0; have u1 := below_cell (w := w5.drew) hb6 t1; have u2 := below_cell (w := w5.drew) hb6 t2; have u3 := below_cell (w := w5.drew) hb6 t3) | (go_at_call_of 50 (Value.int .u32 (rl : Int)); refine Calls.mono (KW.out _) ?_; rintro e w7 ⟨rfl, hb7⟩; have v0 := below_cell hb7 u0; have v1 := below_cell hb7 u1; have v2 := below_cell hb7 u2; have v3 := below_cell hb7 u3))
  have HB7 : Hid (Below w.heap.size w w7) := by
    have h1 : Below w.heap.size w w6 := HB5.out.drew.trans (hb6.mono HB5.out.size)
    exact h1.trans (hb7.mono h1.size)
  clear hb6 hb7 u0 u1 u2 u3 v0 v1 t0 t1 t2 t3 ha5 ha6 hr1 hr2 hr3
  have hn1 := HN.out.1
  have hn2 := HN.out.2.1
  have hn3 := HN.out.2.2.1
  have hn4 := HN.out.2.2.2
  have hn5 := HL6.out
  go_wp2
  go_ret
  exact ⟨by rw [HE.out, cat_take A6 s nb]; rfl, HB7.out⟩
end Go.Proofs.YtfhbgpepkplbaaaGreatDoor
namespace Go.Proofs.YtfhbgpepkplbaaaGreatDoor
open Go.RowKit
set_option maxRecDepth 100000 in
set_option maxHeartbeats 3200000 in
theorem one_fl (f : Int) (r : Nat) (s : ByteArray) (l id lb : Nat) (w : World) (hl : l ≤ 8 * s.size) (hs : s.size ≤ 16) (hid : id < 4294967296) (hlb : lb ≤ 1048575) (hr : r < 18446744073709551616) (hlab : lab f = true) (hdst : dst f = false) :
    Calls Tryz.prog 26 #[.agg #[.int .i64 f, .int .u64 (r : Int), .string s, .int .i64 (l : Int), .int .u32 (id : Int), .int .u32 (lb : Int)], .bool false] w fun e w' => e = .returned (.string ⟨(nlE f false r s l id lb).toArray⟩) ∧ Below w.heap.size w w' := by
  have hex : exN f ≤ 88 := by unfold exN lbN rdN; rw [hlab, hdst]; decide
  obtain ⟨ct, hct⟩ : ∃ ct, ct = l + exN f := ⟨_, rfl⟩
  obtain ⟨lv, hlv⟩ : ∃ lv, lv = lb * 16 + 1 := ⟨_, rfl⟩
  obtain ⟨rh, hrh⟩ : ∃ rh, rh = r / 4294967296 := ⟨_, rfl⟩
  obtain ⟨rl, hrl⟩ : ∃ rl, rl = r % 4294967296 := ⟨_, rfl⟩
  obtain ⟨nb, hnb⟩ : ∃ nb, nb = (l + 7) / 8 := ⟨_, rfl⟩
  have hlv0 : lv < 16777216 := by omega
  have KA : Hid (∀ w, Calls Tryz.prog 51 #[.int .i64 f] w fun e w' => e = .returned (.int .i64 (exN f : Nat)) ∧ w' = w) := ahead_any f
  have KL : Hid (∀ w, Calls Tryz.prog 49 #[.int .i64 f] w fun e w' => e = .returned (.bool true) ∧ w' = w) := by have := rlabd f; rw [hlab] at this; exact this
  have KD : Hid (∀ w, Calls Tryz.prog 52 #[.int .i64 f] w fun e w' => e = .returned (.bool false) ∧ w' = w) := by have := rdst_any f; rw [hdst] at this; exact this
  have KF : Hid (∀ w, Calls Tryz.prog 50 #[.int .u32 (id : Int)] w fun e w' => e = .returned (.string ⟨(laid id 4).toArray⟩) ∧ Below w.heap.size w w') := fun w => four_any id w hid
  have KH : Hid (∀ w, Calls Tryz.prog 50 #[.int .u32 (rh : Int)] w fun e w' => e = .returned (.string ⟨(laid rh 4).toArray⟩) ∧ Below w.heap.size w w') := fun w => four_any rh w (by omega)
  have KW : Hid (∀ w, Calls Tryz.prog 50 #[.int .u32 (rl : Int)] w fun e w' => e = .returned (.string ⟨(laid rl 4).toArray⟩) ∧ Below w.heap.size w w') := fun w => four_any rl w (by omega)
  have hw2 : IntKind.i64.wrap ((l : Int) + (exN f : Nat)) = (ct : Int) := by rw [IntKind.wrap_i64]; omega
  have hw3 : IntKind.u8.wrap (ct : Int) = ((ct % 256 : Nat) : Int) := by rw [IntKind.wrap_u8]; omega
  have HE : Hid (nlE f false r s l id lb = (laid ct 1 ++ laid lv 3) ++ s.data.toList.take nb) := by
    unfold Hid nlE idN lbN rdN; rw [hlab, hdst, hct, hnb]; (try rw [hlv]); (try rw [hrh, hrl]); (try simp only [if_true]; rw [laid8 r]); simp [laid]
  have HR : Hid ((r : Int) / 4294967296 = (rh : Int) ∧ (rh : Int) % 4294967296 = (rh : Int) ∧ (r : Int) % 4294967296 = (rl : Int)) := by unfold Hid; omega
  have HN : Hid (wrap64 ((l : Int) + 7) = (l : Int) + 7 ∧ wrap64 (((l : Int) + 7).tdiv 8) = (nb : Int) ∧ nb ≤ s.size ∧ s.size ≤ 16) := by
    have e1 : ((l : Int) + 7).tdiv 8 = (nb : Int) := by rw [Int.tdiv_eq_ediv_of_nonneg (by omega)]; omega
    refine ⟨by unfold wrap64; omega, ?_, by omega, hs⟩
    rw [e1]; unfold wrap64; omega
  clear hl hs hid hlab hdst hct hex hrh hrl hnb
  go_enter Tryz.func26, Tryz.ntmps26
  generalize hw1 : w.alloc (.cells #[.int .i64 f, .int .u64 (r : Int), .string s, .int .i64 (l : Int), .int .u32 (id : Int), .int .u32 (lb : Int)] 27) = w1
  have p0 : w1.cell? ⟨w.heap.size, 0, none⟩ = some (.int .i64 f) := by subst hw1; simp
  have p1 : w1.cell? ⟨w.heap.size, 1, none⟩ = some (.int .u64 (r : Int)) := by subst hw1; simp
  have p2 : w1.cell? ⟨w.heap.size, 2, none⟩ = some (.string s) := by subst hw1; simp
  have p3 : w1.cell? ⟨w.heap.size, 3, none⟩ = some (.int .i64 (l : Int)) := by subst hw1; simp
  have p5 : w1.cell? ⟨w.heap.size, 5, none⟩ = some (.int .u32 (lb : Int)) := by subst hw1; simp
  have HB1 : Hid (Below w.heap.size w w1) := by subst hw1; exact (Below.refl _ _).alloc (Nat.le_refl _) _
  have HB2 : Hid (Below w.heap.size w (w1.alloc (.cells #[.int .i64 f, .int .u64 (r : Int), .string s, .int .i64 (l : Int)] 24))) := HB1.out.alloc HB1.out.size _
  go_wp2
  have q0 : (w1.alloc (.cells #[.int .i64 f, .int .u64 (r : Int), .string s, .int .i64 (l : Int)] 24)).cell? ⟨w1.heap.size, 0, none⟩ = some (.int .i64 f) := by simp
  have q1 : (w1.alloc (.cells #[.int .i64 f, .int .u64 (r : Int), .string s, .int .i64 (l : Int)] 24)).cell? ⟨w1.heap.size, 1, none⟩ = some (.int .u64 (r : Int)) := by simp
  have q2 : (w1.alloc (.cells #[.int .i64 f, .int .u64 (r : Int), .string s, .int .i64 (l : Int)] 24)).cell? ⟨w1.heap.size, 2, none⟩ = some (.string s) := by simp
  have q3 : (w1.alloc (.cells #[.int .i64 f, .int .u64 (r : Int), .string s, .int .i64 (l : Int)] 24)).cell? ⟨w1.heap.size, 3, none⟩ = some (.int .i64 (l : Int)) := by simp
  have q5 : (w1.alloc (.cells #[.int .i64 f, .int .u64 (r : Int), .string s, .int .i64 (l : Int)] 24)).cell? ⟨w.heap.size, 5, none⟩ = some (.int .u32 (lb : Int)) := below_cell ((Below.refl _ _).alloc (Nat.le_refl _) _) p5
  clear p0 p1 p2 p3 p5
  generalize w1.alloc (.cells #[.int .i64 f, .int .u64 (r : Int), .string s, .int .i64 (l : Int)] 24) = W at *
  generalize w1.heap.size = b at *
  have hb : ∀ wx : World, (convert 60 9 (.slice (some ⟨wx.heap.size, 0, none⟩) 1 1)).run Tryz.prog (wx.alloc (.cells #[.int .u8 ((ct : Int) % 256)] 5)).drew = .ok (.string ⟨(laid ct 1).toArray⟩) (wx.alloc (.cells #[.int .u8 ((ct : Int) % 256)] 5)).drew := fun wx => back1 ct wx.drew
  have HLc : Hid ((laid ct 1).length = 1) := laid_length _ _
  have ha : ∀ wx : World, (Op.stringOp .add ⟨#[]⟩ ⟨(laid ct 1).toArray⟩).run Tryz.prog wx = .ok (.string ⟨(laid ct 1).toArray⟩) wx := fun wx => add_l [] (laid ct 1) (by simp) (by rw [laid_length]; omega) wx
  generalize laid ct 1 = A2 at *
  go_region_held (fun w' => w'.cell? ⟨b, 0, none⟩ = some (.int .i64 f) ∧ w'.cell? ⟨b, 1, none⟩ = some (.int .u64 (r : Int)) ∧ w'.cell? ⟨b, 2, none⟩ = some (.string s) ∧ w'.cell? ⟨b, 3, none⟩ = some (.int .i64 (l : Int)) ∧ w'.cell? ⟨w.heap.size, 5, none⟩ = some (.int .u32 (lb : Int))) (go_keep)
    (first | (go_at_call 51; refine Calls.mono (KA.out _) ?_; rintro e w4 ⟨rfl, rfl⟩))
  have hbx : Below W.heap.size W (W.alloc (.cells #[.int .u8 ((ct : Int) % 256)] 5)).drew := ((Below.refl _ _).alloc (Nat.le_refl _) _).drew
  have r0 := below_cell hbx q0
  have r1 := below_cell hbx q1
  have r2 := below_cell hbx q2
  have r3 := below_cell hbx q3
  have r5 := below_cell hbx q5
  have HB3 : Hid (Below w.heap.size w (W.alloc (.cells #[.int .u8 ((ct : Int) % 256)] 5)).drew) := HB2.out.trans (hbx.mono HB2.out.size)
  clear q0 q1 q2 q3 q5 hbx HB2 HB1 hb ha
  generalize (W.alloc (.cells #[.int .u8 ((ct : Int) % 256)] 5)).drew = W3 at *
  have HL3 : Hid (A2.length ≤ 5) := by unfold Hid; rw [HLc.out]; omega
  clear HLc
  generalize A2 = A3 at *
  have hs1 : (lb : Int) * 16 % 4294967296 = (lb : Int) * 16 := by omega
  have hor : bits .or .u32 ((lb : Int) * 16) 1 = (lv : Int) := by
    have h := u32_or_nat (lb * 16) 1 (by omega) (by omega)
    rw [show ((lb * 16 : Nat) : Int) = (lb : Int) * 16 from by simp, show ((1 : Nat) : Int) = 1 from rfl] at h
    rw [h, Nat.mul_comm lb 16, ← Nat.two_pow_add_eq_or_of_lt (i := 4) (by omega : 1 < 2 ^ 4) lb]
    omega
  clear hlv
  have hb3 : ∀ wx : World, (convert 60 9 (.slice (some ⟨wx.heap.size, 0, none⟩) 3 3)).run Tryz.prog (wx.alloc (.cells #[.int .u8 ((lv : Int) / 65536), .int .u8 ((lv : Int) / 256 % 256), .int .u8 ((lv : Int) % 256)] 5)) = .ok (.string ⟨(laid lv 3).toArray⟩) (wx.alloc (.cells #[.int .u8 ((lv : Int) / 65536), .int .u8 ((lv : Int) / 256 % 256), .int .u8 ((lv : Int) % 256)] 5)) := fun wx => back3 lv hlv0 wx
  have ha3 : ∀ wx : World, (Op.stringOp .add ⟨A3.toArray⟩ ⟨(laid lv 3).toArray⟩).run Tryz.prog wx = .ok (.string ⟨(A3 ++ laid lv 3).toArray⟩) wx := fun wx => add_l A3 (laid lv 3) (by have := HL3.out; omega) (by rw [laid_length]; omega) wx
  have HL4 : Hid ((A3 ++ laid lv 3).length ≤ 8) := by unfold Hid; rw [List.length_append, laid_length]; have := HL3.out; omega
  generalize laid lv 3 = A3' at *
  generalize hA4 : A3 ++ A3' = A4 at *
  go_wp2_with fail
  refine Calls.mono (KL.out _) ?_
  rintro e w5 ⟨rfl, hw5⟩
  obtain rfl : W3 = w5 := hw5.symm
  clear hw5
  have hbx : Below W3.heap.size W3 (W3.alloc (.cells #[.int .u8 ((lv : Int) / 65536), .int .u8 ((lv : Int) / 256 % 256), .int .u8 ((lv : Int) % 256)] 5)) := (Below.refl _ _).alloc (Nat.le_refl _) _
  have t0 := below_cell hbx r0
  have t1 := below_cell hbx r1
  have t2 := below_cell hbx r2
  have t3 := below_cell hbx r3
  have HB5 : Hid (Below w.heap.size w (W3.alloc (.cells #[.int .u8 ((lv : Int) / 65536), .int .u8 ((lv : Int) / 256 % 256), .int .u8 ((lv : Int) % 256)] 5))) := HB3.out.trans (hbx.mono HB3.out.size)
  clear hbx
  go_wp2_with fail
  refine Calls.mono (KD.out _) ?_
  rintro e w5 ⟨rfl, hw5⟩
  rw [← hw5] at t0 t1 t2 t3 HB5
  clear hw5
  clear r0 r1 r2 r3 r5 HB3 hb3 ha3 hs1 hor hA4
  have hn1 := HN.out.1
  have hn2 := HN.out.2.1
  have hn3 := HN.out.2.2.1
  have hn4 := HN.out.2.2.2
  have hn5 := HL4.out
  go_wp2
  go_ret
  exact ⟨by rw [HE.out, cat_take A4 s nb]; rfl, HB5.out⟩
end Go.Proofs.YtfhbgpepkplbaaaGreatDoor
namespace Go.Proofs.YtfhbgpepkplbaaaGreatDoor
open Go.RowKit
set_option maxRecDepth 100000 in
set_option maxHeartbeats 3200000 in
theorem one_fn (f : Int) (r : Nat) (s : ByteArray) (l id lb : Nat) (w : World) (hl : l ≤ 8 * s.size) (hs : s.size ≤ 16) (hid : id < 4294967296) (hlb : lb ≤ 1048575) (hr : r < 18446744073709551616) (hlab : lab f = false) (hdst : dst f = false) :
    Calls Tryz.prog 26 #[.agg #[.int .i64 f, .int .u64 (r : Int), .string s, .int .i64 (l : Int), .int .u32 (id : Int), .int .u32 (lb : Int)], .bool false] w fun e w' => e = .returned (.string ⟨(nlE f false r s l id lb).toArray⟩) ∧ Below w.heap.size w w' := by
  have hex : exN f ≤ 88 := by unfold exN lbN rdN; rw [hlab, hdst]; decide
  obtain ⟨ct, hct⟩ : ∃ ct, ct = l + exN f := ⟨_, rfl⟩
  obtain ⟨lv, hlv⟩ : ∃ lv, lv = lb * 16 + 1 := ⟨_, rfl⟩
  obtain ⟨rh, hrh⟩ : ∃ rh, rh = r / 4294967296 := ⟨_, rfl⟩
  obtain ⟨rl, hrl⟩ : ∃ rl, rl = r % 4294967296 := ⟨_, rfl⟩
  obtain ⟨nb, hnb⟩ : ∃ nb, nb = (l + 7) / 8 := ⟨_, rfl⟩
  have hlv0 : lv < 16777216 := by omega
  have KA : Hid (∀ w, Calls Tryz.prog 51 #[.int .i64 f] w fun e w' => e = .returned (.int .i64 (exN f : Nat)) ∧ w' = w) := ahead_any f
  have KL : Hid (∀ w, Calls Tryz.prog 49 #[.int .i64 f] w fun e w' => e = .returned (.bool false) ∧ w' = w) := by have := rlabd f; rw [hlab] at this; exact this
  have KD : Hid (∀ w, Calls Tryz.prog 52 #[.int .i64 f] w fun e w' => e = .returned (.bool false) ∧ w' = w) := by have := rdst_any f; rw [hdst] at this; exact this
  have KF : Hid (∀ w, Calls Tryz.prog 50 #[.int .u32 (id : Int)] w fun e w' => e = .returned (.string ⟨(laid id 4).toArray⟩) ∧ Below w.heap.size w w') := fun w => four_any id w hid
  have KH : Hid (∀ w, Calls Tryz.prog 50 #[.int .u32 (rh : Int)] w fun e w' => e = .returned (.string ⟨(laid rh 4).toArray⟩) ∧ Below w.heap.size w w') := fun w => four_any rh w (by omega)
  have KW : Hid (∀ w, Calls Tryz.prog 50 #[.int .u32 (rl : Int)] w fun e w' => e = .returned (.string ⟨(laid rl 4).toArray⟩) ∧ Below w.heap.size w w') := fun w => four_any rl w (by omega)
  have hw2 : IntKind.i64.wrap ((l : Int) + (exN f : Nat)) = (ct : Int) := by rw [IntKind.wrap_i64]; omega
  have hw3 : IntKind.u8.wrap (ct : Int) = ((ct % 256 : Nat) : Int) := by rw [IntKind.wrap_u8]; omega
  have HE : Hid (nlE f false r s l id lb = laid ct 1 ++ s.data.toList.take nb) := by
    unfold Hid nlE idN lbN rdN; rw [hlab, hdst, hct, hnb]; (try rw [hlv]); (try rw [hrh, hrl]); (try simp only [if_true]; rw [laid8 r]); simp [laid]
  have HR : Hid ((r : Int) / 4294967296 = (rh : Int) ∧ (rh : Int) % 4294967296 = (rh : Int) ∧ (r : Int) % 4294967296 = (rl : Int)) := by unfold Hid; omega
  have HN : Hid (wrap64 ((l : Int) + 7) = (l : Int) + 7 ∧ wrap64 (((l : Int) + 7).tdiv 8) = (nb : Int) ∧ nb ≤ s.size ∧ s.size ≤ 16) := by
    have e1 : ((l : Int) + 7).tdiv 8 = (nb : Int) := by rw [Int.tdiv_eq_ediv_of_nonneg (by omega)]; omega
    refine ⟨by unfold wrap64; omega, ?_, by omega, hs⟩
    rw [e1]; unfold wrap64; omega
  clear hl hs hid hlab hdst hct hex hrh hrl hnb
  go_enter Tryz.func26, Tryz.ntmps26
  generalize hw1 : w.alloc (.cells #[.int .i64 f, .int .u64 (r : Int), .string s, .int .i64 (l : Int), .int .u32 (id : Int), .int .u32 (lb : Int)] 27) = w1
  have p0 : w1.cell? ⟨w.heap.size, 0, none⟩ = some (.int .i64 f) := by subst hw1; simp
  have p1 : w1.cell? ⟨w.heap.size, 1, none⟩ = some (.int .u64 (r : Int)) := by subst hw1; simp
  have p2 : w1.cell? ⟨w.heap.size, 2, none⟩ = some (.string s) := by subst hw1; simp
  have p3 : w1.cell? ⟨w.heap.size, 3, none⟩ = some (.int .i64 (l : Int)) := by subst hw1; simp
  have p5 : w1.cell? ⟨w.heap.size, 5, none⟩ = some (.int .u32 (lb : Int)) := by subst hw1; simp
  have HB1 : Hid (Below w.heap.size w w1) := by subst hw1; exact (Below.refl _ _).alloc (Nat.le_refl _) _
  have HB2 : Hid (Below w.heap.size w (w1.alloc (.cells #[.int .i64 f, .int .u64 (r : Int), .string s, .int .i64 (l : Int)] 24))) := HB1.out.alloc HB1.out.size _
  go_wp2
  have q0 : (w1.alloc (.cells #[.int .i64 f, .int .u64 (r : Int), .string s, .int .i64 (l : Int)] 24)).cell? ⟨w1.heap.size, 0, none⟩ = some (.int .i64 f) := by simp
  have q1 : (w1.alloc (.cells #[.int .i64 f, .int .u64 (r : Int), .string s, .int .i64 (l : Int)] 24)).cell? ⟨w1.heap.size, 1, none⟩ = some (.int .u64 (r : Int)) := by simp
  have q2 : (w1.alloc (.cells #[.int .i64 f, .int .u64 (r : Int), .string s, .int .i64 (l : Int)] 24)).cell? ⟨w1.heap.size, 2, none⟩ = some (.string s) := by simp
  have q3 : (w1.alloc (.cells #[.int .i64 f, .int .u64 (r : Int), .string s, .int .i64 (l : Int)] 24)).cell? ⟨w1.heap.size, 3, none⟩ = some (.int .i64 (l : Int)) := by simp
  have q5 : (w1.alloc (.cells #[.int .i64 f, .int .u64 (r : Int), .string s, .int .i64 (l : Int)] 24)).cell? ⟨w.heap.size, 5, none⟩ = some (.int .u32 (lb : Int)) := below_cell ((Below.refl _ _).alloc (Nat.le_refl _) _) p5
  clear p0 p1 p2 p3 p5
  generalize w1.alloc (.cells #[.int .i64 f, .int .u64 (r : Int), .string s, .int .i64 (l : Int)] 24) = W at *
  generalize w1.heap.size = b at *
  have hb : ∀ wx : World, (convert 60 9 (.slice (some ⟨wx.heap.size, 0, none⟩) 1 1)).run Tryz.prog (wx.alloc (.cells #[.int .u8 ((ct : Int) % 256)] 5)).drew = .ok (.string ⟨(laid ct 1).toArray⟩) (wx.alloc (.cells #[.int .u8 ((ct : Int) % 256)] 5)).drew := fun wx => back1 ct wx.drew
  have HLc : Hid ((laid ct 1).length = 1) := laid_length _ _
  have ha : ∀ wx : World, (Op.stringOp .add ⟨#[]⟩ ⟨(laid ct 1).toArray⟩).run Tryz.prog wx = .ok (.string ⟨(laid ct 1).toArray⟩) wx := fun wx => add_l [] (laid ct 1) (by simp) (by rw [laid_length]; omega) wx
  generalize laid ct 1 = A2 at *
  go_region_held (fun w' => w'.cell? ⟨b, 0, none⟩ = some (.int .i64 f) ∧ w'.cell? ⟨b, 1, none⟩ = some (.int .u64 (r : Int)) ∧ w'.cell? ⟨b, 2, none⟩ = some (.string s) ∧ w'.cell? ⟨b, 3, none⟩ = some (.int .i64 (l : Int)) ∧ w'.cell? ⟨w.heap.size, 5, none⟩ = some (.int .u32 (lb : Int))) (go_keep)
    (first | (go_at_call 51; refine Calls.mono (KA.out _) ?_; rintro e w4 ⟨rfl, rfl⟩))
  have hbx : Below W.heap.size W (W.alloc (.cells #[.int .u8 ((ct : Int) % 256)] 5)).drew := ((Below.refl _ _).alloc (Nat.le_refl _) _).drew
  have r0 := below_cell hbx q0
  have r1 := below_cell hbx q1
  have r2 := below_cell hbx q2
  have r3 := below_cell hbx q3
  have r5 := below_cell hbx q5
  have HB3 : Hid (Below w.heap.size w (W.alloc (.cells #[.int .u8 ((ct : Int) % 256)] 5)).drew) := HB2.out.trans (hbx.mono HB2.out.size)
  clear q0 q1 q2 q3 q5 hbx HB2 HB1 hb ha
  generalize (W.alloc (.cells #[.int .u8 ((ct : Int) % 256)] 5)).drew = W3 at *
  have HL3 : Hid (A2.length ≤ 5) := by unfold Hid; rw [HLc.out]; omega
  clear HLc
  generalize A2 = A3 at *
  clear hlv
  go_wp2_with fail
  refine Calls.mono (KL.out _) ?_
  rintro e w5 ⟨rfl, hw5⟩
  obtain rfl : W3 = w5 := hw5.symm
  clear hw5
  go_wp2_with fail
  refine Calls.mono (KD.out _) ?_
  rintro e w5 ⟨rfl, hw5⟩
  obtain rfl : W3 = w5 := hw5.symm
  clear hw5
  have t2 := r2
  have t3 := r3
  clear r0 r1 r2 r3 r5
  have hn1 := HN.out.1
  have hn2 := HN.out.2.1
  have hn3 := HN.out.2.2.1
  have hn4 := HN.out.2.2.2
  have hn5 := HL3.out
  go_wp2
  go_ret
  exact ⟨by rw [HE.out, cat_take A3 s nb]; rfl, HB3.out⟩
end Go.Proofs.YtfhbgpepkplbaaaGreatDoor
namespace Go.Proofs.YtfhbgpepkplbaaaGreatDoor
open Go.RowKit
theorem one_any (f : Int) (add : Bool) (r : Nat) (s : ByteArray) (l id lb : Nat) (w : World) (hl : l ≤ 8 * s.size) (hs : s.size ≤ 16) (hid : id < 4294967296) (hlb : lb ≤ 1048575) (hr : r < 18446744073709551616) :
    Calls Tryz.prog 26 #[.agg #[.int .i64 f, .int .u64 (r : Int), .string s, .int .i64 (l : Int), .int .u32 (id : Int), .int .u32 (lb : Int)], .bool add] w fun e w' => e = .returned (.string ⟨(nlE f add r s l id lb).toArray⟩) ∧ Below w.heap.size w w' := by
  cases hd : dst f with
  | true =>
    have hl2 : lab f = true := by unfold lab; rw [hd]; simp
    cases add with
    | true => exact one_td f r s l id lb w hl hs hid hlb hr hl2 hd
    | false => exact one_fd f r s l id lb w hl hs hid hlb hr hl2 hd
  | false =>
    cases hl2 : lab f with
    | true =>
      cases add with
      | true => exact one_tl f r s l id lb w hl hs hid hlb hr hl2 hd
      | false => exact one_fl f r s l id lb w hl hs hid hlb hr hl2 hd
    | false =>
      cases add with
      | true => exact one_tn f r s l id lb w hl hs hid hlb hr hl2 hd
      | false => exact one_fn f r s l id lb w hl hs hid hlb hr hl2 hd
theorem nlE_len (f : Int) (add : Bool) (r : Nat) (s : ByteArray) (l id lb : Nat) (h : l ≤ 8 * s.size) : ((nlE f add r s l id lb).length : Int) = nsz f l add := by
  unfold nlE nsz
  rw [byN_nat]
  simp only [List.length_append, laid_length, List.length_take]
  rw [show s.data.toList.length = s.size by simp]
  omega
/-- A told prefix, as one value. -/
def nv (n : Nl) : Value := .agg #[.int .i64 n.f, .int .u64 n.r, .string n.s, .int .i64 n.l, .int .u32 n.id, .int .u32 n.lb]
set_option maxRecDepth 100000 in
set_option maxHeartbeats 1600000 in
theorem rsize_any (f r : Int) (s : ByteArray) (l id lb : Int) (add : Bool) (w : World) (hs : s.size ≤ maxLen) (hr0 : 0 ≤ r) (hr1 : r < 18446744073709551616) (hi0 : 0 ≤ id) (hi1 : id < 4294967296) (hb0 : 0 ≤ lb) :
    Calls Tryz.prog 8 #[.agg #[.int .i64 f, .int .u64 r, .string s, .int .i64 l, .int .u32 id, .int .u32 lb], .bool add] w fun e w' => e = szAns f r s l lb add ∧ Below w.heap.size w w' := by
  have HBA : Hid (Below w.heap.size w (w.alloc (.cells #[.int .i64 f, .int .u64 r, .string s, .int .i64 l, .int .u32 id, .int .u32 lb] 27))) := (Below.refl _ _).alloc (Nat.le_refl _) _
  have KM : Hid (_ : Prop) := rmay_any f r s l id lb (w.alloc (.cells #[.int .i64 f, .int .u64 r, .string s, .int .i64 l, .int .u32 id, .int .u32 lb] 27)) hs
  by_cases h0 : nchk f r s l lb = 0
  · rw [h0] at KM
    simp only [decide_true] at KM
    have HS : Hid (szAns f r s l lb add = .returned (.tuple #[.int .i64 (nsz f l add), .int .i64 0])) := by unfold Hid szAns; rw [if_pos h0]
    obtain ⟨hc, hlb, _⟩ := nchk_zero h0
    obtain ⟨_, hz, hl0, hl1, _, _⟩ := chk_zero hc
    have hsb := szOf_bd f
    obtain ⟨r, rfl⟩ := Int.eq_ofNat_of_zero_le hr0
    obtain ⟨id, rfl⟩ := Int.eq_ofNat_of_zero_le hi0
    obtain ⟨lb, rfl⟩ := Int.eq_ofNat_of_zero_le hb0
    obtain ⟨l, rfl⟩ := Int.eq_ofNat_of_zero_le hl0
    have KO : Hid (∀ w, _) := fun w => one_any f add r s l id lb w (by omega) (by omega) (by omega) (by omega) (by omega)
    have HE : Hid (((nlE f add r s l id lb).length : Int) = nsz f l add) := nlE_len f add r s l id lb (by omega)
    clear h0 hc hlb hz hl0 hl1 hsb hs hr0 hr1 hi0 hi1 hb0
    generalize nlE f add r s l id lb = E at *
    go_enter Tryz.func8, Tryz.ntmps8
    go_wp2_with fail
    refine Calls.mono KM.out ?_
    rintro e w1 ⟨rfl, hb1⟩
    have c0 : w1.cell? ⟨w.heap.size, 0, none⟩ = some (.int .i64 f) := cell2 hb1 (by simp)
    have c1 : w1.cell? ⟨w.heap.size, 1, none⟩ = some (.int .u64 (r : Int)) := cell2 hb1 (by simp)
    have c2 : w1.cell? ⟨w.heap.size, 2, none⟩ = some (.string s) := cell2 hb1 (by simp)
    have c3 : w1.cell? ⟨w.heap.size, 3, none⟩ = some (.int .i64 (l : Int)) := cell2 hb1 (by simp)
    have c4 : w1.cell? ⟨w.heap.size, 4, none⟩ = some (.int .u32 (id : Int)) := cell2 hb1 (by simp)
    have c5 : w1.cell? ⟨w.heap.size, 5, none⟩ = some (.int .u32 (lb : Int)) := cell2 hb1 (by simp)
    have HB1 : Hid (Below w.heap.size w w1) := HBA.out.trans (hb1.mono HBA.out.size)
    clear hb1 KM HBA
    go_wp2_with fail
    refine Calls.mono (KO.out _) ?_
    rintro e w2 ⟨rfl, hb2⟩
    have HB2 : Hid (Below w.heap.size w w2) := HB1.out.trans (hb2.mono HB1.out.size)
    clear hb2 c0 c1 c2 c3 c4 c5 HB1 KO
    go_wp2
    go_ret2
    exact ⟨by rw [HS.out, ← HE.out]; rfl, HB2.out⟩
  · have HS : Hid (szAns f r s l lb add = .returned (.tuple #[.int .i64 0, .int .i64 2])) := by unfold Hid szAns; rw [if_neg h0]
    simp only [h0, decide_false] at KM
    clear h0 hs hr0 hr1 hi0 hi1 hb0
    go_enter Tryz.func8, Tryz.ntmps8
    go_wp2_with fail
    refine Calls.mono KM.out ?_
    rintro e w1 ⟨rfl, hb1⟩
    have HB1 : Hid (Below w.heap.size w w1) := HBA.out.trans (hb1.mono HBA.out.size)
    clear hb1 KM HBA
    go_wp2
    go_ret2
    exact ⟨by rw [HS.out]; rfl, HB1.out⟩
end Go.Proofs.YtfhbgpepkplbaaaGreatDoor
