/-
  What stands ahead of the parameters: takeHead.
-/
import Derived.Test.YtfhapjhkjdifjaaGreatDoorR1
set_option linter.unusedVariables false
set_option linter.unusedSimpArgs false
namespace Go.Proofs.YtfhapjhkjdifjaaGreatDoor
open Go.RowKit
/-- An open of which nothing is known. -/
def zO : Opn := ⟨0, 0, 0, [], false, false, [], false, false, 0, []⟩
abbrev nilS : Value := .slice none 0 0
def hd1 (l : List UInt8) : Nat := worth (l.take 1)
def hd2 (l : List UInt8) : Nat := worth ((l.drop 1).take 2)
def hd3 (l : List UInt8) : Nat := worth ((l.drop 3).take 2)
def hd4 (l : List UInt8) : Nat := worth ((l.drop 5).take 4)
def hd5 (l : List UInt8) : Nat := worth ((l.drop 9).take 1)
/-- The open of what stands ahead of the parameters, or what is wrong with it. -/
def headI (l : List UInt8) : Except Nat Opn :=
  if l.length < 10 then .error 0
  else if hd1 l ≠ 4 then .error 1
  else if hd2 l = 0 then .error 2
  else if holdB (hd3 l : Int) = false then .error 6
  else if hd4 l = 0 then .error 3
  else if l.length - 10 ≠ hd5 l then .error 0
  else .ok { zO with asn := (hd2 l : Int), hold := (hd3 l : Int), id := (hd4 l : Int) }
theorem size27 : (Tryz.prog.info? 50).map (·.size) = some 11 := by kernel_rfl
theorem size37' : (Tryz.prog.info? 37).map (·.size) = some 3 := by kernel_rfl
theorem one27 (a b c : Int) (a1 a2 a3 : Option Addr) (n1 n2 n3 k1 k2 k3 : Nat) (x y z u : Bool) (d : Int) : (#[.int .u32 a, .int .i64 b, .int .u32 c, .slice a1 n1 k1, .bool x, .bool y, .slice a2 n2 k2, .bool z, .bool u, .int .i64 d, .slice a3 n3 k3] : Array Value).all (·.oneCell') = true := by simp [Value.oneCell']
theorem one37' (a b c : Int) : (#[.int .i64 a, .int .u8 b, .int .u8 c] : Array Value).all (·.oneCell') = true := by simp [Value.oneCell']
/-- What takeHead answers. -/
def HeadOk (r : Except Nat Opn) (e : Ending) : Prop :=
  match r with
  | .ok o => e = .returned (.tuple #[opV o nilS nilS nilS, vdt 0 0 0])
  | .error n => e = .returned (.tuple #[opV zO nilS nilS nilS, vdt 3 2 (n : Int)])
theorem take_len (l : List UInt8) (a n : Nat) (h : a + n ≤ l.length) : ((l.drop a).take n).length = n := by simp; omega
theorem worth_bd (l : List UInt8) (a n : Nat) (h : a + n ≤ l.length) : worth ((l.drop a).take n) < 256 ^ n := by
  have := worth_lt ((l.drop a).take n)
  rw [take_len l a n h] at this
  exact this
set_option maxHeartbeats 6400000 in
set_option maxRecDepth 100000 in
theorem takeHead_any (l : List UInt8) (w : World) : Calls Tryz.prog 30 #[.string ⟨l.toArray⟩] w fun e w' => HeadOk (headI l) e ∧ Below w.heap.size w w' := by
  have hb1 : Below w.heap.size w ((w.alloc (.cells #[.int .u32 0, .int .i64 0, .int .u32 0, .slice none 0 0, .bool false, .bool false, .slice none 0 0, .bool false, .bool false, .int .i64 0, .slice none 0 0] 50)).alloc (.cells #[.int .i64 0, .int .u8 0, .int .u8 0] 37)) := ((Below.refl _ _).alloc (Nat.le_refl _) _).alloc (by simp) _
  have hz1 : ((w.alloc (.cells #[.int .u32 0, .int .i64 0, .int .u32 0, .slice none 0 0, .bool false, .bool false, .slice none 0 0, .bool false, .bool false, .int .i64 0, .slice none 0 0] 50)).alloc (.cells #[.int .i64 0, .int .u8 0, .int .u8 0] 37)).heap[w.heap.size]? = some (.cells #[.int .u32 0, .int .i64 0, .int .u32 0, .slice none 0 0, .bool false, .bool false, .slice none 0 0, .bool false, .bool false, .int .i64 0, .slice none 0 0] 50 (0, 0)) := hp_up (hp_new rfl)
  have hz2 : ((w.alloc (.cells #[.int .u32 0, .int .i64 0, .int .u32 0, .slice none 0 0, .bool false, .bool false, .slice none 0 0, .bool false, .bool false, .int .i64 0, .slice none 0 0] 50)).alloc (.cells #[.int .i64 0, .int .u8 0, .int .u8 0] 37)).heap[w.heap.size + 1]? = some (.cells #[.int .i64 0, .int .u8 0, .int .u8 0] 37 (0, 0)) := hp_new (by simp)
  have hs1 : ((w.alloc (.cells #[.int .u32 0, .int .i64 0, .int .u32 0, .slice none 0 0, .bool false, .bool false, .slice none 0 0, .bool false, .bool false, .int .i64 0, .slice none 0 0] 50)).alloc (.cells #[.int .i64 0, .int .u8 0, .int .u8 0] 37)).heap.size = w.heap.size + 2 := by simp
  have HB1 : Hid (Below _ _ _) := hb1
  have HZ1 : Hid (_ = _) := hz1
  have HZ2 : Hid (_ = _) := hz2
  have HS1 : Hid (_ = _) := hs1
  have hsz : (⟨l.toArray⟩ : ByteArray).size = l.length := rfl
  clear hb1 hz1 hz2 hs1
  by_cases h10 : l.length < 10
  · have HX : Hid (headI l = .error 0) := if_pos h10
    go_enter Tryz.func30, Tryz.ntmps30
    go_wp2_with fail
    generalize ((w.alloc (.cells #[.int .u32 0, .int .i64 0, .int .u32 0, .slice none 0 0, .bool false, .bool false, .slice none 0 0, .bool false, .bool false, .int .i64 0, .slice none 0 0] 50)).alloc (.cells #[.int .i64 0, .int .u8 0, .int .u8 0] 37)) = W1 at *
    refine Calls.mono (reset_any 0 W1) ?_
    rintro e W2 ⟨rfl, hb2⟩
    unfold vdt
    have HB2 : Hid (Below w.heap.size w W2) := HB1.out.trans (hb2.mono HB1.out.size)
    have HY1 : Hid (W2.heap[w.heap.size]? = _) := (hb2.block _ (lt_of_heap HZ1.out)).trans HZ1.out
    have HY2 : Hid (W2.heap[w.heap.size + 1]? = _) := (hb2.block _ (lt_of_heap HZ2.out)).trans HZ2.out
    clear hb2
    have HYb : Hid ((W2.setRow w.heap.size #[.int .u32 0, .int .i64 0, .int .u32 0, .slice none 0 0, .bool false, .bool false, .slice none 0 0, .bool false, .bool false, .int .i64 0, .slice none 0 0]).heap[w.heap.size + 1]? = _) := (row_other W2 w.heap.size (w.heap.size + 1) #[.int .u32 0, .int .i64 0, .int .u32 0, .slice none 0 0, .bool false, .bool false, .slice none 0 0, .bool false, .bool false, .int .i64 0, .slice none 0 0] (by omega)).trans HY2.out
    go_wp2_with (first | (refine wpList_store_row rfl 50 _ _ rfl w.heap.size #[.int .u32 0, .int .i64 0, .int .u32 0, .slice none 0 0, .bool false, .bool false, .slice none 0 0, .bool false, .bool false, .int .i64 0, .slice none 0 0] rfl rfl 50 _ HY1.out size27 rfl (one27 _ _ _ _ _ _ _ _ _ _ _ _ _ _ _ _ _) ?_) | (refine wpList_store_row rfl 37 _ _ rfl (w.heap.size + 1) #[.int .i64 3, .int .u8 2, .int .u8 0] rfl rfl 37 _ HYb.out size37' rfl (one37' _ _ _) ?_))
    have hr1 := (row_other (W2.setRow w.heap.size #[.int .u32 0, .int .i64 0, .int .u32 0, .slice none 0 0, .bool false, .bool false, .slice none 0 0, .bool false, .bool false, .int .i64 0, .slice none 0 0]) (w.heap.size + 1) w.heap.size #[.int .i64 3, .int .u8 2, .int .u8 0] (by omega)).trans (row_same W2 w.heap.size _ #[.int .u32 0, .int .i64 0, .int .u32 0, .slice none 0 0, .bool false, .bool false, .slice none 0 0, .bool false, .bool false, .int .i64 0, .slice none 0 0] HY1.out)
    have hr2 := row_same (W2.setRow w.heap.size #[.int .u32 0, .int .i64 0, .int .u32 0, .slice none 0 0, .bool false, .bool false, .slice none 0 0, .bool false, .bool false, .int .i64 0, .slice none 0 0]) (w.heap.size + 1) _ #[.int .i64 3, .int .u8 2, .int .u8 0] HYb.out
    have c0 := cl_row (i := 0) hr1 rfl
    have c1 := cl_row (i := 1) hr1 rfl
    have c2 := cl_row (i := 2) hr1 rfl
    have c3 := cl_row (i := 3) hr1 rfl
    have c4 := cl_row (i := 4) hr1 rfl
    have c5 := cl_row (i := 5) hr1 rfl
    have c6 := cl_row (i := 6) hr1 rfl
    have c7 := cl_row (i := 7) hr1 rfl
    have c8 := cl_row (i := 8) hr1 rfl
    have c9 := cl_row (i := 9) hr1 rfl
    have c10 := cl_row (i := 10) hr1 rfl
    have d0 := cl_row (i := 0) hr2 rfl
    have d1 := cl_row (i := 1) hr2 rfl
    have d2 := cl_row (i := 2) hr2 rfl
    refine bodyPost_ret (v := .tuple #[.agg #[.int .u32 0, .int .i64 0, .int .u32 0, .slice none 0 0, .bool false, .bool false, .slice none 0 0, .bool false, .bool false, .int .i64 0, .slice none 0 0], .agg #[.int .i64 3, .int .u8 2, .int .u8 0]]) (by simp [results, Tryz.results30, go_sem, c0, c1, c2, c3, c4, c5, c6, c7, c8, c9, c10, d0, d1, d2]) rfl ⟨by rw [HX.out]; rfl, below_setRow (below_setRow HB2.out (Nat.le_refl _) _) (by omega) _⟩
  · have hl10 : 10 ≤ l.length := by omega
    have hi10 : ¬ ((l.length : Int) < 10) := by omega
    have H10 : Hid (¬ l.length < 10) := h10
    have b1 : hd1 l < 256 := worth_bd l 0 1 (by omega)
    have b2 : hd2 l < 65536 := worth_bd l 1 2 (by omega)
    have b3 : hd3 l < 65536 := worth_bd l 3 2 (by omega)
    have b4 : hd4 l < 4294967296 := worth_bd l 5 4 (by omega)
    have b5 : hd5 l < 256 := worth_bd l 9 1 (by omega)
    have N1 : Hid (∀ X r, Rd X r l → Calls Tryz.prog 39 #[.pointer (some ⟨r, 0, none⟩), .int .i64 1] X fun e w' => e = .returned (.tuple #[.int .u64 (hd1 l : Int), .bool true]) ∧ Rd w' r (l.drop 1) ∧ Beside r X w') := fun X r hX => numR_yes r l 1 X hX (by omega) (by omega) (by omega)
    have N2 : Hid (∀ X r, Rd X r (l.drop 1) → Calls Tryz.prog 39 #[.pointer (some ⟨r, 0, none⟩), .int .i64 2] X fun e w' => e = .returned (.tuple #[.int .u64 (hd2 l : Int), .bool true]) ∧ Rd w' r (l.drop 3) ∧ Beside r X w') := fun X r hX => by have := numR_yes r (l.drop 1) 2 X hX (by omega) (by omega) (by simp; omega); rw [List.drop_drop] at this; exact this
    have N3 : Hid (∀ X r, Rd X r (l.drop 3) → Calls Tryz.prog 39 #[.pointer (some ⟨r, 0, none⟩), .int .i64 2] X fun e w' => e = .returned (.tuple #[.int .u64 (hd3 l : Int), .bool true]) ∧ Rd w' r (l.drop 5) ∧ Beside r X w') := fun X r hX => by have := numR_yes r (l.drop 3) 2 X hX (by omega) (by omega) (by simp; omega); rw [List.drop_drop] at this; exact this
    have N4 : Hid (∀ X r, Rd X r (l.drop 5) → Calls Tryz.prog 39 #[.pointer (some ⟨r, 0, none⟩), .int .i64 4] X fun e w' => e = .returned (.tuple #[.int .u64 (hd4 l : Int), .bool true]) ∧ Rd w' r (l.drop 9) ∧ Beside r X w') := fun X r hX => by have := numR_yes r (l.drop 5) 4 X hX (by omega) (by omega) (by simp; omega); rw [List.drop_drop] at this; exact this
    have N5 : Hid (∀ X r, Rd X r (l.drop 9) → Calls Tryz.prog 39 #[.pointer (some ⟨r, 0, none⟩), .int .i64 1] X fun e w' => e = .returned (.tuple #[.int .u64 (hd5 l : Int), .bool true]) ∧ Rd w' r (l.drop 10) ∧ Beside r X w') := fun X r hX => by have := numR_yes r (l.drop 9) 1 X hX (by omega) (by omega) (by simp; omega); rw [List.drop_drop] at this; exact this
    have NL : Hid (∀ X r, Rd X r (l.drop 10) → Calls Tryz.prog 51 #[.pointer (some ⟨r, 0, none⟩)] X fun e w' => e = .returned (.int .i64 ((l.length - 10 : Nat) : Int)) ∧ w' = X) := fun X r hX => by have := leftR_any r (l.drop 10) X hX; rw [List.length_drop] at this; exact this
    have KH : Hid (∀ X, Calls Tryz.prog 50 #[.int .i64 (hd3 l : Int)] X fun e w' => e = .returned (.bool (holdB (hd3 l : Int))) ∧ w' = X) := fun X => isHold_any _ X
    have HD : Hid (headI l = if hd1 l ≠ 4 then .error 1 else if hd2 l = 0 then .error 2 else if holdB (hd3 l : Int) = false then .error 6 else if hd4 l = 0 then .error 3 else if l.length - 10 ≠ hd5 l then .error 0 else .ok { zO with asn := (hd2 l : Int), hold := (hd3 l : Int), id := (hd4 l : Int) }) := if_neg h10
    clear h10
    generalize hd1 l = m1 at *
    generalize hd2 l = m2 at *
    generalize hd3 l = m3 at *
    generalize hd4 l = m4 at *
    generalize hd5 l = m5 at *
    have hmle : l.length - 10 ≤ l.length := by omega
    generalize l.length - 10 = ml at *
    by_cases h1 : m1 = 4
    · subst h1
      by_cases h2 : m2 = 0
      · have HX : Hid (headI l = .error 2) := by unfold Hid; rw [HD.out, if_neg (by omega), if_pos h2]
        subst h2
        clear HD
        go_enter Tryz.func30, Tryz.ntmps30
        go_wp2_with fail
        generalize ((w.alloc (.cells #[.int .u32 0, .int .i64 0, .int .u32 0, .slice none 0 0, .bool false, .bool false, .slice none 0 0, .bool false, .bool false, .int .i64 0, .slice none 0 0] 50)).alloc (.cells #[.int .i64 0, .int .u8 0, .int .u8 0] 37)) = W1 at *
        refine Calls.mono (newR_any l W1) ?_
        rintro e W2 ⟨rfl, hrd, hW2⟩
        have hb2 : Below W1.heap.size W1 W2 := by rw [hW2]; exact (Below.refl _ _).alloc (Nat.le_refl _) _
        have HK2 : Hid (Rd W2 W1.heap.size l ∧ Below w.heap.size w W2 ∧ W2.heap[w.heap.size]? = some (.cells #[.int .u32 0, .int .i64 0, .int .u32 0, .slice none 0 0, .bool false, .bool false, .slice none 0 0, .bool false, .bool false, .int .i64 0, .slice none 0 0] 50 (0, 0)) ∧ W2.heap[w.heap.size + 1]? = some (.cells #[.int .i64 0, .int .u8 0, .int .u8 0] 37 (0, 0))) := ⟨hrd, HB1.out.trans (hb2.mono HB1.out.size), (hb2.block _ (lt_of_heap HZ1.out)).trans HZ1.out, (hb2.block _ (lt_of_heap HZ2.out)).trans HZ2.out⟩
        clear hrd hW2 hb2
        go_wp2_with fail
        refine Calls.mono (N1.out W2 _ HK2.out.1) ?_
        rintro e W3 ⟨rfl, hr, hb⟩
        have HK3 : Hid (Rd W3 W1.heap.size (l.drop 1) ∧ Below w.heap.size w W3 ∧ W3.heap[w.heap.size]? = some (.cells #[.int .u32 0, .int .i64 0, .int .u32 0, .slice none 0 0, .bool false, .bool false, .slice none 0 0, .bool false, .bool false, .int .i64 0, .slice none 0 0] 50 (0, 0)) ∧ W3.heap[w.heap.size + 1]? = some (.cells #[.int .i64 0, .int .u8 0, .int .u8 0] 37 (0, 0))) := ⟨hr, HK2.out.2.1.trans (hb.below (by have := HS1.out; omega) HK2.out.2.1.size), (hb.block _ (lt_of_heap HK2.out.2.2.1) (by have := HS1.out; omega)).trans HK2.out.2.2.1, (hb.block _ (lt_of_heap HK2.out.2.2.2) (by have := HS1.out; omega)).trans HK2.out.2.2.2⟩
        clear hr hb HK2
        go_wp2_with fail
        refine Calls.mono (N2.out W3 _ HK3.out.1) ?_
        rintro e W4 ⟨rfl, hr, hb⟩
        have HK4 : Hid (Rd W4 W1.heap.size (l.drop 3) ∧ Below w.heap.size w W4 ∧ W4.heap[w.heap.size]? = some (.cells #[.int .u32 0, .int .i64 0, .int .u32 0, .slice none 0 0, .bool false, .bool false, .slice none 0 0, .bool false, .bool false, .int .i64 0, .slice none 0 0] 50 (0, 0)) ∧ W4.heap[w.heap.size + 1]? = some (.cells #[.int .i64 0, .int .u8 0, .int .u8 0] 37 (0, 0))) := ⟨hr, HK3.out.2.1.trans (hb.below (by have := HS1.out; omega) HK3.out.2.1.size), (hb.block _ (lt_of_heap HK3.out.2.2.1) (by have := HS1.out; omega)).trans HK3.out.2.2.1, (hb.block _ (lt_of_heap HK3.out.2.2.2) (by have := HS1.out; omega)).trans HK3.out.2.2.2⟩
        clear hr hb HK3
        go_wp2_with fail
        refine Calls.mono (N3.out W4 _ HK4.out.1) ?_
        rintro e W5 ⟨rfl, hr, hb⟩
        have HK5 : Hid (Rd W5 W1.heap.size (l.drop 5) ∧ Below w.heap.size w W5 ∧ W5.heap[w.heap.size]? = some (.cells #[.int .u32 0, .int .i64 0, .int .u32 0, .slice none 0 0, .bool false, .bool false, .slice none 0 0, .bool false, .bool false, .int .i64 0, .slice none 0 0] 50 (0, 0)) ∧ W5.heap[w.heap.size + 1]? = some (.cells #[.int .i64 0, .int .u8 0, .int .u8 0] 37 (0, 0))) := ⟨hr, HK4.out.2.1.trans (hb.below (by have := HS1.out; omega) HK4.out.2.1.size), (hb.block _ (lt_of_heap HK4.out.2.2.1) (by have := HS1.out; omega)).trans HK4.out.2.2.1, (hb.block _ (lt_of_heap HK4.out.2.2.2) (by have := HS1.out; omega)).trans HK4.out.2.2.2⟩
        clear hr hb HK4
        go_wp2_with fail
        refine Calls.mono (N4.out W5 _ HK5.out.1) ?_
        rintro e W6 ⟨rfl, hr, hb⟩
        have HK6 : Hid (Rd W6 W1.heap.size (l.drop 9) ∧ Below w.heap.size w W6 ∧ W6.heap[w.heap.size]? = some (.cells #[.int .u32 0, .int .i64 0, .int .u32 0, .slice none 0 0, .bool false, .bool false, .slice none 0 0, .bool false, .bool false, .int .i64 0, .slice none 0 0] 50 (0, 0)) ∧ W6.heap[w.heap.size + 1]? = some (.cells #[.int .i64 0, .int .u8 0, .int .u8 0] 37 (0, 0))) := ⟨hr, HK5.out.2.1.trans (hb.below (by have := HS1.out; omega) HK5.out.2.1.size), (hb.block _ (lt_of_heap HK5.out.2.2.1) (by have := HS1.out; omega)).trans HK5.out.2.2.1, (hb.block _ (lt_of_heap HK5.out.2.2.2) (by have := HS1.out; omega)).trans HK5.out.2.2.2⟩
        clear hr hb HK5
        go_wp2_with fail
        refine Calls.mono (N5.out W6 _ HK6.out.1) ?_
        rintro e W7 ⟨rfl, hr, hb⟩
        have HK7 : Hid (Rd W7 W1.heap.size (l.drop 10) ∧ Below w.heap.size w W7 ∧ W7.heap[w.heap.size]? = some (.cells #[.int .u32 0, .int .i64 0, .int .u32 0, .slice none 0 0, .bool false, .bool false, .slice none 0 0, .bool false, .bool false, .int .i64 0, .slice none 0 0] 50 (0, 0)) ∧ W7.heap[w.heap.size + 1]? = some (.cells #[.int .i64 0, .int .u8 0, .int .u8 0] 37 (0, 0))) := ⟨hr, HK6.out.2.1.trans (hb.below (by have := HS1.out; omega) HK6.out.2.1.size), (hb.block _ (lt_of_heap HK6.out.2.2.1) (by have := HS1.out; omega)).trans HK6.out.2.2.1, (hb.block _ (lt_of_heap HK6.out.2.2.2) (by have := HS1.out; omega)).trans HK6.out.2.2.2⟩
        clear hr hb HK6
        go_wp2_with fail
        refine Calls.mono (reset_any 2 W7) ?_
        rintro e W8 ⟨rfl, hb8⟩
        unfold vdt
        have HB8 : Hid (Below w.heap.size w W8) := HK7.out.2.1.trans (hb8.mono HK7.out.2.1.size)
        have HY1 : Hid (W8.heap[w.heap.size]? = _) := (hb8.block _ (lt_of_heap HK7.out.2.2.1)).trans HK7.out.2.2.1
        have HY2 : Hid (W8.heap[w.heap.size + 1]? = _) := (hb8.block _ (lt_of_heap HK7.out.2.2.2)).trans HK7.out.2.2.2
        clear hb8 HK7
        have HYb : Hid ((W8.setRow w.heap.size #[.int .u32 0, .int .i64 0, .int .u32 0, .slice none 0 0, .bool false, .bool false, .slice none 0 0, .bool false, .bool false, .int .i64 0, .slice none 0 0]).heap[w.heap.size + 1]? = _) := (row_other W8 w.heap.size (w.heap.size + 1) #[.int .u32 0, .int .i64 0, .int .u32 0, .slice none 0 0, .bool false, .bool false, .slice none 0 0, .bool false, .bool false, .int .i64 0, .slice none 0 0] (by omega)).trans HY2.out
        go_wp2_with (first | (refine wpList_store_row rfl 50 _ _ rfl w.heap.size #[.int .u32 0, .int .i64 0, .int .u32 0, .slice none 0 0, .bool false, .bool false, .slice none 0 0, .bool false, .bool false, .int .i64 0, .slice none 0 0] rfl rfl 50 _ HY1.out size27 rfl (one27 _ _ _ _ _ _ _ _ _ _ _ _ _ _ _ _ _) ?_) | (refine wpList_store_row rfl 37 _ _ rfl (w.heap.size + 1) #[.int .i64 3, .int .u8 2, .int .u8 2] rfl rfl 37 _ HYb.out size37' rfl (one37' _ _ _) ?_))
        have hr1 := (row_other (W8.setRow w.heap.size #[.int .u32 0, .int .i64 0, .int .u32 0, .slice none 0 0, .bool false, .bool false, .slice none 0 0, .bool false, .bool false, .int .i64 0, .slice none 0 0]) (w.heap.size + 1) w.heap.size #[.int .i64 3, .int .u8 2, .int .u8 2] (by omega)).trans (row_same W8 w.heap.size _ #[.int .u32 0, .int .i64 0, .int .u32 0, .slice none 0 0, .bool false, .bool false, .slice none 0 0, .bool false, .bool false, .int .i64 0, .slice none 0 0] HY1.out)
        have hr2 := row_same (W8.setRow w.heap.size #[.int .u32 0, .int .i64 0, .int .u32 0, .slice none 0 0, .bool false, .bool false, .slice none 0 0, .bool false, .bool false, .int .i64 0, .slice none 0 0]) (w.heap.size + 1) _ #[.int .i64 3, .int .u8 2, .int .u8 2] HYb.out
        have c0 := cl_row (i := 0) hr1 rfl
        have c1 := cl_row (i := 1) hr1 rfl
        have c2 := cl_row (i := 2) hr1 rfl
        have c3 := cl_row (i := 3) hr1 rfl
        have c4 := cl_row (i := 4) hr1 rfl
        have c5 := cl_row (i := 5) hr1 rfl
        have c6 := cl_row (i := 6) hr1 rfl
        have c7 := cl_row (i := 7) hr1 rfl
        have c8 := cl_row (i := 8) hr1 rfl
        have c9 := cl_row (i := 9) hr1 rfl
        have c10 := cl_row (i := 10) hr1 rfl
        have d0 := cl_row (i := 0) hr2 rfl
        have d1 := cl_row (i := 1) hr2 rfl
        have d2 := cl_row (i := 2) hr2 rfl
        refine bodyPost_ret (v := .tuple #[.agg #[.int .u32 0, .int .i64 0, .int .u32 0, .slice none 0 0, .bool false, .bool false, .slice none 0 0, .bool false, .bool false, .int .i64 0, .slice none 0 0], .agg #[.int .i64 3, .int .u8 2, .int .u8 2]]) (by simp [results, Tryz.results30, go_sem, c0, c1, c2, c3, c4, c5, c6, c7, c8, c9, c10, d0, d1, d2]) rfl ⟨by rw [HX.out]; rfl, below_setRow (below_setRow HB8.out (Nat.le_refl _) _) (by omega) _⟩
      · have e2 : ((m2 : Int) == 0) = false := by simp; omega
        cases h3 : holdB (m3 : Int) with
        | false =>
          have HX : Hid (headI l = .error 6) := by unfold Hid; rw [HD.out, if_neg (by omega), if_neg h2, if_pos h3]
          rw [h3] at KH
          clear HD h3 h2
          go_enter Tryz.func30, Tryz.ntmps30
          go_wp2_with fail
          generalize ((w.alloc (.cells #[.int .u32 0, .int .i64 0, .int .u32 0, .slice none 0 0, .bool false, .bool false, .slice none 0 0, .bool false, .bool false, .int .i64 0, .slice none 0 0] 50)).alloc (.cells #[.int .i64 0, .int .u8 0, .int .u8 0] 37)) = W1 at *
          refine Calls.mono (newR_any l W1) ?_
          rintro e W2 ⟨rfl, hrd, hW2⟩
          have hb2 : Below W1.heap.size W1 W2 := by rw [hW2]; exact (Below.refl _ _).alloc (Nat.le_refl _) _
          have HK2 : Hid (Rd W2 W1.heap.size l ∧ Below w.heap.size w W2 ∧ W2.heap[w.heap.size]? = some (.cells #[.int .u32 0, .int .i64 0, .int .u32 0, .slice none 0 0, .bool false, .bool false, .slice none 0 0, .bool false, .bool false, .int .i64 0, .slice none 0 0] 50 (0, 0)) ∧ W2.heap[w.heap.size + 1]? = some (.cells #[.int .i64 0, .int .u8 0, .int .u8 0] 37 (0, 0))) := ⟨hrd, HB1.out.trans (hb2.mono HB1.out.size), (hb2.block _ (lt_of_heap HZ1.out)).trans HZ1.out, (hb2.block _ (lt_of_heap HZ2.out)).trans HZ2.out⟩
          clear hrd hW2 hb2
          go_wp2_with fail
          refine Calls.mono (N1.out W2 _ HK2.out.1) ?_
          rintro e W3 ⟨rfl, hr, hb⟩
          have HK3 : Hid (Rd W3 W1.heap.size (l.drop 1) ∧ Below w.heap.size w W3 ∧ W3.heap[w.heap.size]? = some (.cells #[.int .u32 0, .int .i64 0, .int .u32 0, .slice none 0 0, .bool false, .bool false, .slice none 0 0, .bool false, .bool false, .int .i64 0, .slice none 0 0] 50 (0, 0)) ∧ W3.heap[w.heap.size + 1]? = some (.cells #[.int .i64 0, .int .u8 0, .int .u8 0] 37 (0, 0))) := ⟨hr, HK2.out.2.1.trans (hb.below (by have := HS1.out; omega) HK2.out.2.1.size), (hb.block _ (lt_of_heap HK2.out.2.2.1) (by have := HS1.out; omega)).trans HK2.out.2.2.1, (hb.block _ (lt_of_heap HK2.out.2.2.2) (by have := HS1.out; omega)).trans HK2.out.2.2.2⟩
          clear hr hb HK2
          go_wp2_with fail
          refine Calls.mono (N2.out W3 _ HK3.out.1) ?_
          rintro e W4 ⟨rfl, hr, hb⟩
          have HK4 : Hid (Rd W4 W1.heap.size (l.drop 3) ∧ Below w.heap.size w W4 ∧ W4.heap[w.heap.size]? = some (.cells #[.int .u32 0, .int .i64 0, .int .u32 0, .slice none 0 0, .bool false, .bool false, .slice none 0 0, .bool false, .bool false, .int .i64 0, .slice none 0 0] 50 (0, 0)) ∧ W4.heap[w.heap.size + 1]? = some (.cells #[.int .i64 0, .int .u8 0, .int .u8 0] 37 (0, 0))) := ⟨hr, HK3.out.2.1.trans (hb.below (by have := HS1.out; omega) HK3.out.2.1.size), (hb.block _ (lt_of_heap HK3.out.2.2.1) (by have := HS1.out; omega)).trans HK3.out.2.2.1, (hb.block _ (lt_of_heap HK3.out.2.2.2) (by have := HS1.out; omega)).trans HK3.out.2.2.2⟩
          clear hr hb HK3
          go_wp2_with fail
          refine Calls.mono (N3.out W4 _ HK4.out.1) ?_
          rintro e W5 ⟨rfl, hr, hb⟩
          have HK5 : Hid (Rd W5 W1.heap.size (l.drop 5) ∧ Below w.heap.size w W5 ∧ W5.heap[w.heap.size]? = some (.cells #[.int .u32 0, .int .i64 0, .int .u32 0, .slice none 0 0, .bool false, .bool false, .slice none 0 0, .bool false, .bool false, .int .i64 0, .slice none 0 0] 50 (0, 0)) ∧ W5.heap[w.heap.size + 1]? = some (.cells #[.int .i64 0, .int .u8 0, .int .u8 0] 37 (0, 0))) := ⟨hr, HK4.out.2.1.trans (hb.below (by have := HS1.out; omega) HK4.out.2.1.size), (hb.block _ (lt_of_heap HK4.out.2.2.1) (by have := HS1.out; omega)).trans HK4.out.2.2.1, (hb.block _ (lt_of_heap HK4.out.2.2.2) (by have := HS1.out; omega)).trans HK4.out.2.2.2⟩
          clear hr hb HK4
          go_wp2_with fail
          refine Calls.mono (N4.out W5 _ HK5.out.1) ?_
          rintro e W6 ⟨rfl, hr, hb⟩
          have HK6 : Hid (Rd W6 W1.heap.size (l.drop 9) ∧ Below w.heap.size w W6 ∧ W6.heap[w.heap.size]? = some (.cells #[.int .u32 0, .int .i64 0, .int .u32 0, .slice none 0 0, .bool false, .bool false, .slice none 0 0, .bool false, .bool false, .int .i64 0, .slice none 0 0] 50 (0, 0)) ∧ W6.heap[w.heap.size + 1]? = some (.cells #[.int .i64 0, .int .u8 0, .int .u8 0] 37 (0, 0))) := ⟨hr, HK5.out.2.1.trans (hb.below (by have := HS1.out; omega) HK5.out.2.1.size), (hb.block _ (lt_of_heap HK5.out.2.2.1) (by have := HS1.out; omega)).trans HK5.out.2.2.1, (hb.block _ (lt_of_heap HK5.out.2.2.2) (by have := HS1.out; omega)).trans HK5.out.2.2.2⟩
          clear hr hb HK5
          go_wp2_with fail
          refine Calls.mono (N5.out W6 _ HK6.out.1) ?_
          rintro e W7 ⟨rfl, hr, hb⟩
          have HK7 : Hid (Rd W7 W1.heap.size (l.drop 10) ∧ Below w.heap.size w W7 ∧ W7.heap[w.heap.size]? = some (.cells #[.int .u32 0, .int .i64 0, .int .u32 0, .slice none 0 0, .bool false, .bool false, .slice none 0 0, .bool false, .bool false, .int .i64 0, .slice none 0 0] 50 (0, 0)) ∧ W7.heap[w.heap.size + 1]? = some (.cells #[.int .i64 0, .int .u8 0, .int .u8 0] 37 (0, 0))) := ⟨hr, HK6.out.2.1.trans (hb.below (by have := HS1.out; omega) HK6.out.2.1.size), (hb.block _ (lt_of_heap HK6.out.2.2.1) (by have := HS1.out; omega)).trans HK6.out.2.2.1, (hb.block _ (lt_of_heap HK6.out.2.2.2) (by have := HS1.out; omega)).trans HK6.out.2.2.2⟩
          clear hr hb HK6
          go_wp2_with fail
          refine Calls.mono (KH.out W7) ?_
          rintro e wf ⟨rfl, hwf⟩
          obtain rfl : W7 = wf := hwf.symm
          clear hwf
          go_wp2_with fail
          refine Calls.mono (reset_any 6 W7) ?_
          rintro e W8 ⟨rfl, hb8⟩
          unfold vdt
          have HB8 : Hid (Below w.heap.size w W8) := HK7.out.2.1.trans (hb8.mono HK7.out.2.1.size)
          have HY1 : Hid (W8.heap[w.heap.size]? = _) := (hb8.block _ (lt_of_heap HK7.out.2.2.1)).trans HK7.out.2.2.1
          have HY2 : Hid (W8.heap[w.heap.size + 1]? = _) := (hb8.block _ (lt_of_heap HK7.out.2.2.2)).trans HK7.out.2.2.2
          clear hb8 HK7
          have HYb : Hid ((W8.setRow w.heap.size #[.int .u32 0, .int .i64 0, .int .u32 0, .slice none 0 0, .bool false, .bool false, .slice none 0 0, .bool false, .bool false, .int .i64 0, .slice none 0 0]).heap[w.heap.size + 1]? = _) := (row_other W8 w.heap.size (w.heap.size + 1) #[.int .u32 0, .int .i64 0, .int .u32 0, .slice none 0 0, .bool false, .bool false, .slice none 0 0, .bool false, .bool false, .int .i64 0, .slice none 0 0] (by omega)).trans HY2.out
          go_wp2_with (first | (refine wpList_store_row rfl 50 _ _ rfl w.heap.size #[.int .u32 0, .int .i64 0, .int .u32 0, .slice none 0 0, .bool false, .bool false, .slice none 0 0, .bool false, .bool false, .int .i64 0, .slice none 0 0] rfl rfl 50 _ HY1.out size27 rfl (one27 _ _ _ _ _ _ _ _ _ _ _ _ _ _ _ _ _) ?_) | (refine wpList_store_row rfl 37 _ _ rfl (w.heap.size + 1) #[.int .i64 3, .int .u8 2, .int .u8 6] rfl rfl 37 _ HYb.out size37' rfl (one37' _ _ _) ?_))
          have hr1 := (row_other (W8.setRow w.heap.size #[.int .u32 0, .int .i64 0, .int .u32 0, .slice none 0 0, .bool false, .bool false, .slice none 0 0, .bool false, .bool false, .int .i64 0, .slice none 0 0]) (w.heap.size + 1) w.heap.size #[.int .i64 3, .int .u8 2, .int .u8 6] (by omega)).trans (row_same W8 w.heap.size _ #[.int .u32 0, .int .i64 0, .int .u32 0, .slice none 0 0, .bool false, .bool false, .slice none 0 0, .bool false, .bool false, .int .i64 0, .slice none 0 0] HY1.out)
          have hr2 := row_same (W8.setRow w.heap.size #[.int .u32 0, .int .i64 0, .int .u32 0, .slice none 0 0, .bool false, .bool false, .slice none 0 0, .bool false, .bool false, .int .i64 0, .slice none 0 0]) (w.heap.size + 1) _ #[.int .i64 3, .int .u8 2, .int .u8 6] HYb.out
          have c0 := cl_row (i := 0) hr1 rfl
          have c1 := cl_row (i := 1) hr1 rfl
          have c2 := cl_row (i := 2) hr1 rfl
          have c3 := cl_row (i := 3) hr1 rfl
          have c4 := cl_row (i := 4) hr1 rfl
          have c5 := cl_row (i := 5) hr1 rfl
          have c6 := cl_row (i := 6) hr1 rfl
          have c7 := cl_row (i := 7) hr1 rfl
          have c8 := cl_row (i := 8) hr1 rfl
          have c9 := cl_row (i := 9) hr1 rfl
          have c10 := cl_row (i := 10) hr1 rfl
          have d0 := cl_row (i := 0) hr2 rfl
          have d1 := cl_row (i := 1) hr2 rfl
          have d2 := cl_row (i := 2) hr2 rfl
          refine bodyPost_ret (v := .tuple #[.agg #[.int .u32 0, .int .i64 0, .int .u32 0, .slice none 0 0, .bool false, .bool false, .slice none 0 0, .bool false, .bool false, .int .i64 0, .slice none 0 0], .agg #[.int .i64 3, .int .u8 2, .int .u8 6]]) (by simp [results, Tryz.results30, go_sem, c0, c1, c2, c3, c4, c5, c6, c7, c8, c9, c10, d0, d1, d2]) rfl ⟨by rw [HX.out]; rfl, below_setRow (below_setRow HB8.out (Nat.le_refl _) _) (by omega) _⟩
        | true =>
          rw [h3] at KH
          by_cases h4 : m4 = 0
          · have HX : Hid (headI l = .error 3) := by unfold Hid; rw [HD.out, if_neg (by omega), if_neg h2, if_neg (by rw [h3]; decide), if_pos h4]
            subst h4
            clear HD h3 h2
            go_enter Tryz.func30, Tryz.ntmps30
            go_wp2_with fail
            generalize ((w.alloc (.cells #[.int .u32 0, .int .i64 0, .int .u32 0, .slice none 0 0, .bool false, .bool false, .slice none 0 0, .bool false, .bool false, .int .i64 0, .slice none 0 0] 50)).alloc (.cells #[.int .i64 0, .int .u8 0, .int .u8 0] 37)) = W1 at *
            refine Calls.mono (newR_any l W1) ?_
            rintro e W2 ⟨rfl, hrd, hW2⟩
            have hb2 : Below W1.heap.size W1 W2 := by rw [hW2]; exact (Below.refl _ _).alloc (Nat.le_refl _) _
            have HK2 : Hid (Rd W2 W1.heap.size l ∧ Below w.heap.size w W2 ∧ W2.heap[w.heap.size]? = some (.cells #[.int .u32 0, .int .i64 0, .int .u32 0, .slice none 0 0, .bool false, .bool false, .slice none 0 0, .bool false, .bool false, .int .i64 0, .slice none 0 0] 50 (0, 0)) ∧ W2.heap[w.heap.size + 1]? = some (.cells #[.int .i64 0, .int .u8 0, .int .u8 0] 37 (0, 0))) := ⟨hrd, HB1.out.trans (hb2.mono HB1.out.size), (hb2.block _ (lt_of_heap HZ1.out)).trans HZ1.out, (hb2.block _ (lt_of_heap HZ2.out)).trans HZ2.out⟩
            clear hrd hW2 hb2
            go_wp2_with fail
            refine Calls.mono (N1.out W2 _ HK2.out.1) ?_
            rintro e W3 ⟨rfl, hr, hb⟩
            have HK3 : Hid (Rd W3 W1.heap.size (l.drop 1) ∧ Below w.heap.size w W3 ∧ W3.heap[w.heap.size]? = some (.cells #[.int .u32 0, .int .i64 0, .int .u32 0, .slice none 0 0, .bool false, .bool false, .slice none 0 0, .bool false, .bool false, .int .i64 0, .slice none 0 0] 50 (0, 0)) ∧ W3.heap[w.heap.size + 1]? = some (.cells #[.int .i64 0, .int .u8 0, .int .u8 0] 37 (0, 0))) := ⟨hr, HK2.out.2.1.trans (hb.below (by have := HS1.out; omega) HK2.out.2.1.size), (hb.block _ (lt_of_heap HK2.out.2.2.1) (by have := HS1.out; omega)).trans HK2.out.2.2.1, (hb.block _ (lt_of_heap HK2.out.2.2.2) (by have := HS1.out; omega)).trans HK2.out.2.2.2⟩
            clear hr hb HK2
            go_wp2_with fail
            refine Calls.mono (N2.out W3 _ HK3.out.1) ?_
            rintro e W4 ⟨rfl, hr, hb⟩
            have HK4 : Hid (Rd W4 W1.heap.size (l.drop 3) ∧ Below w.heap.size w W4 ∧ W4.heap[w.heap.size]? = some (.cells #[.int .u32 0, .int .i64 0, .int .u32 0, .slice none 0 0, .bool false, .bool false, .slice none 0 0, .bool false, .bool false, .int .i64 0, .slice none 0 0] 50 (0, 0)) ∧ W4.heap[w.heap.size + 1]? = some (.cells #[.int .i64 0, .int .u8 0, .int .u8 0] 37 (0, 0))) := ⟨hr, HK3.out.2.1.trans (hb.below (by have := HS1.out; omega) HK3.out.2.1.size), (hb.block _ (lt_of_heap HK3.out.2.2.1) (by have := HS1.out; omega)).trans HK3.out.2.2.1, (hb.block _ (lt_of_heap HK3.out.2.2.2) (by have := HS1.out; omega)).trans HK3.out.2.2.2⟩
            clear hr hb HK3
            go_wp2_with fail
            refine Calls.mono (N3.out W4 _ HK4.out.1) ?_
            rintro e W5 ⟨rfl, hr, hb⟩
            have HK5 : Hid (Rd W5 W1.heap.size (l.drop 5) ∧ Below w.heap.size w W5 ∧ W5.heap[w.heap.size]? = some (.cells #[.int .u32 0, .int .i64 0, .int .u32 0, .slice none 0 0, .bool false, .bool false, .slice none 0 0, .bool false, .bool false, .int .i64 0, .slice none 0 0] 50 (0, 0)) ∧ W5.heap[w.heap.size + 1]? = some (.cells #[.int .i64 0, .int .u8 0, .int .u8 0] 37 (0, 0))) := ⟨hr, HK4.out.2.1.trans (hb.below (by have := HS1.out; omega) HK4.out.2.1.size), (hb.block _ (lt_of_heap HK4.out.2.2.1) (by have := HS1.out; omega)).trans HK4.out.2.2.1, (hb.block _ (lt_of_heap HK4.out.2.2.2) (by have := HS1.out; omega)).trans HK4.out.2.2.2⟩
            clear hr hb HK4
            go_wp2_with fail
            refine Calls.mono (N4.out W5 _ HK5.out.1) ?_
            rintro e W6 ⟨rfl, hr, hb⟩
            have HK6 : Hid (Rd W6 W1.heap.size (l.drop 9) ∧ Below w.heap.size w W6 ∧ W6.heap[w.heap.size]? = some (.cells #[.int .u32 0, .int .i64 0, .int .u32 0, .slice none 0 0, .bool false, .bool false, .slice none 0 0, .bool false, .bool false, .int .i64 0, .slice none 0 0] 50 (0, 0)) ∧ W6.heap[w.heap.size + 1]? = some (.cells #[.int .i64 0, .int .u8 0, .int .u8 0] 37 (0, 0))) := ⟨hr, HK5.out.2.1.trans (hb.below (by have := HS1.out; omega) HK5.out.2.1.size), (hb.block _ (lt_of_heap HK5.out.2.2.1) (by have := HS1.out; omega)).trans HK5.out.2.2.1, (hb.block _ (lt_of_heap HK5.out.2.2.2) (by have := HS1.out; omega)).trans HK5.out.2.2.2⟩
            clear hr hb HK5
            go_wp2_with fail
            refine Calls.mono (N5.out W6 _ HK6.out.1) ?_
            rintro e W7 ⟨rfl, hr, hb⟩
            have HK7 : Hid (Rd W7 W1.heap.size (l.drop 10) ∧ Below w.heap.size w W7 ∧ W7.heap[w.heap.size]? = some (.cells #[.int .u32 0, .int .i64 0, .int .u32 0, .slice none 0 0, .bool false, .bool false, .slice none 0 0, .bool false, .bool false, .int .i64 0, .slice none 0 0] 50 (0, 0)) ∧ W7.heap[w.heap.size + 1]? = some (.cells #[.int .i64 0, .int .u8 0, .int .u8 0] 37 (0, 0))) := ⟨hr, HK6.out.2.1.trans (hb.below (by have := HS1.out; omega) HK6.out.2.1.size), (hb.block _ (lt_of_heap HK6.out.2.2.1) (by have := HS1.out; omega)).trans HK6.out.2.2.1, (hb.block _ (lt_of_heap HK6.out.2.2.2) (by have := HS1.out; omega)).trans HK6.out.2.2.2⟩
            clear hr hb HK6
            go_wp2_with fail
            refine Calls.mono (KH.out W7) ?_
            rintro e wf ⟨rfl, hwf⟩
            obtain rfl : W7 = wf := hwf.symm
            clear hwf
            go_wp2_with fail
            refine Calls.mono (reset_any 3 W7) ?_
            rintro e W8 ⟨rfl, hb8⟩
            unfold vdt
            have HB8 : Hid (Below w.heap.size w W8) := HK7.out.2.1.trans (hb8.mono HK7.out.2.1.size)
            have HY1 : Hid (W8.heap[w.heap.size]? = _) := (hb8.block _ (lt_of_heap HK7.out.2.2.1)).trans HK7.out.2.2.1
            have HY2 : Hid (W8.heap[w.heap.size + 1]? = _) := (hb8.block _ (lt_of_heap HK7.out.2.2.2)).trans HK7.out.2.2.2
            clear hb8 HK7
            have HYb : Hid ((W8.setRow w.heap.size #[.int .u32 0, .int .i64 0, .int .u32 0, .slice none 0 0, .bool false, .bool false, .slice none 0 0, .bool false, .bool false, .int .i64 0, .slice none 0 0]).heap[w.heap.size + 1]? = _) := (row_other W8 w.heap.size (w.heap.size + 1) #[.int .u32 0, .int .i64 0, .int .u32 0, .slice none 0 0, .bool false, .bool false, .slice none 0 0, .bool false, .bool false, .int .i64 0, .slice none 0 0] (by omega)).trans HY2.out
            go_wp2_with (first | (refine wpList_store_row rfl 50 _ _ rfl w.heap.size #[.int .u32 0, .int .i64 0, .int .u32 0, .slice none 0 0, .bool false, .bool false, .slice none 0 0, .bool false, .bool false, .int .i64 0, .slice none 0 0] rfl rfl 50 _ HY1.out size27 rfl (one27 _ _ _ _ _ _ _ _ _ _ _ _ _ _ _ _ _) ?_) | (refine wpList_store_row rfl 37 _ _ rfl (w.heap.size + 1) #[.int .i64 3, .int .u8 2, .int .u8 3] rfl rfl 37 _ HYb.out size37' rfl (one37' _ _ _) ?_))
            have hr1 := (row_other (W8.setRow w.heap.size #[.int .u32 0, .int .i64 0, .int .u32 0, .slice none 0 0, .bool false, .bool false, .slice none 0 0, .bool false, .bool false, .int .i64 0, .slice none 0 0]) (w.heap.size + 1) w.heap.size #[.int .i64 3, .int .u8 2, .int .u8 3] (by omega)).trans (row_same W8 w.heap.size _ #[.int .u32 0, .int .i64 0, .int .u32 0, .slice none 0 0, .bool false, .bool false, .slice none 0 0, .bool false, .bool false, .int .i64 0, .slice none 0 0] HY1.out)
            have hr2 := row_same (W8.setRow w.heap.size #[.int .u32 0, .int .i64 0, .int .u32 0, .slice none 0 0, .bool false, .bool false, .slice none 0 0, .bool false, .bool false, .int .i64 0, .slice none 0 0]) (w.heap.size + 1) _ #[.int .i64 3, .int .u8 2, .int .u8 3] HYb.out
            have c0 := cl_row (i := 0) hr1 rfl
            have c1 := cl_row (i := 1) hr1 rfl
            have c2 := cl_row (i := 2) hr1 rfl
            have c3 := cl_row (i := 3) hr1 rfl
            have c4 := cl_row (i := 4) hr1 rfl
            have c5 := cl_row (i := 5) hr1 rfl
            have c6 := cl_row (i := 6) hr1 rfl
            have c7 := cl_row (i := 7) hr1 rfl
            have c8 := cl_row (i := 8) hr1 rfl
            have c9 := cl_row (i := 9) hr1 rfl
            have c10 := cl_row (i := 10) hr1 rfl
            have d0 := cl_row (i := 0) hr2 rfl
            have d1 := cl_row (i := 1) hr2 rfl
            have d2 := cl_row (i := 2) hr2 rfl
            refine bodyPost_ret (v := .tuple #[.agg #[.int .u32 0, .int .i64 0, .int .u32 0, .slice none 0 0, .bool false, .bool false, .slice none 0 0, .bool false, .bool false, .int .i64 0, .slice none 0 0], .agg #[.int .i64 3, .int .u8 2, .int .u8 3]]) (by simp [results, Tryz.results30, go_sem, c0, c1, c2, c3, c4, c5, c6, c7, c8, c9, c10, d0, d1, d2]) rfl ⟨by rw [HX.out]; rfl, below_setRow (below_setRow HB8.out (Nat.le_refl _) _) (by omega) _⟩
          · have e4 : ((m4 : Int) == 0) = false := by simp; omega
            by_cases h5 : ml = m5
            · have HX : Hid (headI l = .ok { zO with asn := (m2 : Int), hold := (m3 : Int), id := (m4 : Int) }) := by unfold Hid; rw [HD.out, if_neg (by omega), if_neg h2, if_neg (by rw [h3]; decide), if_neg h4, if_neg (by omega)]
              subst h5
              clear HD h3 h2 h4
              go_enter Tryz.func30, Tryz.ntmps30
              go_wp2_with fail
              generalize ((w.alloc (.cells #[.int .u32 0, .int .i64 0, .int .u32 0, .slice none 0 0, .bool false, .bool false, .slice none 0 0, .bool false, .bool false, .int .i64 0, .slice none 0 0] 50)).alloc (.cells #[.int .i64 0, .int .u8 0, .int .u8 0] 37)) = W1 at *
              refine Calls.mono (newR_any l W1) ?_
              rintro e W2 ⟨rfl, hrd, hW2⟩
              have hb2 : Below W1.heap.size W1 W2 := by rw [hW2]; exact (Below.refl _ _).alloc (Nat.le_refl _) _
              have HK2 : Hid (Rd W2 W1.heap.size l ∧ Below w.heap.size w W2 ∧ W2.heap[w.heap.size]? = some (.cells #[.int .u32 0, .int .i64 0, .int .u32 0, .slice none 0 0, .bool false, .bool false, .slice none 0 0, .bool false, .bool false, .int .i64 0, .slice none 0 0] 50 (0, 0)) ∧ W2.heap[w.heap.size + 1]? = some (.cells #[.int .i64 0, .int .u8 0, .int .u8 0] 37 (0, 0))) := ⟨hrd, HB1.out.trans (hb2.mono HB1.out.size), (hb2.block _ (lt_of_heap HZ1.out)).trans HZ1.out, (hb2.block _ (lt_of_heap HZ2.out)).trans HZ2.out⟩
              clear hrd hW2 hb2
              go_wp2_with fail
              refine Calls.mono (N1.out W2 _ HK2.out.1) ?_
              rintro e W3 ⟨rfl, hr, hb⟩
              have HK3 : Hid (Rd W3 W1.heap.size (l.drop 1) ∧ Below w.heap.size w W3 ∧ W3.heap[w.heap.size]? = some (.cells #[.int .u32 0, .int .i64 0, .int .u32 0, .slice none 0 0, .bool false, .bool false, .slice none 0 0, .bool false, .bool false, .int .i64 0, .slice none 0 0] 50 (0, 0)) ∧ W3.heap[w.heap.size + 1]? = some (.cells #[.int .i64 0, .int .u8 0, .int .u8 0] 37 (0, 0))) := ⟨hr, HK2.out.2.1.trans (hb.below (by have := HS1.out; omega) HK2.out.2.1.size), (hb.block _ (lt_of_heap HK2.out.2.2.1) (by have := HS1.out; omega)).trans HK2.out.2.2.1, (hb.block _ (lt_of_heap HK2.out.2.2.2) (by have := HS1.out; omega)).trans HK2.out.2.2.2⟩
              clear hr hb HK2
              go_wp2_with fail
              refine Calls.mono (N2.out W3 _ HK3.out.1) ?_
              rintro e W4 ⟨rfl, hr, hb⟩
              have HK4 : Hid (Rd W4 W1.heap.size (l.drop 3) ∧ Below w.heap.size w W4 ∧ W4.heap[w.heap.size]? = some (.cells #[.int .u32 0, .int .i64 0, .int .u32 0, .slice none 0 0, .bool false, .bool false, .slice none 0 0, .bool false, .bool false, .int .i64 0, .slice none 0 0] 50 (0, 0)) ∧ W4.heap[w.heap.size + 1]? = some (.cells #[.int .i64 0, .int .u8 0, .int .u8 0] 37 (0, 0))) := ⟨hr, HK3.out.2.1.trans (hb.below (by have := HS1.out; omega) HK3.out.2.1.size), (hb.block _ (lt_of_heap HK3.out.2.2.1) (by have := HS1.out; omega)).trans HK3.out.2.2.1, (hb.block _ (lt_of_heap HK3.out.2.2.2) (by have := HS1.out; omega)).trans HK3.out.2.2.2⟩
              clear hr hb HK3
              go_wp2_with fail
              refine Calls.mono (N3.out W4 _ HK4.out.1) ?_
              rintro e W5 ⟨rfl, hr, hb⟩
              have HK5 : Hid (Rd W5 W1.heap.size (l.drop 5) ∧ Below w.heap.size w W5 ∧ W5.heap[w.heap.size]? = some (.cells #[.int .u32 0, .int .i64 0, .int .u32 0, .slice none 0 0, .bool false, .bool false, .slice none 0 0, .bool false, .bool false, .int .i64 0, .slice none 0 0] 50 (0, 0)) ∧ W5.heap[w.heap.size + 1]? = some (.cells #[.int .i64 0, .int .u8 0, .int .u8 0] 37 (0, 0))) := ⟨hr, HK4.out.2.1.trans (hb.below (by have := HS1.out; omega) HK4.out.2.1.size), (hb.block _ (lt_of_heap HK4.out.2.2.1) (by have := HS1.out; omega)).trans HK4.out.2.2.1, (hb.block _ (lt_of_heap HK4.out.2.2.2) (by have := HS1.out; omega)).trans HK4.out.2.2.2⟩
              clear hr hb HK4
              go_wp2_with fail
              refine Calls.mono (N4.out W5 _ HK5.out.1) ?_
              rintro e W6 ⟨rfl, hr, hb⟩
              have HK6 : Hid (Rd W6 W1.heap.size (l.drop 9) ∧ Below w.heap.size w W6 ∧ W6.heap[w.heap.size]? = some (.cells #[.int .u32 0, .int .i64 0, .int .u32 0, .slice none 0 0, .bool false, .bool false, .slice none 0 0, .bool false, .bool false, .int .i64 0, .slice none 0 0] 50 (0, 0)) ∧ W6.heap[w.heap.size + 1]? = some (.cells #[.int .i64 0, .int .u8 0, .int .u8 0] 37 (0, 0))) := ⟨hr, HK5.out.2.1.trans (hb.below (by have := HS1.out; omega) HK5.out.2.1.size), (hb.block _ (lt_of_heap HK5.out.2.2.1) (by have := HS1.out; omega)).trans HK5.out.2.2.1, (hb.block _ (lt_of_heap HK5.out.2.2.2) (by have := HS1.out; omega)).trans HK5.out.2.2.2⟩
              clear hr hb HK5
              go_wp2_with fail
              refine Calls.mono (N5.out W6 _ HK6.out.1) ?_
              rintro e W7 ⟨rfl, hr, hb⟩
              have HK7 : Hid (Rd W7 W1.heap.size (l.drop 10) ∧ Below w.heap.size w W7 ∧ W7.heap[w.heap.size]? = some (.cells #[.int .u32 0, .int .i64 0, .int .u32 0, .slice none 0 0, .bool false, .bool false, .slice none 0 0, .bool false, .bool false, .int .i64 0, .slice none 0 0] 50 (0, 0)) ∧ W7.heap[w.heap.size + 1]? = some (.cells #[.int .i64 0, .int .u8 0, .int .u8 0] 37 (0, 0))) := ⟨hr, HK6.out.2.1.trans (hb.below (by have := HS1.out; omega) HK6.out.2.1.size), (hb.block _ (lt_of_heap HK6.out.2.2.1) (by have := HS1.out; omega)).trans HK6.out.2.2.1, (hb.block _ (lt_of_heap HK6.out.2.2.2) (by have := HS1.out; omega)).trans HK6.out.2.2.2⟩
              clear hr hb HK6
              go_wp2_with fail
              refine Calls.mono (KH.out W7) ?_
              rintro e wf ⟨rfl, hwf⟩
              obtain rfl : W7 = wf := hwf.symm
              clear hwf
              go_wp2_with fail
              refine Calls.mono (NL.out W7 _ HK7.out.1) ?_
              rintro e wf ⟨rfl, hwf⟩
              obtain rfl : W7 = wf := hwf.symm
              clear hwf
              have HY1 : Hid (W7.heap[w.heap.size]? = _) := HK7.out.2.2.1
              have HY2 : Hid (W7.heap[w.heap.size + 1]? = _) := HK7.out.2.2.2
              have HB8 : Hid (Below w.heap.size w W7) := HK7.out.2.1
              have HYb : Hid ((W7.setRow w.heap.size #[.int .u32 (m2 : Int), .int .i64 (m3 : Int), .int .u32 (m4 : Int), .slice none 0 0, .bool false, .bool false, .slice none 0 0, .bool false, .bool false, .int .i64 0, .slice none 0 0]).heap[w.heap.size + 1]? = _) := (row_other W7 w.heap.size (w.heap.size + 1) #[.int .u32 (m2 : Int), .int .i64 (m3 : Int), .int .u32 (m4 : Int), .slice none 0 0, .bool false, .bool false, .slice none 0 0, .bool false, .bool false, .int .i64 0, .slice none 0 0] (by omega)).trans HY2.out
              go_wp2_with (first | (refine wpList_store_row rfl 50 _ _ rfl w.heap.size #[.int .u32 (m2 : Int), .int .i64 (m3 : Int), .int .u32 (m4 : Int), .slice none 0 0, .bool false, .bool false, .slice none 0 0, .bool false, .bool false, .int .i64 0, .slice none 0 0] rfl rfl 50 _ HY1.out size27 rfl (one27 _ _ _ _ _ _ _ _ _ _ _ _ _ _ _ _ _) ?_) | (refine wpList_store_row rfl 37 _ _ rfl (w.heap.size + 1) #[.int .i64 0, .int .u8 0, .int .u8 0] rfl rfl 37 _ HYb.out size37' rfl (one37' _ _ _) ?_))
              have hr1 := (row_other (W7.setRow w.heap.size #[.int .u32 (m2 : Int), .int .i64 (m3 : Int), .int .u32 (m4 : Int), .slice none 0 0, .bool false, .bool false, .slice none 0 0, .bool false, .bool false, .int .i64 0, .slice none 0 0]) (w.heap.size + 1) w.heap.size #[.int .i64 0, .int .u8 0, .int .u8 0] (by omega)).trans (row_same W7 w.heap.size _ #[.int .u32 (m2 : Int), .int .i64 (m3 : Int), .int .u32 (m4 : Int), .slice none 0 0, .bool false, .bool false, .slice none 0 0, .bool false, .bool false, .int .i64 0, .slice none 0 0] HY1.out)
              have hr2 := row_same (W7.setRow w.heap.size #[.int .u32 (m2 : Int), .int .i64 (m3 : Int), .int .u32 (m4 : Int), .slice none 0 0, .bool false, .bool false, .slice none 0 0, .bool false, .bool false, .int .i64 0, .slice none 0 0]) (w.heap.size + 1) _ #[.int .i64 0, .int .u8 0, .int .u8 0] HYb.out
              have c0 := cl_row (i := 0) hr1 rfl
              have c1 := cl_row (i := 1) hr1 rfl
              have c2 := cl_row (i := 2) hr1 rfl
              have c3 := cl_row (i := 3) hr1 rfl
              have c4 := cl_row (i := 4) hr1 rfl
              have c5 := cl_row (i := 5) hr1 rfl
              have c6 := cl_row (i := 6) hr1 rfl
              have c7 := cl_row (i := 7) hr1 rfl
              have c8 := cl_row (i := 8) hr1 rfl
              have c9 := cl_row (i := 9) hr1 rfl
              have c10 := cl_row (i := 10) hr1 rfl
              have d0 := cl_row (i := 0) hr2 rfl
              have d1 := cl_row (i := 1) hr2 rfl
              have d2 := cl_row (i := 2) hr2 rfl
              refine bodyPost_ret (v := .tuple #[.agg #[.int .u32 (m2 : Int), .int .i64 (m3 : Int), .int .u32 (m4 : Int), .slice none 0 0, .bool false, .bool false, .slice none 0 0, .bool false, .bool false, .int .i64 0, .slice none 0 0], .agg #[.int .i64 0, .int .u8 0, .int .u8 0]]) (by simp [results, Tryz.results30, go_sem, c0, c1, c2, c3, c4, c5, c6, c7, c8, c9, c10, d0, d1, d2]) rfl ⟨by rw [HX.out]; rfl, below_setRow (below_setRow HB8.out (Nat.le_refl _) _) (by omega) _⟩
            · have HX : Hid (headI l = .error 0) := by unfold Hid; rw [HD.out, if_neg (by omega), if_neg h2, if_neg (by rw [h3]; decide), if_neg h4, if_pos h5]
              have e5 : ((ml : Int) == (m5 : Int)) = false := by simp; omega
              clear HD h3 h2 h4
              go_enter Tryz.func30, Tryz.ntmps30
              go_wp2_with fail
              generalize ((w.alloc (.cells #[.int .u32 0, .int .i64 0, .int .u32 0, .slice none 0 0, .bool false, .bool false, .slice none 0 0, .bool false, .bool false, .int .i64 0, .slice none 0 0] 50)).alloc (.cells #[.int .i64 0, .int .u8 0, .int .u8 0] 37)) = W1 at *
              refine Calls.mono (newR_any l W1) ?_
              rintro e W2 ⟨rfl, hrd, hW2⟩
              have hb2 : Below W1.heap.size W1 W2 := by rw [hW2]; exact (Below.refl _ _).alloc (Nat.le_refl _) _
              have HK2 : Hid (Rd W2 W1.heap.size l ∧ Below w.heap.size w W2 ∧ W2.heap[w.heap.size]? = some (.cells #[.int .u32 0, .int .i64 0, .int .u32 0, .slice none 0 0, .bool false, .bool false, .slice none 0 0, .bool false, .bool false, .int .i64 0, .slice none 0 0] 50 (0, 0)) ∧ W2.heap[w.heap.size + 1]? = some (.cells #[.int .i64 0, .int .u8 0, .int .u8 0] 37 (0, 0))) := ⟨hrd, HB1.out.trans (hb2.mono HB1.out.size), (hb2.block _ (lt_of_heap HZ1.out)).trans HZ1.out, (hb2.block _ (lt_of_heap HZ2.out)).trans HZ2.out⟩
              clear hrd hW2 hb2
              go_wp2_with fail
              refine Calls.mono (N1.out W2 _ HK2.out.1) ?_
              rintro e W3 ⟨rfl, hr, hb⟩
              have HK3 : Hid (Rd W3 W1.heap.size (l.drop 1) ∧ Below w.heap.size w W3 ∧ W3.heap[w.heap.size]? = some (.cells #[.int .u32 0, .int .i64 0, .int .u32 0, .slice none 0 0, .bool false, .bool false, .slice none 0 0, .bool false, .bool false, .int .i64 0, .slice none 0 0] 50 (0, 0)) ∧ W3.heap[w.heap.size + 1]? = some (.cells #[.int .i64 0, .int .u8 0, .int .u8 0] 37 (0, 0))) := ⟨hr, HK2.out.2.1.trans (hb.below (by have := HS1.out; omega) HK2.out.2.1.size), (hb.block _ (lt_of_heap HK2.out.2.2.1) (by have := HS1.out; omega)).trans HK2.out.2.2.1, (hb.block _ (lt_of_heap HK2.out.2.2.2) (by have := HS1.out; omega)).trans HK2.out.2.2.2⟩
              clear hr hb HK2
              go_wp2_with fail
              refine Calls.mono (N2.out W3 _ HK3.out.1) ?_
              rintro e W4 ⟨rfl, hr, hb⟩
              have HK4 : Hid (Rd W4 W1.heap.size (l.drop 3) ∧ Below w.heap.size w W4 ∧ W4.heap[w.heap.size]? = some (.cells #[.int .u32 0, .int .i64 0, .int .u32 0, .slice none 0 0, .bool false, .bool false, .slice none 0 0, .bool false, .bool false, .int .i64 0, .slice none 0 0] 50 (0, 0)) ∧ W4.heap[w.heap.size + 1]? = some (.cells #[.int .i64 0, .int .u8 0, .int .u8 0] 37 (0, 0))) := ⟨hr, HK3.out.2.1.trans (hb.below (by have := HS1.out; omega) HK3.out.2.1.size), (hb.block _ (lt_of_heap HK3.out.2.2.1) (by have := HS1.out; omega)).trans HK3.out.2.2.1, (hb.block _ (lt_of_heap HK3.out.2.2.2) (by have := HS1.out; omega)).trans HK3.out.2.2.2⟩
              clear hr hb HK3
              go_wp2_with fail
              refine Calls.mono (N3.out W4 _ HK4.out.1) ?_
              rintro e W5 ⟨rfl, hr, hb⟩
              have HK5 : Hid (Rd W5 W1.heap.size (l.drop 5) ∧ Below w.heap.size w W5 ∧ W5.heap[w.heap.size]? = some (.cells #[.int .u32 0, .int .i64 0, .int .u32 0, .slice none 0 0, .bool false, .bool false, .slice none 0 0, .bool false, .bool false, .int .i64 0, .slice none 0 0] 50 (0, 0)) ∧ W5.heap[w.heap.size + 1]? = some (.cells #[.int .i64 0, .int .u8 0, .int .u8 0] 37 (0, 0))) := ⟨hr, HK4.out.2.1.trans (hb.below (by have := HS1.out; omega) HK4.out.2.1.size), (hb.block _ (lt_of_heap HK4.out.2.2.1) (by have := HS1.out; omega)).trans HK4.out.2.2.1, (hb.block _ (lt_of_heap HK4.out.2.2.2) (by have := HS1.out; omega)).trans HK4.out.2.2.2⟩
              clear hr hb HK4
              go_wp2_with fail
              refine Calls.mono (N4.out W5 _ HK5.out.1) ?_
              rintro e W6 ⟨rfl, hr, hb⟩
              have HK6 : Hid (Rd W6 W1.heap.size (l.drop 9) ∧ Below w.heap.size w W6 ∧ W6.heap[w.heap.size]? = some (.cells #[.int .u32 0, .int .i64 0, .int .u32 0, .slice none 0 0, .bool false, .bool false, .slice none 0 0, .bool false, .bool false, .int .i64 0, .slice none 0 0] 50 (0, 0)) ∧ W6.heap[w.heap.size + 1]? = some (.cells #[.int .i64 0, .int .u8 0, .int .u8 0] 37 (0, 0))) := ⟨hr, HK5.out.2.1.trans (hb.below (by have := HS1.out; omega) HK5.out.2.1.size), (hb.block _ (lt_of_heap HK5.out.2.2.1) (by have := HS1.out; omega)).trans HK5.out.2.2.1, (hb.block _ (lt_of_heap HK5.out.2.2.2) (by have := HS1.out; omega)).trans HK5.out.2.2.2⟩
              clear hr hb HK5
              go_wp2_with fail
              refine Calls.mono (N5.out W6 _ HK6.out.1) ?_
              rintro e W7 ⟨rfl, hr, hb⟩
              have HK7 : Hid (Rd W7 W1.heap.size (l.drop 10) ∧ Below w.heap.size w W7 ∧ W7.heap[w.heap.size]? = some (.cells #[.int .u32 0, .int .i64 0, .int .u32 0, .slice none 0 0, .bool false, .bool false, .slice none 0 0, .bool false, .bool false, .int .i64 0, .slice none 0 0] 50 (0, 0)) ∧ W7.heap[w.heap.size + 1]? = some (.cells #[.int .i64 0, .int .u8 0, .int .u8 0] 37 (0, 0))) := ⟨hr, HK6.out.2.1.trans (hb.below (by have := HS1.out; omega) HK6.out.2.1.size), (hb.block _ (lt_of_heap HK6.out.2.2.1) (by have := HS1.out; omega)).trans HK6.out.2.2.1, (hb.block _ (lt_of_heap HK6.out.2.2.2) (by have := HS1.out; omega)).trans HK6.out.2.2.2⟩
              clear hr hb HK6
              go_wp2_with fail
              refine Calls.mono (KH.out W7) ?_
              rintro e wf ⟨rfl, hwf⟩
              obtain rfl : W7 = wf := hwf.symm
              clear hwf
              go_wp2_with fail
              refine Calls.mono (NL.out W7 _ HK7.out.1) ?_
              rintro e wf ⟨rfl, hwf⟩
              obtain rfl : W7 = wf := hwf.symm
              clear hwf
              go_wp2_with fail
              refine Calls.mono (reset_any 0 W7) ?_
              rintro e W8 ⟨rfl, hb8⟩
              unfold vdt
              have HB8 : Hid (Below w.heap.size w W8) := HK7.out.2.1.trans (hb8.mono HK7.out.2.1.size)
              have HY1 : Hid (W8.heap[w.heap.size]? = _) := (hb8.block _ (lt_of_heap HK7.out.2.2.1)).trans HK7.out.2.2.1
              have HY2 : Hid (W8.heap[w.heap.size + 1]? = _) := (hb8.block _ (lt_of_heap HK7.out.2.2.2)).trans HK7.out.2.2.2
              clear hb8 HK7
              have HYb : Hid ((W8.setRow w.heap.size #[.int .u32 0, .int .i64 0, .int .u32 0, .slice none 0 0, .bool false, .bool false, .slice none 0 0, .bool false, .bool false, .int .i64 0, .slice none 0 0]).heap[w.heap.size + 1]? = _) := (row_other W8 w.heap.size (w.heap.size + 1) #[.int .u32 0, .int .i64 0, .int .u32 0, .slice none 0 0, .bool false, .bool false, .slice none 0 0, .bool false, .bool false, .int .i64 0, .slice none 0 0] (by omega)).trans HY2.out
              go_wp2_with (first | (refine wpList_store_row rfl 50 _ _ rfl w.heap.size #[.int .u32 0, .int .i64 0, .int .u32 0, .slice none 0 0, .bool false, .bool false, .slice none 0 0, .bool false, .bool false, .int .i64 0, .slice none 0 0] rfl rfl 50 _ HY1.out size27 rfl (one27 _ _ _ _ _ _ _ _ _ _ _ _ _ _ _ _ _) ?_) | (refine wpList_store_row rfl 37 _ _ rfl (w.heap.size + 1) #[.int .i64 3, .int .u8 2, .int .u8 0] rfl rfl 37 _ HYb.out size37' rfl (one37' _ _ _) ?_))
              have hr1 := (row_other (W8.setRow w.heap.size #[.int .u32 0, .int .i64 0, .int .u32 0, .slice none 0 0, .bool false, .bool false, .slice none 0 0, .bool false, .bool false, .int .i64 0, .slice none 0 0]) (w.heap.size + 1) w.heap.size #[.int .i64 3, .int .u8 2, .int .u8 0] (by omega)).trans (row_same W8 w.heap.size _ #[.int .u32 0, .int .i64 0, .int .u32 0, .slice none 0 0, .bool false, .bool false, .slice none 0 0, .bool false, .bool false, .int .i64 0, .slice none 0 0] HY1.out)
              have hr2 := row_same (W8.setRow w.heap.size #[.int .u32 0, .int .i64 0, .int .u32 0, .slice none 0 0, .bool false, .bool false, .slice none 0 0, .bool false, .bool false, .int .i64 0, .slice none 0 0]) (w.heap.size + 1) _ #[.int .i64 3, .int .u8 2, .int .u8 0] HYb.out
              have c0 := cl_row (i := 0) hr1 rfl
              have c1 := cl_row (i := 1) hr1 rfl
              have c2 := cl_row (i := 2) hr1 rfl
              have c3 := cl_row (i := 3) hr1 rfl
              have c4 := cl_row (i := 4) hr1 rfl
              have c5 := cl_row (i := 5) hr1 rfl
              have c6 := cl_row (i := 6) hr1 rfl
              have c7 := cl_row (i := 7) hr1 rfl
              have c8 := cl_row (i := 8) hr1 rfl
              have c9 := cl_row (i := 9) hr1 rfl
              have c10 := cl_row (i := 10) hr1 rfl
              have d0 := cl_row (i := 0) hr2 rfl
              have d1 := cl_row (i := 1) hr2 rfl
              have d2 := cl_row (i := 2) hr2 rfl
              refine bodyPost_ret (v := .tuple #[.agg #[.int .u32 0, .int .i64 0, .int .u32 0, .slice none 0 0, .bool false, .bool false, .slice none 0 0, .bool false, .bool false, .int .i64 0, .slice none 0 0], .agg #[.int .i64 3, .int .u8 2, .int .u8 0]]) (by simp [results, Tryz.results30, go_sem, c0, c1, c2, c3, c4, c5, c6, c7, c8, c9, c10, d0, d1, d2]) rfl ⟨by rw [HX.out]; rfl, below_setRow (below_setRow HB8.out (Nat.le_refl _) _) (by omega) _⟩
    · have HX : Hid (headI l = .error 1) := by unfold Hid; rw [HD.out, if_pos h1]
      have e1 : ((m1 : Int) == 4) = false := by simp; omega
      clear HD
      go_enter Tryz.func30, Tryz.ntmps30
      go_wp2_with fail
      generalize ((w.alloc (.cells #[.int .u32 0, .int .i64 0, .int .u32 0, .slice none 0 0, .bool false, .bool false, .slice none 0 0, .bool false, .bool false, .int .i64 0, .slice none 0 0] 50)).alloc (.cells #[.int .i64 0, .int .u8 0, .int .u8 0] 37)) = W1 at *
      refine Calls.mono (newR_any l W1) ?_
      rintro e W2 ⟨rfl, hrd, hW2⟩
      have hb2 : Below W1.heap.size W1 W2 := by rw [hW2]; exact (Below.refl _ _).alloc (Nat.le_refl _) _
      have HK2 : Hid (Rd W2 W1.heap.size l ∧ Below w.heap.size w W2 ∧ W2.heap[w.heap.size]? = some (.cells #[.int .u32 0, .int .i64 0, .int .u32 0, .slice none 0 0, .bool false, .bool false, .slice none 0 0, .bool false, .bool false, .int .i64 0, .slice none 0 0] 50 (0, 0)) ∧ W2.heap[w.heap.size + 1]? = some (.cells #[.int .i64 0, .int .u8 0, .int .u8 0] 37 (0, 0))) := ⟨hrd, HB1.out.trans (hb2.mono HB1.out.size), (hb2.block _ (lt_of_heap HZ1.out)).trans HZ1.out, (hb2.block _ (lt_of_heap HZ2.out)).trans HZ2.out⟩
      clear hrd hW2 hb2
      go_wp2_with fail
      refine Calls.mono (N1.out W2 _ HK2.out.1) ?_
      rintro e W3 ⟨rfl, hr, hb⟩
      have HK3 : Hid (Rd W3 W1.heap.size (l.drop 1) ∧ Below w.heap.size w W3 ∧ W3.heap[w.heap.size]? = some (.cells #[.int .u32 0, .int .i64 0, .int .u32 0, .slice none 0 0, .bool false, .bool false, .slice none 0 0, .bool false, .bool false, .int .i64 0, .slice none 0 0] 50 (0, 0)) ∧ W3.heap[w.heap.size + 1]? = some (.cells #[.int .i64 0, .int .u8 0, .int .u8 0] 37 (0, 0))) := ⟨hr, HK2.out.2.1.trans (hb.below (by have := HS1.out; omega) HK2.out.2.1.size), (hb.block _ (lt_of_heap HK2.out.2.2.1) (by have := HS1.out; omega)).trans HK2.out.2.2.1, (hb.block _ (lt_of_heap HK2.out.2.2.2) (by have := HS1.out; omega)).trans HK2.out.2.2.2⟩
      clear hr hb HK2
      go_wp2_with fail
      refine Calls.mono (N2.out W3 _ HK3.out.1) ?_
      rintro e W4 ⟨rfl, hr, hb⟩
      have HK4 : Hid (Rd W4 W1.heap.size (l.drop 3) ∧ Below w.heap.size w W4 ∧ W4.heap[w.heap.size]? = some (.cells #[.int .u32 0, .int .i64 0, .int .u32 0, .slice none 0 0, .bool false, .bool false, .slice none 0 0, .bool false, .bool false, .int .i64 0, .slice none 0 0] 50 (0, 0)) ∧ W4.heap[w.heap.size + 1]? = some (.cells #[.int .i64 0, .int .u8 0, .int .u8 0] 37 (0, 0))) := ⟨hr, HK3.out.2.1.trans (hb.below (by have := HS1.out; omega) HK3.out.2.1.size), (hb.block _ (lt_of_heap HK3.out.2.2.1) (by have := HS1.out; omega)).trans HK3.out.2.2.1, (hb.block _ (lt_of_heap HK3.out.2.2.2) (by have := HS1.out; omega)).trans HK3.out.2.2.2⟩
      clear hr hb HK3
      go_wp2_with fail
      refine Calls.mono (N3.out W4 _ HK4.out.1) ?_
      rintro e W5 ⟨rfl, hr, hb⟩
      have HK5 : Hid (Rd W5 W1.heap.size (l.drop 5) ∧ Below w.heap.size w W5 ∧ W5.heap[w.heap.size]? = some (.cells #[.int .u32 0, .int .i64 0, .int .u32 0, .slice none 0 0, .bool false, .bool false, .slice none 0 0, .bool false, .bool false, .int .i64 0, .slice none 0 0] 50 (0, 0)) ∧ W5.heap[w.heap.size + 1]? = some (.cells #[.int .i64 0, .int .u8 0, .int .u8 0] 37 (0, 0))) := ⟨hr, HK4.out.2.1.trans (hb.below (by have := HS1.out; omega) HK4.out.2.1.size), (hb.block _ (lt_of_heap HK4.out.2.2.1) (by have := HS1.out; omega)).trans HK4.out.2.2.1, (hb.block _ (lt_of_heap HK4.out.2.2.2) (by have := HS1.out; omega)).trans HK4.out.2.2.2⟩
      clear hr hb HK4
      go_wp2_with fail
      refine Calls.mono (N4.out W5 _ HK5.out.1) ?_
      rintro e W6 ⟨rfl, hr, hb⟩
      have HK6 : Hid (Rd W6 W1.heap.size (l.drop 9) ∧ Below w.heap.size w W6 ∧ W6.heap[w.heap.size]? = some (.cells #[.int .u32 0, .int .i64 0, .int .u32 0, .slice none 0 0, .bool false, .bool false, .slice none 0 0, .bool false, .bool false, .int .i64 0, .slice none 0 0] 50 (0, 0)) ∧ W6.heap[w.heap.size + 1]? = some (.cells #[.int .i64 0, .int .u8 0, .int .u8 0] 37 (0, 0))) := ⟨hr, HK5.out.2.1.trans (hb.below (by have := HS1.out; omega) HK5.out.2.1.size), (hb.block _ (lt_of_heap HK5.out.2.2.1) (by have := HS1.out; omega)).trans HK5.out.2.2.1, (hb.block _ (lt_of_heap HK5.out.2.2.2) (by have := HS1.out; omega)).trans HK5.out.2.2.2⟩
      clear hr hb HK5
      go_wp2_with fail
      refine Calls.mono (N5.out W6 _ HK6.out.1) ?_
      rintro e W7 ⟨rfl, hr, hb⟩
      have HK7 : Hid (Rd W7 W1.heap.size (l.drop 10) ∧ Below w.heap.size w W7 ∧ W7.heap[w.heap.size]? = some (.cells #[.int .u32 0, .int .i64 0, .int .u32 0, .slice none 0 0, .bool false, .bool false, .slice none 0 0, .bool false, .bool false, .int .i64 0, .slice none 0 0] 50 (0, 0)) ∧ W7.heap[w.heap.size + 1]? = some (.cells #[.int .i64 0, .int .u8 0, .int .u8 0] 37 (0, 0))) := ⟨hr, HK6.out.2.1.trans (hb.below (by have := HS1.out; omega) HK6.out.2.1.size), (hb.block _ (lt_of_heap HK6.out.2.2.1) (by have := HS1.out; omega)).trans HK6.out.2.2.1, (hb.block _ (lt_of_heap HK6.out.2.2.2) (by have := HS1.out; omega)).trans HK6.out.2.2.2⟩
      clear hr hb HK6
      go_wp2_with fail
      refine Calls.mono (reset_any 1 W7) ?_
      rintro e W8 ⟨rfl, hb8⟩
      unfold vdt
      have HB8 : Hid (Below w.heap.size w W8) := HK7.out.2.1.trans (hb8.mono HK7.out.2.1.size)
      have HY1 : Hid (W8.heap[w.heap.size]? = _) := (hb8.block _ (lt_of_heap HK7.out.2.2.1)).trans HK7.out.2.2.1
      have HY2 : Hid (W8.heap[w.heap.size + 1]? = _) := (hb8.block _ (lt_of_heap HK7.out.2.2.2)).trans HK7.out.2.2.2
      clear hb8 HK7
      have HYb : Hid ((W8.setRow w.heap.size #[.int .u32 0, .int .i64 0, .int .u32 0, .slice none 0 0, .bool false, .bool false, .slice none 0 0, .bool false, .bool false, .int .i64 0, .slice none 0 0]).heap[w.heap.size + 1]? = _) := (row_other W8 w.heap.size (w.heap.size + 1) #[.int .u32 0, .int .i64 0, .int .u32 0, .slice none 0 0, .bool false, .bool false, .slice none 0 0, .bool false, .bool false, .int .i64 0, .slice none 0 0] (by omega)).trans HY2.out
      go_wp2_with (first | (refine wpList_store_row rfl 50 _ _ rfl w.heap.size #[.int .u32 0, .int .i64 0, .int .u32 0, .slice none 0 0, .bool false, .bool false, .slice none 0 0, .bool false, .bool false, .int .i64 0, .slice none 0 0] rfl rfl 50 _ HY1.out size27 rfl (one27 _ _ _ _ _ _ _ _ _ _ _ _ _ _ _ _ _) ?_) | (refine wpList_store_row rfl 37 _ _ rfl (w.heap.size + 1) #[.int .i64 3, .int .u8 2, .int .u8 1] rfl rfl 37 _ HYb.out size37' rfl (one37' _ _ _) ?_))
      have hr1 := (row_other (W8.setRow w.heap.size #[.int .u32 0, .int .i64 0, .int .u32 0, .slice none 0 0, .bool false, .bool false, .slice none 0 0, .bool false, .bool false, .int .i64 0, .slice none 0 0]) (w.heap.size + 1) w.heap.size #[.int .i64 3, .int .u8 2, .int .u8 1] (by omega)).trans (row_same W8 w.heap.size _ #[.int .u32 0, .int .i64 0, .int .u32 0, .slice none 0 0, .bool false, .bool false, .slice none 0 0, .bool false, .bool false, .int .i64 0, .slice none 0 0] HY1.out)
      have hr2 := row_same (W8.setRow w.heap.size #[.int .u32 0, .int .i64 0, .int .u32 0, .slice none 0 0, .bool false, .bool false, .slice none 0 0, .bool false, .bool false, .int .i64 0, .slice none 0 0]) (w.heap.size + 1) _ #[.int .i64 3, .int .u8 2, .int .u8 1] HYb.out
      have c0 := cl_row (i := 0) hr1 rfl
      have c1 := cl_row (i := 1) hr1 rfl
      have c2 := cl_row (i := 2) hr1 rfl
      have c3 := cl_row (i := 3) hr1 rfl
      have c4 := cl_row (i := 4) hr1 rfl
      have c5 := cl_row (i := 5) hr1 rfl
      have c6 := cl_row (i := 6) hr1 rfl
      have c7 := cl_row (i := 7) hr1 rfl
      have c8 := cl_row (i := 8) hr1 rfl
      have c9 := cl_row (i := 9) hr1 rfl
      have c10 := cl_row (i := 10) hr1 rfl
      have d0 := cl_row (i := 0) hr2 rfl
      have d1 := cl_row (i := 1) hr2 rfl
      have d2 := cl_row (i := 2) hr2 rfl
      refine bodyPost_ret (v := .tuple #[.agg #[.int .u32 0, .int .i64 0, .int .u32 0, .slice none 0 0, .bool false, .bool false, .slice none 0 0, .bool false, .bool false, .int .i64 0, .slice none 0 0], .agg #[.int .i64 3, .int .u8 2, .int .u8 1]]) (by simp [results, Tryz.results30, go_sem, c0, c1, c2, c3, c4, c5, c6, c7, c8, c9, c10, d0, d1, d2]) rfl ⟨by rw [HX.out]; rfl, below_setRow (below_setRow HB8.out (Nat.le_refl _) _) (by omega) _⟩
end Go.Proofs.YtfhapjhkjdifjaaGreatDoor
