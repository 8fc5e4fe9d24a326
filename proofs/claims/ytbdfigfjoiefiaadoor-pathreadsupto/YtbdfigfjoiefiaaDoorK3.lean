/-
  The reference's Text.
-/
import Derived.Test.YtbdfigfjoiefiaaDoorK1
import Derived.Test.YtbdfigfjoiefiaaDoorF3
namespace Go.Proofs.YtbdfigfjoiefiaaDoor
open Go.RowKit
theorem join_snoc (xs : List (List UInt8)) (x : List UInt8) : Lib.join (xs ++ [x]) [32] = (if xs = [] then [] else Lib.join xs [32] ++ [32]) ++ x := by
  cases xs with
  | nil => simp [Lib.join_one]
  | cons y r =>
    rw [List.cons_append, Lib.join_cons, Lib.join_cons]
    simp [Lib.joinTail]
/-- The text of the first n segments. -/
def preT (L : List Sg) (n : Nat) : List UInt8 := Lib.join ((L.take n).map segT) [32]
def preD (l : List Nat) (n : Nat) : List UInt8 := Lib.join ((l.take n).map Lib.decDigits) [32]
theorem preT_succ (L : List Sg) (n : Nat) (h : n < L.length) : preT L (n + 1) = (if n = 0 then [] else preT L n ++ [32]) ++ segT L[n] := by
  unfold preT
  rw [take_snoc L n h, List.map_append, List.map_singleton, join_snoc]
  by_cases hn : n = 0
  · subst hn; simp
  · rw [if_neg hn, if_neg (by intro he; have := congrArg List.length he; rw [List.length_map, List.length_take, List.length_nil] at this; omega)]
theorem preD_succ (l : List Nat) (n : Nat) (h : n < l.length) : preD l (n + 1) = (if n = 0 then [] else preD l n ++ [32]) ++ Lib.decDigits l[n] := by
  unfold preD
  rw [take_snoc l n h, List.map_append, List.map_singleton, join_snoc]
  by_cases hn : n = 0
  · subst hn; simp
  · rw [if_neg hn, if_neg (by intro he; have := congrArg List.length he; rw [List.length_map, List.length_take, List.length_nil] at this; omega)]
theorem okPath_take {L : List Sg} (h : okPath L = true) (n : Nat) : okPath (L.take n) = true := by
  simp only [okPath, Bool.and_eq_true, decide_eq_true_eq, List.all_eq_true] at *
  exact ⟨by simp; omega, fun s hs => h.2 s (List.mem_of_mem_take hs)⟩
theorem preT_le {L : List Sg} (h : okPath L = true) (hx : ∀ s ∈ L, ∀ x ∈ s.2, x < 4294967296) (n : Nat) : (preT L n).length ≤ 85728 :=
  texts_le (okPath_take h n) (fun s hs => hx s (List.mem_of_mem_take hs))
theorem preD_le (l : List Nat) (h : ∀ x ∈ l, x < 4294967296) (hl : l.length ≤ 255) (n : Nat) : (preD l n).length ≤ 5355 :=
  digs_le (l.take n) (fun x hx => h x (List.mem_of_mem_take hx)) (by simp; omega)
theorem add_l (W : World) (a b : List UInt8) (h : a.length + b.length ≤ 1000000) : (Op.stringOp .add ⟨a.toArray⟩ ⟨b.toArray⟩).run Tryd.prog W = .ok (.string ⟨(a ++ b).toArray⟩) W := by
  rw [add_str W _ _ (by show a.length + b.length ≤ _; omega)]
  congr 2
theorem opn_at (k : Nat) (h1 : 1 ≤ k) (h4 : k ≤ 4) : (⟨#[32, 123, 60, 40, 91]⟩ : ByteArray).extract k (k + 1) = ⟨[opn k].toArray⟩ := by
  have : k = 1 ∨ k = 2 ∨ k = 3 ∨ k = 4 := by omega
  rcases this with rfl | rfl | rfl | rfl <;> decide +kernel
theorem shut_at (k : Nat) (h1 : 1 ≤ k) (h4 : k ≤ 4) : (⟨#[32, 125, 62, 41, 93]⟩ : ByteArray).extract k (k + 1) = ⟨[shut k].toArray⟩ := by
  have : k = 1 ∨ k = 2 ∨ k = 3 ∨ k = 4 := by omega
  rcases this with rfl | rfl | rfl | rfl <;> decide +kernel
theorem rtext_bad (v : Value) (L : List Sg) (w : World) (h : PathAt w v L) (hok : okPath L = false) :
    Calls Tryd.prog 32 #[v] w fun e w' => e = .returned (.tuple #[.string ⟨#[]⟩, .int .i64 2]) ∧ Below w.heap.size w w' := by
  have H : Hid (PathAt _ _ _) := h
  obtain ⟨ad, b, off, cap, rfl, h2⟩ := h
  clear h2
  go_enter Tryd.func32, Tryd.ntmps32
  go_wp2_with fail
  refine (rcheck_any _ L w H.out).mono ?_
  rintro e w1 ⟨rfl, rfl⟩
  rw [show chkOf L = 2 by simp [chkOf, hok]]
  go_wp2
  go_ret2
  exact ⟨rfl, Below.refl _ _⟩
set_option maxRecDepth 100000 in
set_option maxHeartbeats 1600000 in
theorem rtext_any (v : Value) (L : List Sg) (w : World) (h : PathAt w v L) (hok : okPath L = true) (ht : Tabs w) :
    Calls Tryd.prog 32 #[v] w fun e w' => e = .returned (.tuple #[.string ⟨(textOf L).toArray⟩, .int .i64 0]) ∧ Below w.heap.size w w' := by
  have H : Hid (PathAt _ _ _) := h
  have HLT : Hid (_ : Prop) := h.lt
  obtain ⟨ad, b, off, cap, rfl, had, ⟨_, hl⟩, hr⟩ := h
  have HK : Hid (okPath L = true) := hok
  have h16 := okPath_len hok
  have HR : Hid (RowS _ _ _ _) := hr
  have HT : Hid (Tabs _) := ht
  clear hr ht hok
  by_cases hnil : L.length = 0
  · have hL : L = [] := List.length_eq_zero_iff.mp hnil
    subst hL
    go_enter Tryd.func32, Tryd.ntmps32
    go_wp2_with fail
    refine (rcheck_any _ [] w H.out).mono ?_
    rintro e w1 ⟨rfl, rfl⟩
    rw [show chkOf [] = 0 by rfl]
    go_wp2
    go_ret2
    exact ⟨rfl, Below.refl _ _⟩
  · have hz0 : ((L.length : Int) == 0) = false := by rw [beq_eq_false_iff_ne]; omega
    obtain rfl : ad = some ⟨b, off, none⟩ := by rcases had with h | h; exact h; omega
    clear had
    go_enter Tryd.func32, Tryd.ntmps32
    go_wp2_with fail
    refine (rcheck_any _ L w H.out).mono ?_
    rintro e w1 ⟨rfl, hw⟩
    obtain rfl : w = w1 := hw.symm
    clear hw
    rw [show chkOf L = 0 by simp [chkOf, HK.out]]
    go_wp2
    go_loopw [6, 7] (fun t i wr => ∃ n : Nat, n ≤ L.length ∧ i = .int .i64 n ∧ t = .string ⟨(preT L n).toArray⟩ ∧ Below w.heap.size w wr) (fun _ i _ => L.length - (intOf i).toNat)
    case atStart => exact ⟨0, Nat.zero_le _, rfl, rfl, Below.refl _ _⟩
    case round =>
      obtain ⟨n, hn, rfl, rfl, hb⟩ := hrel
      have HB : Hid (Below _ _ _) := hb
      by_cases hlt : n < L.length
      · obtain ⟨b0, va, b1, hva⟩ := HR.out n hlt
        have c0 := below_cell hb b0
        have hs := (okSeg_iff _).mp (okPath_seg HK.out n hlt)
        have HX : Hid (preT L (n + 1) = (if n = 0 then [] else preT L n ++ [32]) ++ segT L[n]) := preT_succ L n hlt
        have hle := preT_le HK.out HLT.out n
        have HE0 : Hid (n = 0 → preT L n = []) := fun h => by subst h; simp [preT, Lib.join_nil]
        have HAL : Hid (∀ x ∈ L[n].2, x < 4294967296) := HLT.out _ (List.getElem_mem hlt)
        clear hb
        generalize L[n] = s at *
        generalize preT L n = E at *
        obtain ⟨kd, av⟩ := s
        obtain ⟨hs1, hs4, _, hs255, _⟩ := hs
        simp only at b0 c0 hs1 hs4 hs255 hva
        obtain ⟨k, rfl⟩ : ∃ k : Nat, kd = k := ⟨kd.toNat, by omega⟩
        obtain ⟨ad2, b2, off2, cap2, rfl, had2, _, hr2⟩ := id hva
        have HRU : Hid (RowU w b2 off2 av) := hr2
        have HA2 : Hid (ad2 = some ⟨b2, off2, none⟩ ∨ av.length = 0) := had2
        have B0 : Hid (w.cell? ⟨b, off + n * 2, none⟩ = some (.int .i64 (k : Int))) := b0
        have B1 : Hid (w.cell? ⟨b, off + n * 2 + 1, none⟩ = some (.slice ad2 av.length cap2)) := b1
        clear hva hr2 had2 b0 b1
        have hk1 : 1 ≤ k := by omega
        have hk4 : k ≤ 4 := by omega
        have ho := opn_at k hk1 hk4
        have hsl : ∀ W, (Instr.slice 9 (.string ⟨#[32, 123, 60, 40, 91]⟩) (some (.int .i64 (k : Int))) (some (.int .i64 ((k : Int) + 1))) none).run Tryd.prog W = .ok (.string ⟨[opn k].toArray⟩) W := fun W => by
          rw [run_slice_string W 9 _ .i64 .i64 (k : Int) ((k : Int) + 1) Tryd.underlying9 (by omega) (by omega) (by show _ ≤ (5 : Int); omega), show (k : Int).toNat = k by omega, show ((k : Int) + 1).toNat = k + 1 by omega, ho]
        clear ho
        by_cases hn0 : 0 < n
        · have hn0' : 0 < (n : Int) := by omega
          have a1 : ∀ W, (Op.stringOp .add ⟨E.toArray⟩ ⟨#[32]⟩).run Tryd.prog W = .ok (.string ⟨(E ++ [32]).toArray⟩) W := fun W => add_l W E [32] (by simp; omega)
          have HZ : Hid (preT L (n + 1) = (E ++ [32]) ++ segT ((k : Int), av)) := by unfold Hid; rw [HX.out, if_neg (by omega)]
          have a2 : ∀ W, (Op.stringOp .add ⟨((E ++ [32])).toArray⟩ ⟨[opn k].toArray⟩).run Tryd.prog W = .ok (.string ⟨(E ++ [32, opn k]).toArray⟩) W := fun W => by rw [add_l W _ _ (by simp; omega)]; simp
          go_wp2
          go_region
          go_wp2
          clear a2 hsl a1 c0
          have hZl : (E ++ [32, opn k]).length ≤ 90000 := by simp; omega
          have HZ2 : Hid (preT L (n + 1) = (E ++ [32, opn k]) ++ preD av av.length ++ [shut k]) := by unfold Hid; rw [HZ.out]; simp [segT, preD]
          generalize E ++ [32, opn k] = Z at *
          go_loopw [6, 8] (fun t i wr2 => ∃ j : Nat, j ≤ av.length ∧ i = .int .i64 j ∧ t = .string ⟨(Z ++ preD av j).toArray⟩ ∧ Below w.heap.size w wr2) (fun _ i _ => av.length - (intOf i).toNat)
          case atStart => exact ⟨0, Nat.zero_le _, rfl, by simp [preD, Lib.join_nil], HB.out.drew⟩
          case round =>
            obtain ⟨j, hj, rfl, rfl, hb⟩ := hrel
            have HB4 : Hid (Below _ _ _) := hb
            have c1 := below_cell hb B1.out
            have c0 := below_cell hb B0.out
            have hdl := preD_le av HAL.out hs255 j
            by_cases hlt2 : j < av.length
            · obtain rfl : ad2 = some ⟨b2, off2, none⟩ := by rcases HA2.out with h | h; exact h; omega
              have hc := ((HRU.out.below hb) j hlt2).1
              have hx := (HRU.out j hlt2).2
              have HY : Hid (preD av (j + 1) = (if j = 0 then [] else preD av j ++ [32]) ++ Lib.decDigits av[j]) := preD_succ av j hlt2
              have hdd := dig_le av[j] (by omega)
              have HD0 : Hid (j = 0 → preD av j = []) := fun h => by subst h; simp [preD, Lib.join_nil]
              clear hb c0
              generalize av[j] = x at *
              have hwx : IntKind.u64.wrap (x : Int) = x := by rw [IntKind.wrap_u64]; omega
              have hYl : (Z ++ preD av j).length ≤ 100000 := by simp; omega
              by_cases hj0 : j = 0
              · have hj0' : ¬ ((j : Int) > 0) := by omega
                have HY2 : Hid (Z ++ preD av (j + 1) = Z ++ preD av j ++ Lib.decDigits x) := by unfold Hid; rw [HY.out, if_pos hj0, HD0.out hj0]; simp
                clear hj0
                clear HY HD0
                generalize Z ++ preD av j = Y at *
                have a4 : ∀ W, (Op.stringOp .add ⟨(Y).toArray⟩ ⟨(Lib.decDigits x).toArray⟩).run Tryd.prog W = .ok (.string ⟨(Y ++ Lib.decDigits x).toArray⟩) W := fun W => add_l W _ _ (by omega)
                go_wp2_with fail
                refine (fmt_any x (by omega) _ (HT.out.below HB4.out)).mono ?_
                rintro e w5 ⟨rfl, hb5⟩
                have HB5 : Hid (Below w.heap.size w w5) := HB4.out.trans (hb5.mono HB4.out.size)
                clear hb5 hc c1
                go_wp2
                go_roundw
                case rel => exact ⟨j + 1, by omega, by go_num, by rw [HY2.out], HB5.out⟩
                case measure => simp [intOf]; omega
              · have hj0' : 0 < (j : Int) := by omega
                have HY2 : Hid (Z ++ preD av (j + 1) = Z ++ preD av j ++ 32 :: Lib.decDigits x) := by unfold Hid; rw [HY.out, if_neg hj0]; simp
                clear HY HD0
                generalize Z ++ preD av j = Y at *
                have a3 : ∀ W, (Op.stringOp .add ⟨Y.toArray⟩ ⟨#[32]⟩).run Tryd.prog W = .ok (.string ⟨(Y ++ [32]).toArray⟩) W := fun W => add_l W Y [32] (by simp; omega)
                have a4 : ∀ W, (Op.stringOp .add ⟨((Y ++ [32])).toArray⟩ ⟨(Lib.decDigits x).toArray⟩).run Tryd.prog W = .ok (.string ⟨(Y ++ 32 :: Lib.decDigits x).toArray⟩) W := fun W => by rw [add_l W _ _ (by simp; omega)]; simp
                go_wp2_with fail
                refine (fmt_any x (by omega) _ (HT.out.below HB4.out)).mono ?_
                rintro e w5 ⟨rfl, hb5⟩
                have HB5 : Hid (Below w.heap.size w w5) := HB4.out.trans (hb5.mono HB4.out.size)
                clear hb5 hc c1
                go_wp2
                go_roundw
                case rel => exact ⟨j + 1, by omega, by go_num, by rw [HY2.out], HB5.out⟩
                case measure => simp [intOf]; omega
            · obtain rfl : j = av.length := by omega
              have HZ3 : Hid (preT L (n + 1) = (Z ++ preD av av.length) ++ [shut k]) := HZ2.out
              have hYl : (Z ++ preD av av.length).length ≤ 100000 := by simp; omega
              clear HZ2 hb
              generalize Z ++ preD av av.length = Y at *
              have a5 : ∀ W, (Op.stringOp .add ⟨Y.toArray⟩ ⟨[shut k].toArray⟩).run Tryd.prog W = .ok (.string ⟨(Y ++ [shut k]).toArray⟩) W := fun W => add_l W _ _ (by simp; omega)
              have hsl : ∀ W, (Instr.slice 9 (.string ⟨#[32, 125, 62, 41, 93]⟩) (some (.int .i64 (k : Int))) (some (.int .i64 ((k : Int) + 1))) none).run Tryd.prog W = .ok (.string ⟨[shut k].toArray⟩) W := fun W => by
                rw [run_slice_string W 9 _ .i64 .i64 (k : Int) ((k : Int) + 1) Tryd.underlying9 (by omega) (by omega) (by show _ ≤ (5 : Int); omega), show (k : Int).toNat = k by omega, show ((k : Int) + 1).toNat = k + 1 by omega, shut_at k hk1 hk4]
              go_wp2
              go_region
              go_wp2
              go_roundw
              case rel => exact ⟨n + 1, by omega, by go_num, by rw [HZ3.out], HB4.out.drew⟩
              case measure => simp [intOf]; omega
        · have hn0' : ¬ ((n : Int) > 0) := by omega
          have HZ : Hid (preT L (n + 1) = E ++ segT ((k : Int), av)) := by unfold Hid; rw [HX.out, if_pos (by omega), HE0.out (by omega)]
          clear hn0
          have a2 : ∀ W, (Op.stringOp .add ⟨(E).toArray⟩ ⟨[opn k].toArray⟩).run Tryd.prog W = .ok (.string ⟨(E ++ [opn k]).toArray⟩) W := fun W => add_l W _ _ (by simp; omega)
          go_wp2
          go_region
          go_wp2
          clear a2 hsl c0
          have hZl : (E ++ [opn k]).length ≤ 90000 := by simp; omega
          have HZ2 : Hid (preT L (n + 1) = (E ++ [opn k]) ++ preD av av.length ++ [shut k]) := by unfold Hid; rw [HZ.out]; simp [segT, preD]
          generalize E ++ [opn k] = Z at *
          go_loopw [6, 8] (fun t i wr2 => ∃ j : Nat, j ≤ av.length ∧ i = .int .i64 j ∧ t = .string ⟨(Z ++ preD av j).toArray⟩ ∧ Below w.heap.size w wr2) (fun _ i _ => av.length - (intOf i).toNat)
          case atStart => exact ⟨0, Nat.zero_le _, rfl, by simp [preD, Lib.join_nil], HB.out.drew⟩
          case round =>
            obtain ⟨j, hj, rfl, rfl, hb⟩ := hrel
            have HB4 : Hid (Below _ _ _) := hb
            have c1 := below_cell hb B1.out
            have c0 := below_cell hb B0.out
            have hdl := preD_le av HAL.out hs255 j
            by_cases hlt2 : j < av.length
            · obtain rfl : ad2 = some ⟨b2, off2, none⟩ := by rcases HA2.out with h | h; exact h; omega
              have hc := ((HRU.out.below hb) j hlt2).1
              have hx := (HRU.out j hlt2).2
              have HY : Hid (preD av (j + 1) = (if j = 0 then [] else preD av j ++ [32]) ++ Lib.decDigits av[j]) := preD_succ av j hlt2
              have hdd := dig_le av[j] (by omega)
              have HD0 : Hid (j = 0 → preD av j = []) := fun h => by subst h; simp [preD, Lib.join_nil]
              clear hb c0
              generalize av[j] = x at *
              have hwx : IntKind.u64.wrap (x : Int) = x := by rw [IntKind.wrap_u64]; omega
              have hYl : (Z ++ preD av j).length ≤ 100000 := by simp; omega
              by_cases hj0 : j = 0
              · have hj0' : ¬ ((j : Int) > 0) := by omega
                have HY2 : Hid (Z ++ preD av (j + 1) = Z ++ preD av j ++ Lib.decDigits x) := by unfold Hid; rw [HY.out, if_pos hj0, HD0.out hj0]; simp
                clear hj0
                clear HY HD0
                generalize Z ++ preD av j = Y at *
                have a4 : ∀ W, (Op.stringOp .add ⟨(Y).toArray⟩ ⟨(Lib.decDigits x).toArray⟩).run Tryd.prog W = .ok (.string ⟨(Y ++ Lib.decDigits x).toArray⟩) W := fun W => add_l W _ _ (by omega)
                go_wp2_with fail
                refine (fmt_any x (by omega) _ (HT.out.below HB4.out)).mono ?_
                rintro e w5 ⟨rfl, hb5⟩
                have HB5 : Hid (Below w.heap.size w w5) := HB4.out.trans (hb5.mono HB4.out.size)
                clear hb5 hc c1
                go_wp2
                go_roundw
                case rel => exact ⟨j + 1, by omega, by go_num, by rw [HY2.out], HB5.out⟩
                case measure => simp [intOf]; omega
              · have hj0' : 0 < (j : Int) := by omega
                have HY2 : Hid (Z ++ preD av (j + 1) = Z ++ preD av j ++ 32 :: Lib.decDigits x) := by unfold Hid; rw [HY.out, if_neg hj0]; simp
                clear HY HD0
                generalize Z ++ preD av j = Y at *
                have a3 : ∀ W, (Op.stringOp .add ⟨Y.toArray⟩ ⟨#[32]⟩).run Tryd.prog W = .ok (.string ⟨(Y ++ [32]).toArray⟩) W := fun W => add_l W Y [32] (by simp; omega)
                have a4 : ∀ W, (Op.stringOp .add ⟨((Y ++ [32])).toArray⟩ ⟨(Lib.decDigits x).toArray⟩).run Tryd.prog W = .ok (.string ⟨(Y ++ 32 :: Lib.decDigits x).toArray⟩) W := fun W => by rw [add_l W _ _ (by simp; omega)]; simp
                go_wp2_with fail
                refine (fmt_any x (by omega) _ (HT.out.below HB4.out)).mono ?_
                rintro e w5 ⟨rfl, hb5⟩
                have HB5 : Hid (Below w.heap.size w w5) := HB4.out.trans (hb5.mono HB4.out.size)
                clear hb5 hc c1
                go_wp2
                go_roundw
                case rel => exact ⟨j + 1, by omega, by go_num, by rw [HY2.out], HB5.out⟩
                case measure => simp [intOf]; omega
            · obtain rfl : j = av.length := by omega
              have HZ3 : Hid (preT L (n + 1) = (Z ++ preD av av.length) ++ [shut k]) := HZ2.out
              have hYl : (Z ++ preD av av.length).length ≤ 100000 := by simp; omega
              clear HZ2 hb
              generalize Z ++ preD av av.length = Y at *
              have a5 : ∀ W, (Op.stringOp .add ⟨Y.toArray⟩ ⟨[shut k].toArray⟩).run Tryd.prog W = .ok (.string ⟨(Y ++ [shut k]).toArray⟩) W := fun W => add_l W _ _ (by simp; omega)
              have hsl : ∀ W, (Instr.slice 9 (.string ⟨#[32, 125, 62, 41, 93]⟩) (some (.int .i64 (k : Int))) (some (.int .i64 ((k : Int) + 1))) none).run Tryd.prog W = .ok (.string ⟨[shut k].toArray⟩) W := fun W => by
                rw [run_slice_string W 9 _ .i64 .i64 (k : Int) ((k : Int) + 1) Tryd.underlying9 (by omega) (by omega) (by show _ ≤ (5 : Int); omega), show (k : Int).toNat = k by omega, show ((k : Int) + 1).toNat = k + 1 by omega, shut_at k hk1 hk4]
              go_wp2
              go_region
              go_wp2
              go_roundw
              case rel => exact ⟨n + 1, by omega, by go_num, by rw [HZ3.out], HB4.out.drew⟩
              case measure => simp [intOf]; omega
      · obtain rfl : n = L.length := by omega
        have HX : Hid (textOf L = preT L L.length) := by unfold Hid textOf preT; rw [if_neg (by intro h; rw [h] at hnil; exact hnil rfl), List.take_length]
        clear hb
        go_wp2
        go_ret2
        exact ⟨ret2s (by rw [HX.out]), HB.out⟩
end Go.Proofs.YtbdfigfjoiefiaaDoor
