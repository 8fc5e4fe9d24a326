/-
  The reference's Decode: the worth of bytes, all segments of a text of bytes (plain), a segment in the making.
-/
import Derived.Test.YtbdfigfjoiefiaaDoorVA
import Derived.Test.YtbdfigfjoiefiaaDoorT4
import Derived.Test.YtbdfigfjoiefiaaDoorK1
set_option linter.unusedVariables false
set_option linter.unusedSimpArgs false
set_option maxRecDepth 100000
namespace Go.Proofs.YtbdfigfjoiefiaaDoor
open Go.RowKit
theorem take_at (s : ByteArray) (k : Nat) (h : k < s.size) : s.data.toList.take (k + 1) = s.data.toList.take k ++ [s[k]] := by
  rw [List.take_succ_eq_append_getElem (by simpa using h)]
  rfl
theorem rvalue_any (s : ByteArray) (w : World) (hs : s.size ≤ 4) : Calls Tryd.prog 61 #[.string s] w fun e w' => e = .returned (.int .u64 (worth s.data.toList : Int)) ∧ w' = w := by
  have HT : Hid (∀ k (h : k < s.size), worth (s.data.toList.take (k + 1)) = worth (s.data.toList.take k) * 256 + s[k].toNat) := fun k h => by rw [take_at s k h, worth_snoc]
  have HW : Hid (∀ k, k ≤ 4 → worth (s.data.toList.take k) < 4294967296) := fun k hk => by
    have h1 := worth_lt (s.data.toList.take k)
    have h2 : 256 ^ (s.data.toList.take k).length ≤ 256 ^ 4 := Nat.pow_le_pow_right (by decide) (Nat.le_trans (List.length_take_le _ _) hk)
    omega
  have HF : Hid (s.data.toList.take s.size = s.data.toList) := List.take_of_length_le (by simp)
  have H0 : Hid (worth (s.data.toList.take 0) = 0) := by unfold Hid; simp [worth]
  generalize hf : (fun k => worth (s.data.toList.take k)) = f at *
  have HT' : Hid (∀ k (h : k < s.size), f (k + 1) = f k * 256 + s[k].toNat) := fun k h => by rw [← hf]; exact HT.out k h
  have HW' : Hid (∀ k, k ≤ 4 → f k < 4294967296) := fun k h => by rw [← hf]; exact HW.out k h
  have HF' : Hid (worth s.data.toList = f s.size) := by unfold Hid; rw [← hf]; show _ = worth _; rw [HF.out]
  have H0' : Hid (f 0 = 0) := by unfold Hid; rw [← hf]; exact H0.out
  clear HT HW HF H0 hf
  rw [HF'.out]
  clear HF'
  go_enter Tryd.func61, Tryd.ntmps61
  go_wp2
  go_loopw [3, 4] (fun v i wr => ∃ k : Nat, k ≤ s.size ∧ v = .int .u64 (f k : Int) ∧ i = .int .i64 (k : Int) ∧ wr = w) (fun _ i _ => s.size - (intOf i).toNat)
  case atStart => exact ⟨0, Nat.zero_le _, by rw [H0'.out]; rfl, rfl, rfl⟩
  case round =>
    obtain ⟨k, hk, rfl, rfl, rfl⟩ := hrel
    by_cases hlt : k < s.size
    · have ht := HT'.out k hlt
      have hx := HW'.out k (by omega)
      have hx2 := HW'.out (k + 1) (by omega)
      have hki : (k : Int) < (s.size : Int) := by omega
      have hk00 : (0 : Int) ≤ (k : Int) := by omega
      generalize hc : s[k] = c at *
      obtain ⟨x, hx0⟩ : ∃ x, c.toNat = x := ⟨_, rfl⟩
      have hxb : x < 256 := by rw [← hx0]; exact c.toNat_lt
      rw [hx0] at ht
      obtain ⟨a, ha⟩ : ∃ a, f k = a := ⟨_, rfl⟩
      obtain ⟨b, hb⟩ : ∃ b, f (k + 1) = b := ⟨_, rfl⟩
      have HB : Hid (f (k + 1) = b) := hb
      rw [ha, hb] at ht
      rw [ha] at hx
      rw [hb] at hx2
      obtain ⟨m, hm⟩ : ∃ m, a * 256 = m := ⟨_, rfl⟩
      have w1 : IntKind.u64.wrap ((a : Int) * 256) = (m : Int) := by rw [IntKind.wrap_u64]; omega
      have w2 : IntKind.u64.wrap (x : Int) = (x : Int) := by rw [IntKind.wrap_u64]; omega
      have w3 : IntKind.u64.wrap ((m : Int) + (x : Int)) = (b : Int) := by rw [IntKind.wrap_u64]; omega
      clear hm ht hb
      rw [ha]
      go_wp2
      go_roundw
      case rel => exact ⟨k + 1, by omega, by rw [HB.out], by go_num, by first | rfl | trivial⟩
      case measure => simp [intOf]; omega
    · obtain rfl : k = s.size := by omega
      have hki : ¬ ((s.size : Int) < (s.size : Int)) := by omega
      go_wp2
      go_ret
      exact ⟨rfl, rfl⟩
/-- All segments of these bytes. -/
def allI (sz : Nat) : Nat → List UInt8 → Option (List Sg)
  | 0, _ => some []
  | m + 1, l => if l = [] then some [] else
    match segI sz l with
    | none => none
    | some (s, r) => (allI sz m r).map (s :: ·)
theorem segI_short {sz : Nat} {l r : List UInt8} {s : Sg} (h : segI sz l = some (s, r)) : r.length + 2 ≤ l.length := by
  unfold segI at h
  split at h
  · simp at h
  · rename_i h2
    split at h
    · simp at h
    · simp only [Option.some.injEq, Prod.mk.injEq] at h
      rw [← h.2]
      simp
      omega
theorem allI_more (sz : Nat) : ∀ (n m : Nat) (l : List UInt8), l.length ≤ n → n ≤ m → allI sz m l = allI sz n l := by
  intro n
  induction n with
  | zero =>
    intro m l h1 h2
    have : l = [] := List.length_eq_zero_iff.1 (by omega)
    subst this
    cases m <;> simp [allI]
  | succ n ih =>
    intro m l h1 h2
    cases m with
    | zero => omega
    | succ m =>
      unfold allI
      split
      · rfl
      · cases hs : segI sz l with
        | none => rfl
        | some x =>
          obtain ⟨s, r⟩ := x
          have := segI_short hs
          simp only
          rw [ih m r (by omega) (by omega)]
/-- All segments of these bytes, whatever their number. -/
def allO (sz : Nat) (l : List UInt8) : Option (List Sg) := allI sz l.length l
theorem allO_nil (sz : Nat) : allO sz [] = some [] := rfl
theorem allO_bad {sz : Nat} {l : List UInt8} (hl : l ≠ []) (h : segI sz l = none) : allO sz l = none := by
  unfold allO
  cases hn : l.length with
  | zero => exact absurd (List.length_eq_zero_iff.1 hn) hl
  | succ n => simp [allI, hl, h]
theorem allO_step {sz : Nat} {l r : List UInt8} {s : Sg} (h : segI sz l = some (s, r)) : allO sz l = (allO sz r).map (s :: ·) := by
  have h2 := segI_short h
  have hl := segI_ne h
  unfold allO
  cases hn : l.length with
  | zero => omega
  | succ n =>
    rw [allI, if_neg hl, h]
    simp only
    rw [allI_more sz r.length n r (Nat.le_refl _) (by omega)]
theorem decI_all (sz : Nat) : ∀ (m : Nat) (l : List UInt8), decI sz m l = (allO sz l).bind fun L => if decide (L.length ≤ m) && L.all okSeg then some L else none := by
  intro m
  induction m with
  | zero =>
    intro l
    by_cases hl : l = []
    · subst hl; simp [decI, allO_nil]
    · rw [decI_full sz l hl]
      cases hs : segI sz l with
      | none => rw [allO_bad hl hs]; rfl
      | some x =>
        obtain ⟨s, r⟩ := x
        rw [allO_step hs]
        cases allO sz r with
        | none => rfl
        | some L => simp
  | succ m ih =>
    intro l
    by_cases hl : l = []
    · subst hl; rw [decI_nil, allO_nil]; simp
    · cases hs : segI sz l with
      | none => rw [decI_bad sz _ l hl hs, allO_bad hl hs]; rfl
      | some x =>
        obtain ⟨s, r⟩ := x
        rw [allO_step hs]
        cases hk : okSeg s with
        | true =>
          rw [decI_step sz m l r s hs hk, ih r]
          cases allO sz r with
          | none => rfl
          | some L =>
            simp only [Option.bind_some, Option.map_some]
            by_cases h : decide (L.length ≤ m) && L.all okSeg
            · rw [if_pos h, if_pos (by simp at h ⊢; exact ⟨by omega, hk, h.2⟩)]; rfl
            · rw [if_neg h, if_neg (by simp at h ⊢; intro a b; exact h (by omega))]; rfl
        | false =>
          rw [decI_not sz _ l r s hs hk]
          cases allO sz r with
          | none => rfl
          | some L => simp [hk]
theorem decI_of {sz : Nat} {l : List UInt8} {L : List Sg} (h : allO sz l = some L) : decI sz 16 l = if okPath L = true then some L else none := by
  rw [decI_all, h]
  rfl
theorem decI_no {sz : Nat} {l : List UInt8} (h : allO sz l = none) : decI sz 16 l = none := by
  rw [decI_all, h]
  rfl
/-- A segment in the making: block q. -/
structure DkAt (U wr : World) (q : Nat) (K : Int) (ad : Option Addr) (c : Nat) (lst : List Nat) : Prop where
  c0 : wr.cell? ⟨q, 0, none⟩ = some (.int .i64 K)
  c1 : wr.cell? ⟨q, 1, none⟩ = some (.slice ad lst.length c)
  f1 : wr.frozen? ⟨q, 1, none⟩ = false
  own : OwnU wr (q + 1) (.slice ad lst.length c) lst
  bel : Below q U wr
  siz : q + 1 ≤ wr.heap.size
theorem DkAt.start (wr : World) (kd : Int) : DkAt wr (wr.alloc (.cells #[.int .i64 kd, .slice none 0 0] 48)) wr.heap.size kd none 0 [] :=
  ⟨by simp, by simp, by simp, ⟨World.ownsRow_nil _ _ _ _, by simp, by simp⟩, (Below.refl _ _).alloc (Nat.le_refl _) _, by simp⟩
theorem DkAt.next {U wr w3 : World} {q g cap1 c3 y n : Nat} {K : Int} {ad3 : Option Addr} {lst : List Nat} {o : Obj} (h : DkAt U wr q K ad3 c3 lst) (hn : lst.length = n)
    (hown3 : w3.ownsRow (q + 1) 23 1 (.slice (some ⟨g, 0, none⟩) (n + 1) cap1) (n + 1) (cellsU lst ++ [.int .u32 (y : Int)])) (hg : (wr.alloc o).drew.grownBy w3 (Value.slice ad3 n c3).ownBlock)
    (t0 : w3.cell? ⟨q, 0, none⟩ = some (.int .i64 K)) (t1 : w3.cell? ⟨q, 1, none⟩ = some (.slice ad3 n c3)) (tf : w3.frozen? ⟨q, 1, none⟩ = false) (hy : y < 4294967296) (h3 : n < 256) :
    DkAt U (w3.setCell ⟨q, 1, none⟩ (.slice (some ⟨g, 0, none⟩) (n + 1) cap1)) q K (some ⟨g, 0, none⟩) cap1 (lst ++ [y]) := by
  subst hn
  have hl : (lst ++ [y]).length = lst.length + 1 := by simp
  have hgq : q + 1 ≤ g := (hown3.lt g rfl).1
  have hsz := h.siz
  refine ⟨?_, ?_, by rw [World.frozen?_setCell]; exact tf, ⟨?_, ?_, by simp; omega⟩, ?_, ?_⟩
  · rw [World.cell?_setCell_other _ _ _ _ (by simp)]; exact t0
  · rw [hl]; exact World.cell?_setCell_same _ _ _ t1
  · rw [hl, cellsU_snoc]
    exact owns_set hown3 (b := q) (fun g' e => by simp [Value.ownBlock] at e; omega) 1 _
  · intro x hx
    rcases List.mem_append.mp hx with hx | hx
    · exact h.own.2.1 x hx
    · rw [List.mem_singleton.mp hx]; exact hy
  · refine Below.setCell (Below.grown (Below.drew (Below.alloc h.bel (by omega) o)) hg (by show q ≤ (wr.alloc o).heap.size; simp; omega) (fun k e => ?_)) (Nat.le_refl _) _
    have := (h.own.1.lt k e).1
    omega
  · have := hg.size
    have h2 : (wr.alloc o).drew.heap.size = wr.heap.size + 1 := by show (wr.alloc o).heap.size = _; simp
    have h3 : (w3.setCell ⟨q, 1, none⟩ (.slice (some ⟨g, 0, none⟩) (lst.length + 1) cap1)).heap.size = w3.heap.size := by simp
    omega
end Go.Proofs.YtbdfigfjoiefiaaDoor

set_option linter.unusedVariables false
set_option linter.unusedSimpArgs false
set_option maxRecDepth 100000
namespace Go.Proofs.YtbdfigfjoiefiaaDoor
open Go.RowKit
theorem worth_one (s : ByteArray) (k : Nat) (h : k < s.size) : worth ((s.data.toList.drop k).take 1) = s[k].toNat := by
  rw [List.drop_eq_getElem_cons (by simpa using h)]
  simp [worth]
  rfl
theorem sum_wrap (a b : Int) (h : 0 ≤ a ∧ a ≤ 1000000 ∧ 0 ≤ b ∧ b ≤ 1000000) : wrap64 (a + b) = a + b := by unfold wrap64; omega
theorem toList_ext (s : ByteArray) (a b : Nat) : (s.extract a b).data.toList = (s.data.toList.drop a).take (b - a) := by
  simp [List.extract_eq_take_drop]
/-- Where the reading of the segments stands. -/
def DI (l : List UInt8) (sz : Nat) (w wr : World) (s : ByteArray) (t : Value) (R : List Sv) : Prop :=
  OwnS wr w.heap.size t R ∧ Below w.heap.size w wr ∧ 2 * R.length + s.size ≤ l.length ∧ allO sz l = (allO sz s.data.toList).map (sgs R ++ ·)
theorem DI.next {l : List UInt8} {sz : Nat} {w wr w' : World} {s s' : ByteArray} {t t' : Value} {R : List Sv} {K : Int} {u : Value} {d : List Nat} (h : DI l sz w wr s t R) (hs : segI sz s.data.toList = some ((K, d), s'.data.toList)) (ho : OwnS w' w.heap.size t' (R ++ [(K, u, d)])) (hb : Below w.heap.size w w') : DI l sz w w' s' t' (R ++ [(K, u, d)]) := by
  have h2 := segI_short hs
  refine ⟨ho, hb, ?_, ?_⟩
  · have h3 := h.2.2.1
    have e1 : s'.data.toList.length = s'.size := by simp
    have e2 : s.data.toList.length = s.size := by simp
    rw [List.length_append]
    simp only [List.length_singleton]
    omega
  · rw [h.2.2.2, allO_step hs]
    cases allO sz s'.data.toList <;> simp [sgs]
theorem ext_rest (s : ByteArray) (m : Nat) : (s.extract (2 + m) s.size).data.toList = (s.data.toList.drop 2).drop m := by
  rw [toList_ext, List.drop_drop, List.take_of_length_le (by simp)]
set_option maxHeartbeats 4000000 in
theorem rdecode_2 (l : List UInt8) (w : World) (hl : l.length < 4398046511104) :
    Calls Tryd.prog 34 #[.string ⟨l.toArray⟩, .bool false] w fun e w' => PathOk (decI 2 16 l) w e w' := by
  obtain ⟨i0, hi, hq0, hq1, hq2⟩ := info_parts info48
  obtain ⟨j0, hj0, hy0, hy1, hy2⟩ := info_parts info23
  have HL : Hid (l.length < 4398046511104) := hl
  have H0 : Hid (DI l 2 w w ⟨l.toArray⟩ (.slice none 0 0) []) := by
    refine ⟨⟨World.ownsRow_nil _ _ _ _, fun r hr => by simp at hr, by simp⟩, Below.refl _ _, by rw [list_size]; simp, ?_⟩
    show _ = (allO 2 l).map _
    cases allO 2 l <;> simp [sgs]
  clear hl
  generalize (⟨l.toArray⟩ : ByteArray) = s0 at *
  go_enter Tryd.func34, Tryd.ntmps34
  go_wp2
  go_loopw [0, 7] (fun t0 t7 wr => ∃ (s : ByteArray) (R : List Sv), t0 = .string s ∧ DI l 2 w wr s t7 R) (fun t0 _ _ => match t0 with | .string s => s.size | _ => 0)
  case atStart => exact ⟨s0, [], rfl, H0.out⟩
  case round =>
    obtain ⟨s, R, rfl, hd⟩ := hrel
    obtain ⟨ad, cp, rfl⟩ := slice_of_owns hd.1.1
    have HD : Hid (DI l 2 w wr s (.slice ad R.length cp) R) := hd
    have hln := hd.2.2.1
    have hl0 := HL.out
    clear hd H0
    by_cases hs0 : s.size = 0
    · have hsi : ¬ ((0 : Int) < (s.size : Int)) := by omega
      have hnil : s.data.toList = [] := List.length_eq_zero_iff.1 (by simpa using hs0)
      have HA : Hid (allO 2 l = some (sgs R)) := by unfold Hid; rw [HD.out.2.2.2, hnil, allO_nil]; simp
      have HB : Hid (Below w.heap.size w wr) := HD.out.2.1
      have HO : Hid (OwnS wr w.heap.size (.slice ad R.length cp) R) := HD.out.1
      clear hnil HD hs0
      by_cases hok : okPath (sgs R) = true
      · have KT : Hid (_ : Prop) := rcheck_any (.slice ad R.length cp) (sgs R) wr HO.out.at
        have HK : Hid (decI 2 16 l = some (sgs R)) := by unfold Hid; rw [decI_of HA.out, if_pos hok]
        have HC : Hid (chkOf (sgs R) = 0) := by unfold Hid; simp [chkOf, hok]
        clear hok
        go_wp2_with fail
        refine Calls.mono KT.out ?_
        rintro e w5 ⟨rfl, rfl⟩
        rw [HC.out]
        go_wp2
        go_ret2
        rw [HK.out]
        exact ⟨HB.out, _, R, rfl, rfl, HO.out⟩
      · have KT : Hid (_ : Prop) := rcheck_any (.slice ad R.length cp) (sgs R) wr HO.out.at
        have HK : Hid (decI 2 16 l = none) := by unfold Hid; rw [decI_of HA.out, if_neg hok]
        have HC : Hid (chkOf (sgs R) = 2) := by unfold Hid; simp [chkOf, hok]
        clear hok
        go_wp2_with fail
        refine Calls.mono KT.out ?_
        rintro e w5 ⟨rfl, rfl⟩
        rw [HC.out]
        go_wp2
        go_ret2
        rw [HK.out]
        exact ⟨HB.out, rfl⟩
    · have hsi : (0 : Int) < (s.size : Int) := by omega
      have HB : Hid (Below w.heap.size w wr) := HD.out.2.1
      have HNO : Hid (segI 2 s.data.toList = none → decI 2 16 l = none) := fun h => decI_no (by rw [HD.out.2.2.2, allO_bad (fun e => hs0 (by have := congrArg List.length e; simpa using this)) h]; rfl)
      by_cases hs1 : s.size < 2
      · have hs2 : (s.size : Int) < 2 := by omega
        have HK : Hid (decI 2 16 l = none) := HNO.out (by unfold segI; rw [if_pos (by simpa using hs1)])
        clear hs1 hs0 HD
        go_wp2
        go_ret2
        rw [HK.out]
        exact ⟨HB.out, rfl⟩
      · have hs2 : ¬ ((s.size : Int) < 2) := by omega
        have h1z : 1 < s.size := by omega
        have h0z : 0 < s.size := by omega
        have hone : (1 : Int) < (s.size : Int) := by omega
        have HSI : Hid (segI 2 s.data.toList = if s.size - 2 < s[1].toNat * 2 then none else some (((s[0].toNat : Int), asI 2 s[1].toNat (s.data.toList.drop 2)), (s.data.toList.drop 2).drop (s[1].toNat * 2))) := by
          unfold Hid segI
          have e0 := worth_one s 0 h0z
          simp only [List.drop_zero] at e0
          rw [if_neg (by simpa using hs1), worth_one s 1 h1z, e0, List.length_drop]
          rfl
        generalize hc1 : s[1] = c1 at *
        generalize hc0 : s[0] = c0 at *
        obtain ⟨n, hn⟩ : ∃ n, c1.toNat = n := ⟨_, rfl⟩
        obtain ⟨K, hK⟩ : ∃ K, c0.toNat = K := ⟨_, rfl⟩
        have hnb : n < 256 := by rw [← hn]; exact c1.toNat_lt
        have hKb : K < 256 := by rw [← hK]; exact c0.toNat_lt
        rw [hn, hK] at HSI
        have wn : IntKind.i64.wrap (n : Int) = (n : Int) := by rw [IntKind.wrap_i64]; omega
        have wK : IntKind.i64.wrap (K : Int) = (K : Int) := by rw [IntKind.wrap_i64]; omega
        obtain ⟨m, hm⟩ : ∃ m, n * 2 = m := ⟨_, rfl⟩
        rw [hm] at HSI
        by_cases hen : s.size - 2 < m
        · have hei : (s.size : Int) < 2 + (n : Int) * 2 := by omega
          have HK : Hid (decI 2 16 l = none) := HNO.out (by rw [HSI.out, if_pos hen])
          clear hs1 hs0 HD HSI HNO hen hm
          go_wp2
          go_ret2
          rw [HK.out]
          exact ⟨HB.out, rfl⟩
        · have hei : ¬ ((s.size : Int) < 2 + (n : Int) * 2) := by omega
          have HMM : Hid (n * 2 = m) := hm
          have HEN : Hid (m + 2 ≤ s.size) := by unfold Hid; omega
          clear hs1 hs0 HNO
          have HSJ : Hid (segI 2 s.data.toList = some (((K : Int), asI 2 n (s.data.toList.drop 2)), (s.data.toList.drop 2).drop m)) := by unfold Hid; rw [HSI.out, if_neg hen]
          have HM0 : Hid (DkAt wr (wr.alloc (.cells #[.int .i64 (K : Int), .slice none 0 0] 48)) wr.heap.size (K : Int) none 0 []) := DkAt.start wr (K : Int)
          clear HSI hm hen
          have hlen2 : (s.data.toList.drop 2).length = s.size - 2 := by simp
          go_wp2
          generalize wr.alloc (.cells #[.int .i64 (K : Int), .slice none 0 0] 48) = W0 at *
          generalize hq : wr.heap.size = q at *
          generalize wr = U at *
          go_loopw [10] (fun i wr2 => ∃ (j : Nat) (ad3 : Option Addr) (c3 : Nat), j ≤ n ∧ i = .int .i64 (j : Int) ∧ DkAt U wr2 q (K : Int) ad3 c3 (asI 2 j (s.data.toList.drop 2))) (fun i _ => n - (intOf i).toNat)
          case atStart => exact ⟨0, none, 0, Nat.zero_le _, rfl, HM0.out⟩
          case round =>
            obtain ⟨j, ad3, c3, hj, rfl, hdk⟩ := hrel
            have HM : Hid (DkAt _ _ _ _ _ _ _) := hdk
            have hlst := asI_length 2 j (s.data.toList.drop 2)
            have m1 := hdk.c1
            have m0 := hdk.c0
            have hmf := hdk.f1
            have hsz3 := hdk.siz
            rw [hlst] at m1
            clear hdk
            by_cases hlt : j < n
            · have hlt2 : (j : Int) < (n : Int) := by omega
              obtain ⟨a, ha⟩ : ∃ a, 2 + j * 2 = a := ⟨_, rfl⟩
              obtain ⟨b, hb⟩ : ∃ b, 2 + (j + 1) * 2 = b := ⟨_, rfl⟩
              have hab : a + 2 = b := by omega
              have hbs : b ≤ s.size := by have h1 := HEN.out; have h2 := HMM.out; have h3 : (j + 1) * 2 ≤ n * 2 := Nat.mul_le_mul_right _ hlt; omega
              obtain ⟨a1, ha1⟩ : ∃ a1, j * 2 = a1 := ⟨_, rfl⟩
              obtain ⟨j1, hj1⟩ : ∃ j1, j + 1 = j1 := ⟨_, rfl⟩
              obtain ⟨b1, hb1⟩ : ∃ b1, j1 * 2 = b1 := ⟨_, rfl⟩
              have hb0 := HL.out
              have v1 : IntKind.i64.wrap ((j : Int) * 2) = (a1 : Int) := by rw [IntKind.wrap_i64]; omega
              have v2 : IntKind.i64.wrap (2 + (a1 : Int)) = (a : Int) := by rw [IntKind.wrap_i64]; omega
              have v3 : IntKind.i64.wrap ((j : Int) + 1) = (j1 : Int) := by rw [IntKind.wrap_i64]; omega
              have v4 : IntKind.i64.wrap ((j1 : Int) * 2) = (b1 : Int) := by rw [IntKind.wrap_i64]; omega
              have v5 : IntKind.i64.wrap (2 + (b1 : Int)) = (b : Int) := by rw [IntKind.wrap_i64]; omega
              have y1 : (0 : Int) ≤ (a : Int) := by omega
              have y2 : (a : Int) ≤ (b : Int) := by omega
              have y3 : (b : Int) ≤ (s.size : Int) := by omega
              have y0 : (0 : Int) ≤ (b : Int) := by omega
              clear hb0
              have hxs : (s.extract a b).size ≤ 4 := by simp; omega
              have hsn := asI_snoc 2 j (s.data.toList.drop 2)
              have e1 : ((s.data.toList.drop 2).drop (j * 2)).take 2 = (s.extract a b).data.toList := by
                rw [toList_ext, List.drop_drop, show 2 + j * 2 = a from ha, show b - a = 2 by omega]
              rw [e1] at hsn
              have HSN : Hid (_ = _) := hsn
              have KV : Hid (∀ X, _) := fun X => rvalue_any (s.extract a b) X hxs
              have hy : worth (s.extract a b).data.toList < 4294967296 := by
                have h1 := worth_lt (s.extract a b).data.toList
                have h2 : 256 ^ (s.extract a b).data.toList.length ≤ 256 ^ 4 := Nat.pow_le_pow_right (by decide) (by rw [toList_ext, List.length_take]; omega)
                omega
              generalize worth (s.extract a b).data.toList = y at *
              generalize hxx : s.extract a b = xx at *
              generalize hll : asI 2 j (s.data.toList.drop 2) = lst at *
              have hyw : IntKind.u32.wrap (y : Int) = (y : Int) := by rw [IntKind.wrap_u32]; omega
              clear hsn e1 ha hb hab hbs ha1 hb1 hj1
              have hown : wr.ownsRow (q + 1) 23 1 (.slice ad3 j c3) j (cellsU lst) := by have := HM.out.own.1; rw [hlst] at this; exact this
              have HOA : Hid ((wr.alloc (.cells #[.int .u32 (y : Int)] 23)).drew.ownsRow (q + 1) 23 1 (.slice ad3 j c3) j (cellsU lst)) := hown.alloc _
              have HNW : Hid (∀ (k : Nat) (u : Value), [Value.int .u32 (y : Int)][k]? = some u → (wr.alloc (.cells #[.int .u32 (y : Int)] 23)).drew.cell? (Addr.add ⟨wr.heap.size, 0, none⟩ k) = some u) := news1 wr _ 23
              have hnb : ∀ g, (Value.slice ad3 j c3).ownBlock = some g → q + 1 ≤ g := fun g e => (hown.lt g e).1
              have m1' : ∀ o, (wr.alloc o).cell? ⟨q, 1, none⟩ = some (.slice ad3 j c3) := fun o => below_cell ((Below.refl _ _).alloc (Nat.le_refl _) o) m1
              have m0' : ∀ o, (wr.alloc o).cell? ⟨q, 0, none⟩ = some (.int .i64 (K : Int)) := fun o => below_cell ((Below.refl _ _).alloc (Nat.le_refl _) o) HM.out.c0
              have mf' : ∀ o, (wr.alloc o).frozen? ⟨q, 1, none⟩ = false := fun o => by rw [((Below.refl wr.heap.size wr).alloc (Nat.le_refl _) o).frozen (p := ⟨q, 1, none⟩) (by show q < _; omega)]; exact hmf
              clear hown m0
              go_wp2
              go_region_law (first | (go_simp; go_at_call 61; refine (KV.out _).mono ?_; rintro e W6 ⟨rfl, hW6⟩; subst W6; dsimp only) | (refine step_append_lies _ (by rfl) _ _ 31 (by rfl) (q + 1) 23 j0 (.int .u32 0) 1 4 Tryd.underlying31 hj0 hy0 hy1 hy2 rfl (by decide) (.slice ad3 j c3) j (cellsU lst) (by rfl) HOA.out ⟨wr.heap.size, 0, none⟩ 1 1 [.int .u32 (y : Int)] (by rfl) rfl HNW.out (one_u32 _) (by decide) (by unfold maxLen; omega) (by omega) (by show q + 1 ≤ (wr.alloc _).heap.size; simp; omega) (wr.heap.size + 1) (by show (wr.alloc _).heap.size = _; simp) ?_; intro g cap1 w3 hown3 hgrow3 hat hlt4; have t1 := hgrow3.cell (a := ⟨q, 1, none⟩) (w := (wr.alloc (.cells #[.int .u32 (y : Int)] 23)).drew) (m1' _) (by intro h; have := hnb q h.symm; omega); have t0 := hgrow3.cell (a := ⟨q, 0, none⟩) (w := (wr.alloc (.cells #[.int .u32 (y : Int)] 23)).drew) (m0' _) (by intro h; have := hnb q h.symm; omega); have tf : w3.frozen? ⟨q, 1, none⟩ = false := by rw [World.frozen?_of_block (w := (wr.alloc (.cells #[.int .u32 (y : Int)] 23)).drew) (hgrow3.block q (by show q < (wr.alloc _).heap.size; simp; omega) (by intro h; have := hnb q h.symm; omega))]; exact mf' _))
              all_goals have HMN : Hid (DkAt U _ q (K : Int) _ _ (lst ++ [y])) := HM.out.next hlst hown3 hgrow3 t0 t1 tf hy (by omega)
              all_goals clear hown3 hgrow3 hat t0 t1 tf m1' m0' mf' v1 v2 v3 v4 v5 HOA HNW KV
              all_goals go_wp2
              all_goals go_roundw
              all_goals first
                | exact ⟨j + 1, _, _, by omega, by go_num, by rw [HSN.out]; exact HMN.out⟩
                | (simp [intOf]; omega)
            · have hjn : j = n := by omega
              subst hjn
              have hlt2 : ¬ ((j : Int) < (j : Int)) := by omega
              have hbU : Below U.heap.size U wr := by rw [hq]; exact HM.out.bel
              have HOW : Hid (OwnS wr w.heap.size (.slice ad R.length cp) R) := HD.out.1.below hbU
              have HBW : Hid (Below w.heap.size w wr) := HD.out.2.1.trans (hbU.mono HD.out.2.1.size)
              have hsW := HBW.out.size
              have hqw : w.heap.size ≤ q + 1 := by have := HD.out.2.1.size; omega
              have HUW : Hid (OwnU wr w.heap.size (.slice ad3 j c3) (asI 2 j (s.data.toList.drop 2))) := by have := HM.out.own.mono hqw; rw [hlst] at this; exact this
              have hz1 : (0 : Int) ≤ 2 + (j : Int) * 2 := by omega
              have hz2 : 2 + (j : Int) * 2 ≤ (s.size : Int) := by omega
              have hz3 : (2 + (j : Int) * 2).toNat = 2 + m := by have := HMM.out; omega
              have HSS : Hid (segI 2 s.data.toList = some (((K : Int), asI 2 j (s.data.toList.drop 2)), (s.extract (2 + m) s.size).data.toList)) := by unfold Hid; rw [ext_rest]; exact HSJ.out
              clear hbU
              go_wp2_with (at_builtin; refine wpList_append_own _ rfl _ _ 22 rfl w.heap.size 48 i0 (.agg #[.int .i64 0, .slice none 0 0]) 2 32 Tryd.underlying22 hi hq0 hq1 hq2 rfl (by decide) _ _ _ rfl (HOW.out.1.alloc _) ⟨wr.heap.size, 0, none⟩ 1 1 [.int .i64 (K : Int), .slice ad3 j c3] rfl rfl (news2 wr _ _ 48) (two_seg _ _ _ _) (by unfold maxLen; omega) (by omega) (Nat.le_trans hsW (by simp)) ?_; intro v3 w3 hown3 hgrow3 _; have HOS : Hid (OwnS w3 w.heap.size v3 (R ++ [((K : Int), .slice ad3 j c3, asI 2 j (s.data.toList.drop 2))])) := OwnS.snoc (HOW.out.alloc _) (HUW.out.alloc _) (by omega) hown3 hgrow3; have HB3 : Hid (Below w.heap.size w w3) := (HBW.out.alloc hsW _).grown hgrow3 (Nat.le_trans hsW (by simp)) (fun k e => (HOW.out.1.lt k e).1); clear hown3 hgrow3)
              go_roundw
              case rel => exact ⟨s.extract (2 + m) s.size, _, rfl, HD.out.next HSS.out HOS.out HB3.out⟩
              case measure => have := HEN.out; simp; omega
set_option maxHeartbeats 4000000 in
theorem rdecode_4 (l : List UInt8) (w : World) (hl : l.length < 4398046511104) :
    Calls Tryd.prog 34 #[.string ⟨l.toArray⟩, .bool true] w fun e w' => PathOk (decI 4 16 l) w e w' := by
  obtain ⟨i0, hi, hq0, hq1, hq2⟩ := info_parts info48
  obtain ⟨j0, hj0, hy0, hy1, hy2⟩ := info_parts info23
  have HL : Hid (l.length < 4398046511104) := hl
  have H0 : Hid (DI l 4 w w ⟨l.toArray⟩ (.slice none 0 0) []) := by
    refine ⟨⟨World.ownsRow_nil _ _ _ _, fun r hr => by simp at hr, by simp⟩, Below.refl _ _, by rw [list_size]; simp, ?_⟩
    show _ = (allO 4 l).map _
    cases allO 4 l <;> simp [sgs]
  clear hl
  generalize (⟨l.toArray⟩ : ByteArray) = s0 at *
  go_enter Tryd.func34, Tryd.ntmps34
  go_wp2
  go_loopw [0, 7] (fun t0 t7 wr => ∃ (s : ByteArray) (R : List Sv), t0 = .string s ∧ DI l 4 w wr s t7 R) (fun t0 _ _ => match t0 with | .string s => s.size | _ => 0)
  case atStart => exact ⟨s0, [], rfl, H0.out⟩
  case round =>
    obtain ⟨s, R, rfl, hd⟩ := hrel
    obtain ⟨ad, cp, rfl⟩ := slice_of_owns hd.1.1
    have HD : Hid (DI l 4 w wr s (.slice ad R.length cp) R) := hd
    have hln := hd.2.2.1
    have hl0 := HL.out
    clear hd H0
    by_cases hs0 : s.size = 0
    · have hsi : ¬ ((0 : Int) < (s.size : Int)) := by omega
      have hnil : s.data.toList = [] := List.length_eq_zero_iff.1 (by simpa using hs0)
      have HA : Hid (allO 4 l = some (sgs R)) := by unfold Hid; rw [HD.out.2.2.2, hnil, allO_nil]; simp
      have HB : Hid (Below w.heap.size w wr) := HD.out.2.1
      have HO : Hid (OwnS wr w.heap.size (.slice ad R.length cp) R) := HD.out.1
      clear hnil HD hs0
      by_cases hok : okPath (sgs R) = true
      · have KT : Hid (_ : Prop) := rcheck_any (.slice ad R.length cp) (sgs R) wr HO.out.at
        have HK : Hid (decI 4 16 l = some (sgs R)) := by unfold Hid; rw [decI_of HA.out, if_pos hok]
        have HC : Hid (chkOf (sgs R) = 0) := by unfold Hid; simp [chkOf, hok]
        clear hok
        go_wp2_with fail
        refine Calls.mono KT.out ?_
        rintro e w5 ⟨rfl, rfl⟩
        rw [HC.out]
        go_wp2
        go_ret2
        rw [HK.out]
        exact ⟨HB.out, _, R, rfl, rfl, HO.out⟩
      · have KT : Hid (_ : Prop) := rcheck_any (.slice ad R.length cp) (sgs R) wr HO.out.at
        have HK : Hid (decI 4 16 l = none) := by unfold Hid; rw [decI_of HA.out, if_neg hok]
        have HC : Hid (chkOf (sgs R) = 2) := by unfold Hid; simp [chkOf, hok]
        clear hok
        go_wp2_with fail
        refine Calls.mono KT.out ?_
        rintro e w5 ⟨rfl, rfl⟩
        rw [HC.out]
        go_wp2
        go_ret2
        rw [HK.out]
        exact ⟨HB.out, rfl⟩
    · have hsi : (0 : Int) < (s.size : Int) := by omega
      have HB : Hid (Below w.heap.size w wr) := HD.out.2.1
      have HNO : Hid (segI 4 s.data.toList = none → decI 4 16 l = none) := fun h => decI_no (by rw [HD.out.2.2.2, allO_bad (fun e => hs0 (by have := congrArg List.length e; simpa using this)) h]; rfl)
      by_cases hs1 : s.size < 2
      · have hs2 : (s.size : Int) < 2 := by omega
        have HK : Hid (decI 4 16 l = none) := HNO.out (by unfold segI; rw [if_pos (by simpa using hs1)])
        clear hs1 hs0 HD
        go_wp2
        go_ret2
        rw [HK.out]
        exact ⟨HB.out, rfl⟩
      · have hs2 : ¬ ((s.size : Int) < 2) := by omega
        have h1z : 1 < s.size := by omega
        have h0z : 0 < s.size := by omega
        have hone : (1 : Int) < (s.size : Int) := by omega
        have HSI : Hid (segI 4 s.data.toList = if s.size - 2 < s[1].toNat * 4 then none else some (((s[0].toNat : Int), asI 4 s[1].toNat (s.data.toList.drop 2)), (s.data.toList.drop 2).drop (s[1].toNat * 4))) := by
          unfold Hid segI
          have e0 := worth_one s 0 h0z
          simp only [List.drop_zero] at e0
          rw [if_neg (by simpa using hs1), worth_one s 1 h1z, e0, List.length_drop]
          rfl
        generalize hc1 : s[1] = c1 at *
        generalize hc0 : s[0] = c0 at *
        obtain ⟨n, hn⟩ : ∃ n, c1.toNat = n := ⟨_, rfl⟩
        obtain ⟨K, hK⟩ : ∃ K, c0.toNat = K := ⟨_, rfl⟩
        have hnb : n < 256 := by rw [← hn]; exact c1.toNat_lt
        have hKb : K < 256 := by rw [← hK]; exact c0.toNat_lt
        rw [hn, hK] at HSI
        have wn : IntKind.i64.wrap (n : Int) = (n : Int) := by rw [IntKind.wrap_i64]; omega
        have wK : IntKind.i64.wrap (K : Int) = (K : Int) := by rw [IntKind.wrap_i64]; omega
        obtain ⟨m, hm⟩ : ∃ m, n * 4 = m := ⟨_, rfl⟩
        rw [hm] at HSI
        by_cases hen : s.size - 2 < m
        · have hei : (s.size : Int) < 2 + (n : Int) * 4 := by omega
          have HK : Hid (decI 4 16 l = none) := HNO.out (by rw [HSI.out, if_pos hen])
          clear hs1 hs0 HD HSI HNO hen hm
          go_wp2
          go_ret2
          rw [HK.out]
          exact ⟨HB.out, rfl⟩
        · have hei : ¬ ((s.size : Int) < 2 + (n : Int) * 4) := by omega
          have HMM : Hid (n * 4 = m) := hm
          have HEN : Hid (m + 2 ≤ s.size) := by unfold Hid; omega
          clear hs1 hs0 HNO
          have HSJ : Hid (segI 4 s.data.toList = some (((K : Int), asI 4 n (s.data.toList.drop 2)), (s.data.toList.drop 2).drop m)) := by unfold Hid; rw [HSI.out, if_neg hen]
          have HM0 : Hid (DkAt wr (wr.alloc (.cells #[.int .i64 (K : Int), .slice none 0 0] 48)) wr.heap.size (K : Int) none 0 []) := DkAt.start wr (K : Int)
          clear HSI hm hen
          have hlen2 : (s.data.toList.drop 2).length = s.size - 2 := by simp
          go_wp2
          generalize wr.alloc (.cells #[.int .i64 (K : Int), .slice none 0 0] 48) = W0 at *
          generalize hq : wr.heap.size = q at *
          generalize wr = U at *
          go_loopw [10] (fun i wr2 => ∃ (j : Nat) (ad3 : Option Addr) (c3 : Nat), j ≤ n ∧ i = .int .i64 (j : Int) ∧ DkAt U wr2 q (K : Int) ad3 c3 (asI 4 j (s.data.toList.drop 2))) (fun i _ => n - (intOf i).toNat)
          case atStart => exact ⟨0, none, 0, Nat.zero_le _, rfl, HM0.out⟩
          case round =>
            obtain ⟨j, ad3, c3, hj, rfl, hdk⟩ := hrel
            have HM : Hid (DkAt _ _ _ _ _ _ _) := hdk
            have hlst := asI_length 4 j (s.data.toList.drop 2)
            have m1 := hdk.c1
            have m0 := hdk.c0
            have hmf := hdk.f1
            have hsz3 := hdk.siz
            rw [hlst] at m1
            clear hdk
            by_cases hlt : j < n
            · have hlt2 : (j : Int) < (n : Int) := by omega
              obtain ⟨a, ha⟩ : ∃ a, 2 + j * 4 = a := ⟨_, rfl⟩
              obtain ⟨b, hb⟩ : ∃ b, 2 + (j + 1) * 4 = b := ⟨_, rfl⟩
              have hab : a + 4 = b := by omega
              have hbs : b ≤ s.size := by have h1 := HEN.out; have h2 := HMM.out; have h3 : (j + 1) * 4 ≤ n * 4 := Nat.mul_le_mul_right _ hlt; omega
              obtain ⟨a1, ha1⟩ : ∃ a1, j * 4 = a1 := ⟨_, rfl⟩
              obtain ⟨j1, hj1⟩ : ∃ j1, j + 1 = j1 := ⟨_, rfl⟩
              obtain ⟨b1, hb1⟩ : ∃ b1, j1 * 4 = b1 := ⟨_, rfl⟩
              have hb0 := HL.out
              have v1 : IntKind.i64.wrap ((j : Int) * 4) = (a1 : Int) := by rw [IntKind.wrap_i64]; omega
              have v2 : IntKind.i64.wrap (2 + (a1 : Int)) = (a : Int) := by rw [IntKind.wrap_i64]; omega
              have v3 : IntKind.i64.wrap ((j : Int) + 1) = (j1 : Int) := by rw [IntKind.wrap_i64]; omega
              have v4 : IntKind.i64.wrap ((j1 : Int) * 4) = (b1 : Int) := by rw [IntKind.wrap_i64]; omega
              have v5 : IntKind.i64.wrap (2 + (b1 : Int)) = (b : Int) := by rw [IntKind.wrap_i64]; omega
              have y1 : (0 : Int) ≤ (a : Int) := by omega
              have y2 : (a : Int) ≤ (b : Int) := by omega
              have y3 : (b : Int) ≤ (s.size : Int) := by omega
              have y0 : (0 : Int) ≤ (b : Int) := by omega
              clear hb0
              have hxs : (s.extract a b).size ≤ 4 := by simp; omega
              have hsn := asI_snoc 4 j (s.data.toList.drop 2)
              have e1 : ((s.data.toList.drop 2).drop (j * 4)).take 4 = (s.extract a b).data.toList := by
                rw [toList_ext, List.drop_drop, show 2 + j * 4 = a from ha, show b - a = 4 by omega]
              rw [e1] at hsn
              have HSN : Hid (_ = _) := hsn
              have KV : Hid (∀ X, _) := fun X => rvalue_any (s.extract a b) X hxs
              have hy : worth (s.extract a b).data.toList < 4294967296 := by
                have h1 := worth_lt (s.extract a b).data.toList
                have h2 : 256 ^ (s.extract a b).data.toList.length ≤ 256 ^ 4 := Nat.pow_le_pow_right (by decide) (by rw [toList_ext, List.length_take]; omega)
                omega
              generalize worth (s.extract a b).data.toList = y at *
              generalize hxx : s.extract a b = xx at *
              generalize hll : asI 4 j (s.data.toList.drop 2) = lst at *
              have hyw : IntKind.u32.wrap (y : Int) = (y : Int) := by rw [IntKind.wrap_u32]; omega
              clear hsn e1 ha hb hab hbs ha1 hb1 hj1
              have hown : wr.ownsRow (q + 1) 23 1 (.slice ad3 j c3) j (cellsU lst) := by have := HM.out.own.1; rw [hlst] at this; exact this
              have HOA : Hid ((wr.alloc (.cells #[.int .u32 (y : Int)] 23)).drew.ownsRow (q + 1) 23 1 (.slice ad3 j c3) j (cellsU lst)) := hown.alloc _
              have HNW : Hid (∀ (k : Nat) (u : Value), [Value.int .u32 (y : Int)][k]? = some u → (wr.alloc (.cells #[.int .u32 (y : Int)] 23)).drew.cell? (Addr.add ⟨wr.heap.size, 0, none⟩ k) = some u) := news1 wr _ 23
              have hnb : ∀ g, (Value.slice ad3 j c3).ownBlock = some g → q + 1 ≤ g := fun g e => (hown.lt g e).1
              have m1' : ∀ o, (wr.alloc o).cell? ⟨q, 1, none⟩ = some (.slice ad3 j c3) := fun o => below_cell ((Below.refl _ _).alloc (Nat.le_refl _) o) m1
              have m0' : ∀ o, (wr.alloc o).cell? ⟨q, 0, none⟩ = some (.int .i64 (K : Int)) := fun o => below_cell ((Below.refl _ _).alloc (Nat.le_refl _) o) HM.out.c0
              have mf' : ∀ o, (wr.alloc o).frozen? ⟨q, 1, none⟩ = false := fun o => by rw [((Below.refl wr.heap.size wr).alloc (Nat.le_refl _) o).frozen (p := ⟨q, 1, none⟩) (by show q < _; omega)]; exact hmf
              clear hown m0
              go_wp2
              go_region_law (first | (go_simp; go_at_call 61; refine (KV.out _).mono ?_; rintro e W6 ⟨rfl, hW6⟩; subst W6; dsimp only) | (refine step_append_lies _ (by rfl) _ _ 31 (by rfl) (q + 1) 23 j0 (.int .u32 0) 1 4 Tryd.underlying31 hj0 hy0 hy1 hy2 rfl (by decide) (.slice ad3 j c3) j (cellsU lst) (by rfl) HOA.out ⟨wr.heap.size, 0, none⟩ 1 1 [.int .u32 (y : Int)] (by rfl) rfl HNW.out (one_u32 _) (by decide) (by unfold maxLen; omega) (by omega) (by show q + 1 ≤ (wr.alloc _).heap.size; simp; omega) (wr.heap.size + 1) (by show (wr.alloc _).heap.size = _; simp) ?_; intro g cap1 w3 hown3 hgrow3 hat hlt4; have t1 := hgrow3.cell (a := ⟨q, 1, none⟩) (w := (wr.alloc (.cells #[.int .u32 (y : Int)] 23)).drew) (m1' _) (by intro h; have := hnb q h.symm; omega); have t0 := hgrow3.cell (a := ⟨q, 0, none⟩) (w := (wr.alloc (.cells #[.int .u32 (y : Int)] 23)).drew) (m0' _) (by intro h; have := hnb q h.symm; omega); have tf : w3.frozen? ⟨q, 1, none⟩ = false := by rw [World.frozen?_of_block (w := (wr.alloc (.cells #[.int .u32 (y : Int)] 23)).drew) (hgrow3.block q (by show q < (wr.alloc _).heap.size; simp; omega) (by intro h; have := hnb q h.symm; omega))]; exact mf' _))
              all_goals have HMN : Hid (DkAt U _ q (K : Int) _ _ (lst ++ [y])) := HM.out.next hlst hown3 hgrow3 t0 t1 tf hy (by omega)
              all_goals clear hown3 hgrow3 hat t0 t1 tf m1' m0' mf' v1 v2 v3 v4 v5 HOA HNW KV
              all_goals go_wp2
              all_goals go_roundw
              all_goals first
                | exact ⟨j + 1, _, _, by omega, by go_num, by rw [HSN.out]; exact HMN.out⟩
                | (simp [intOf]; omega)
            · have hjn : j = n := by omega
              subst hjn
              have hlt2 : ¬ ((j : Int) < (j : Int)) := by omega
              have hbU : Below U.heap.size U wr := by rw [hq]; exact HM.out.bel
              have HOW : Hid (OwnS wr w.heap.size (.slice ad R.length cp) R) := HD.out.1.below hbU
              have HBW : Hid (Below w.heap.size w wr) := HD.out.2.1.trans (hbU.mono HD.out.2.1.size)
              have hsW := HBW.out.size
              have hqw : w.heap.size ≤ q + 1 := by have := HD.out.2.1.size; omega
              have HUW : Hid (OwnU wr w.heap.size (.slice ad3 j c3) (asI 4 j (s.data.toList.drop 2))) := by have := HM.out.own.mono hqw; rw [hlst] at this; exact this
              have hz1 : (0 : Int) ≤ 2 + (j : Int) * 4 := by omega
              have hz2 : 2 + (j : Int) * 4 ≤ (s.size : Int) := by omega
              have hz3 : (2 + (j : Int) * 4).toNat = 2 + m := by have := HMM.out; omega
              have HSS : Hid (segI 4 s.data.toList = some (((K : Int), asI 4 j (s.data.toList.drop 2)), (s.extract (2 + m) s.size).data.toList)) := by unfold Hid; rw [ext_rest]; exact HSJ.out
              clear hbU
              go_wp2_with (at_builtin; refine wpList_append_own _ rfl _ _ 22 rfl w.heap.size 48 i0 (.agg #[.int .i64 0, .slice none 0 0]) 2 32 Tryd.underlying22 hi hq0 hq1 hq2 rfl (by decide) _ _ _ rfl (HOW.out.1.alloc _) ⟨wr.heap.size, 0, none⟩ 1 1 [.int .i64 (K : Int), .slice ad3 j c3] rfl rfl (news2 wr _ _ 48) (two_seg _ _ _ _) (by unfold maxLen; omega) (by omega) (Nat.le_trans hsW (by simp)) ?_; intro v3 w3 hown3 hgrow3 _; have HOS : Hid (OwnS w3 w.heap.size v3 (R ++ [((K : Int), .slice ad3 j c3, asI 4 j (s.data.toList.drop 2))])) := OwnS.snoc (HOW.out.alloc _) (HUW.out.alloc _) (by omega) hown3 hgrow3; have HB3 : Hid (Below w.heap.size w w3) := (HBW.out.alloc hsW _).grown hgrow3 (Nat.le_trans hsW (by simp)) (fun k e => (HOW.out.1.lt k e).1); clear hown3 hgrow3)
              go_roundw
              case rel => exact ⟨s.extract (2 + m) s.size, _, rfl, HD.out.next HSS.out HOS.out HB3.out⟩
              case measure => have := HEN.out; simp; omega
theorem rdecode_any (l : List UInt8) (four : Bool) (w : World) (hl : l.length < 4398046511104) : Calls Tryd.prog 34 #[.string ⟨l.toArray⟩, .bool four] w fun e w' => PathOk (decI (szN four) 16 l) w e w' := by
  cases four
  · exact rdecode_2 l w hl
  · exact rdecode_4 l w hl
end Go.Proofs.YtbdfigfjoiefiaaDoor
