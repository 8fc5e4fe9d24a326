/-
  The reference's Parse, whatever the text is.
-/
import Derived.Test.YtbdfigfjoiefiaaDoorVA
import Derived.Test.YtbdfigfjoiefiaaDoorVB
import Derived.Test.YtbdfigfjoiefiaaDoorH1
set_option linter.unusedVariables false
set_option linter.unusedSimpArgs false
set_option maxRecDepth 100000
namespace Go.Proofs.YtbdfigfjoiefiaaDoor
open Go.RowKit
/-- The path that a text is, if it is one. -/
def goodO (l : List UInt8) : Option (List Sg) := if okPath (scanF l [] 0 0) = true ∧ textOf (scanF l [] 0 0) = l then some (scanF l [] 0 0) else none
theorem drop_at (s : ByteArray) (k : Nat) (h : k < s.size) : s.data.toList.drop k = s[k] :: s.data.toList.drop (k + 1) := by
  rw [List.drop_eq_getElem_cons (by simpa using h)]
  rfl
/-- Where the reading of the bytes stands. -/
def PI (s : ByteArray) (w wr : World) (t : Value) (R : List Sv) (k v n : Nat) : Prop :=
  k ≤ s.size ∧ n ≤ k ∧ v ≤ 8589934592 ∧ R.length ≤ 17 ∧ (∀ r ∈ R, r.2.2.length ≤ 256) ∧ LastO wr w.heap.size t R ∧ Below w.heap.size w wr ∧ scanF s.data.toList [] 0 0 = scanF (s.data.toList.drop k) (sgs R) v n
theorem PI.next {s : ByteArray} {w wr w' : World} {t t' : Value} {R R' : List Sv} {k v n v' n' : Nat} (h : PI s w wr t R k v n) (hk : k < s.size) (hR : R.length ≤ 16) (hs : scanB (sgs R) v n s[k] = (sgs R', v', n')) (hL : LastO w' w.heap.size t' R') (hb : Below w.heap.size w w') (h17 : R'.length ≤ 17) (h256 : ∀ r ∈ R', r.2.2.length ≤ 256) (hn : n' ≤ k + 1) (hv : v' ≤ 8589934592) : PI s w w' t' R' (k + 1) v' n' := by
  refine ⟨by omega, hn, hv, h17, h256, hL, hb, ?_⟩
  rw [h.2.2.2.2.2.2.2, drop_at s k hk, scanF, if_pos (by rw [sgs_length]; exact hR), hs]
theorem PI.end {s : ByteArray} {w wr : World} {t : Value} {R : List Sv} {k v n : Nat} (h : PI s w wr t R k v n) (he : k = s.size ∨ R.length = 17) : scanF s.data.toList [] 0 0 = sgs R := by
  rw [h.2.2.2.2.2.2.2]
  by_cases hk : k < s.size
  · rcases he with he | he
    · omega
    · rw [drop_at s k hk, scanF, if_neg (by rw [sgs_length]; omega)]
  · have : s.data.toList.drop k = [] := List.drop_eq_nil_of_le (by simp; omega)
    rw [this]
    rfl
theorem open_yes (R : List Sv) (c : UInt8) (h : 0 < kindB c) : openB (sgs R) c = sgs (R ++ [((kindB c : Int), .slice none 0 0, [])]) := by
  unfold openB
  rw [if_pos h]
  simp [sgs]
theorem kind_not (c : UInt8) (h : 0 < kindB c) : ¬ (48 ≤ c.toNat ∧ c.toNat ≤ 57) := by
  rcases kindB_cases c with ⟨h1, _⟩ | ⟨h1, _⟩ | ⟨h1, _⟩ | ⟨h1, _⟩ | ⟨_, _, _, _, h1⟩ <;> omega
theorem kind_le (c : UInt8) : kindB c ≤ 4 := by
  rcases kindB_cases c with ⟨_, h1⟩ | ⟨_, h1⟩ | ⟨_, h1⟩ | ⟨_, h1⟩ | ⟨_, _, _, _, h1⟩ <;> omega
theorem shut_no1 (o : List Sg) (v : Nat) : shutB o v 0 = o := shutB_zero o v
theorem shut_no1' (o : List Sg) (v n : Nat) (h : n = 0) : shutB o v n = o := by rw [h]; exact shutB_zero o v
theorem shut_nil (v n : Nat) : shutB (sgs []) v n = sgs [] := by
  unfold shutB
  rw [if_neg (fun h => h.2.1 rfl)]
theorem shut_no2 (v n : Nat) : shutB [] v n = [] := by
  unfold shutB
  rw [if_neg (fun h => h.2.1 rfl)]
theorem shut_no3 (o : List Sg) (v n : Nat) (h : ¬ v < 4294967296) : shutB o v n = o := by
  unfold shutB
  rw [if_neg (fun h2 => h h2.2.2.1)]
theorem shut_no4 (P : List Sv) (r : Sv) (v n : Nat) (h : ¬ r.2.2.length ≤ 255) : shutB (sgs (P ++ [r])) v n = sgs (P ++ [r]) := by
  unfold shutB
  rw [if_neg (fun h2 => h (by have := h2.2.2.2; rw [sgs_snoc, lastLen_snoc] at this; exact this))]
theorem shut_yes (P : List Sv) (k : Int) (u u' : Value) (l : List Nat) (v n : Nat) (hn : 0 < n) (hv : v < 4294967296) (hl : l.length ≤ 255) : shutB (sgs (P ++ [(k, u, l)])) v n = sgs (P ++ [(k, u', l ++ [v])]) := by
  unfold shutB
  rw [sgs_snoc, sgs_snoc, if_pos ⟨hn, by simp, hv, by rw [lastLen_snoc]; exact hl⟩, addLast_snoc]
theorem scan_non (o : List Sg) (v n : Nat) (c : UInt8) (h : ¬ (48 ≤ c.toNat ∧ c.toNat ≤ 57)) : scanB o v n c = (shutB (openB o c) v n, 0, 0) := by
  unfold scanB
  rw [if_neg h]
theorem scan_dig (o : List Sg) (v n : Nat) (c : UInt8) (h : 48 ≤ c.toNat ∧ c.toNat ≤ 57) : scanB o v n c = (o, min (v * 10 + (c.toNat - 48)) 8589934592, n + 1) := by
  have hk : kindB c = 0 := by
    rcases kindB_cases c with ⟨h1, _⟩ | ⟨h1, _⟩ | ⟨h1, _⟩ | ⟨h1, _⟩ | ⟨_, _, _, _, h1⟩ <;> omega
  unfold scanB
  rw [if_pos h, openB_no hk]
theorem LastO.after {w w' : World} {base g n cap : Nat} {P : List Sv} {k : Int} {u : Value} {l : List Nat} {B : Nat} (h : LastO w base (.slice (some ⟨g, 0, none⟩) n cap) (P ++ [(k, u, l)])) (hg : w.grownBy w' u.ownBlock) (hu : OwnU w B u l) : w'.heap[g]? = w.heap[g]? := by
  refine hg.block g (h.1.1.lt g rfl).2 ?_
  rcases owns_apart hu.1 h.1.1 (by decide) with e | e
  · rw [e]; simp
  · intro e2; exact e (by first | exact e2 | exact e2.symm)
theorem cell_same {w w' : World} {g : Nat} (h : w'.heap[g]? = w.heap[g]?) (i : Nat) : w'.cell? ⟨g, i, none⟩ = w.cell? ⟨g, i, none⟩ := by
  unfold World.cell?
  rw [h]
theorem frozen_same {w w' : World} {g : Nat} (h : w'.heap[g]? = w.heap[g]?) (i : Nat) : w'.frozen? ⟨g, i, none⟩ = w.frozen? ⟨g, i, none⟩ := by
  unfold World.frozen?
  rw [h]
theorem snoc_of {R : List Sv} (h : R ≠ []) : ∃ P k u l, R = P ++ [(k, u, l)] := by
  obtain ⟨k, u, l⟩ := R.getLast h
  exact ⟨R.dropLast, (R.getLast h).1, (R.getLast h).2.1, (R.getLast h).2.2, by simp [List.dropLast_concat_getLast h]⟩
set_option maxHeartbeats 8000000 in
theorem rscan_walk (s : ByteArray) (w : World) (hs : s.size < 140737488351233) (ht : Tabs w) :
    Calls Tryd.prog 36 #[.string s] w fun e w' => PathOk (goodO s.data.toList) w e w' := by
  obtain ⟨i0, hi, hq0, hq1, hq2⟩ := info_parts info48
  obtain ⟨j0, hj0, hy0, hy1, hy2⟩ := info_parts info23
  have HT : Hid (Tabs w) := ht
  have HS : Hid (s.size < 140737488351233) := hs
  clear ht hs
  go_enter Tryd.func36, Tryd.ntmps36
  generalize hB0 : (4294967296 : Int) = BIG
  have hBIG : Hid ((4294967296 : Int) = BIG) := hB0
  clear hB0
  go_wp2
  go_loopw [4, 5, 6, 7] (fun t v d i wr => ∃ (R : List Sv) (k vn n : Nat), v = .int .u64 (vn : Int) ∧ d = .int .i64 (n : Int) ∧ i = .int .i64 (k : Int) ∧ PI s w wr t R k vn n) (fun _ _ _ i _ => s.size + 1 - (intOf i).toNat)
  case atStart => exact ⟨[], 0, 0, 0, rfl, rfl, rfl, Nat.zero_le _, Nat.le_refl _, by omega, by simp, by simp, LastO.nil w _ (Nat.le_refl _), Below.refl _ _, rfl⟩
  case round =>
    obtain ⟨R, k, vn, n, rfl, rfl, rfl, hq⟩ := hrel
    obtain ⟨ad, cp, rfl⟩ := slice_of_owns hq.2.2.2.2.2.1.1.1
    have HQ : Hid (PI s w wr (.slice ad R.length cp) R k vn n) := hq
    have hk0 := hq.1
    have hn0 := hq.2.1
    have hv0 := hq.2.2.1
    have hr17 := hq.2.2.2.1
    have hs47 := HS.out
    clear hq
    by_cases hend : k = s.size ∨ R.length = 17
    · have HX : Hid (scanF s.data.toList [] 0 0 = sgs R) := HQ.out.end hend
      have HO : Hid (OwnS wr w.heap.size (.slice ad R.length cp) R) := HQ.out.2.2.2.2.2.1.1
      have HB : Hid (Below w.heap.size w wr) := HQ.out.2.2.2.2.2.2.1
      have HTr : Hid (Tabs wr) := HT.out.below HB.out
      clear HQ
      by_cases hok : okPath (sgs R) = true
      · have KT : Hid (_ : Prop) := rtext_any (.slice ad R.length cp) (sgs R) wr HO.out.at hok HTr.out
        have HK : Hid (okPath (sgs R) = true) := hok
        clear hok
        by_cases hlt : k < s.size
        · have hki : (k : Int) < (s.size : Int) := by omega
          have hRi : ¬ ((R.length : Int) ≤ 16) := by omega
          clear hend
          go_wp2_with fail
          refine Calls.mono KT.out ?_
          rintro e w5 ⟨rfl, hb5⟩
          have HO5 : Hid (OwnS w5 w.heap.size (.slice ad R.length cp) R) := HO.out.below hb5
          have HB5 : Hid (Below w.heap.size w w5) := HB.out.trans (hb5.mono HB.out.size)
          clear hb5 HO HB KT
          by_cases hg : textOf (sgs R) = s.data.toList
          · have HG : Hid (goodO s.data.toList = some (sgs R)) := by
              unfold Hid goodO
              rw [HX.out, if_pos ⟨HK.out, hg⟩]
            have hst : ((⟨(textOf (sgs R)).toArray⟩ : ByteArray).toList == s.toList) = true := by rw [ByteArray.toList_eq, ByteArray.toList_eq]; simpa using hg
            generalize (⟨(textOf (sgs R)).toArray⟩ : ByteArray) = tx at *
            clear hg
            go_wp2
            go_ret2
            rw [HG.out]
            exact ⟨HB5.out, _, R, rfl, rfl, HO5.out⟩
          · have HG : Hid (goodO s.data.toList = none) := by
              unfold Hid goodO
              rw [HX.out, if_neg (fun h => hg h.2)]
            have hst : ((⟨(textOf (sgs R)).toArray⟩ : ByteArray).toList == s.toList) = false := by rw [ByteArray.toList_eq, ByteArray.toList_eq]; simpa using hg
            generalize (⟨(textOf (sgs R)).toArray⟩ : ByteArray) = tx at *
            clear hg
            go_wp2
            go_ret2
            rw [HG.out]
            exact ⟨HB5.out, rfl⟩
        · have hki : ¬ ((k : Int) < (s.size : Int)) := by omega
          clear hend
          go_wp2_with fail
          refine Calls.mono KT.out ?_
          rintro e w5 ⟨rfl, hb5⟩
          have HO5 : Hid (OwnS w5 w.heap.size (.slice ad R.length cp) R) := HO.out.below hb5
          have HB5 : Hid (Below w.heap.size w w5) := HB.out.trans (hb5.mono HB.out.size)
          clear hb5 HO HB KT
          by_cases hg : textOf (sgs R) = s.data.toList
          · have HG : Hid (goodO s.data.toList = some (sgs R)) := by
              unfold Hid goodO
              rw [HX.out, if_pos ⟨HK.out, hg⟩]
            have hst : ((⟨(textOf (sgs R)).toArray⟩ : ByteArray).toList == s.toList) = true := by rw [ByteArray.toList_eq, ByteArray.toList_eq]; simpa using hg
            generalize (⟨(textOf (sgs R)).toArray⟩ : ByteArray) = tx at *
            clear hg
            go_wp2
            go_ret2
            rw [HG.out]
            exact ⟨HB5.out, _, R, rfl, rfl, HO5.out⟩
          · have HG : Hid (goodO s.data.toList = none) := by
              unfold Hid goodO
              rw [HX.out, if_neg (fun h => hg h.2)]
            have hst : ((⟨(textOf (sgs R)).toArray⟩ : ByteArray).toList == s.toList) = false := by rw [ByteArray.toList_eq, ByteArray.toList_eq]; simpa using hg
            generalize (⟨(textOf (sgs R)).toArray⟩ : ByteArray) = tx at *
            clear hg
            go_wp2
            go_ret2
            rw [HG.out]
            exact ⟨HB5.out, rfl⟩
      · have hok' : okPath (sgs R) = false := by simpa using hok
        have KT : Hid (_ : Prop) := rtext_bad (.slice ad R.length cp) (sgs R) wr HO.out.at hok'
        have HK : Hid (¬ okPath (sgs R) = true) := hok
        clear hok hok'
        by_cases hlt : k < s.size
        · have hki : (k : Int) < (s.size : Int) := by omega
          have hRi : ¬ ((R.length : Int) ≤ 16) := by omega
          clear hend
          go_wp2_with fail
          refine Calls.mono KT.out ?_
          rintro e w5 ⟨rfl, hb5⟩
          have HB5 : Hid (Below w.heap.size w w5) := HB.out.trans (hb5.mono HB.out.size)
          have HG : Hid (goodO s.data.toList = none) := by
            unfold Hid goodO
            rw [HX.out, if_neg (fun h => HK.out h.1)]
          clear hb5 HO HB KT
          go_wp2
          go_ret2
          rw [HG.out]
          exact ⟨HB5.out, rfl⟩
        · have hki : ¬ ((k : Int) < (s.size : Int)) := by omega
          clear hend
          go_wp2_with fail
          refine Calls.mono KT.out ?_
          rintro e w5 ⟨rfl, hb5⟩
          have HB5 : Hid (Below w.heap.size w w5) := HB.out.trans (hb5.mono HB.out.size)
          have HG : Hid (goodO s.data.toList = none) := by
            unfold Hid goodO
            rw [HX.out, if_neg (fun h => HK.out h.1)]
          clear hb5 HO HB KT
          go_wp2
          go_ret2
          rw [HG.out]
          exact ⟨HB5.out, rfl⟩
    · have hk : k < s.size := by omega
      have hR : R.length ≤ 16 := by omega
      have hki : (k : Int) < (s.size : Int) := by omega
      have hk00 : (0 : Int) ≤ (k : Int) := by omega
      have hRi : (R.length : Int) ≤ 16 := by omega
      have HKR : Hid (k < s.size ∧ R.length ≤ 16) := ⟨hk, hR⟩
      have HSt : Hid (∀ (w' : World) (t' : Value) (R' : List Sv) (v' n' : Nat), scanB (sgs R) vn n s[k] = (sgs R', v', n') → LastO w' w.heap.size t' R' → Below w.heap.size w w' → R'.length ≤ 17 → (∀ r ∈ R', r.2.2.length ≤ 256) → n' ≤ k + 1 → v' ≤ 8589934592 → PI s w w' t' R' (k + 1) v' n') := fun w' t' R' v' n' h1 h2 h3 h4 h5 h6 h7 => HQ.out.next hk hR h1 h2 h3 h4 h5 h6 h7
      have HLo : Hid (LastO wr w.heap.size (.slice ad R.length cp) R) := HQ.out.2.2.2.2.2.1
      have HL6 : Hid (∀ r ∈ R, r.2.2.length ≤ 256) := HQ.out.2.2.2.2.1
      have HB : Hid (Below w.heap.size w wr) := HQ.out.2.2.2.2.2.2.1
      clear HQ hend
      generalize hc : s[k] = c at *
      have KK : Hid (∀ X, _) := fun X => rkind_any c X
      have hcs : (Instr.index 9 (.string s) (.int .i64 (k : Int))).run Tryd.prog wr = .ok (.int .u8 (c.toNat : Int)) wr ∨ True := Or.inr trivial
      clear hcs
      by_cases hdig : 48 ≤ c.toNat ∧ c.toNat ≤ 57
      · have hk0 : kindB c = 0 := by
          rcases kindB_cases c with ⟨h1, _⟩ | ⟨h1, _⟩ | ⟨h1, _⟩ | ⟨h1, _⟩ | ⟨_, _, _, _, h1⟩ <;> omega
        have hsc := scan_dig (sgs R) vn n c hdig
        rw [hk0] at KK
        obtain ⟨x, hx⟩ : ∃ x, c.toNat = x := ⟨_, rfl⟩
        rw [hx] at hdig hsc KK
        obtain ⟨d, hd⟩ : ∃ d, x - 48 = d := ⟨_, rfl⟩
        rw [hd] at hsc
        obtain ⟨v2, hv2⟩ : ∃ v2, min (vn * 10 + d) 8589934592 = v2 := ⟨_, rfl⟩
        rw [hv2] at hsc
        have HNx : Hid (PI s w wr (.slice ad R.length cp) R (k + 1) v2 (n + 1)) := HSt.out wr _ R v2 (n + 1) hsc HLo.out HB.out (by omega) HL6.out (by omega) (by omega)
        have g1 : (48 : Int) ≤ (x : Int) := by omega
        have g2 : (x : Int) ≤ 57 := by omega
        obtain ⟨va, hva⟩ : ∃ va, vn * 10 = va := ⟨_, rfl⟩
        obtain ⟨vb, hvb⟩ : ∃ vb, va + d = vb := ⟨_, rfl⟩
        have w1 : IntKind.u64.wrap ((vn : Int) * 10) = (va : Int) := by rw [IntKind.wrap_u64]; omega
        have w2 : IntKind.u8.wrap ((x : Int) - 48) = (d : Int) := by rw [IntKind.wrap_u8]; omega
        have w3 : IntKind.u64.wrap (d : Int) = (d : Int) := by rw [IntKind.wrap_u64]; omega
        have w4 : IntKind.u64.wrap ((va : Int) + (d : Int)) = (vb : Int) := by rw [IntKind.wrap_u64]; omega
        have w5 : min (vb : Int) 8589934592 = (v2 : Int) := by omega
        clear hva hvb hv2 hd hdig hsc hk0 HSt HLo HL6
        go_wp2_with fail
        refine Calls.mono (KK.out _) ?_
        rintro e Wq ⟨rfl, hq⟩
        obtain rfl := hq
        go_wp2
        go_roundw
        case rel => exact ⟨R, k + 1, v2, n + 1, by go_num, by go_num, by go_num, HNx.out⟩
        case measure => simp [intOf]; omega
      · by_cases hkd : 0 < kindB c
        · have hop := open_yes R c hkd
          have hsn := scan_non (sgs R) vn n c hdig
          rw [hop] at hsn
          have hkl := kind_le c
          obtain ⟨kb, hkb⟩ : ∃ kb, kindB c = kb := ⟨_, rfl⟩
          rw [hkb] at hsn hkd hkl KK
          obtain ⟨x, hx⟩ : ∃ x, c.toNat = x := ⟨_, rfl⟩
          rw [hx] at hdig KK
          have hkp : (0 : Int) < (kb : Int) := by omega
          have HSn : Hid (_ = _) := hsn
          clear hsn hop hkb
          rcases (show x < 48 ∨ (48 ≤ x ∧ 57 < x) by omega) with hx1 | ⟨hx1, hx2⟩
          · have g1 : ¬ ((48 : Int) ≤ (x : Int)) := by omega
            clear hx1 hdig
            by_cases hn : 0 < n
            · have hni : (0 : Int) < (n : Int) := by omega
              by_cases hvl : vn < 4294967296
              · have hvi : (vn : Int) < BIG := by have := hBIG.out; omega
                have hvu : IntKind.u32.wrap (vn : Int) = (vn : Int) := by rw [IntKind.wrap_u32]; omega
                have hsc := HSn.out
                rw [shut_yes R (kb : Int) (.slice none 0 0) (.slice none 0 0) [] vn n hn hvl (by simp)] at hsc
                have HSc : Hid (_ = _) := hsc
                have HV : Hid (vn < 4294967296) := hvl
                clear hsc hn hvl
                go_wp2_with fail
                refine Calls.mono (KK.out _) ?_
                rintro e Wq ⟨rfl, hq⟩
                subst Wq
                go_wp2_with fail
                refine Calls.mono (KK.out _) ?_
                rintro e Wq ⟨rfl, hq⟩
                subst Wq
                go_wp2_with (first | (at_builtin; refine wpList_append_own _ rfl _ _ 22 rfl w.heap.size 48 i0 (.agg #[.int .i64 0, .slice none 0 0]) 2 32 Tryd.underlying22 hi hq0 hq1 hq2 rfl (by decide) _ _ _ rfl (HLo.out.1.1.alloc _) ⟨wr.heap.size, 0, none⟩ 1 1 [.int .i64 (kb : Int), .slice none 0 0] rfl rfl (news2 wr _ _ 48) (two_seg _ _ _ _) (by unfold maxLen; omega) (by omega) (Nat.le_trans HB.out.size (by simp)) ?_; intro v6 w6 hown6 hgrow6 _; have hgr6 := (World.grownBy_alloc wr _ _).trans hgrow6; have hL6 := HLo.out.push (k := (kb : Int)) (by omega) hown6 hgr6; have HB6 : Hid (Below w.heap.size w w6) := HB.out.grown hgr6 HB.out.size (fun j hj => (HLo.out.1.1.lt j hj).1); obtain ⟨g, cap, a0, m0, rfl, hbg, hue, hcell, hfz, B, hB⟩ := hL6.cells; have HLk : Hid (LastO w6 w.heap.size _ (R ++ [((kb : Int), .slice none 0 0, [])])) := hL6; have HBB : Hid (_ ∧ _) := hB; have hb6s := HB6.out.size; clear hown6 hgrow6 hgr6 hL6 hB hue hbg; have HBw : Hid (Below w.heap.size w w6) := HB6.out; clear HB6) | (at_builtin; refine wpList_append_own _ rfl _ _ 31 rfl B 23 j0 (.int .u32 0) 1 4 Tryd.underlying31 hj0 hy0 hy1 hy2 rfl (by decide) _ _ _ rfl (HBB.out.1.1.alloc _) ⟨w6.heap.size, 0, none⟩ 1 1 [.int .u32 (vn : Int)] rfl rfl (news1 w6 _ 23) (one_u32 _) (by unfold maxLen; first | omega | (simp only [List.length_nil]; omega)) (by first | omega | (simp only [List.length_nil]; omega)) (Nat.le_trans HBB.out.2.2.1 (by simp)) ?_; intro v9 w9 hown9 hgrow9 _; have hgr := (World.grownBy_alloc w6 _ _).trans hgrow9; have hL9 := HLk.out.add (a := vn) HV.out (by first | omega | (simp only [List.length_nil]; omega)) B HBB.out hown9 hgr; have hh9 := HLk.out.after hgr HBB.out.1; have HB9 : Hid (Below w.heap.size w w9) := HBw.out.grown hgr HBw.out.size (fun j hj => Nat.le_trans HBB.out.2.1 (HBB.out.1.1.lt j hj).1); obtain ⟨d9, c9, rfl⟩ := slice_of_owns hown9; have HL9 : Hid (LastO _ w.heap.size _ _) := hL9; have hcell9 := (cell_same hh9 _).trans hcell; have hfz9 := (frozen_same hh9 _).trans hfz; clear hgr hown9 hgrow9 hL9 hh9))
                have hgw : w.heap.size ≤ g := (HL9.out.1.1.lt g rfl).1
                have HNx : Hid (PI s w _ _ _ (k + 1) 0 0) := HSt.out _ _ _ 0 0 (HSc.out.trans (by simp [sgs])) HL9.out (HB9.out.setCell (by exact hgw) _) (by simp; omega) (fun r hr => by rcases List.mem_append.1 hr with hr | hr; exact HL6.out r hr; rw [List.mem_singleton.1 hr]; simp) (by omega) (by omega)
                clear HL9 HB9 hgw
                go_wp2
                go_roundw
                case rel => exact ⟨_, k + 1, 0, 0, by go_num, by go_num, by go_num, HNx.out⟩
                case measure => simp [intOf]; omega
              · have hvi : decide ((vn : Int) < BIG) = false := decide_eq_false (by have := hBIG.out; omega)
                have hsc := HSn.out
                rw [shut_no3 _ vn n hvl] at hsc
                have HSc : Hid (_ = _) := hsc
                clear hsc
                try clear hn
                try clear hvl
                go_wp2_with fail
                refine Calls.mono (KK.out _) ?_
                rintro e Wq ⟨rfl, hq⟩
                subst Wq
                go_wp2_with fail
                refine Calls.mono (KK.out _) ?_
                rintro e Wq ⟨rfl, hq⟩
                subst Wq
                go_wp2_with (first | (at_builtin; refine wpList_append_own _ rfl _ _ 22 rfl w.heap.size 48 i0 (.agg #[.int .i64 0, .slice none 0 0]) 2 32 Tryd.underlying22 hi hq0 hq1 hq2 rfl (by decide) _ _ _ rfl (HLo.out.1.1.alloc _) ⟨wr.heap.size, 0, none⟩ 1 1 [.int .i64 (kb : Int), .slice none 0 0] rfl rfl (news2 wr _ _ 48) (two_seg _ _ _ _) (by unfold maxLen; omega) (by omega) (Nat.le_trans HB.out.size (by simp)) ?_; intro v6 w6 hown6 hgrow6 _; have hgr6 := (World.grownBy_alloc wr _ _).trans hgrow6; have hL6 := HLo.out.push (k := (kb : Int)) (by omega) hown6 hgr6; have HB6 : Hid (Below w.heap.size w w6) := HB.out.grown hgr6 HB.out.size (fun j hj => (HLo.out.1.1.lt j hj).1); obtain ⟨g, cap, a0, m0, rfl, hbg, hue, hcell, hfz, B, hB⟩ := hL6.cells; have HLk : Hid (LastO w6 w.heap.size _ (R ++ [((kb : Int), .slice none 0 0, [])])) := hL6; have HBB : Hid (_ ∧ _) := hB; have hb6s := HB6.out.size; clear hown6 hgrow6 hgr6 hL6 hB hue hbg))
                have HNx : Hid (PI s w _ _ _ (k + 1) 0 0) := HSt.out _ _ _ 0 0 HSc.out HLk.out HB6.out (by simp; omega) (fun r hr => by rcases List.mem_append.1 hr with hr | hr; exact HL6.out r hr; rw [List.mem_singleton.1 hr]; simp) (by omega) (by omega)
                try go_wp2
                go_roundw
                case rel => exact ⟨_, k + 1, 0, 0, by go_num, by go_num, by go_num, HNx.out⟩
                case measure => simp [intOf]; omega
            · have hni : ¬ ((0 : Int) < (n : Int)) := by omega
              have hn0 : Hid (n = 0) := by unfold Hid; omega
              have hsc := HSn.out
              rw [shut_no1' _ vn n hn0.out] at hsc
              have HSc : Hid (_ = _) := hsc
              clear hsc
              try clear hn
              try clear hvl
              go_wp2_with fail
              refine Calls.mono (KK.out _) ?_
              rintro e Wq ⟨rfl, hq⟩
              subst Wq
              go_wp2_with fail
              refine Calls.mono (KK.out _) ?_
              rintro e Wq ⟨rfl, hq⟩
              subst Wq
              go_wp2_with (first | (at_builtin; refine wpList_append_own _ rfl _ _ 22 rfl w.heap.size 48 i0 (.agg #[.int .i64 0, .slice none 0 0]) 2 32 Tryd.underlying22 hi hq0 hq1 hq2 rfl (by decide) _ _ _ rfl (HLo.out.1.1.alloc _) ⟨wr.heap.size, 0, none⟩ 1 1 [.int .i64 (kb : Int), .slice none 0 0] rfl rfl (news2 wr _ _ 48) (two_seg _ _ _ _) (by unfold maxLen; omega) (by omega) (Nat.le_trans HB.out.size (by simp)) ?_; intro v6 w6 hown6 hgrow6 _; have hgr6 := (World.grownBy_alloc wr _ _).trans hgrow6; have hL6 := HLo.out.push (k := (kb : Int)) (by omega) hown6 hgr6; have HB6 : Hid (Below w.heap.size w w6) := HB.out.grown hgr6 HB.out.size (fun j hj => (HLo.out.1.1.lt j hj).1); obtain ⟨g, cap, a0, m0, rfl, hbg, hue, hcell, hfz, B, hB⟩ := hL6.cells; have HLk : Hid (LastO w6 w.heap.size _ (R ++ [((kb : Int), .slice none 0 0, [])])) := hL6; have HBB : Hid (_ ∧ _) := hB; have hb6s := HB6.out.size; clear hown6 hgrow6 hgr6 hL6 hB hue hbg))
              have HNx : Hid (PI s w _ _ _ (k + 1) 0 0) := HSt.out _ _ _ 0 0 HSc.out HLk.out HB6.out (by simp; omega) (fun r hr => by rcases List.mem_append.1 hr with hr | hr; exact HL6.out r hr; rw [List.mem_singleton.1 hr]; simp) (by omega) (by omega)
              try go_wp2
              go_roundw
              case rel => exact ⟨_, k + 1, 0, 0, by go_num, by go_num, by go_num, HNx.out⟩
              case measure => simp [intOf]; omega
          · have g1 : (48 : Int) ≤ (x : Int) := by omega
            have g2 : ¬ ((x : Int) ≤ 57) := by omega
            clear hx1 hx2 hdig
            by_cases hn : 0 < n
            · have hni : (0 : Int) < (n : Int) := by omega
              by_cases hvl : vn < 4294967296
              · have hvi : (vn : Int) < BIG := by have := hBIG.out; omega
                have hvu : IntKind.u32.wrap (vn : Int) = (vn : Int) := by rw [IntKind.wrap_u32]; omega
                have hsc := HSn.out
                rw [shut_yes R (kb : Int) (.slice none 0 0) (.slice none 0 0) [] vn n hn hvl (by simp)] at hsc
                have HSc : Hid (_ = _) := hsc
                have HV : Hid (vn < 4294967296) := hvl
                clear hsc hn hvl
                go_wp2_with fail
                refine Calls.mono (KK.out _) ?_
                rintro e Wq ⟨rfl, hq⟩
                subst Wq
                go_wp2_with fail
                refine Calls.mono (KK.out _) ?_
                rintro e Wq ⟨rfl, hq⟩
                subst Wq
                go_wp2_with (first | (at_builtin; refine wpList_append_own _ rfl _ _ 22 rfl w.heap.size 48 i0 (.agg #[.int .i64 0, .slice none 0 0]) 2 32 Tryd.underlying22 hi hq0 hq1 hq2 rfl (by decide) _ _ _ rfl (HLo.out.1.1.alloc _) ⟨wr.heap.size, 0, none⟩ 1 1 [.int .i64 (kb : Int), .slice none 0 0] rfl rfl (news2 wr _ _ 48) (two_seg _ _ _ _) (by unfold maxLen; omega) (by omega) (Nat.le_trans HB.out.size (by simp)) ?_; intro v6 w6 hown6 hgrow6 _; have hgr6 := (World.grownBy_alloc wr _ _).trans hgrow6; have hL6 := HLo.out.push (k := (kb : Int)) (by omega) hown6 hgr6; have HB6 : Hid (Below w.heap.size w w6) := HB.out.grown hgr6 HB.out.size (fun j hj => (HLo.out.1.1.lt j hj).1); obtain ⟨g, cap, a0, m0, rfl, hbg, hue, hcell, hfz, B, hB⟩ := hL6.cells; have HLk : Hid (LastO w6 w.heap.size _ (R ++ [((kb : Int), .slice none 0 0, [])])) := hL6; have HBB : Hid (_ ∧ _) := hB; have hb6s := HB6.out.size; clear hown6 hgrow6 hgr6 hL6 hB hue hbg; have HBw : Hid (Below w.heap.size w w6) := HB6.out; clear HB6) | (at_builtin; refine wpList_append_own _ rfl _ _ 31 rfl B 23 j0 (.int .u32 0) 1 4 Tryd.underlying31 hj0 hy0 hy1 hy2 rfl (by decide) _ _ _ rfl (HBB.out.1.1.alloc _) ⟨w6.heap.size, 0, none⟩ 1 1 [.int .u32 (vn : Int)] rfl rfl (news1 w6 _ 23) (one_u32 _) (by unfold maxLen; first | omega | (simp only [List.length_nil]; omega)) (by first | omega | (simp only [List.length_nil]; omega)) (Nat.le_trans HBB.out.2.2.1 (by simp)) ?_; intro v9 w9 hown9 hgrow9 _; have hgr := (World.grownBy_alloc w6 _ _).trans hgrow9; have hL9 := HLk.out.add (a := vn) HV.out (by first | omega | (simp only [List.length_nil]; omega)) B HBB.out hown9 hgr; have hh9 := HLk.out.after hgr HBB.out.1; have HB9 : Hid (Below w.heap.size w w9) := HBw.out.grown hgr HBw.out.size (fun j hj => Nat.le_trans HBB.out.2.1 (HBB.out.1.1.lt j hj).1); obtain ⟨d9, c9, rfl⟩ := slice_of_owns hown9; have HL9 : Hid (LastO _ w.heap.size _ _) := hL9; have hcell9 := (cell_same hh9 _).trans hcell; have hfz9 := (frozen_same hh9 _).trans hfz; clear hgr hown9 hgrow9 hL9 hh9))
                have hgw : w.heap.size ≤ g := (HL9.out.1.1.lt g rfl).1
                have HNx : Hid (PI s w _ _ _ (k + 1) 0 0) := HSt.out _ _ _ 0 0 (HSc.out.trans (by simp [sgs])) HL9.out (HB9.out.setCell (by exact hgw) _) (by simp; omega) (fun r hr => by rcases List.mem_append.1 hr with hr | hr; exact HL6.out r hr; rw [List.mem_singleton.1 hr]; simp) (by omega) (by omega)
                clear HL9 HB9 hgw
                go_wp2
                go_roundw
                case rel => exact ⟨_, k + 1, 0, 0, by go_num, by go_num, by go_num, HNx.out⟩
                case measure => simp [intOf]; omega
              · have hvi : decide ((vn : Int) < BIG) = false := decide_eq_false (by have := hBIG.out; omega)
                have hsc := HSn.out
                rw [shut_no3 _ vn n hvl] at hsc
                have HSc : Hid (_ = _) := hsc
                clear hsc
                try clear hn
                try clear hvl
                go_wp2_with fail
                refine Calls.mono (KK.out _) ?_
                rintro e Wq ⟨rfl, hq⟩
                subst Wq
                go_wp2_with fail
                refine Calls.mono (KK.out _) ?_
                rintro e Wq ⟨rfl, hq⟩
                subst Wq
                go_wp2_with (first | (at_builtin; refine wpList_append_own _ rfl _ _ 22 rfl w.heap.size 48 i0 (.agg #[.int .i64 0, .slice none 0 0]) 2 32 Tryd.underlying22 hi hq0 hq1 hq2 rfl (by decide) _ _ _ rfl (HLo.out.1.1.alloc _) ⟨wr.heap.size, 0, none⟩ 1 1 [.int .i64 (kb : Int), .slice none 0 0] rfl rfl (news2 wr _ _ 48) (two_seg _ _ _ _) (by unfold maxLen; omega) (by omega) (Nat.le_trans HB.out.size (by simp)) ?_; intro v6 w6 hown6 hgrow6 _; have hgr6 := (World.grownBy_alloc wr _ _).trans hgrow6; have hL6 := HLo.out.push (k := (kb : Int)) (by omega) hown6 hgr6; have HB6 : Hid (Below w.heap.size w w6) := HB.out.grown hgr6 HB.out.size (fun j hj => (HLo.out.1.1.lt j hj).1); obtain ⟨g, cap, a0, m0, rfl, hbg, hue, hcell, hfz, B, hB⟩ := hL6.cells; have HLk : Hid (LastO w6 w.heap.size _ (R ++ [((kb : Int), .slice none 0 0, [])])) := hL6; have HBB : Hid (_ ∧ _) := hB; have hb6s := HB6.out.size; clear hown6 hgrow6 hgr6 hL6 hB hue hbg))
                have HNx : Hid (PI s w _ _ _ (k + 1) 0 0) := HSt.out _ _ _ 0 0 HSc.out HLk.out HB6.out (by simp; omega) (fun r hr => by rcases List.mem_append.1 hr with hr | hr; exact HL6.out r hr; rw [List.mem_singleton.1 hr]; simp) (by omega) (by omega)
                try go_wp2
                go_roundw
                case rel => exact ⟨_, k + 1, 0, 0, by go_num, by go_num, by go_num, HNx.out⟩
                case measure => simp [intOf]; omega
            · have hni : ¬ ((0 : Int) < (n : Int)) := by omega
              have hn0 : Hid (n = 0) := by unfold Hid; omega
              have hsc := HSn.out
              rw [shut_no1' _ vn n hn0.out] at hsc
              have HSc : Hid (_ = _) := hsc
              clear hsc
              try clear hn
              try clear hvl
              go_wp2_with fail
              refine Calls.mono (KK.out _) ?_
              rintro e Wq ⟨rfl, hq⟩
              subst Wq
              go_wp2_with fail
              refine Calls.mono (KK.out _) ?_
              rintro e Wq ⟨rfl, hq⟩
              subst Wq
              go_wp2_with (first | (at_builtin; refine wpList_append_own _ rfl _ _ 22 rfl w.heap.size 48 i0 (.agg #[.int .i64 0, .slice none 0 0]) 2 32 Tryd.underlying22 hi hq0 hq1 hq2 rfl (by decide) _ _ _ rfl (HLo.out.1.1.alloc _) ⟨wr.heap.size, 0, none⟩ 1 1 [.int .i64 (kb : Int), .slice none 0 0] rfl rfl (news2 wr _ _ 48) (two_seg _ _ _ _) (by unfold maxLen; omega) (by omega) (Nat.le_trans HB.out.size (by simp)) ?_; intro v6 w6 hown6 hgrow6 _; have hgr6 := (World.grownBy_alloc wr _ _).trans hgrow6; have hL6 := HLo.out.push (k := (kb : Int)) (by omega) hown6 hgr6; have HB6 : Hid (Below w.heap.size w w6) := HB.out.grown hgr6 HB.out.size (fun j hj => (HLo.out.1.1.lt j hj).1); obtain ⟨g, cap, a0, m0, rfl, hbg, hue, hcell, hfz, B, hB⟩ := hL6.cells; have HLk : Hid (LastO w6 w.heap.size _ (R ++ [((kb : Int), .slice none 0 0, [])])) := hL6; have HBB : Hid (_ ∧ _) := hB; have hb6s := HB6.out.size; clear hown6 hgrow6 hgr6 hL6 hB hue hbg))
              have HNx : Hid (PI s w _ _ _ (k + 1) 0 0) := HSt.out _ _ _ 0 0 HSc.out HLk.out HB6.out (by simp; omega) (fun r hr => by rcases List.mem_append.1 hr with hr | hr; exact HL6.out r hr; rw [List.mem_singleton.1 hr]; simp) (by omega) (by omega)
              try go_wp2
              go_roundw
              case rel => exact ⟨_, k + 1, 0, 0, by go_num, by go_num, by go_num, HNx.out⟩
              case measure => simp [intOf]; omega
        · have hk0 : kindB c = 0 := by omega
          have hsn := scan_non (sgs R) vn n c hdig
          rw [openB_no hk0] at hsn
          rw [hk0] at KK
          obtain ⟨x, hx⟩ : ∃ x, c.toNat = x := ⟨_, rfl⟩
          rw [hx] at hdig KK
          have HSn : Hid (_ = _) := hsn
          clear hsn hk0 hkd
          rcases (show x < 48 ∨ (48 ≤ x ∧ 57 < x) by omega) with hx1 | ⟨hx1, hx2⟩
          · have g1 : ¬ ((48 : Int) ≤ (x : Int)) := by omega
            clear hx1 hdig
            by_cases hn : 0 < n
            · have hni : (0 : Int) < (n : Int) := by omega
              by_cases hRn : R = []
              · subst hRn
                have hsc := HSn.out
                rw [shut_nil] at hsc
                have HSc : Hid (_ = _) := hsc
                clear hsc
                try clear hn
                try clear hvl
                try clear hl
                have HNx : Hid (PI s w _ _ _ (k + 1) 0 0) := HSt.out _ _ _ 0 0 HSc.out HLo.out HB.out (by first | omega | simp) HL6.out (by omega) (by omega)
                go_wp2_with fail
                refine Calls.mono (KK.out _) ?_
                rintro e Wq ⟨rfl, hq⟩
                subst Wq
                go_wp2
                go_roundw
                case rel => exact ⟨_, k + 1, 0, 0, by go_num, by go_num, by go_num, HNx.out⟩
                case measure => simp [intOf]; omega
              · by_cases hvl : vn < 4294967296
                · have hvi : (vn : Int) < BIG := by have := hBIG.out; omega
                  obtain ⟨P, k0, u0, l0, rfl⟩ := snoc_of hRn
                  obtain ⟨g, cap, a0, m0, hv, hbg, rfl, hcell, hfz, B, hB⟩ := HLo.out.cells
                  simp only [Value.slice.injEq] at hv
                  obtain ⟨rfl, _, rfl⟩ := hv
                  have hlen : (P ++ [(k0, Value.slice a0 l0.length m0, l0)]).length = P.length + 1 := by simp
                  rw [hlen] at hR hRi hr17 HLo ⊢
                  have HLk : Hid (LastO wr w.heap.size _ _) := HLo.out
                  have HBB : Hid (_ ∧ _) := hB
                  have h256 := HL6.out (k0, Value.slice a0 l0.length m0, l0) (by simp)
                  simp only at h256
                  have hRi2 : (P.length : Int) + 1 ≤ 16 := by omega
                  have hRp2 : (0 : Int) < (P.length : Int) + 1 := by omega
                  clear hB hbg hlen hRn
                  by_cases hl : l0.length ≤ 255
                  · have hli : (l0.length : Int) ≤ 255 := by omega
                    have hvu : IntKind.u32.wrap (vn : Int) = (vn : Int) := by rw [IntKind.wrap_u32]; omega
                    have hsc := HSn.out
                    rw [shut_yes P k0 (.slice a0 l0.length m0) (.slice none 0 0) l0 vn n hn hvl hl] at hsc
                    have HSc : Hid (_ = _) := hsc
                    have HBw : Hid (Below w.heap.size w wr) := HB.out
                    have hbrs := HB.out.size
                    have HPl : Hid (∀ r ∈ P, r.2.2.length ≤ 256) := fun r hr => HL6.out r (List.mem_append_left _ hr)
                    have HV : Hid (vn < 4294967296) := hvl
                    clear hsc hn hvl
                    go_wp2_with fail
                    refine Calls.mono (KK.out _) ?_
                    rintro e Wq ⟨rfl, hq⟩
                    subst Wq
                    go_wp2_with (first | (at_builtin; refine wpList_append_own _ rfl _ _ 31 rfl B 23 j0 (.int .u32 0) 1 4 Tryd.underlying31 hj0 hy0 hy1 hy2 rfl (by decide) _ _ _ rfl (HBB.out.1.1.alloc _) ⟨wr.heap.size, 0, none⟩ 1 1 [.int .u32 (vn : Int)] rfl rfl (news1 wr _ 23) (one_u32 _) (by unfold maxLen; first | omega | (simp only [List.length_nil]; omega)) (by first | omega | (simp only [List.length_nil]; omega)) (Nat.le_trans HBB.out.2.2.1 (by simp)) ?_; intro v9 w9 hown9 hgrow9 _; have hgr := (World.grownBy_alloc wr _ _).trans hgrow9; have hL9 := HLk.out.add (a := vn) HV.out (by first | omega | (simp only [List.length_nil]; omega)) B HBB.out hown9 hgr; have hh9 := HLk.out.after hgr HBB.out.1; have HB9 : Hid (Below w.heap.size w w9) := HBw.out.grown hgr HBw.out.size (fun j hj => Nat.le_trans HBB.out.2.1 (HBB.out.1.1.lt j hj).1); obtain ⟨d9, c9, rfl⟩ := slice_of_owns hown9; have HL9 : Hid (LastO _ w.heap.size _ _) := hL9; have hcell9 := (cell_same hh9 _).trans hcell; have hfz9 := (frozen_same hh9 _).trans hfz; clear hgr hown9 hgrow9 hL9 hh9))
                    have hgw : w.heap.size ≤ g := (HL9.out.1.1.lt g rfl).1
                    have HNx : Hid (PI s w _ _ _ (k + 1) 0 0) := HSt.out _ _ _ 0 0 (HSc.out.trans (by simp [sgs])) HL9.out (HB9.out.setCell (by exact hgw) _) (by simp; omega) (fun r hr => by rcases List.mem_append.1 hr with hr | hr; exact HPl.out r hr; rw [List.mem_singleton.1 hr]; simp; omega) (by omega) (by omega)
                    clear HL9 HB9 hgw
                    go_wp2
                    go_roundw
                    case rel => exact ⟨_, k + 1, 0, 0, by go_num, by go_num, by go_num, HNx.out⟩
                    case measure => simp [intOf]; omega
                  · have hli : ¬ ((l0.length : Int) ≤ 255) := by omega
                    have hsc := HSn.out
                    rw [shut_no4 P _ vn n hl] at hsc
                    have HSc : Hid (_ = _) := hsc
                    clear hsc
                    try clear hn
                    try clear hvl
                    try clear hl
                    have HNx : Hid (PI s w _ _ _ (k + 1) 0 0) := HSt.out _ _ _ 0 0 HSc.out HLo.out HB.out (by first | omega | simp) HL6.out (by omega) (by omega)
                    go_wp2_with fail
                    refine Calls.mono (KK.out _) ?_
                    rintro e Wq ⟨rfl, hq⟩
                    subst Wq
                    go_wp2
                    go_roundw
                    case rel => exact ⟨_, k + 1, 0, 0, by go_num, by go_num, by go_num, HNx.out⟩
                    case measure => simp [intOf]; omega
                · have hvi : decide ((vn : Int) < BIG) = false := decide_eq_false (by have := hBIG.out; omega)
                  have hRp : (0 : Int) < (R.length : Int) := by rcases R with _ | ⟨a, b⟩; exact absurd rfl hRn; rw [List.length_cons]; omega
                  have hsc := HSn.out
                  rw [shut_no3 _ vn n hvl] at hsc
                  have HSc : Hid (_ = _) := hsc
                  clear hsc
                  try clear hn
                  try clear hvl
                  try clear hl
                  have HNx : Hid (PI s w _ _ _ (k + 1) 0 0) := HSt.out _ _ _ 0 0 HSc.out HLo.out HB.out (by first | omega | simp) HL6.out (by omega) (by omega)
                  go_wp2_with fail
                  refine Calls.mono (KK.out _) ?_
                  rintro e Wq ⟨rfl, hq⟩
                  subst Wq
                  go_wp2
                  go_roundw
                  case rel => exact ⟨_, k + 1, 0, 0, by go_num, by go_num, by go_num, HNx.out⟩
                  case measure => simp [intOf]; omega
            · have hni : ¬ ((0 : Int) < (n : Int)) := by omega
              have hn0 : Hid (n = 0) := by unfold Hid; omega
              have hsc := HSn.out
              rw [shut_no1' _ vn n hn0.out] at hsc
              have HSc : Hid (_ = _) := hsc
              clear hsc
              try clear hn
              try clear hvl
              try clear hl
              have HNx : Hid (PI s w _ _ _ (k + 1) 0 0) := HSt.out _ _ _ 0 0 HSc.out HLo.out HB.out (by first | omega | simp) HL6.out (by omega) (by omega)
              go_wp2_with fail
              refine Calls.mono (KK.out _) ?_
              rintro e Wq ⟨rfl, hq⟩
              subst Wq
              go_wp2
              go_roundw
              case rel => exact ⟨_, k + 1, 0, 0, by go_num, by go_num, by go_num, HNx.out⟩
              case measure => simp [intOf]; omega
          · have g1 : (48 : Int) ≤ (x : Int) := by omega
            have g2 : ¬ ((x : Int) ≤ 57) := by omega
            clear hx1 hx2 hdig
            by_cases hn : 0 < n
            · have hni : (0 : Int) < (n : Int) := by omega
              by_cases hRn : R = []
              · subst hRn
                have hsc := HSn.out
                rw [shut_nil] at hsc
                have HSc : Hid (_ = _) := hsc
                clear hsc
                try clear hn
                try clear hvl
                try clear hl
                have HNx : Hid (PI s w _ _ _ (k + 1) 0 0) := HSt.out _ _ _ 0 0 HSc.out HLo.out HB.out (by first | omega | simp) HL6.out (by omega) (by omega)
                go_wp2_with fail
                refine Calls.mono (KK.out _) ?_
                rintro e Wq ⟨rfl, hq⟩
                subst Wq
                go_wp2
                go_roundw
                case rel => exact ⟨_, k + 1, 0, 0, by go_num, by go_num, by go_num, HNx.out⟩
                case measure => simp [intOf]; omega
              · by_cases hvl : vn < 4294967296
                · have hvi : (vn : Int) < BIG := by have := hBIG.out; omega
                  obtain ⟨P, k0, u0, l0, rfl⟩ := snoc_of hRn
                  obtain ⟨g, cap, a0, m0, hv, hbg, rfl, hcell, hfz, B, hB⟩ := HLo.out.cells
                  simp only [Value.slice.injEq] at hv
                  obtain ⟨rfl, _, rfl⟩ := hv
                  have hlen : (P ++ [(k0, Value.slice a0 l0.length m0, l0)]).length = P.length + 1 := by simp
                  rw [hlen] at hR hRi hr17 HLo ⊢
                  have HLk : Hid (LastO wr w.heap.size _ _) := HLo.out
                  have HBB : Hid (_ ∧ _) := hB
                  have h256 := HL6.out (k0, Value.slice a0 l0.length m0, l0) (by simp)
                  simp only at h256
                  have hRi2 : (P.length : Int) + 1 ≤ 16 := by omega
                  have hRp2 : (0 : Int) < (P.length : Int) + 1 := by omega
                  clear hB hbg hlen hRn
                  by_cases hl : l0.length ≤ 255
                  · have hli : (l0.length : Int) ≤ 255 := by omega
                    have hvu : IntKind.u32.wrap (vn : Int) = (vn : Int) := by rw [IntKind.wrap_u32]; omega
                    have hsc := HSn.out
                    rw [shut_yes P k0 (.slice a0 l0.length m0) (.slice none 0 0) l0 vn n hn hvl hl] at hsc
                    have HSc : Hid (_ = _) := hsc
                    have HBw : Hid (Below w.heap.size w wr) := HB.out
                    have hbrs := HB.out.size
                    have HPl : Hid (∀ r ∈ P, r.2.2.length ≤ 256) := fun r hr => HL6.out r (List.mem_append_left _ hr)
                    have HV : Hid (vn < 4294967296) := hvl
                    clear hsc hn hvl
                    go_wp2_with fail
                    refine Calls.mono (KK.out _) ?_
                    rintro e Wq ⟨rfl, hq⟩
                    subst Wq
                    go_wp2_with (first | (at_builtin; refine wpList_append_own _ rfl _ _ 31 rfl B 23 j0 (.int .u32 0) 1 4 Tryd.underlying31 hj0 hy0 hy1 hy2 rfl (by decide) _ _ _ rfl (HBB.out.1.1.alloc _) ⟨wr.heap.size, 0, none⟩ 1 1 [.int .u32 (vn : Int)] rfl rfl (news1 wr _ 23) (one_u32 _) (by unfold maxLen; first | omega | (simp only [List.length_nil]; omega)) (by first | omega | (simp only [List.length_nil]; omega)) (Nat.le_trans HBB.out.2.2.1 (by simp)) ?_; intro v9 w9 hown9 hgrow9 _; have hgr := (World.grownBy_alloc wr _ _).trans hgrow9; have hL9 := HLk.out.add (a := vn) HV.out (by first | omega | (simp only [List.length_nil]; omega)) B HBB.out hown9 hgr; have hh9 := HLk.out.after hgr HBB.out.1; have HB9 : Hid (Below w.heap.size w w9) := HBw.out.grown hgr HBw.out.size (fun j hj => Nat.le_trans HBB.out.2.1 (HBB.out.1.1.lt j hj).1); obtain ⟨d9, c9, rfl⟩ := slice_of_owns hown9; have HL9 : Hid (LastO _ w.heap.size _ _) := hL9; have hcell9 := (cell_same hh9 _).trans hcell; have hfz9 := (frozen_same hh9 _).trans hfz; clear hgr hown9 hgrow9 hL9 hh9))
                    have hgw : w.heap.size ≤ g := (HL9.out.1.1.lt g rfl).1
                    have HNx : Hid (PI s w _ _ _ (k + 1) 0 0) := HSt.out _ _ _ 0 0 (HSc.out.trans (by simp [sgs])) HL9.out (HB9.out.setCell (by exact hgw) _) (by simp; omega) (fun r hr => by rcases List.mem_append.1 hr with hr | hr; exact HPl.out r hr; rw [List.mem_singleton.1 hr]; simp; omega) (by omega) (by omega)
                    clear HL9 HB9 hgw
                    go_wp2
                    go_roundw
                    case rel => exact ⟨_, k + 1, 0, 0, by go_num, by go_num, by go_num, HNx.out⟩
                    case measure => simp [intOf]; omega
                  · have hli : ¬ ((l0.length : Int) ≤ 255) := by omega
                    have hsc := HSn.out
                    rw [shut_no4 P _ vn n hl] at hsc
                    have HSc : Hid (_ = _) := hsc
                    clear hsc
                    try clear hn
                    try clear hvl
                    try clear hl
                    have HNx : Hid (PI s w _ _ _ (k + 1) 0 0) := HSt.out _ _ _ 0 0 HSc.out HLo.out HB.out (by first | omega | simp) HL6.out (by omega) (by omega)
                    go_wp2_with fail
                    refine Calls.mono (KK.out _) ?_
                    rintro e Wq ⟨rfl, hq⟩
                    subst Wq
                    go_wp2
                    go_roundw
                    case rel => exact ⟨_, k + 1, 0, 0, by go_num, by go_num, by go_num, HNx.out⟩
                    case measure => simp [intOf]; omega
                · have hvi : decide ((vn : Int) < BIG) = false := decide_eq_false (by have := hBIG.out; omega)
                  have hRp : (0 : Int) < (R.length : Int) := by rcases R with _ | ⟨a, b⟩; exact absurd rfl hRn; rw [List.length_cons]; omega
                  have hsc := HSn.out
                  rw [shut_no3 _ vn n hvl] at hsc
                  have HSc : Hid (_ = _) := hsc
                  clear hsc
                  try clear hn
                  try clear hvl
                  try clear hl
                  have HNx : Hid (PI s w _ _ _ (k + 1) 0 0) := HSt.out _ _ _ 0 0 HSc.out HLo.out HB.out (by first | omega | simp) HL6.out (by omega) (by omega)
                  go_wp2_with fail
                  refine Calls.mono (KK.out _) ?_
                  rintro e Wq ⟨rfl, hq⟩
                  subst Wq
                  go_wp2
                  go_roundw
                  case rel => exact ⟨_, k + 1, 0, 0, by go_num, by go_num, by go_num, HNx.out⟩
                  case measure => simp [intOf]; omega
            · have hni : ¬ ((0 : Int) < (n : Int)) := by omega
              have hn0 : Hid (n = 0) := by unfold Hid; omega
              have hsc := HSn.out
              rw [shut_no1' _ vn n hn0.out] at hsc
              have HSc : Hid (_ = _) := hsc
              clear hsc
              try clear hn
              try clear hvl
              try clear hl
              have HNx : Hid (PI s w _ _ _ (k + 1) 0 0) := HSt.out _ _ _ 0 0 HSc.out HLo.out HB.out (by first | omega | simp) HL6.out (by omega) (by omega)
              go_wp2_with fail
              refine Calls.mono (KK.out _) ?_
              rintro e Wq ⟨rfl, hq⟩
              subst Wq
              go_wp2
              go_roundw
              case rel => exact ⟨_, k + 1, 0, 0, by go_num, by go_num, by go_num, HNx.out⟩
              case measure => simp [intOf]; omega
end Go.Proofs.YtbdfigfjoiefiaaDoor

set_option linter.unusedVariables false
set_option linter.unusedSimpArgs false
set_option maxRecDepth 100000
namespace Go.Proofs.YtbdfigfjoiefiaaDoor
open Go.RowKit
theorem addLast_bd (v : Nat) (hv : v < 4294967296) : ∀ (o : List Sg), (∀ s ∈ o, ∀ x ∈ s.2, x < 4294967296) → ∀ s ∈ addLast v o, ∀ x ∈ s.2, x < 4294967296
  | [], h => by simp [addLast]
  | [t], h => by
    intro s hs x hx
    simp only [addLast, List.mem_singleton] at hs
    subst hs
    rcases List.mem_append.1 hx with hx | hx
    · exact h t (by simp) x hx
    · rw [List.mem_singleton.1 hx]; exact hv
  | t :: u :: L, h => by
    intro s hs x hx
    rw [addLast] at hs
    rcases List.mem_cons.1 hs with rfl | hs
    · exact h _ (by simp) x hx
    · exact addLast_bd v hv (u :: L) (fun r hr => h r (List.mem_cons_of_mem _ hr)) s hs x hx
theorem scanB_bd (o : List Sg) (v n : Nat) (c : UInt8) (h : ∀ s ∈ o, ∀ x ∈ s.2, x < 4294967296) : ∀ s ∈ (scanB o v n c).1, ∀ x ∈ s.2, x < 4294967296 := by
  have ho : ∀ s ∈ openB o c, ∀ x ∈ s.2, x < 4294967296 := by
    unfold openB
    split
    · intro s hs x hx
      rcases List.mem_append.1 hs with hs | hs
      · exact h s hs x hx
      · rw [List.mem_singleton.1 hs] at hx; simp at hx
    · exact h
  unfold scanB
  split
  · exact ho
  · show ∀ s ∈ shutB (openB o c) v n, _
    unfold shutB
    split
    · rename_i hc
      exact addLast_bd v hc.2.2.1 _ ho
    · exact ho
theorem scanF_bd : ∀ (l : List UInt8) (o : List Sg) (v n : Nat), (∀ s ∈ o, ∀ x ∈ s.2, x < 4294967296) → ∀ s ∈ scanF l o v n, ∀ x ∈ s.2, x < 4294967296
  | [], o, v, n, h => by rw [scanF]; exact h
  | c :: r, o, v, n, h => by
    rw [scanF]
    split
    · exact scanF_bd r _ _ _ (scanB_bd o v n c h)
    · exact h
theorem parse_good (l : List UInt8) (hl : l.length < 140737488351233) (w : World) (ht : Tabs w) (hm : MaxAt w) (hE : ErrsAt w) : Calls Tryd.prog 35 #[.string ⟨l.toArray⟩] w fun e w' => PathOk (goodO l) w e w' := by
  by_cases hg : okPath (scanF l [] 0 0) = true ∧ textOf (scanF l [] 0 0) = l
  · have e : goodO l = some (scanF l [] 0 0) := by unfold goodO; rw [if_pos hg]
    rw [e]
    have h := parse_text (scanF l [] 0 0) w hg.1 (scanF_bd l [] 0 0 (by simp)) ht hm
    rw [hg.2] at h
    exact h
  · have e : goodO l = none := by unfold goodO; rw [if_neg hg]
    rw [e]
    refine (parse_any l hl w ht hE).mono fun e w' h => ⟨h.2, ?_⟩
    rcases h.1 with ⟨v, R, rfl, ho, hok, ht⟩ | h
    · exfalso
      have h2 := scan_text (sgs R) hok (fun s hs x hx => by
        obtain ⟨r, hr, rfl⟩ := List.mem_map.1 hs
        exact (ho.2.1 r hr).2.1 x hx)
      rw [ht] at h2
      rw [h2] at hg
      exact hg ⟨hok, ht⟩
    · exact h
/-- The fault and the path that go with what came out. -/
def codO (x : Option (List Sg)) : Int := match x with | some _ => 0 | none => 4
def lstO (x : Option (List Sg)) : List Sg := x.getD []
theorem PathOk.get {x : Option (List Sg)} {w w' : World} {e : Ending} (h : PathOk x w e w') : Below w.heap.size w w' ∧ ∃ v R, e = .returned (.tuple #[v, .int .i64 (codO x)]) ∧ sgs R = lstO x ∧ OwnS w' w.heap.size v R := by
  obtain ⟨hb, h⟩ := h
  cases x with
  | some L =>
    obtain ⟨v, R, rfl, hs, ho⟩ := h
    exact ⟨hb, v, R, rfl, hs, ho⟩
  | none =>
    obtain rfl := h
    exact ⟨hb, _, [], rfl, rfl, ⟨World.ownsRow_nil _ _ _ _, fun r hr => by simp at hr, by simp⟩⟩
theorem OwnS.heaps {w w' : World} {base : Nat} {v : Value} {R : List Sv} (h : OwnS w base v R) (h0 : ∀ g, v.ownBlock = some g → w'.heap[g]? = w.heap[g]?) (hh : ∀ r ∈ R, ∀ g, r.2.1.ownBlock = some g → w'.heap[g]? = w.heap[g]?) : OwnS w' base v R :=
  ⟨owns_heap' h.1 h0, fun r hr => ⟨owns_heap' (h.2.1 r hr).1 (hh r hr), (h.2.1 r hr).2⟩, h.2.2⟩
set_option maxHeartbeats 4000000 in
theorem reads_walk (l : List UInt8) (four : Bool) (w : World) (hl : l.length < 4398046511104) (ht : Tabs w) (hm : MaxAt w) (hE : ErrsAt w) :
    Calls Tryd.prog 6 #[.string ⟨l.toArray⟩, .bool four] w fun e w' => e = .returned (.bool true) ∧ Below w.heap.size w w' := by
  have K1 : Hid (∀ X, _) := fun X => decode_any l four X
  have K2 : Hid (∀ X, _) := fun X => rdecode_any l four X hl
  have K3 : Hid (∀ X, Tabs X → MaxAt X → ErrsAt X → _) := fun X h1 h2 h3 => parse_good l (by omega) X h1 h2 h3
  have K4 : Hid (∀ X, Tabs X → _) := fun X h1 => rscan_walk ⟨l.toArray⟩ X (by rw [list_size]; omega) h1
  rw [show (⟨l.toArray⟩ : ByteArray).data.toList = l by simp] at K4
  have HT : Hid (Tabs w) := ht
  have HM : Hid (MaxAt w) := hm
  have HE : Hid (ErrsAt w) := hE
  clear ht hm hE hl
  generalize decI (szN four) 16 l = DX at *
  generalize goodO l = GX at *
  generalize (⟨l.toArray⟩ : ByteArray) = s at *
  go_enter Tryd.func6, Tryd.ntmps6
  go_wp2_with fail
  refine (K1.out w).mono ?_
  rintro e w1 hp
  obtain ⟨hb1, v1, R1, rfl, hs1, ho1⟩ := hp.get
  obtain ⟨a1, c1, rfl⟩ := slice_of_owns ho1.1
  have HS1 : Hid (sgs R1 = lstO DX) := hs1
  have HV1 : Hid (∀ b, (Value.slice a1 R1.length c1).ownBlock = some b → b < w1.heap.size) := fun b e => (ho1.1.lt b e).2
  have HU1 : Hid (∀ r ∈ R1, ∀ b, r.2.1.ownBlock = some b → b < w1.heap.size) := fun r hr b e => ((ho1.2.1 r hr).1.lt b e).2
  have HO1 : Hid (OwnS w1 w.heap.size (.slice a1 R1.length c1) R1) := ho1
  have B1 : Hid (Below w.heap.size w w1) := hb1
  clear hp hb1 hs1 ho1
  go_wp2_with fail
  refine (K2.out w1).mono ?_
  rintro e w2 hp
  obtain ⟨hb2, v2, R2, rfl, hs2, ho2⟩ := hp.get
  obtain ⟨a2, c2, rfl⟩ := slice_of_owns ho2.1
  have HS2 : Hid (sgs R2 = lstO DX) := hs2
  have HL2 : Hid (∀ b, (Value.slice a2 R2.length c2).ownBlock = some b → w1.heap.size ≤ b ∧ b < w2.heap.size) := fun b e => ho2.1.lt b e
  have HU2 : Hid (∀ r ∈ R2, ∀ b, r.2.1.ownBlock = some b → w1.heap.size ≤ b ∧ b < w2.heap.size) := fun r hr b e => (ho2.2.1 r hr).1.lt b e
  have HO2 : Hid (OwnS w2 w1.heap.size (.slice a2 R2.length c2) R2) := ho2
  have HO1b : Hid (OwnS w2 w.heap.size (.slice a1 R1.length c1) R1) := HO1.out.below hb2
  have B2 : Hid (Below w.heap.size w w2) := B1.out.trans (hb2.mono B1.out.size)
  have h12 := hb2.size
  clear hp hb2 hs2 ho2 HO1
  go_wp2_with fail
  refine (K3.out w2 (HT.out.below B2.out) (HM.out.below B2.out) (HE.out.below B2.out)).mono ?_
  rintro e w3 hp
  obtain ⟨hb3, v3, R3, rfl, hs3, ho3⟩ := hp.get
  obtain ⟨a3, c3, rfl⟩ := slice_of_owns ho3.1
  have HS3 : Hid (sgs R3 = lstO GX) := hs3
  have HO3 : Hid (OwnS w3 w2.heap.size (.slice a3 R3.length c3) R3) := ho3
  have HO1c : Hid (OwnS w3 w.heap.size (.slice a1 R1.length c1) R1) := HO1b.out.below hb3
  have HO2c : Hid (OwnS w3 w1.heap.size (.slice a2 R2.length c2) R2) := HO2.out.below hb3
  have B3 : Hid (Below w.heap.size w w3) := B2.out.trans (hb3.mono B2.out.size)
  clear hp hb3 hs3 ho3 HO1b HO2
  go_wp2_with fail
  refine (K4.out w3 (HT.out.below B3.out)).mono ?_
  rintro e w4 hp
  obtain ⟨hb4, v4, R4, rfl, hs4, ho4⟩ := hp.get
  obtain ⟨a4, c4, rfl⟩ := slice_of_owns ho4.1
  have P4 : Hid (PathAt w4 (.slice a4 R4.length c4) (lstO GX)) := by unfold Hid; rw [← hs4]; exact ho4.at
  have HO1d : Hid (OwnS w4 w.heap.size (.slice a1 R1.length c1) R1) := HO1c.out.below hb4
  have HO2d : Hid (OwnS w4 w1.heap.size (.slice a2 R2.length c2) R2) := HO2c.out.below hb4
  have HO3d : Hid (OwnS w4 w2.heap.size (.slice a3 R3.length c3) R3) := HO3.out.below hb4
  have P1 : Hid (PathAt w4 (.slice a1 R1.length c1) (lstO DX)) := by unfold Hid; rw [← HS1.out]; exact HO1d.out.at
  have P2 : Hid (PathAt w4 (.slice a2 R2.length c2) (lstO DX)) := by unfold Hid; rw [← HS2.out]; exact HO2d.out.at
  have P3 : Hid (PathAt w4 (.slice a3 R3.length c3) (lstO GX)) := by unfold Hid; rw [← HS3.out]; exact HO3d.out.at
  have B4 : Hid (Below w.heap.size w w4) := B3.out.trans (hb4.mono B3.out.size)
  clear hp hb4 hs4 ho4 HO1c HO2c HO3 K2 K3 K4
  go_wp2_with fail
  refine (rsame_any _ _ (lstO DX) (lstO DX) w4 P1.out P2.out).mono ?_
  rintro e w5 ⟨rfl, hb⟩
  rw [show decide (lstO DX = lstO DX) = true by simp]
  have HO1e : Hid (OwnS w5 w.heap.size (.slice a1 R1.length c1) R1) := HO1d.out.below hb
  have HO2e : Hid (OwnS w5 w1.heap.size (.slice a2 R2.length c2) R2) := HO2d.out.below hb
  have HO3e : Hid (OwnS w5 w2.heap.size (.slice a3 R3.length c3) R3) := HO3d.out.below hb
  have P3e : Hid (PathAt w5 (.slice a3 R3.length c3) (lstO GX)) := P3.out.below hb
  have P4e : Hid (PathAt w5 (.slice a4 R4.length c4) (lstO GX)) := P4.out.below hb
  have B5 : Hid (Below w.heap.size w w5) := B4.out.trans (hb.mono B4.out.size)
  clear hb HO1d HO2d HO3d P1 P2 P3 P4
  generalize hcd : codO DX = k1 at *
  generalize hcg : codO GX = k2 at *
  go_wp2_with fail
  refine (rsame_any _ _ (lstO GX) (lstO GX) w5 P3e.out P4e.out).mono ?_
  rintro e w6 ⟨rfl, hb⟩
  rw [show decide (lstO GX = lstO GX) = true by simp]
  have HO1f : Hid (OwnS w6 w.heap.size (.slice a1 R1.length c1) R1) := HO1e.out.below hb
  have HO2f : Hid (OwnS w6 w1.heap.size (.slice a2 R2.length c2) R2) := HO2e.out.below hb
  have HO3f : Hid (OwnS w6 w2.heap.size (.slice a3 R3.length c3) R3) := HO3e.out.below hb
  have B6 : Hid (Below w.heap.size w w6) := B5.out.trans (hb.mono B5.out.size)
  clear hb HO1e HO2e HO3e P3e P4e
  go_wp2_with fail
  refine (spoil_abv _ w6 w.heap.size w1.heap.size R1 HO1f.out HV1.out HU1.out).mono ?_
  rintro e w7 ⟨rfl, hb, habv⟩
  have HO2g : Hid (OwnS w7 w1.heap.size (.slice a2 R2.length c2) R2) := HO2f.out.heaps (fun g e => habv g (HL2.out g e).1) (fun r hr g e => habv g (HU2.out r hr g e).1)
  have HO3g : Hid (OwnS w7 w2.heap.size (.slice a3 R3.length c3) R3) := HO3f.out.heaps (fun g e => habv g (Nat.le_trans h12 (HO3f.out.1.lt g e).1)) (fun r hr g e => habv g (Nat.le_trans h12 ((HO3f.out.2.1 r hr).1.lt g e).1))
  have B7 : Hid (Below w.heap.size w w7) := B6.out.trans hb
  clear hb habv HO1f HO2f HO3f
  go_wp2_with fail
  refine (spoil_any _ w7 w2.heap.size R3 HO3g.out).mono ?_
  rintro e w8 ⟨rfl, hb⟩
  have HO2h : Hid (OwnS w8 w1.heap.size (.slice a2 R2.length c2) R2) := HO2g.out.heaps (fun g e => hb.block g (HL2.out g e).2) (fun r hr g e => hb.block g (HU2.out r hr g e).2)
  have B8 : Hid (Below w.heap.size w w8) := B7.out.trans (hb.mono B2.out.size)
  clear hb HO2g HO3g
  go_wp2_with fail
  refine (K1.out w8).mono ?_
  rintro e w9 hp
  obtain ⟨hb9, v9, R9, rfl, hs9, ho9⟩ := hp.get
  obtain ⟨a9, c9, rfl⟩ := slice_of_owns ho9.1
  have P9 : Hid (PathAt w9 (.slice a9 R9.length c9) (lstO DX)) := by unfold Hid; rw [← hs9]; exact ho9.at
  have P2i : Hid (PathAt w9 (.slice a2 R2.length c2) (lstO DX)) := by unfold Hid; rw [← HS2.out]; exact (HO2h.out.below hb9).at
  have B9 : Hid (Below w.heap.size w w9) := B8.out.trans (hb9.mono B8.out.size)
  rw [hcd]
  clear hp hb9 hs9 ho9 HO2h K1
  go_wp2_with fail
  refine (rsame_any _ _ (lstO DX) (lstO DX) w9 P9.out P2i.out).mono ?_
  rintro e w10 ⟨rfl, hb⟩
  rw [show decide (lstO DX = lstO DX) = true by simp]
  have B10 : Hid (Below w.heap.size w w10) := B9.out.trans (hb.mono B9.out.size)
  clear hb P9 P2i
  go_wp2_with fail
  refine (works_any w10 (HT.out.below B10.out)).mono ?_
  rintro e w11 ⟨rfl, hb⟩
  have B11 : Hid (Below w.heap.size w w11) := B10.out.trans (hb.mono B10.out.size)
  clear hb
  go_wp2
  go_ret
  exact ⟨rfl, B11.out⟩
end Go.Proofs.YtbdfigfjoiefiaaDoor
