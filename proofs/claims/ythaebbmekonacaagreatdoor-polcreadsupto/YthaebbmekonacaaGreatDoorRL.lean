/-
  Lists of conditions and of actions read from their words.
-/
import Derived.Test.YthaebbmekonacaaGreatDoorRCz
import Derived.Test.YthaebbmekonacaaGreatDoorSV
set_option linter.unusedVariables false
set_option linter.unusedSimpArgs false
set_option maxRecDepth 100000
namespace Go.Proofs.YthaebbmekonacaaGreatDoor
open Go.RowKit
def andW : List UInt8 := [97, 110, 100]
/-- Words of several, with the word and between two; then what stands behind. -/
def flatW : List (List (List UInt8)) → List (List UInt8) → List (List UInt8)
  | [], t => t
  | [a], t => a ++ t
  | a :: b :: l, t => a ++ (andW :: flatW (b :: l) t)
theorem flatW_last (W : List (List (List UInt8))) (k : Nat) (h : k + 1 = W.length) (t : List (List UInt8)) : flatW (W.drop k) t = W[k] ++ t := by
  rw [List.drop_eq_getElem_cons (by omega), List.drop_eq_nil_of_le (by omega)]; rfl
theorem flatW_more (W : List (List (List UInt8))) (k : Nat) (h : k + 1 < W.length) (t : List (List UInt8)) : flatW (W.drop k) t = W[k] ++ (andW :: flatW (W.drop (k + 1)) t) := by
  rw [List.drop_eq_getElem_cons (by omega), List.drop_eq_getElem_cons h]; rfl
theorem next_any (pl ps : Nat) (t : List (List UInt8)) (w : World) (h : Rd w pl ps t) (hm : MaxAt w) : Calls Tryz.prog 92 #[.pointer (some ⟨pl, 0, none⟩), .pointer (some ⟨ps, 0, none⟩)] w fun e w' => e = .returned (.string ⟨(t.headD [32]).toArray⟩) ∧ Left w w' pl ps t.tail := by
  cases t with
  | nil =>
    refine (next_end pl ps w h).mono ?_
    rintro e w' ⟨rfl, rfl⟩
    exact ⟨rfl, h, Bs2.refl _ _ _⟩
  | cons x r =>
    refine (next_yes pl ps x r w h hm).mono ?_
    rintro e w' ⟨rfl, h1, h2⟩
    exact ⟨rfl, h1, h2⟩
theorem Rd.belowB {w w' : World} {pl ps B : Nat} {ws : List (List UInt8)} (h : Rd w pl ps ws) (hb : Below B w w') (hl : pl < B) (hs : ps < B) : Rd w' pl ps ws := by
  obtain ⟨ne, b, s, h1, h2, h3, h4, h5, h6⟩ := h
  refine ⟨ne, b, s, (hb.cell (p := ⟨pl, 0, none⟩) hl).trans h1, (hb.cell (p := ⟨ps, 0, none⟩) hs).trans h2, ?_, ?_, h5, h6⟩
  · unfold World.frozen? at h3 ⊢; rw [hb.block _ hl]; exact h3
  · unfold World.frozen? at h4 ⊢; rw [hb.block _ hs]; exact h4
theorem Bs2.of_belowB {p q B : Nat} {w w1 w' : World} (h : Bs2 p q w w1) (hb : Below B w1 w') (hB : w.heap.size ≤ B) : Bs2 p q w w' :=
  ⟨hb.os.trans h.os, hb.tape.trans h.tape, hb.output.trans h.output, Nat.le_trans h.size hb.size, fun j hj hp hq => (hb.block j (by omega)).trans (h.block j hj hp hq)⟩
def lenV : Value → Nat
  | .slice _ n _ => n
  | _ => 0
theorem OwnCd.bs2 {w w' : World} {base p q : Nat} {v : Value} {l : List Cd} (h : OwnCd w base v l) (hb : Bs2 p q w w') (hp : p < base) (hq : q < base) : OwnCd w' base v l :=
  owns_heap' h fun g hg => by
    have := owns_lt h g hg
    exact hb.block g this.2 (by omega) (by omega)
theorem oneCd (w : World) (c : Cd) : CdAt (w.alloc (.cells #[.int .i64 c.k, .bool c.nt, .string c.nm, .int .i64 c.n] 37)) (.slice (some ⟨w.heap.size, 0, none⟩) 1 1) [c] := by
  refine ⟨_, w.heap.size, 0, 1, rfl, Or.inl rfl, by simp, fun j hj => ?_⟩
  obtain rfl : j = 0 := by simpa using hj
  refine ⟨?_, ?_, ?_, ?_⟩ <;> rw [World.cell?_alloc_new] <;> rfl
set_option maxHeartbeats 2000000 in
theorem readListCd (W : List (List (List UInt8))) (L : List Cd) (hWL : W.length = L.length) (h1 : 1 ≤ L.length) (h64 : L.length ≤ 64) (t : List (List UInt8)) (ht : t.headD [32] ≠ andW) (pl ps : Nat) (W0 w : World) (h0 : Std0 W0 w pl ps) (hr : Rd w pl ps (flatW W t))
    (HRd : ∀ k (h : k < L.length) (h' : k < W.length) (X : World) (r : List (List UInt8)), Std0 W0 X pl ps → Rd X pl ps (W[k] ++ r) → Calls Tryz.prog 88 #[clo pl ps] X fun e w' => e = .returned (cdV L[k]) ∧ Left X w' pl ps r) :
    Calls Tryz.prog 87 #[clo pl ps, .func (.func 88) #[] #[]] w fun e w' => (∃ v, e = .returned (.tuple #[v, .string ⟨(t.headD [32]).toArray⟩]) ∧ OwnCd w' w.heap.size v L) ∧ Left w w' pl ps t.tail := by
  have hlt := hr.lt
  have HPl : Hid (pl < w.heap.size ∧ ps < w.heap.size) := hlt
  have HS : Hid (Std0 W0 w pl ps) := h0
  have HR0 : Hid (Rd w pl ps (flatW (W.drop 0) t)) := hr
  have HRR : Hid (_ : Prop) := HRd
  have HW : Hid (W.length = L.length) := hWL
  obtain ⟨n, hn⟩ : ∃ n, L.length = n := ⟨_, rfl⟩
  have HN : Hid (L.length = n) := hn
  rw [hn] at h1 h64
  have htne : ((⟨(t.headD [32]).toArray⟩ : ByteArray).toList == [97, 110, 100]) = false := by
    rw [ByteArray.toList_eq, beq_eq_false_iff_ne]; simpa [andW] using ht
  have htne2 : ¬ (⟨(t.headD [32]).toArray⟩ : ByteArray).toList = [97, 110, 100] := by
    rw [ByteArray.toList_eq]; simpa [andW] using ht
  have htne3 : ¬ t.headD [32] = [97, 110, 100] := ht
  have htne4 : (t.headD [32] == ([97, 110, 100] : List UInt8)) = false := beq_eq_false_iff_ne.2 ht
  obtain ⟨sw, hsw⟩ : ∃ sw, t.headD [32] = sw := ⟨_, rfl⟩
  have HSW : Hid (_ = sw) := hsw
  rw [hsw] at htne htne2 htne3 htne4 ⊢
  clear hsw ht hlt h0 hr HRd hWL hn
  unfold clo at HRR ⊢
  go_enter Tryz.func87, Tryz.ntmps87
  go_wp2
  go_loopw [6, 7] (fun x6 x7 wr => ∃ (k : Nat), k < n ∧ OwnCd wr w.heap.size x6 (L.take k) ∧ Rd wr pl ps (flatW (W.drop k) t) ∧ Bs2 pl ps w wr) (fun x6 _ _ => n - lenV x6)
  case atStart => exact ⟨0, by omega, OwnCd.nil _ _, HR0.out, Bs2.refl _ _ _⟩
  case round =>
    obtain ⟨k, hk, ho, hrd, hbs⟩ := hrel
    obtain ⟨av, cv, ev, hcv⟩ := own_len ho
    subst ev
    have k1 : k < L.length := by rw [HN.out]; exact hk
    have k2 : k < W.length := by rw [HW.out]; exact k1
    have htk : (L.take k).length = k := by rw [List.length_take]; omega
    have HO : Hid (OwnCd wr w.heap.size (.slice av k cv) (L.take k)) := by unfold Hid; rw [htk] at ho; exact ho
    have HL : Hid ((L.take k).length = k) := htk
    have HT : Hid (L.take (k + 1) = L.take k ++ [L[k]]) := List.take_succ_eq_append_getElem k1
    rw [htk]
    have HB : Hid (Bs2 pl ps w wr) := hbs
    have q1 : (k : Int) < 64 := by omega
    by_cases hlast : k + 1 = n
    · have HRw : Hid (Rd wr pl ps (W[k] ++ t)) := by unfold Hid; rw [← flatW_last W k (by rw [HW.out, HN.out]; exact hlast) t]; exact hrd
      have HK : Hid (∀ X, Std0 W0 X pl ps → Rd X pl ps (W[k] ++ t) → Calls Tryz.prog 88 #[.func (.func 92) #[] #[.pointer (some ⟨pl, 0, none⟩), .pointer (some ⟨ps, 0, none⟩)]] X fun e w' => e = .returned (.agg #[.int .i64 L[k].k, .bool L[k].nt, .string L[k].nm, .int .i64 L[k].n]) ∧ Left X w' pl ps t) := fun X h h' => HRR.out k k1 k2 X t h h'
      have HTk : Hid (L.take (k + 1) = L) := List.take_of_length_le (by rw [HN.out]; omega)
      clear hlast
      have HC1 : Hid (∀ X : World, CdAt (X.alloc (.cells #[.int .i64 L[k].k, .bool L[k].nt, .string L[k].nm, .int .i64 L[k].n] 37)) (.slice (some ⟨X.heap.size, 0, none⟩) 1 1) [L[k]]) := fun X => oneCd X L[k]
      clear ho hrd hbs htk
      generalize W[k] = ww at *
      clear k2
      obtain ⟨lk, hlk⟩ : ∃ lk, L[k] = lk := ⟨_, rfl⟩
      rw [hlk] at HK HT HC1
      clear hlk k1

      go_wp2_with fail
      refine Calls.mono (need_yes _) ?_
      rintro e w1 ⟨rfl, hw1⟩
      subst w1
      go_wp2_with fail
      refine Calls.mono (HK.out _ (HS.out.bs2 HB.out) HRw.out) ?_
      rintro e w2 ⟨rfl, hl2⟩
      have HO2 : Hid (OwnCd w2 w.heap.size (.slice av k cv) (L.take k)) := HO.out.bs2 hl2.bs HPl.out.1 HPl.out.2
      have HB2 : Hid (Bs2 pl ps w w2) := HB.out.trans hl2.bs
      have HR2 : Hid (Rd w2 pl ps t) := hl2.rd
      have HA : Hid (∀ A, Below w2.heap.size w2 (w2.alloc (.cells A 37))) := fun A => (Below.refl _ _).alloc (Nat.le_refl _) _
      clear hl2 HO HB HRw HK
      go_wp2_with (at_builtin; refine wpList_append_Cd _ rfl _ _ rfl w.heap.size _ _ (L.take k) [_] (by first | rfl | (rw [HL.out]; rfl)) rfl ((HO2.out.below (HA.out _))) (HC1.out w2) (by rw [HL.out]; simp; omega) (by have := HB2.out.size; have := (HA.out #[]).size; simp; omega) ?_; intro v6 w6 hown6 hb6)
      have HB6 : Hid (Bs2 pl ps w w6) := (HB2.out.trans (Bs2.of_below (HA.out _))).of_belowB hb6 (Nat.le_refl _)
      have HR6 : Hid (Rd w6 pl ps t) := (HR2.out.below (HA.out _)).belowB hb6 HPl.out.1 HPl.out.2
      have HO6 : Hid (OwnCd w6 w.heap.size v6 (L.take (k + 1))) := by unfold Hid; rw [HT.out]; exact hown6
      obtain ⟨av6, cv6, ev6, hcv6⟩ := own_len hown6
      rw [List.length_append, HL.out, List.length_singleton] at ev6 hcv6
      clear hown6 hb6 HO2 HB2 HR2 HA HC1 HT
      subst ev6
      refine Calls.mono (next_any pl ps t w6 HR6.out (HS.out.bs2 HB6.out).max) ?_
      rintro e w7 ⟨rfl, hl7⟩
      have HO7 : Hid (OwnCd w7 w.heap.size (.slice av6 (k + 1) cv6) L) := by unfold Hid; rw [← HTk.out]; exact HO6.out.bs2 hl7.bs HPl.out.1 HPl.out.2
      have HL7 : Hid (Left w w7 pl ps t.tail) := ⟨hl7.rd, HB6.out.trans hl7.bs⟩
      clear hl7 HO6 HB6 HR6 HTk
      rw [HSW.out]
      go_wp2
      go_ret2
      exact ⟨⟨_, rfl, HO7.out⟩, HL7.out⟩
    · have HRw : Hid (Rd wr pl ps (W[k] ++ (andW :: flatW (W.drop (k + 1)) t))) := by unfold Hid; rw [← flatW_more W k (by rw [HW.out, HN.out]; omega) t]; exact hrd
      have HK : Hid (∀ X, Std0 W0 X pl ps → Rd X pl ps (W[k] ++ (andW :: flatW (W.drop (k + 1)) t)) → Calls Tryz.prog 88 #[.func (.func 92) #[] #[.pointer (some ⟨pl, 0, none⟩), .pointer (some ⟨ps, 0, none⟩)]] X fun e w' => e = .returned (.agg #[.int .i64 L[k].k, .bool L[k].nt, .string L[k].nm, .int .i64 L[k].n]) ∧ Left X w' pl ps (andW :: flatW (W.drop (k + 1)) t)) := fun X h h' => HRR.out k k1 k2 X _ h h'
      have HTk : Hid (k + 1 < n) := by unfold Hid; omega
      have HC1 : Hid (∀ X : World, CdAt (X.alloc (.cells #[.int .i64 L[k].k, .bool L[k].nt, .string L[k].nm, .int .i64 L[k].n] 37)) (.slice (some ⟨X.heap.size, 0, none⟩) 1 1) [L[k]]) := fun X => oneCd X L[k]
      clear ho hrd hbs htk
      generalize W[k] = ww at *
      generalize hfw : flatW (W.drop (k + 1)) t = fw at *
      have HFW : Hid (_ = fw) := hfw
      clear hfw
      clear k2
      obtain ⟨lk, hlk⟩ : ∃ lk, L[k] = lk := ⟨_, rfl⟩
      rw [hlk] at HK HT HC1
      clear hlk k1

      go_wp2_with fail
      refine Calls.mono (need_yes _) ?_
      rintro e w1 ⟨rfl, hw1⟩
      subst w1
      go_wp2_with fail
      refine Calls.mono (HK.out _ (HS.out.bs2 HB.out) HRw.out) ?_
      rintro e w2 ⟨rfl, hl2⟩
      have HO2 : Hid (OwnCd w2 w.heap.size (.slice av k cv) (L.take k)) := HO.out.bs2 hl2.bs HPl.out.1 HPl.out.2
      have HB2 : Hid (Bs2 pl ps w w2) := HB.out.trans hl2.bs
      have HR2 : Hid (Rd w2 pl ps (andW :: fw)) := hl2.rd
      have HA : Hid (∀ A, Below w2.heap.size w2 (w2.alloc (.cells A 37))) := fun A => (Below.refl _ _).alloc (Nat.le_refl _) _
      clear hl2 HO HB HRw HK
      go_wp2_with (at_builtin; refine wpList_append_Cd _ rfl _ _ rfl w.heap.size _ _ (L.take k) [_] (by first | rfl | (rw [HL.out]; rfl)) rfl ((HO2.out.below (HA.out _))) (HC1.out w2) (by rw [HL.out]; simp; omega) (by have := HB2.out.size; have := (HA.out #[]).size; simp; omega) ?_; intro v6 w6 hown6 hb6)
      have HB6 : Hid (Bs2 pl ps w w6) := (HB2.out.trans (Bs2.of_below (HA.out _))).of_belowB hb6 (Nat.le_refl _)
      have HR6 : Hid (Rd w6 pl ps (andW :: fw)) := (HR2.out.below (HA.out _)).belowB hb6 HPl.out.1 HPl.out.2
      have HO6 : Hid (OwnCd w6 w.heap.size v6 (L.take (k + 1))) := by unfold Hid; rw [HT.out]; exact hown6
      obtain ⟨av6, cv6, ev6, hcv6⟩ := own_len hown6
      rw [List.length_append, HL.out, List.length_singleton] at ev6 hcv6
      clear hown6 hb6 HO2 HB2 HR2 HA HC1 HT
      subst ev6
      refine Calls.mono (next_any pl ps (andW :: fw) w6 HR6.out (HS.out.bs2 HB6.out).max) ?_
      rintro e w7 ⟨rfl, hl7⟩
      have HO7 : Hid (OwnCd w7 w.heap.size (.slice av6 (k + 1) cv6) (L.take (k + 1))) := HO6.out.bs2 hl7.bs HPl.out.1 HPl.out.2
      have HB7 : Hid (Bs2 pl ps w w7) := HB6.out.trans hl7.bs
      have HR7 : Hid (Rd w7 pl ps (flatW (W.drop (k + 1)) t)) := by unfold Hid; rw [HFW.out]; exact hl7.rd
      clear hl7 HO6 HB6 HR6
      have haw : (andW == ([97, 110, 100] : List UInt8)) = true := by decide
      go_wp2
      refine ⟨⟨k + 1, HTk.out, HO7.out, HR7.out, HB7.out⟩, ?_⟩
      have := HTk.out
      simp [lenV]; omega
theorem OwnAc.bs2 {w w' : World} {base p q : Nat} {v : Value} {l : List Ac} (h : OwnAc w base v l) (hb : Bs2 p q w w') (hp : p < base) (hq : q < base) : OwnAc w' base v l :=
  owns_heap' h fun g hg => by
    have := owns_lt h g hg
    exact hb.block g this.2 (by omega) (by omega)
theorem oneAc (w : World) (c : Ac) : AcAt (w.alloc (.cells #[.int .i64 c.k, .string c.nm, .int .u32 (c.n : Int), .string c.ad] 40)) (.slice (some ⟨w.heap.size, 0, none⟩) 1 1) [c] := by
  refine ⟨_, w.heap.size, 0, 1, rfl, Or.inl rfl, by simp, fun j hj => ?_⟩
  obtain rfl : j = 0 := by simpa using hj
  refine ⟨?_, ?_, ?_, ?_⟩ <;> rw [World.cell?_alloc_new] <;> rfl
set_option maxHeartbeats 2000000 in
theorem readListAc (W : List (List (List UInt8))) (L : List Ac) (hWL : W.length = L.length) (h1 : 1 ≤ L.length) (h64 : L.length ≤ 64) (t : List (List UInt8)) (ht : t.headD [32] ≠ andW) (pl ps : Nat) (W0 w : World) (h0 : Std0 W0 w pl ps) (hr : Rd w pl ps (flatW W t))
    (HRd : ∀ k (h : k < L.length) (h' : k < W.length) (X : World) (r : List (List UInt8)), Std0 W0 X pl ps → Rd X pl ps (W[k] ++ r) → Calls Tryz.prog 91 #[clo pl ps] X fun e w' => e = .returned (acV L[k]) ∧ Left X w' pl ps r) :
    Calls Tryz.prog 90 #[clo pl ps, .func (.func 91) #[] #[]] w fun e w' => (∃ v, e = .returned (.tuple #[v, .string ⟨(t.headD [32]).toArray⟩]) ∧ OwnAc w' w.heap.size v L) ∧ Left w w' pl ps t.tail := by
  have hlt := hr.lt
  have HPl : Hid (pl < w.heap.size ∧ ps < w.heap.size) := hlt
  have HS : Hid (Std0 W0 w pl ps) := h0
  have HR0 : Hid (Rd w pl ps (flatW (W.drop 0) t)) := hr
  have HRR : Hid (_ : Prop) := HRd
  have HW : Hid (W.length = L.length) := hWL
  obtain ⟨n, hn⟩ : ∃ n, L.length = n := ⟨_, rfl⟩
  have HN : Hid (L.length = n) := hn
  rw [hn] at h1 h64
  have htne : ((⟨(t.headD [32]).toArray⟩ : ByteArray).toList == [97, 110, 100]) = false := by
    rw [ByteArray.toList_eq, beq_eq_false_iff_ne]; simpa [andW] using ht
  have htne2 : ¬ (⟨(t.headD [32]).toArray⟩ : ByteArray).toList = [97, 110, 100] := by
    rw [ByteArray.toList_eq]; simpa [andW] using ht
  have htne3 : ¬ t.headD [32] = [97, 110, 100] := ht
  have htne4 : (t.headD [32] == ([97, 110, 100] : List UInt8)) = false := beq_eq_false_iff_ne.2 ht
  obtain ⟨sw, hsw⟩ : ∃ sw, t.headD [32] = sw := ⟨_, rfl⟩
  have HSW : Hid (_ = sw) := hsw
  rw [hsw] at htne htne2 htne3 htne4 ⊢
  clear hsw ht hlt h0 hr HRd hWL hn
  unfold clo at HRR ⊢
  go_enter Tryz.func90, Tryz.ntmps90
  go_wp2
  go_loopw [6, 7] (fun x6 x7 wr => ∃ (k : Nat), k < n ∧ OwnAc wr w.heap.size x6 (L.take k) ∧ Rd wr pl ps (flatW (W.drop k) t) ∧ Bs2 pl ps w wr) (fun x6 _ _ => n - lenV x6)
  case atStart => exact ⟨0, by omega, OwnAc.nil _ _, HR0.out, Bs2.refl _ _ _⟩
  case round =>
    obtain ⟨k, hk, ho, hrd, hbs⟩ := hrel
    obtain ⟨av, cv, ev, hcv⟩ := own_len ho
    subst ev
    have k1 : k < L.length := by rw [HN.out]; exact hk
    have k2 : k < W.length := by rw [HW.out]; exact k1
    have htk : (L.take k).length = k := by rw [List.length_take]; omega
    have HO : Hid (OwnAc wr w.heap.size (.slice av k cv) (L.take k)) := by unfold Hid; rw [htk] at ho; exact ho
    have HL : Hid ((L.take k).length = k) := htk
    have HT : Hid (L.take (k + 1) = L.take k ++ [L[k]]) := List.take_succ_eq_append_getElem k1
    rw [htk]
    have HB : Hid (Bs2 pl ps w wr) := hbs
    have q1 : (k : Int) < 64 := by omega
    by_cases hlast : k + 1 = n
    · have HRw : Hid (Rd wr pl ps (W[k] ++ t)) := by unfold Hid; rw [← flatW_last W k (by rw [HW.out, HN.out]; exact hlast) t]; exact hrd
      have HK : Hid (∀ X, Std0 W0 X pl ps → Rd X pl ps (W[k] ++ t) → Calls Tryz.prog 91 #[.func (.func 92) #[] #[.pointer (some ⟨pl, 0, none⟩), .pointer (some ⟨ps, 0, none⟩)]] X fun e w' => e = .returned (.agg #[.int .i64 L[k].k, .string L[k].nm, .int .u32 (L[k].n : Int), .string L[k].ad]) ∧ Left X w' pl ps t) := fun X h h' => HRR.out k k1 k2 X t h h'
      have HTk : Hid (L.take (k + 1) = L) := List.take_of_length_le (by rw [HN.out]; omega)
      clear hlast
      have HC1 : Hid (∀ X : World, AcAt (X.alloc (.cells #[.int .i64 L[k].k, .string L[k].nm, .int .u32 (L[k].n : Int), .string L[k].ad] 40)) (.slice (some ⟨X.heap.size, 0, none⟩) 1 1) [L[k]]) := fun X => oneAc X L[k]
      clear ho hrd hbs htk
      generalize W[k] = ww at *
      clear k2
      obtain ⟨lk, hlk⟩ : ∃ lk, L[k] = lk := ⟨_, rfl⟩
      rw [hlk] at HK HT HC1
      clear hlk k1

      go_wp2_with fail
      refine Calls.mono (need_yes _) ?_
      rintro e w1 ⟨rfl, hw1⟩
      subst w1
      go_wp2_with fail
      refine Calls.mono (HK.out _ (HS.out.bs2 HB.out) HRw.out) ?_
      rintro e w2 ⟨rfl, hl2⟩
      have HO2 : Hid (OwnAc w2 w.heap.size (.slice av k cv) (L.take k)) := HO.out.bs2 hl2.bs HPl.out.1 HPl.out.2
      have HB2 : Hid (Bs2 pl ps w w2) := HB.out.trans hl2.bs
      have HR2 : Hid (Rd w2 pl ps t) := hl2.rd
      have HA : Hid (∀ A, Below w2.heap.size w2 (w2.alloc (.cells A 40))) := fun A => (Below.refl _ _).alloc (Nat.le_refl _) _
      clear hl2 HO HB HRw HK
      go_wp2_with (at_builtin; refine wpList_append_Ac _ rfl _ _ rfl w.heap.size _ _ (L.take k) [_] (by first | rfl | (rw [HL.out]; rfl)) rfl ((HO2.out.below (HA.out _))) (HC1.out w2) (by rw [HL.out]; simp; omega) (by have := HB2.out.size; have := (HA.out #[]).size; simp; omega) ?_; intro v6 w6 hown6 hb6)
      have HB6 : Hid (Bs2 pl ps w w6) := (HB2.out.trans (Bs2.of_below (HA.out _))).of_belowB hb6 (Nat.le_refl _)
      have HR6 : Hid (Rd w6 pl ps t) := (HR2.out.below (HA.out _)).belowB hb6 HPl.out.1 HPl.out.2
      have HO6 : Hid (OwnAc w6 w.heap.size v6 (L.take (k + 1))) := by unfold Hid; rw [HT.out]; exact hown6
      obtain ⟨av6, cv6, ev6, hcv6⟩ := own_len hown6
      rw [List.length_append, HL.out, List.length_singleton] at ev6 hcv6
      clear hown6 hb6 HO2 HB2 HR2 HA HC1 HT
      subst ev6
      refine Calls.mono (next_any pl ps t w6 HR6.out (HS.out.bs2 HB6.out).max) ?_
      rintro e w7 ⟨rfl, hl7⟩
      have HO7 : Hid (OwnAc w7 w.heap.size (.slice av6 (k + 1) cv6) L) := by unfold Hid; rw [← HTk.out]; exact HO6.out.bs2 hl7.bs HPl.out.1 HPl.out.2
      have HL7 : Hid (Left w w7 pl ps t.tail) := ⟨hl7.rd, HB6.out.trans hl7.bs⟩
      clear hl7 HO6 HB6 HR6 HTk
      rw [HSW.out]
      go_wp2
      go_ret2
      exact ⟨⟨_, rfl, HO7.out⟩, HL7.out⟩
    · have HRw : Hid (Rd wr pl ps (W[k] ++ (andW :: flatW (W.drop (k + 1)) t))) := by unfold Hid; rw [← flatW_more W k (by rw [HW.out, HN.out]; omega) t]; exact hrd
      have HK : Hid (∀ X, Std0 W0 X pl ps → Rd X pl ps (W[k] ++ (andW :: flatW (W.drop (k + 1)) t)) → Calls Tryz.prog 91 #[.func (.func 92) #[] #[.pointer (some ⟨pl, 0, none⟩), .pointer (some ⟨ps, 0, none⟩)]] X fun e w' => e = .returned (.agg #[.int .i64 L[k].k, .string L[k].nm, .int .u32 (L[k].n : Int), .string L[k].ad]) ∧ Left X w' pl ps (andW :: flatW (W.drop (k + 1)) t)) := fun X h h' => HRR.out k k1 k2 X _ h h'
      have HTk : Hid (k + 1 < n) := by unfold Hid; omega
      have HC1 : Hid (∀ X : World, AcAt (X.alloc (.cells #[.int .i64 L[k].k, .string L[k].nm, .int .u32 (L[k].n : Int), .string L[k].ad] 40)) (.slice (some ⟨X.heap.size, 0, none⟩) 1 1) [L[k]]) := fun X => oneAc X L[k]
      clear ho hrd hbs htk
      generalize W[k] = ww at *
      generalize hfw : flatW (W.drop (k + 1)) t = fw at *
      have HFW : Hid (_ = fw) := hfw
      clear hfw
      clear k2
      obtain ⟨lk, hlk⟩ : ∃ lk, L[k] = lk := ⟨_, rfl⟩
      rw [hlk] at HK HT HC1
      clear hlk k1

      go_wp2_with fail
      refine Calls.mono (need_yes _) ?_
      rintro e w1 ⟨rfl, hw1⟩
      subst w1
      go_wp2_with fail
      refine Calls.mono (HK.out _ (HS.out.bs2 HB.out) HRw.out) ?_
      rintro e w2 ⟨rfl, hl2⟩
      have HO2 : Hid (OwnAc w2 w.heap.size (.slice av k cv) (L.take k)) := HO.out.bs2 hl2.bs HPl.out.1 HPl.out.2
      have HB2 : Hid (Bs2 pl ps w w2) := HB.out.trans hl2.bs
      have HR2 : Hid (Rd w2 pl ps (andW :: fw)) := hl2.rd
      have HA : Hid (∀ A, Below w2.heap.size w2 (w2.alloc (.cells A 40))) := fun A => (Below.refl _ _).alloc (Nat.le_refl _) _
      clear hl2 HO HB HRw HK
      go_wp2_with (at_builtin; refine wpList_append_Ac _ rfl _ _ rfl w.heap.size _ _ (L.take k) [_] (by first | rfl | (rw [HL.out]; rfl)) rfl ((HO2.out.below (HA.out _))) (HC1.out w2) (by rw [HL.out]; simp; omega) (by have := HB2.out.size; have := (HA.out #[]).size; simp; omega) ?_; intro v6 w6 hown6 hb6)
      have HB6 : Hid (Bs2 pl ps w w6) := (HB2.out.trans (Bs2.of_below (HA.out _))).of_belowB hb6 (Nat.le_refl _)
      have HR6 : Hid (Rd w6 pl ps (andW :: fw)) := (HR2.out.below (HA.out _)).belowB hb6 HPl.out.1 HPl.out.2
      have HO6 : Hid (OwnAc w6 w.heap.size v6 (L.take (k + 1))) := by unfold Hid; rw [HT.out]; exact hown6
      obtain ⟨av6, cv6, ev6, hcv6⟩ := own_len hown6
      rw [List.length_append, HL.out, List.length_singleton] at ev6 hcv6
      clear hown6 hb6 HO2 HB2 HR2 HA HC1 HT
      subst ev6
      refine Calls.mono (next_any pl ps (andW :: fw) w6 HR6.out (HS.out.bs2 HB6.out).max) ?_
      rintro e w7 ⟨rfl, hl7⟩
      have HO7 : Hid (OwnAc w7 w.heap.size (.slice av6 (k + 1) cv6) (L.take (k + 1))) := HO6.out.bs2 hl7.bs HPl.out.1 HPl.out.2
      have HB7 : Hid (Bs2 pl ps w w7) := HB6.out.trans hl7.bs
      have HR7 : Hid (Rd w7 pl ps (flatW (W.drop (k + 1)) t)) := by unfold Hid; rw [HFW.out]; exact hl7.rd
      clear hl7 HO6 HB6 HR6
      have haw : (andW == ([97, 110, 100] : List UInt8)) = true := by decide
      go_wp2
      refine ⟨⟨k + 1, HTk.out, HO7.out, HR7.out, HB7.out⟩, ?_⟩
      have := HTk.out
      simp [lenV]; omega
end Go.Proofs.YthaebbmekonacaaGreatDoor
