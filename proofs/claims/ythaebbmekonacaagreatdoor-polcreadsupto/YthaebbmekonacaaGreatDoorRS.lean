/-
  The reference reads a term of any text.
-/
import Derived.Test.YthaebbmekonacaaGreatDoorRR
import Derived.Test.YthaebbmekonacaaGreatDoorS6
set_option linter.unusedVariables false
set_option linter.unusedSimpArgs false
set_option maxRecDepth 100000
namespace Go.Proofs.YthaebbmekonacaaGreatDoor
open Go.RowKit
/-- What the reference's Term answers. -/
def RtR (o : Option Tm) (w w' : World) (e : Ending) : Prop := match o with
  | some T => (∃ vc va, e = .returned (.tuple #[.agg #[vc, va], .bool true]) ∧ OwnCd w' w.heap.size vc T.cs ∧ OwnAc w' w.heap.size va T.acs) ∧ Below w.heap.size w w'
  | none => e = .returned (.tuple #[.agg #[.slice none 0 0, .slice none 0 0], .bool false]) ∧ Below w.heap.size w w'
theorem RtR.some {T : Tm} {w w' : World} {e : Ending} (h : (∃ vc va, e = .returned (.tuple #[.agg #[vc, va], .bool true]) ∧ OwnCd w' w.heap.size vc T.cs ∧ OwnAc w' w.heap.size va T.acs) ∧ Below w.heap.size w w') : RtR (some T) w w' e := h
theorem RtR.none {w w' : World} {e : Ending} (h : e = .returned (.tuple #[.agg #[.slice none 0 0, .slice none 0 0], .bool false]) ∧ Below w.heap.size w w') : RtR none w w' e := h
theorem Bs2.setp {p q : Nat} {w w1 : World} (h : Bs2 p q w w1) {i : Nat} {v : Value} : Bs2 p q w (w1.setCell ⟨p, i, none⟩ v) :=
  ⟨h.os, h.tape, h.output, by simpa using h.size, fun j hj hp hq => by
    rw [← h.block j hj hp hq]
    simp only [World.setCell, Array.getElem?_modify]
    rw [if_neg (fun e => hp e.symm)]⟩
set_option maxHeartbeats 8000000 in
theorem rterm_walk (s : ByteArray) (ws : List (List UInt8)) (o : Option Tm) (w : World) (hn4 : ws.length ≤ 4294967297)
    (KS : ∀ X, Calls Tryz.prog 51 #[.string s, .int .u8 32] X fun e w' => (∃ v, e = .returned v ∧ WsAt w' v ws) ∧ Below X.heap.size X w')
    (KA : ∀ v (i : Nat) (z : Int) X, z = (i : Int) → WsAt X v ws → Calls Tryz.prog 52 #[v, .int .i64 z] X fun e w' => e = .returned (.string ⟨(ws.getD i []).toArray⟩) ∧ w' = X)
    (KC : ∀ v (i : Nat) (z : Int) X, z = (i : Int) → WsAt X v ws → i < 1099511627776 → Calls Tryz.prog 53 #[v, .int .i64 z] X fun e w' => (∃ c j, e = .returned (.tuple #[cdV c, .int .i64 ((j : Nat) : Int)]) ∧ CdRel ws i c j) ∧ Below X.heap.size X w')
    (KB : ∀ v (i : Nat) (z : Int) X, z = (i : Int) → WsAt X v ws → i < 1099511627776 → Calls Tryz.prog 54 #[v, .int .i64 z] X fun e w' => (∃ a j, e = .returned (.tuple #[acV a, .int .i64 ((j : Nat) : Int)]) ∧ AcRel ws i a j) ∧ Below X.heap.size X w')
    (KT : ∀ v T X, Below w.heap.size w X → TmAt X v T → SmT T → (∀ a ∈ T.acs, a.n < 4294967296) → Calls Tryz.prog 21 #[v] X fun e w' => e = .returned (.tuple #[.string ⟨(ttS T).toArray⟩, .int .i64 (ttE T)]) ∧ Below X.heap.size X w')
    (KO : ∀ T : Tm, SzA T.acs → (∀ T', Fits ws T' → T = T') → (okT T = true ∧ tT T = s.data.toList → o = some T) ∧ (¬ (okT T = true ∧ tT T = s.data.toList) → o = none)) :
    Calls Tryz.prog 24 #[.string s] w fun e w' => RtR o w w' e := by
  have HKS : Hid (∀ X, _) := KS
  have HKT : Hid (∀ v T X, _) := KT
  have HKO : Hid (∀ T : Tm, _) := KO
  have HN4 : Hid (ws.length ≤ 4294967297) := hn4
  obtain ⟨W1, hW1⟩ : ∃ W1, w.alloc (.cells #[.slice none 0 0, .slice none 0 0] 63) = W1 := ⟨_, rfl⟩
  have HB1 : Hid (Below w.heap.size w W1) := by unfold Hid; rw [← hW1]; exact (Below.refl _ _).alloc (Nat.le_refl _) _
  have HD1 : Hid (C2 W1 w.heap.size (.slice none 0 0) (.slice none 0 0)) := by unfold Hid; rw [← hW1]; exact C2.new w 63 _ _
  have HSz1 : Hid (W1.heap.size = w.heap.size + 1) := by unfold Hid; rw [← hW1]; simp
  have HKA : Hid (∀ v (i : Nat) (z : Int) X, _) := KA
  have HKC : Hid (∀ v (i : Nat) (z : Int) X, _) := KC
  have HKB : Hid (∀ v (i : Nat) (z : Int) X, _) := KB
  clear KS KA KC KB KT KO hn4
  go_enter Tryz.func24, Tryz.ntmps24
  go_wp2_with fail
  clear hW1
  refine Calls.mono (HKS.out _) ?_
  rintro e W2 ⟨⟨v, rfl, g, cap, rfl, hcell⟩, hb2⟩
  have HB2 : Hid (Below w.heap.size w W2) := HB1.out.trans (hb2.mono HB1.out.size)
  have HD2 : Hid (C2 W2 w.heap.size (.slice none 0 0) (.slice none 0 0)) := HD1.out.below hb2
  have HSz2 : Hid (w.heap.size + 1 ≤ W2.heap.size) := by unfold Hid; rw [← HSz1.out]; exact hb2.size
  have HCe : Hid (∀ j (h : j < ws.length), W2.cell? ⟨g, j, none⟩ = some (.string ⟨(ws[j]).toArray⟩)) := hcell
  clear hcell hb2 HB1 HD1 HSz1 HKS
  obtain ⟨W3, hW3⟩ : ∃ W3, W2.alloc (.cells #[.slice none 0 0, .slice none 0 0] 63) = W3 := ⟨_, rfl⟩
  have hb3 : Below W2.heap.size W2 W3 := by rw [← hW3]; exact (Below.refl _ _).alloc (Nat.le_refl _) _
  have HSz3 : Hid (W3.heap.size = W2.heap.size + 1) := by unfold Hid; rw [← hW3]; simp
  have HB3 : Hid (Below w.heap.size w W3) := HB2.out.trans (hb3.mono HB2.out.size)
  have HD3 : Hid (C2 W3 w.heap.size (.slice none 0 0) (.slice none 0 0)) := HD2.out.below hb3
  have HT3 : Hid (C2 W3 W2.heap.size (.slice none 0 0) (.slice none 0 0)) := by unfold Hid; rw [← hW3]; exact C2.new W2 63 _ _
  have HWs : Hid (∀ X, Bs2 W2.heap.size W2.heap.size W3 X → WsAt X (.slice (some ⟨g, 0, none⟩) ws.length cap) ws) := fun X hX => ⟨g, cap, rfl, fun j hj => hX.cell (below_cell hb3 (HCe.out j hj)) (by have := lt_of_cell (HCe.out j hj); omega) (by have := lt_of_cell (HCe.out j hj); omega)⟩
  clear hb3 HB2 HD2 HCe
  generalize hT : W2.heap.size = TB at *
  have HTB : Hid (w.heap.size + 1 ≤ TB ∧ W3.heap.size = TB + 1) := ⟨HSz2.out, HSz3.out⟩
  clear HSz2 HSz3
  go_wp2_with fail
  clear hW3 hT
  refine Calls.mono (HKA.out _ 0 _ W3 (by omega) (HWs.out W3 (Bs2.refl _ _ _))) ?_
  rintro e Wq ⟨rfl, hq⟩
  subst Wq
  obtain ⟨n, hn⟩ : ∃ n, ws.length = n := ⟨_, rfl⟩
  have HN : Hid (ws.length = n) := hn
  rw [hn] at HN4 HWs ⊢
  by_cases hif : ws.getD 0 [] = ifW
  · have HI0 : Hid (InvA ws 0 []) := InvA.start hif
    rw [hif]
    have haw : (ifW == ([105, 102] : List UInt8)) = true := by decide
    clear hif hn
    go_wp2
    clear haw
    go_loopw [6, 7, 8] (fun x6 x7 x8 wr => ∃ (k : Nat) (cs : List Cd) (vc : Value), x6 = .int .i64 (k : Int) ∧ InvA ws k cs ∧ OwnCd wr W3.heap.size vc cs ∧ C2 wr TB vc (.slice none 0 0) ∧ Bs2 TB TB W3 wr) (fun x6 _ _ _ => n + 5 - (intOf x6).toNat)
    case atStart => exact ⟨0, [], .slice none 0 0, rfl, HI0.out, OwnCd.nil _ _, HT3.out, Bs2.refl _ _ _⟩
    case round =>
      obtain ⟨wo, rfl⟩ : ∃ x, x = wr := ⟨_, rfl⟩
      obtain ⟨k, cs, vc, rfl, hinv, hown, hc2, hbs⟩ := hrel
      obtain ⟨av, cv, rfl, hcv⟩ := own_len hown
      have HI : Hid (InvA ws k cs) := hinv
      have HO : Hid (OwnCd wo W3.heap.size (.slice av cs.length cv) cs) := hown
      have HC : Hid (C2 wo TB (.slice av cs.length cv) (.slice none 0 0)) := hc2
      have HB : Hid (Bs2 TB TB W3 wo) := hbs
      have HKk : Hid (k ≤ n + 4) := by unfold Hid; rw [← HN.out]; exact hinv.top
      clear hinv hown hc2 hbs hcv HI0
      by_cases hlt : k < n
      · have hlti : (k : Int) < (n : Int) := by omega
        have hk0 : (0 : Int) ≤ (k : Int) := by omega
        have hk1 : (k : Int) < 1099511627776 := by have := HN4.out; omega
        by_cases hz : k = 0
        · have hz1 : ((k : Int) == 0) = true := by simp [hz]
          have HHa : Hid (k < ws.length ∧ (k = 0 ∨ ws.getD k [] = andW)) := ⟨by rw [HN.out]; exact hlt, Or.inl hz⟩
          clear hz hlt
          go_wp2_with fail
          clear hlti hz1
          refine Calls.mono (HKC.out _ (k + 1) _ wo (by omega) (HWs.out wo HB.out) (by have := HKk.out; have := HN4.out; omega)) ?_
          rintro e w2 ⟨⟨c, j, rfl, hcr⟩, hb⟩
          have HI2 : Hid (InvA ws j (cs ++ [c])) := HI.out.step HHa.out.1 HHa.out.2 hcr
          have HJ : Hid (k < j ∧ j ≤ n + 4) := ⟨by have := hcr.1; omega, by rw [← HN.out]; exact HI2.out.top⟩
          have HLn : Hid (cs.length ≤ n + 4) := Nat.le_trans HI.out.len HKk.out
          have HO2 : Hid (OwnCd w2 W3.heap.size (.slice av cs.length cv) cs) := HO.out.below hb
          have HC2' : Hid (C2 w2 TB (.slice av cs.length cv) (.slice none 0 0)) := HC.out.below hb
          have HB2' : Hid (Bs2 TB TB W3 w2) := HB.out.trans (Bs2.of_below hb)
          have HA1 : Hid (∀ (X : World) A, Below X.heap.size X (X.alloc (.cells A 37))) := fun X A => (Below.refl _ _).alloc (Nat.le_refl _) _
          have HC1 : Hid (∀ X : World, CdAt (X.alloc (.cells #[.int .i64 c.k, .bool c.nt, .string c.nm, .int .i64 c.n] 37)) (.slice (some ⟨X.heap.size, 0, none⟩) 1 1) [c]) := fun X => oneCd X c
          unfold cdV
          clear hcr hb HI HO HC HB HHa HKk hk0 hk1
          obtain ⟨w3, hw3⟩ : ∃ w3, w2.alloc (.cells #[.int .i64 c.k, .bool c.nt, .string c.nm, .int .i64 c.n] 37) = w3 := ⟨_, rfl⟩
          have HO3 : Hid (OwnCd w3 W3.heap.size (.slice av cs.length cv) cs) := by unfold Hid; rw [← hw3]; exact HO2.out.below (HA1.out _ _)
          have HC3 : Hid (C2 w3 TB (.slice av cs.length cv) (.slice none 0 0)) := by unfold Hid; rw [← hw3]; exact HC2'.out.below (HA1.out _ _)
          have HB3' : Hid (Bs2 TB TB W3 w3) := by unfold Hid; rw [← hw3]; exact HB2'.out.trans (Bs2.of_below (HA1.out _ _))
          have HY : Hid (C4 w3 w2.heap.size (.int .i64 c.k) (.bool c.nt) (.string c.nm) (.int .i64 c.n)) := by unfold Hid; rw [← hw3]; exact C4.new _ 37 _ _ _ _
          have z0 := HC3.out.c0
          have y0 := HY.out.c0
          have y1 := HY.out.c1
          have y2 := HY.out.c2
          have y3 := HY.out.c3
          clear HO2 HC2' HB2'
          go_wp2_with (at_builtin; refine wpList_append_Cd _ rfl _ _ rfl W3.heap.size _ _ cs [_] rfl rfl (HO3.out.below (HA1.out _ _)) (HC1.out w3) (by have := HLn.out; have := HN4.out; simp; omega) (by have := HB3'.out.size; have := (HA1.out w3 #[]).size; simp; omega) ?_; intro v6 w6 hown6 hb6; obtain ⟨av6, cv6, ev6, hcv6⟩ := own_len hown6; rw [List.length_append, List.length_singleton] at ev6; subst ev6; have HC6 : Hid (C2 w6 TB (.slice av cs.length cv) (.slice none 0 0)) := (HC3.out.below (HA1.out _ _)).belowB hb6 (by have := HTB.out; omega); have HB6 : Hid (Bs2 TB TB W3 w6) := (HB3'.out.trans (Bs2.of_below (HA1.out _ _))).of_belowB hb6 (Nat.le_refl _); have HO6 : Hid (OwnCd w6 W3.heap.size (.slice av6 (cs.length + 1) cv6) (cs ++ [c])) := hown6; have x0 := HC6.out.c0; have x1 := HC6.out.f 0; clear hown6 hb6 hcv6; obtain ⟨w7, hw7⟩ : ∃ w7, w6.setCell ⟨TB, 0, none⟩ (.slice av6 (cs.length + 1) cv6) = w7 := ⟨_, rfl⟩)
          have HC7 : Hid (C2 w7 TB (.slice av6 (cs.length + 1) cv6) (.slice none 0 0)) := by unfold Hid; rw [← hw7]; exact HC6.out.set0
          have HB7 : Hid (Bs2 TB TB W3 w7) := by unfold Hid; rw [← hw7]; exact HB6.out.setp
          have HO7 : Hid (OwnCd w7 W3.heap.size (.slice av6 (cs.length + 1) cv6) (cs ++ [c])) := by unfold Hid; rw [← hw7]; exact HO6.out.set (by have := HTB.out; omega)
          refine ⟨⟨j, cs ++ [c], _, rfl, HI2.out, HO7.out, HC7.out, HB7.out⟩, ?_⟩
          have := HJ.out
          simp [intOf]; omega
        · have hz1 : ((k : Int) == 0) = false := by simpa using fun e => hz (by omega)
          have hz2 : ¬ (k : Int) = 0 := by omega
          have HZk : Hid (¬ k = 0) := hz
          clear hz
          go_wp2_with fail
          refine Calls.mono (HKA.out _ k _ wo rfl (HWs.out wo HB.out)) ?_
          rintro e Wq ⟨rfl, hq⟩
          subst Wq
          by_cases hand : ws.getD k [] = andW
          · have HHa : Hid (k < ws.length ∧ (k = 0 ∨ ws.getD k [] = andW)) := ⟨by rw [HN.out]; exact hlt, Or.inr hand⟩
            rw [hand]
            have haw : (andW == ([97, 110, 100] : List UInt8)) = true := by decide
            clear hand hlt
            go_wp2_with fail
            clear hlti hz1 haw hz2
            refine Calls.mono (HKC.out _ (k + 1) _ wo (by omega) (HWs.out wo HB.out) (by have := HKk.out; have := HN4.out; omega)) ?_
            rintro e w2 ⟨⟨c, j, rfl, hcr⟩, hb⟩
            have HI2 : Hid (InvA ws j (cs ++ [c])) := HI.out.step HHa.out.1 HHa.out.2 hcr
            have HJ : Hid (k < j ∧ j ≤ n + 4) := ⟨by have := hcr.1; omega, by rw [← HN.out]; exact HI2.out.top⟩
            have HLn : Hid (cs.length ≤ n + 4) := Nat.le_trans HI.out.len HKk.out
            have HO2 : Hid (OwnCd w2 W3.heap.size (.slice av cs.length cv) cs) := HO.out.below hb
            have HC2' : Hid (C2 w2 TB (.slice av cs.length cv) (.slice none 0 0)) := HC.out.below hb
            have HB2' : Hid (Bs2 TB TB W3 w2) := HB.out.trans (Bs2.of_below hb)
            have HA1 : Hid (∀ (X : World) A, Below X.heap.size X (X.alloc (.cells A 37))) := fun X A => (Below.refl _ _).alloc (Nat.le_refl _) _
            have HC1 : Hid (∀ X : World, CdAt (X.alloc (.cells #[.int .i64 c.k, .bool c.nt, .string c.nm, .int .i64 c.n] 37)) (.slice (some ⟨X.heap.size, 0, none⟩) 1 1) [c]) := fun X => oneCd X c
            unfold cdV
            clear hcr hb HI HO HC HB HHa HKk hk0 hk1
            obtain ⟨w3, hw3⟩ : ∃ w3, w2.alloc (.cells #[.int .i64 c.k, .bool c.nt, .string c.nm, .int .i64 c.n] 37) = w3 := ⟨_, rfl⟩
            have HO3 : Hid (OwnCd w3 W3.heap.size (.slice av cs.length cv) cs) := by unfold Hid; rw [← hw3]; exact HO2.out.below (HA1.out _ _)
            have HC3 : Hid (C2 w3 TB (.slice av cs.length cv) (.slice none 0 0)) := by unfold Hid; rw [← hw3]; exact HC2'.out.below (HA1.out _ _)
            have HB3' : Hid (Bs2 TB TB W3 w3) := by unfold Hid; rw [← hw3]; exact HB2'.out.trans (Bs2.of_below (HA1.out _ _))
            have HY : Hid (C4 w3 w2.heap.size (.int .i64 c.k) (.bool c.nt) (.string c.nm) (.int .i64 c.n)) := by unfold Hid; rw [← hw3]; exact C4.new _ 37 _ _ _ _
            have z0 := HC3.out.c0
            have y0 := HY.out.c0
            have y1 := HY.out.c1
            have y2 := HY.out.c2
            have y3 := HY.out.c3
            clear HO2 HC2' HB2'
            go_wp2_with (at_builtin; refine wpList_append_Cd _ rfl _ _ rfl W3.heap.size _ _ cs [_] rfl rfl (HO3.out.below (HA1.out _ _)) (HC1.out w3) (by have := HLn.out; have := HN4.out; simp; omega) (by have := HB3'.out.size; have := (HA1.out w3 #[]).size; simp; omega) ?_; intro v6 w6 hown6 hb6; obtain ⟨av6, cv6, ev6, hcv6⟩ := own_len hown6; rw [List.length_append, List.length_singleton] at ev6; subst ev6; have HC6 : Hid (C2 w6 TB (.slice av cs.length cv) (.slice none 0 0)) := (HC3.out.below (HA1.out _ _)).belowB hb6 (by have := HTB.out; omega); have HB6 : Hid (Bs2 TB TB W3 w6) := (HB3'.out.trans (Bs2.of_below (HA1.out _ _))).of_belowB hb6 (Nat.le_refl _); have HO6 : Hid (OwnCd w6 W3.heap.size (.slice av6 (cs.length + 1) cv6) (cs ++ [c])) := hown6; have x0 := HC6.out.c0; have x1 := HC6.out.f 0; clear hown6 hb6 hcv6; obtain ⟨w7, hw7⟩ : ∃ w7, w6.setCell ⟨TB, 0, none⟩ (.slice av6 (cs.length + 1) cv6) = w7 := ⟨_, rfl⟩)
            have HC7 : Hid (C2 w7 TB (.slice av6 (cs.length + 1) cv6) (.slice none 0 0)) := by unfold Hid; rw [← hw7]; exact HC6.out.set0
            have HB7 : Hid (Bs2 TB TB W3 w7) := by unfold Hid; rw [← hw7]; exact HB6.out.setp
            have HO7 : Hid (OwnCd w7 W3.heap.size (.slice av6 (cs.length + 1) cv6) (cs ++ [c])) := by unfold Hid; rw [← hw7]; exact HO6.out.set (by have := HTB.out; omega)
            refine ⟨⟨j, cs ++ [c], _, rfl, HI2.out, HO7.out, HC7.out, HB7.out⟩, ?_⟩
            have := HJ.out
            simp [intOf]; omega
          · have HM : Hid (MidA ws k cs) := HI.out.done (by rintro ⟨_, h | h⟩; exact HZk.out h; exact hand h)
            obtain ⟨yw, hyw⟩ : ∃ yw, ws.getD k [] = yw := ⟨_, rfl⟩
            rw [hyw] at hand ⊢
            have ha3 : ¬ yw = [97, 110, 100] := hand
            have ha4 : (yw == ([97, 110, 100] : List UInt8)) = false := beq_eq_false_iff_ne.2 hand
            clear hand hyw
            go_wp2
            clear ha3 ha4
            have HI1 : Hid (InvB ws k cs [] true) := InvB.start HM.out
            have HBw : Hid (Bs2 TB TB W3 wo) := HB.out
            have HOw : Hid (OwnCd wo W3.heap.size (.slice av cs.length cv) cs) := HO.out
            have HCw : Hid (C2 wo TB (.slice av cs.length cv) (.slice none 0 0)) := HC.out
            clear HM
            go_wp2
            go_loopw [6, 9, 10, 11] (fun x6 x9 x10 x11 wr => ∃ (i : Nat) (acs : List Ac) (va : Value) (first : Bool), x6 = .int .i64 (i : Int) ∧ x9 = .bool first ∧ InvB ws i cs acs first ∧ OwnAc wr wo.heap.size va acs ∧ C2 wr TB (.slice av cs.length cv) va ∧ Bs2 TB TB wo wr) (fun x6 _ _ _ _ => n + 5 - (intOf x6).toNat)
            case atStart => exact ⟨k, [], .slice none 0 0, true, rfl, rfl, HI1.out, OwnAc.nil _ _, HCw.out, Bs2.refl _ _ _⟩
            case round =>
              obtain ⟨i, acs, va, first, rfl, rfl, hinv, hown, hc2, hbs⟩ := hrel
              obtain ⟨aw, dw, rfl, hdw⟩ := own_len hown
              have GI : Hid (InvB ws i cs acs first) := hinv
              have GO : Hid (OwnAc wr wo.heap.size (.slice aw acs.length dw) acs) := hown
              have GC : Hid (C2 wr TB (.slice av cs.length cv) (.slice aw acs.length dw)) := hc2
              have GB : Hid (Bs2 TB TB wo wr) := hbs
              have GK : Hid (i ≤ n + 4) := by unfold Hid; rw [← HN.out]; exact hinv.top
              clear hinv hown hc2 hbs hdw HI1
              by_cases hlt : i < n
              · have hlti : (i : Int) < (n : Int) := by omega
                have hi0 : (0 : Int) ≤ (i : Int) := by omega
                have hi1 : (i : Int) < 1099511627776 := by have := HN4.out; omega
                have HLt : Hid (i < n) := hlt
                clear hlt
                cases first with
                | true =>
                  go_wp2_with fail
                  clear hlti
                  refine Calls.mono (HKB.out _ (i + 1) _ wr (by omega) (HWs.out wr (HBw.out.trans GB.out)) (by have := GK.out; have := HN4.out; omega)) ?_
                  rintro e w2 ⟨⟨c, j, rfl, hcr⟩, hb⟩
                  have GI2 : Hid (InvB ws j cs (acs ++ [c]) false) := GI.out.step (by rw [HN.out]; exact HLt.out) hcr
                  have HJ : Hid (i < j ∧ j ≤ n + 4) := ⟨by have := hcr.1; omega, by rw [← HN.out]; exact GI2.out.top⟩
                  have HLn : Hid (acs.length ≤ n + 4) := Nat.le_trans GI.out.lea GK.out
                  have HO2 : Hid (OwnAc w2 wo.heap.size (.slice aw acs.length dw) acs) := GO.out.below hb
                  have HC2' : Hid (C2 w2 TB (.slice av cs.length cv) (.slice aw acs.length dw)) := GC.out.below hb
                  have HB2' : Hid (Bs2 TB TB wo w2) := GB.out.trans (Bs2.of_below hb)
                  have HA1 : Hid (∀ (X : World) A, Below X.heap.size X (X.alloc (.cells A 40))) := fun X A => (Below.refl _ _).alloc (Nat.le_refl _) _
                  have HC1 : Hid (∀ X : World, AcAt (X.alloc (.cells #[.int .i64 c.k, .string c.nm, .int .u32 (c.n : Int), .string c.ad] 40)) (.slice (some ⟨X.heap.size, 0, none⟩) 1 1) [c]) := fun X => oneAc X c
                  have HWz : Hid (W3.heap.size ≤ wo.heap.size) := HBw.out.size
                  unfold acV
                  clear hcr hb GI GO GC GB GK hi0 hi1
                  obtain ⟨w3, hw3⟩ : ∃ w3, w2.alloc (.cells #[.int .i64 c.k, .string c.nm, .int .u32 (c.n : Int), .string c.ad] 40) = w3 := ⟨_, rfl⟩
                  have HO3 : Hid (OwnAc w3 wo.heap.size (.slice aw acs.length dw) acs) := by unfold Hid; rw [← hw3]; exact HO2.out.below (HA1.out _ _)
                  have HC3 : Hid (C2 w3 TB (.slice av cs.length cv) (.slice aw acs.length dw)) := by unfold Hid; rw [← hw3]; exact HC2'.out.below (HA1.out _ _)
                  have HB3' : Hid (Bs2 TB TB wo w3) := by unfold Hid; rw [← hw3]; exact HB2'.out.trans (Bs2.of_below (HA1.out _ _))
                  have HY : Hid (C4 w3 w2.heap.size (.int .i64 c.k) (.string c.nm) (.int .u32 (c.n : Int)) (.string c.ad)) := by unfold Hid; rw [← hw3]; exact C4.new _ 40 _ _ _ _
                  have z0 := HC3.out.c1
                  have y0 := HY.out.c0
                  have y1 := HY.out.c1
                  have y2 := HY.out.c2
                  have y3 := HY.out.c3
                  clear HO2 HC2' HB2'
                  go_wp2_with (at_builtin; refine wpList_append_Ac _ rfl _ _ rfl wo.heap.size _ _ acs [_] rfl rfl (HO3.out.below (HA1.out _ _)) (HC1.out w3) (by have := HLn.out; have := HN4.out; simp; omega) (by have := HB3'.out.size; have := (HA1.out w3 #[]).size; simp; omega) ?_; intro v6 w6 hown6 hb6; obtain ⟨av6, cv6, ev6, hcv6⟩ := own_len hown6; rw [List.length_append, List.length_singleton] at ev6; subst ev6; have HC6 : Hid (C2 w6 TB (.slice av cs.length cv) (.slice aw acs.length dw)) := (HC3.out.below (HA1.out _ _)).belowB hb6 (by have := HTB.out; have := HWz.out; omega); have HB6 : Hid (Bs2 TB TB wo w6) := (HB3'.out.trans (Bs2.of_below (HA1.out _ _))).of_belowB hb6 (Nat.le_refl _); have HO6 : Hid (OwnAc w6 wo.heap.size (.slice av6 (acs.length + 1) cv6) (acs ++ [c])) := hown6; have x0 := HC6.out.c1; have x1 := HC6.out.f 1; clear hown6 hb6 hcv6; obtain ⟨w7, hw7⟩ : ∃ w7, w6.setCell ⟨TB, 1, none⟩ (.slice av6 (acs.length + 1) cv6) = w7 := ⟨_, rfl⟩)
                  have HC7 : Hid (C2 w7 TB (.slice av cs.length cv) (.slice av6 (acs.length + 1) cv6)) := by unfold Hid; rw [← hw7]; exact HC6.out.set1
                  have HB7 : Hid (Bs2 TB TB wo w7) := by unfold Hid; rw [← hw7]; exact HB6.out.setp
                  have HO7 : Hid (OwnAc w7 wo.heap.size (.slice av6 (acs.length + 1) cv6) (acs ++ [c])) := by unfold Hid; rw [← hw7]; exact HO6.out.set (by have := HTB.out; have := HWz.out; omega)
                  refine ⟨⟨j, acs ++ [c], _, false, rfl, rfl, GI2.out, HO7.out, HC7.out, HB7.out⟩, ?_⟩
                  have := HJ.out
                  simp [intOf]; omega
                | false =>
                  go_wp2_with fail
                  refine Calls.mono (HKA.out _ i _ wr rfl (HWs.out wr (HBw.out.trans GB.out))) ?_
                  rintro e Wq ⟨rfl, hq⟩
                  subst Wq
                  by_cases hand : ws.getD i [] = andW
                  · rw [hand]
                    have haw : (andW == ([97, 110, 100] : List UInt8)) = true := by decide
                    clear hand
                    go_wp2_with fail
                    clear hlti haw
                    refine Calls.mono (HKB.out _ (i + 1) _ wr (by omega) (HWs.out wr (HBw.out.trans GB.out)) (by have := GK.out; have := HN4.out; omega)) ?_
                    rintro e w2 ⟨⟨c, j, rfl, hcr⟩, hb⟩
                    have GI2 : Hid (InvB ws j cs (acs ++ [c]) false) := GI.out.step (by rw [HN.out]; exact HLt.out) hcr
                    have HJ : Hid (i < j ∧ j ≤ n + 4) := ⟨by have := hcr.1; omega, by rw [← HN.out]; exact GI2.out.top⟩
                    have HLn : Hid (acs.length ≤ n + 4) := Nat.le_trans GI.out.lea GK.out
                    have HO2 : Hid (OwnAc w2 wo.heap.size (.slice aw acs.length dw) acs) := GO.out.below hb
                    have HC2' : Hid (C2 w2 TB (.slice av cs.length cv) (.slice aw acs.length dw)) := GC.out.below hb
                    have HB2' : Hid (Bs2 TB TB wo w2) := GB.out.trans (Bs2.of_below hb)
                    have HA1 : Hid (∀ (X : World) A, Below X.heap.size X (X.alloc (.cells A 40))) := fun X A => (Below.refl _ _).alloc (Nat.le_refl _) _
                    have HC1 : Hid (∀ X : World, AcAt (X.alloc (.cells #[.int .i64 c.k, .string c.nm, .int .u32 (c.n : Int), .string c.ad] 40)) (.slice (some ⟨X.heap.size, 0, none⟩) 1 1) [c]) := fun X => oneAc X c
                    have HWz : Hid (W3.heap.size ≤ wo.heap.size) := HBw.out.size
                    unfold acV
                    clear hcr hb GI GO GC GB GK hi0 hi1
                    obtain ⟨w3, hw3⟩ : ∃ w3, w2.alloc (.cells #[.int .i64 c.k, .string c.nm, .int .u32 (c.n : Int), .string c.ad] 40) = w3 := ⟨_, rfl⟩
                    have HO3 : Hid (OwnAc w3 wo.heap.size (.slice aw acs.length dw) acs) := by unfold Hid; rw [← hw3]; exact HO2.out.below (HA1.out _ _)
                    have HC3 : Hid (C2 w3 TB (.slice av cs.length cv) (.slice aw acs.length dw)) := by unfold Hid; rw [← hw3]; exact HC2'.out.below (HA1.out _ _)
                    have HB3' : Hid (Bs2 TB TB wo w3) := by unfold Hid; rw [← hw3]; exact HB2'.out.trans (Bs2.of_below (HA1.out _ _))
                    have HY : Hid (C4 w3 w2.heap.size (.int .i64 c.k) (.string c.nm) (.int .u32 (c.n : Int)) (.string c.ad)) := by unfold Hid; rw [← hw3]; exact C4.new _ 40 _ _ _ _
                    have z0 := HC3.out.c1
                    have y0 := HY.out.c0
                    have y1 := HY.out.c1
                    have y2 := HY.out.c2
                    have y3 := HY.out.c3
                    clear HO2 HC2' HB2'
                    go_wp2_with (at_builtin; refine wpList_append_Ac _ rfl _ _ rfl wo.heap.size _ _ acs [_] rfl rfl (HO3.out.below (HA1.out _ _)) (HC1.out w3) (by have := HLn.out; have := HN4.out; simp; omega) (by have := HB3'.out.size; have := (HA1.out w3 #[]).size; simp; omega) ?_; intro v6 w6 hown6 hb6; obtain ⟨av6, cv6, ev6, hcv6⟩ := own_len hown6; rw [List.length_append, List.length_singleton] at ev6; subst ev6; have HC6 : Hid (C2 w6 TB (.slice av cs.length cv) (.slice aw acs.length dw)) := (HC3.out.below (HA1.out _ _)).belowB hb6 (by have := HTB.out; have := HWz.out; omega); have HB6 : Hid (Bs2 TB TB wo w6) := (HB3'.out.trans (Bs2.of_below (HA1.out _ _))).of_belowB hb6 (Nat.le_refl _); have HO6 : Hid (OwnAc w6 wo.heap.size (.slice av6 (acs.length + 1) cv6) (acs ++ [c])) := hown6; have x0 := HC6.out.c1; have x1 := HC6.out.f 1; clear hown6 hb6 hcv6; obtain ⟨w7, hw7⟩ : ∃ w7, w6.setCell ⟨TB, 1, none⟩ (.slice av6 (acs.length + 1) cv6) = w7 := ⟨_, rfl⟩)
                    have HC7 : Hid (C2 w7 TB (.slice av cs.length cv) (.slice av6 (acs.length + 1) cv6)) := by unfold Hid; rw [← hw7]; exact HC6.out.set1
                    have HB7 : Hid (Bs2 TB TB wo w7) := by unfold Hid; rw [← hw7]; exact HB6.out.setp
                    have HO7 : Hid (OwnAc w7 wo.heap.size (.slice av6 (acs.length + 1) cv6) (acs ++ [c])) := by unfold Hid; rw [← hw7]; exact HO6.out.set (by have := HTB.out; have := HWz.out; omega)
                    refine ⟨⟨j, acs ++ [c], _, false, rfl, rfl, GI2.out, HO7.out, HC7.out, HB7.out⟩, ?_⟩
                    have := HJ.out
                    simp [intOf]; omega
                  · have HHn : Hid (¬ (ws.getD i [] = andW)) := hand
                    obtain ⟨yw, hyw⟩ : ∃ yw, ws.getD i [] = yw := ⟨_, rfl⟩
                    rw [hyw] at hand ⊢
                    have ha3 : ¬ yw = [97, 110, 100] := hand
                    have ha4 : (yw == ([97, 110, 100] : List UInt8)) = false := beq_eq_false_iff_ne.2 hand
                    clear hand hyw
                    have GD : Hid (∀ T', Fits ws T' → (⟨cs, acs⟩ : Tm) = T') := GI.out.done (by rintro ⟨_, h | h⟩; exact absurd h (by simp); exact HHn.out h)
                    have GSa : Hid (SzA acs) := GI.out.sa
                    have HOc : Hid (OwnCd wr W3.heap.size (.slice av cs.length cv) cs) := HOw.out.bs2 GB.out (by have := HTB.out; omega) (by have := HTB.out; omega)
                    have HBz : Hid (Below w.heap.size w wr) := HB3.out.trans ((HBw.out.trans GB.out).below (by have := HTB.out; omega) (by have := HTB.out; omega) (by have := HTB.out; omega))
                    have HDz : Hid (C2 wr w.heap.size (.slice none 0 0) (.slice none 0 0)) := HD3.out.bs2 (HBw.out.trans GB.out) (by have := HTB.out; omega) (by have := HTB.out; omega)
                    have HWz : Hid (W3.heap.size ≤ wo.heap.size) := HBw.out.size
                    have HTx : Hid (Calls _ _ _ _ _) := HKT.out (.agg #[.slice av cs.length cv, .slice aw acs.length dw]) ⟨cs, acs⟩ wr HBz.out ⟨_, _, rfl, HOc.out.at, GO.out.at⟩ ⟨fun c hc => by have := GI.out.sz c hc; unfold maxLen; omega, fun a ha => by have := GI.out.sa a ha; unfold maxLen; omega, by have := GI.out.len; have := HN4.out; have := HN.out; show cs.length ≤ _; omega, by have := GI.out.lea; have := GI.out.top; have := HN4.out; have := HN.out; show acs.length ≤ _; omega⟩ (fun a ha => (GI.out.sa a ha).2.2)
                    obtain ⟨o1, o2⟩ := HKO.out ⟨cs, acs⟩ GSa.out GD.out
                    have HO1 : Hid (_ → _) := o1
                    have HO2 : Hid (_ → _) := o2
                    have z0 := GC.out.c0
                    have z1 := GC.out.c1
                    clear o1 o2 GD GSa GI HKT HKO HKC HKB HKA HWs HOw HBw HCw
                    go_wp2_with fail
                    clear z0 z1
                    refine Calls.mono HTx.out ?_
                    rintro e w5 ⟨rfl, hb5⟩
                    have GC5 : Hid (C2 w5 TB (.slice av cs.length cv) (.slice aw acs.length dw)) := GC.out.below hb5
                    have HD5 : Hid (C2 w5 w.heap.size (.slice none 0 0) (.slice none 0 0)) := HDz.out.below hb5
                    have HOc5 : Hid (OwnCd w5 W3.heap.size (.slice av cs.length cv) cs) := HOc.out.below hb5
                    have GO5 : Hid (OwnAc w5 wo.heap.size (.slice aw acs.length dw) acs) := GO.out.below hb5
                    have HB5 : Hid (Below w.heap.size w w5) := HBz.out.trans (hb5.mono HBz.out.size)
                    have y0 := GC5.out.c0
                    have y1 := GC5.out.c1
                    have x0 := HD5.out.c0
                    have x1 := HD5.out.c1
                    have f0 := HD5.out.f 0
                    have f1 := HD5.out.f 1
                    clear hb5 GC GC5 HDz HOc GO HBz HTx
                    by_cases hgood : okT ⟨cs, acs⟩ = true ∧ tT ⟨cs, acs⟩ = s.data.toList
                    · have ho := HO1.out hgood
                      have q1 : ttE ⟨cs, acs⟩ = 0 := by unfold ttE; rw [hgood.1]; rfl
                      have q2 : (⟨(ttS ⟨cs, acs⟩).toArray⟩ : ByteArray) = s := by unfold ttS; rw [hgood.1]; show (⟨(tT _).toArray⟩ : ByteArray) = s; rw [hgood.2]
                      rw [q1, q2]
                      clear q1 q2 hgood HO1 HO2
                      have HF : Hid (C2 ((w5.setCell ⟨w.heap.size, 0, none⟩ (.slice av cs.length cv)).setCell ⟨w.heap.size, 1, none⟩ (.slice aw acs.length dw)) w.heap.size (.slice av cs.length cv) (.slice aw acs.length dw)) := HD5.out.set0.set1
                      have HR : Hid (RtR o w ((w5.setCell ⟨w.heap.size, 0, none⟩ (.slice av cs.length cv)).setCell ⟨w.heap.size, 1, none⟩ (.slice aw acs.length dw)) (.returned (.tuple #[.agg #[.slice av cs.length cv, .slice aw acs.length dw], .bool true]))) := by
                        unfold Hid
                        rw [ho]
                        exact RtR.some ⟨⟨_, _, rfl, owns_mono ((HOc5.out.set (by have := HTB.out; omega)).set (by have := HTB.out; omega)) (by have := HTB.out; omega), owns_mono ((GO5.out.set (by have := HTB.out; have := HWz.out; omega)).set (by have := HTB.out; have := HWz.out; omega)) (by have := HTB.out; have := HWz.out; omega)⟩, bset (bset HB5.out (Nat.le_refl _)) (Nat.le_refl _)⟩
                      clear ho
                      go_wp2
                      generalize ((w5.setCell ⟨w.heap.size, 0, none⟩ (.slice av cs.length cv)).setCell ⟨w.heap.size, 1, none⟩ (.slice aw acs.length dw)) = WF at *
                      have e0 := HF.out.c0
                      have e1 := HF.out.c1
                      refine bodyPost_ret (v := .tuple #[.agg #[.slice av cs.length cv, .slice aw acs.length dw], .bool true]) (by simp [results, Tryz.results24, go_sem, e0, e1]) rfl ?_
                      exact HR.out
                    · have hon := HO2.out hgood
                      by_cases hok : okT ⟨cs, acs⟩ = true
                      · have q1 : ttE ⟨cs, acs⟩ = 0 := by unfold ttE; rw [hok]; rfl
                        obtain ⟨tx, htx⟩ : ∃ tx, (⟨(ttS ⟨cs, acs⟩).toArray⟩ : ByteArray) = tx := ⟨_, rfl⟩
                        have hne : (tx.toList == s.toList) = false := ne_list fun e => hgood ⟨hok, by
                          rw [← e, ← htx]
                          unfold ttS
                          rw [hok]
                          simp⟩
                        rw [q1, htx]
                        clear q1 htx hgood hok HO1 HO2
                        have HF : Hid (C2 ((w5.setCell ⟨w.heap.size, 0, none⟩ (.slice none 0 0)).setCell ⟨w.heap.size, 1, none⟩ (.slice none 0 0)) w.heap.size (.slice none 0 0) (.slice none 0 0)) := HD5.out.set0.set1
                        have HR : Hid (RtR o w ((w5.setCell ⟨w.heap.size, 0, none⟩ (.slice none 0 0)).setCell ⟨w.heap.size, 1, none⟩ (.slice none 0 0)) (.returned (.tuple #[.agg #[.slice none 0 0, .slice none 0 0], .bool false]))) := by
                          unfold Hid
                          rw [hon]
                          exact RtR.none ⟨rfl, bset (bset HB5.out (Nat.le_refl _)) (Nat.le_refl _)⟩
                        clear hon
                        go_wp2
                        generalize ((w5.setCell ⟨w.heap.size, 0, none⟩ (.slice none 0 0)).setCell ⟨w.heap.size, 1, none⟩ (.slice none 0 0)) = WF at *
                        have e0 := HF.out.c0
                        have e1 := HF.out.c1
                        refine bodyPost_ret (v := .tuple #[.agg #[.slice none 0 0, .slice none 0 0], .bool false]) (by simp [results, Tryz.results24, go_sem, e0, e1]) rfl ?_
                        exact HR.out
                      · have q1 : ttE ⟨cs, acs⟩ = 2 := by unfold ttE; rw [if_neg hok]
                        rw [q1]
                        clear q1 hgood hok HO1 HO2
                        generalize (⟨(ttS ⟨cs, acs⟩).toArray⟩ : ByteArray) = tx
                        have HF : Hid (C2 ((w5.setCell ⟨w.heap.size, 0, none⟩ (.slice none 0 0)).setCell ⟨w.heap.size, 1, none⟩ (.slice none 0 0)) w.heap.size (.slice none 0 0) (.slice none 0 0)) := HD5.out.set0.set1
                        have HR : Hid (RtR o w ((w5.setCell ⟨w.heap.size, 0, none⟩ (.slice none 0 0)).setCell ⟨w.heap.size, 1, none⟩ (.slice none 0 0)) (.returned (.tuple #[.agg #[.slice none 0 0, .slice none 0 0], .bool false]))) := by
                          unfold Hid
                          rw [hon]
                          exact RtR.none ⟨rfl, bset (bset HB5.out (Nat.le_refl _)) (Nat.le_refl _)⟩
                        clear hon
                        go_wp2
                        generalize ((w5.setCell ⟨w.heap.size, 0, none⟩ (.slice none 0 0)).setCell ⟨w.heap.size, 1, none⟩ (.slice none 0 0)) = WF at *
                        have e0 := HF.out.c0
                        have e1 := HF.out.c1
                        refine bodyPost_ret (v := .tuple #[.agg #[.slice none 0 0, .slice none 0 0], .bool false]) (by simp [results, Tryz.results24, go_sem, e0, e1]) rfl ?_
                        exact HR.out
              · have hlti : ¬ (i : Int) < (n : Int) := by omega
                have HLt : Hid (¬ i < n) := hlt
                clear hlt
                have GD : Hid (∀ T', Fits ws T' → (⟨cs, acs⟩ : Tm) = T') := GI.out.done (by rintro ⟨h, _⟩; rw [HN.out] at h; exact HLt.out h)
                have GSa : Hid (SzA acs) := GI.out.sa
                have HOc : Hid (OwnCd wr W3.heap.size (.slice av cs.length cv) cs) := HOw.out.bs2 GB.out (by have := HTB.out; omega) (by have := HTB.out; omega)
                have HBz : Hid (Below w.heap.size w wr) := HB3.out.trans ((HBw.out.trans GB.out).below (by have := HTB.out; omega) (by have := HTB.out; omega) (by have := HTB.out; omega))
                have HDz : Hid (C2 wr w.heap.size (.slice none 0 0) (.slice none 0 0)) := HD3.out.bs2 (HBw.out.trans GB.out) (by have := HTB.out; omega) (by have := HTB.out; omega)
                have HWz : Hid (W3.heap.size ≤ wo.heap.size) := HBw.out.size
                have HTx : Hid (Calls _ _ _ _ _) := HKT.out (.agg #[.slice av cs.length cv, .slice aw acs.length dw]) ⟨cs, acs⟩ wr HBz.out ⟨_, _, rfl, HOc.out.at, GO.out.at⟩ ⟨fun c hc => by have := GI.out.sz c hc; unfold maxLen; omega, fun a ha => by have := GI.out.sa a ha; unfold maxLen; omega, by have := GI.out.len; have := HN4.out; have := HN.out; show cs.length ≤ _; omega, by have := GI.out.lea; have := GI.out.top; have := HN4.out; have := HN.out; show acs.length ≤ _; omega⟩ (fun a ha => (GI.out.sa a ha).2.2)
                obtain ⟨o1, o2⟩ := HKO.out ⟨cs, acs⟩ GSa.out GD.out
                have HO1 : Hid (_ → _) := o1
                have HO2 : Hid (_ → _) := o2
                have z0 := GC.out.c0
                have z1 := GC.out.c1
                clear o1 o2 GD GSa GI HKT HKO HKC HKB HKA HWs HOw HBw HCw
                go_wp2_with fail
                clear z0 z1
                refine Calls.mono HTx.out ?_
                rintro e w5 ⟨rfl, hb5⟩
                have GC5 : Hid (C2 w5 TB (.slice av cs.length cv) (.slice aw acs.length dw)) := GC.out.below hb5
                have HD5 : Hid (C2 w5 w.heap.size (.slice none 0 0) (.slice none 0 0)) := HDz.out.below hb5
                have HOc5 : Hid (OwnCd w5 W3.heap.size (.slice av cs.length cv) cs) := HOc.out.below hb5
                have GO5 : Hid (OwnAc w5 wo.heap.size (.slice aw acs.length dw) acs) := GO.out.below hb5
                have HB5 : Hid (Below w.heap.size w w5) := HBz.out.trans (hb5.mono HBz.out.size)
                have y0 := GC5.out.c0
                have y1 := GC5.out.c1
                have x0 := HD5.out.c0
                have x1 := HD5.out.c1
                have f0 := HD5.out.f 0
                have f1 := HD5.out.f 1
                clear hb5 GC GC5 HDz HOc GO HBz HTx
                by_cases hgood : okT ⟨cs, acs⟩ = true ∧ tT ⟨cs, acs⟩ = s.data.toList
                · have ho := HO1.out hgood
                  have q1 : ttE ⟨cs, acs⟩ = 0 := by unfold ttE; rw [hgood.1]; rfl
                  have q2 : (⟨(ttS ⟨cs, acs⟩).toArray⟩ : ByteArray) = s := by unfold ttS; rw [hgood.1]; show (⟨(tT _).toArray⟩ : ByteArray) = s; rw [hgood.2]
                  rw [q1, q2]
                  clear q1 q2 hgood HO1 HO2
                  have HF : Hid (C2 ((w5.setCell ⟨w.heap.size, 0, none⟩ (.slice av cs.length cv)).setCell ⟨w.heap.size, 1, none⟩ (.slice aw acs.length dw)) w.heap.size (.slice av cs.length cv) (.slice aw acs.length dw)) := HD5.out.set0.set1
                  have HR : Hid (RtR o w ((w5.setCell ⟨w.heap.size, 0, none⟩ (.slice av cs.length cv)).setCell ⟨w.heap.size, 1, none⟩ (.slice aw acs.length dw)) (.returned (.tuple #[.agg #[.slice av cs.length cv, .slice aw acs.length dw], .bool true]))) := by
                    unfold Hid
                    rw [ho]
                    exact RtR.some ⟨⟨_, _, rfl, owns_mono ((HOc5.out.set (by have := HTB.out; omega)).set (by have := HTB.out; omega)) (by have := HTB.out; omega), owns_mono ((GO5.out.set (by have := HTB.out; have := HWz.out; omega)).set (by have := HTB.out; have := HWz.out; omega)) (by have := HTB.out; have := HWz.out; omega)⟩, bset (bset HB5.out (Nat.le_refl _)) (Nat.le_refl _)⟩
                  clear ho
                  go_wp2
                  generalize ((w5.setCell ⟨w.heap.size, 0, none⟩ (.slice av cs.length cv)).setCell ⟨w.heap.size, 1, none⟩ (.slice aw acs.length dw)) = WF at *
                  have e0 := HF.out.c0
                  have e1 := HF.out.c1
                  refine bodyPost_ret (v := .tuple #[.agg #[.slice av cs.length cv, .slice aw acs.length dw], .bool true]) (by simp [results, Tryz.results24, go_sem, e0, e1]) rfl ?_
                  exact HR.out
                · have hon := HO2.out hgood
                  by_cases hok : okT ⟨cs, acs⟩ = true
                  · have q1 : ttE ⟨cs, acs⟩ = 0 := by unfold ttE; rw [hok]; rfl
                    obtain ⟨tx, htx⟩ : ∃ tx, (⟨(ttS ⟨cs, acs⟩).toArray⟩ : ByteArray) = tx := ⟨_, rfl⟩
                    have hne : (tx.toList == s.toList) = false := ne_list fun e => hgood ⟨hok, by
                      rw [← e, ← htx]
                      unfold ttS
                      rw [hok]
                      simp⟩
                    rw [q1, htx]
                    clear q1 htx hgood hok HO1 HO2
                    have HF : Hid (C2 ((w5.setCell ⟨w.heap.size, 0, none⟩ (.slice none 0 0)).setCell ⟨w.heap.size, 1, none⟩ (.slice none 0 0)) w.heap.size (.slice none 0 0) (.slice none 0 0)) := HD5.out.set0.set1
                    have HR : Hid (RtR o w ((w5.setCell ⟨w.heap.size, 0, none⟩ (.slice none 0 0)).setCell ⟨w.heap.size, 1, none⟩ (.slice none 0 0)) (.returned (.tuple #[.agg #[.slice none 0 0, .slice none 0 0], .bool false]))) := by
                      unfold Hid
                      rw [hon]
                      exact RtR.none ⟨rfl, bset (bset HB5.out (Nat.le_refl _)) (Nat.le_refl _)⟩
                    clear hon
                    go_wp2
                    generalize ((w5.setCell ⟨w.heap.size, 0, none⟩ (.slice none 0 0)).setCell ⟨w.heap.size, 1, none⟩ (.slice none 0 0)) = WF at *
                    have e0 := HF.out.c0
                    have e1 := HF.out.c1
                    refine bodyPost_ret (v := .tuple #[.agg #[.slice none 0 0, .slice none 0 0], .bool false]) (by simp [results, Tryz.results24, go_sem, e0, e1]) rfl ?_
                    exact HR.out
                  · have q1 : ttE ⟨cs, acs⟩ = 2 := by unfold ttE; rw [if_neg hok]
                    rw [q1]
                    clear q1 hgood hok HO1 HO2
                    generalize (⟨(ttS ⟨cs, acs⟩).toArray⟩ : ByteArray) = tx
                    have HF : Hid (C2 ((w5.setCell ⟨w.heap.size, 0, none⟩ (.slice none 0 0)).setCell ⟨w.heap.size, 1, none⟩ (.slice none 0 0)) w.heap.size (.slice none 0 0) (.slice none 0 0)) := HD5.out.set0.set1
                    have HR : Hid (RtR o w ((w5.setCell ⟨w.heap.size, 0, none⟩ (.slice none 0 0)).setCell ⟨w.heap.size, 1, none⟩ (.slice none 0 0)) (.returned (.tuple #[.agg #[.slice none 0 0, .slice none 0 0], .bool false]))) := by
                      unfold Hid
                      rw [hon]
                      exact RtR.none ⟨rfl, bset (bset HB5.out (Nat.le_refl _)) (Nat.le_refl _)⟩
                    clear hon
                    go_wp2
                    generalize ((w5.setCell ⟨w.heap.size, 0, none⟩ (.slice none 0 0)).setCell ⟨w.heap.size, 1, none⟩ (.slice none 0 0)) = WF at *
                    have e0 := HF.out.c0
                    have e1 := HF.out.c1
                    refine bodyPost_ret (v := .tuple #[.agg #[.slice none 0 0, .slice none 0 0], .bool false]) (by simp [results, Tryz.results24, go_sem, e0, e1]) rfl ?_
                    exact HR.out
      · have hlti : ¬ (k : Int) < (n : Int) := by omega
        have HM : Hid (MidA ws k cs) := HI.out.done (by rintro ⟨h, _⟩; rw [HN.out] at h; exact hlt h)
        clear hlt
        go_wp2
        clear hlti
        have HI1 : Hid (InvB ws k cs [] true) := InvB.start HM.out
        have HBw : Hid (Bs2 TB TB W3 wo) := HB.out
        have HOw : Hid (OwnCd wo W3.heap.size (.slice av cs.length cv) cs) := HO.out
        have HCw : Hid (C2 wo TB (.slice av cs.length cv) (.slice none 0 0)) := HC.out
        clear HM
        go_wp2
        go_loopw [6, 9, 10, 11] (fun x6 x9 x10 x11 wr => ∃ (i : Nat) (acs : List Ac) (va : Value) (first : Bool), x6 = .int .i64 (i : Int) ∧ x9 = .bool first ∧ InvB ws i cs acs first ∧ OwnAc wr wo.heap.size va acs ∧ C2 wr TB (.slice av cs.length cv) va ∧ Bs2 TB TB wo wr) (fun x6 _ _ _ _ => n + 5 - (intOf x6).toNat)
        case atStart => exact ⟨k, [], .slice none 0 0, true, rfl, rfl, HI1.out, OwnAc.nil _ _, HCw.out, Bs2.refl _ _ _⟩
        case round =>
          obtain ⟨i, acs, va, first, rfl, rfl, hinv, hown, hc2, hbs⟩ := hrel
          obtain ⟨aw, dw, rfl, hdw⟩ := own_len hown
          have GI : Hid (InvB ws i cs acs first) := hinv
          have GO : Hid (OwnAc wr wo.heap.size (.slice aw acs.length dw) acs) := hown
          have GC : Hid (C2 wr TB (.slice av cs.length cv) (.slice aw acs.length dw)) := hc2
          have GB : Hid (Bs2 TB TB wo wr) := hbs
          have GK : Hid (i ≤ n + 4) := by unfold Hid; rw [← HN.out]; exact hinv.top
          clear hinv hown hc2 hbs hdw HI1
          by_cases hlt : i < n
          · have hlti : (i : Int) < (n : Int) := by omega
            have hi0 : (0 : Int) ≤ (i : Int) := by omega
            have hi1 : (i : Int) < 1099511627776 := by have := HN4.out; omega
            have HLt : Hid (i < n) := hlt
            clear hlt
            cases first with
            | true =>
              go_wp2_with fail
              clear hlti
              refine Calls.mono (HKB.out _ (i + 1) _ wr (by omega) (HWs.out wr (HBw.out.trans GB.out)) (by have := GK.out; have := HN4.out; omega)) ?_
              rintro e w2 ⟨⟨c, j, rfl, hcr⟩, hb⟩
              have GI2 : Hid (InvB ws j cs (acs ++ [c]) false) := GI.out.step (by rw [HN.out]; exact HLt.out) hcr
              have HJ : Hid (i < j ∧ j ≤ n + 4) := ⟨by have := hcr.1; omega, by rw [← HN.out]; exact GI2.out.top⟩
              have HLn : Hid (acs.length ≤ n + 4) := Nat.le_trans GI.out.lea GK.out
              have HO2 : Hid (OwnAc w2 wo.heap.size (.slice aw acs.length dw) acs) := GO.out.below hb
              have HC2' : Hid (C2 w2 TB (.slice av cs.length cv) (.slice aw acs.length dw)) := GC.out.below hb
              have HB2' : Hid (Bs2 TB TB wo w2) := GB.out.trans (Bs2.of_below hb)
              have HA1 : Hid (∀ (X : World) A, Below X.heap.size X (X.alloc (.cells A 40))) := fun X A => (Below.refl _ _).alloc (Nat.le_refl _) _
              have HC1 : Hid (∀ X : World, AcAt (X.alloc (.cells #[.int .i64 c.k, .string c.nm, .int .u32 (c.n : Int), .string c.ad] 40)) (.slice (some ⟨X.heap.size, 0, none⟩) 1 1) [c]) := fun X => oneAc X c
              have HWz : Hid (W3.heap.size ≤ wo.heap.size) := HBw.out.size
              unfold acV
              clear hcr hb GI GO GC GB GK hi0 hi1
              obtain ⟨w3, hw3⟩ : ∃ w3, w2.alloc (.cells #[.int .i64 c.k, .string c.nm, .int .u32 (c.n : Int), .string c.ad] 40) = w3 := ⟨_, rfl⟩
              have HO3 : Hid (OwnAc w3 wo.heap.size (.slice aw acs.length dw) acs) := by unfold Hid; rw [← hw3]; exact HO2.out.below (HA1.out _ _)
              have HC3 : Hid (C2 w3 TB (.slice av cs.length cv) (.slice aw acs.length dw)) := by unfold Hid; rw [← hw3]; exact HC2'.out.below (HA1.out _ _)
              have HB3' : Hid (Bs2 TB TB wo w3) := by unfold Hid; rw [← hw3]; exact HB2'.out.trans (Bs2.of_below (HA1.out _ _))
              have HY : Hid (C4 w3 w2.heap.size (.int .i64 c.k) (.string c.nm) (.int .u32 (c.n : Int)) (.string c.ad)) := by unfold Hid; rw [← hw3]; exact C4.new _ 40 _ _ _ _
              have z0 := HC3.out.c1
              have y0 := HY.out.c0
              have y1 := HY.out.c1
              have y2 := HY.out.c2
              have y3 := HY.out.c3
              clear HO2 HC2' HB2'
              go_wp2_with (at_builtin; refine wpList_append_Ac _ rfl _ _ rfl wo.heap.size _ _ acs [_] rfl rfl (HO3.out.below (HA1.out _ _)) (HC1.out w3) (by have := HLn.out; have := HN4.out; simp; omega) (by have := HB3'.out.size; have := (HA1.out w3 #[]).size; simp; omega) ?_; intro v6 w6 hown6 hb6; obtain ⟨av6, cv6, ev6, hcv6⟩ := own_len hown6; rw [List.length_append, List.length_singleton] at ev6; subst ev6; have HC6 : Hid (C2 w6 TB (.slice av cs.length cv) (.slice aw acs.length dw)) := (HC3.out.below (HA1.out _ _)).belowB hb6 (by have := HTB.out; have := HWz.out; omega); have HB6 : Hid (Bs2 TB TB wo w6) := (HB3'.out.trans (Bs2.of_below (HA1.out _ _))).of_belowB hb6 (Nat.le_refl _); have HO6 : Hid (OwnAc w6 wo.heap.size (.slice av6 (acs.length + 1) cv6) (acs ++ [c])) := hown6; have x0 := HC6.out.c1; have x1 := HC6.out.f 1; clear hown6 hb6 hcv6; obtain ⟨w7, hw7⟩ : ∃ w7, w6.setCell ⟨TB, 1, none⟩ (.slice av6 (acs.length + 1) cv6) = w7 := ⟨_, rfl⟩)
              have HC7 : Hid (C2 w7 TB (.slice av cs.length cv) (.slice av6 (acs.length + 1) cv6)) := by unfold Hid; rw [← hw7]; exact HC6.out.set1
              have HB7 : Hid (Bs2 TB TB wo w7) := by unfold Hid; rw [← hw7]; exact HB6.out.setp
              have HO7 : Hid (OwnAc w7 wo.heap.size (.slice av6 (acs.length + 1) cv6) (acs ++ [c])) := by unfold Hid; rw [← hw7]; exact HO6.out.set (by have := HTB.out; have := HWz.out; omega)
              refine ⟨⟨j, acs ++ [c], _, false, rfl, rfl, GI2.out, HO7.out, HC7.out, HB7.out⟩, ?_⟩
              have := HJ.out
              simp [intOf]; omega
            | false =>
              go_wp2_with fail
              refine Calls.mono (HKA.out _ i _ wr rfl (HWs.out wr (HBw.out.trans GB.out))) ?_
              rintro e Wq ⟨rfl, hq⟩
              subst Wq
              by_cases hand : ws.getD i [] = andW
              · rw [hand]
                have haw : (andW == ([97, 110, 100] : List UInt8)) = true := by decide
                clear hand
                go_wp2_with fail
                clear hlti haw
                refine Calls.mono (HKB.out _ (i + 1) _ wr (by omega) (HWs.out wr (HBw.out.trans GB.out)) (by have := GK.out; have := HN4.out; omega)) ?_
                rintro e w2 ⟨⟨c, j, rfl, hcr⟩, hb⟩
                have GI2 : Hid (InvB ws j cs (acs ++ [c]) false) := GI.out.step (by rw [HN.out]; exact HLt.out) hcr
                have HJ : Hid (i < j ∧ j ≤ n + 4) := ⟨by have := hcr.1; omega, by rw [← HN.out]; exact GI2.out.top⟩
                have HLn : Hid (acs.length ≤ n + 4) := Nat.le_trans GI.out.lea GK.out
                have HO2 : Hid (OwnAc w2 wo.heap.size (.slice aw acs.length dw) acs) := GO.out.below hb
                have HC2' : Hid (C2 w2 TB (.slice av cs.length cv) (.slice aw acs.length dw)) := GC.out.below hb
                have HB2' : Hid (Bs2 TB TB wo w2) := GB.out.trans (Bs2.of_below hb)
                have HA1 : Hid (∀ (X : World) A, Below X.heap.size X (X.alloc (.cells A 40))) := fun X A => (Below.refl _ _).alloc (Nat.le_refl _) _
                have HC1 : Hid (∀ X : World, AcAt (X.alloc (.cells #[.int .i64 c.k, .string c.nm, .int .u32 (c.n : Int), .string c.ad] 40)) (.slice (some ⟨X.heap.size, 0, none⟩) 1 1) [c]) := fun X => oneAc X c
                have HWz : Hid (W3.heap.size ≤ wo.heap.size) := HBw.out.size
                unfold acV
                clear hcr hb GI GO GC GB GK hi0 hi1
                obtain ⟨w3, hw3⟩ : ∃ w3, w2.alloc (.cells #[.int .i64 c.k, .string c.nm, .int .u32 (c.n : Int), .string c.ad] 40) = w3 := ⟨_, rfl⟩
                have HO3 : Hid (OwnAc w3 wo.heap.size (.slice aw acs.length dw) acs) := by unfold Hid; rw [← hw3]; exact HO2.out.below (HA1.out _ _)
                have HC3 : Hid (C2 w3 TB (.slice av cs.length cv) (.slice aw acs.length dw)) := by unfold Hid; rw [← hw3]; exact HC2'.out.below (HA1.out _ _)
                have HB3' : Hid (Bs2 TB TB wo w3) := by unfold Hid; rw [← hw3]; exact HB2'.out.trans (Bs2.of_below (HA1.out _ _))
                have HY : Hid (C4 w3 w2.heap.size (.int .i64 c.k) (.string c.nm) (.int .u32 (c.n : Int)) (.string c.ad)) := by unfold Hid; rw [← hw3]; exact C4.new _ 40 _ _ _ _
                have z0 := HC3.out.c1
                have y0 := HY.out.c0
                have y1 := HY.out.c1
                have y2 := HY.out.c2
                have y3 := HY.out.c3
                clear HO2 HC2' HB2'
                go_wp2_with (at_builtin; refine wpList_append_Ac _ rfl _ _ rfl wo.heap.size _ _ acs [_] rfl rfl (HO3.out.below (HA1.out _ _)) (HC1.out w3) (by have := HLn.out; have := HN4.out; simp; omega) (by have := HB3'.out.size; have := (HA1.out w3 #[]).size; simp; omega) ?_; intro v6 w6 hown6 hb6; obtain ⟨av6, cv6, ev6, hcv6⟩ := own_len hown6; rw [List.length_append, List.length_singleton] at ev6; subst ev6; have HC6 : Hid (C2 w6 TB (.slice av cs.length cv) (.slice aw acs.length dw)) := (HC3.out.below (HA1.out _ _)).belowB hb6 (by have := HTB.out; have := HWz.out; omega); have HB6 : Hid (Bs2 TB TB wo w6) := (HB3'.out.trans (Bs2.of_below (HA1.out _ _))).of_belowB hb6 (Nat.le_refl _); have HO6 : Hid (OwnAc w6 wo.heap.size (.slice av6 (acs.length + 1) cv6) (acs ++ [c])) := hown6; have x0 := HC6.out.c1; have x1 := HC6.out.f 1; clear hown6 hb6 hcv6; obtain ⟨w7, hw7⟩ : ∃ w7, w6.setCell ⟨TB, 1, none⟩ (.slice av6 (acs.length + 1) cv6) = w7 := ⟨_, rfl⟩)
                have HC7 : Hid (C2 w7 TB (.slice av cs.length cv) (.slice av6 (acs.length + 1) cv6)) := by unfold Hid; rw [← hw7]; exact HC6.out.set1
                have HB7 : Hid (Bs2 TB TB wo w7) := by unfold Hid; rw [← hw7]; exact HB6.out.setp
                have HO7 : Hid (OwnAc w7 wo.heap.size (.slice av6 (acs.length + 1) cv6) (acs ++ [c])) := by unfold Hid; rw [← hw7]; exact HO6.out.set (by have := HTB.out; have := HWz.out; omega)
                refine ⟨⟨j, acs ++ [c], _, false, rfl, rfl, GI2.out, HO7.out, HC7.out, HB7.out⟩, ?_⟩
                have := HJ.out
                simp [intOf]; omega
              · have HHn : Hid (¬ (ws.getD i [] = andW)) := hand
                obtain ⟨yw, hyw⟩ : ∃ yw, ws.getD i [] = yw := ⟨_, rfl⟩
                rw [hyw] at hand ⊢
                have ha3 : ¬ yw = [97, 110, 100] := hand
                have ha4 : (yw == ([97, 110, 100] : List UInt8)) = false := beq_eq_false_iff_ne.2 hand
                clear hand hyw
                have GD : Hid (∀ T', Fits ws T' → (⟨cs, acs⟩ : Tm) = T') := GI.out.done (by rintro ⟨_, h | h⟩; exact absurd h (by simp); exact HHn.out h)
                have GSa : Hid (SzA acs) := GI.out.sa
                have HOc : Hid (OwnCd wr W3.heap.size (.slice av cs.length cv) cs) := HOw.out.bs2 GB.out (by have := HTB.out; omega) (by have := HTB.out; omega)
                have HBz : Hid (Below w.heap.size w wr) := HB3.out.trans ((HBw.out.trans GB.out).below (by have := HTB.out; omega) (by have := HTB.out; omega) (by have := HTB.out; omega))
                have HDz : Hid (C2 wr w.heap.size (.slice none 0 0) (.slice none 0 0)) := HD3.out.bs2 (HBw.out.trans GB.out) (by have := HTB.out; omega) (by have := HTB.out; omega)
                have HWz : Hid (W3.heap.size ≤ wo.heap.size) := HBw.out.size
                have HTx : Hid (Calls _ _ _ _ _) := HKT.out (.agg #[.slice av cs.length cv, .slice aw acs.length dw]) ⟨cs, acs⟩ wr HBz.out ⟨_, _, rfl, HOc.out.at, GO.out.at⟩ ⟨fun c hc => by have := GI.out.sz c hc; unfold maxLen; omega, fun a ha => by have := GI.out.sa a ha; unfold maxLen; omega, by have := GI.out.len; have := HN4.out; have := HN.out; show cs.length ≤ _; omega, by have := GI.out.lea; have := GI.out.top; have := HN4.out; have := HN.out; show acs.length ≤ _; omega⟩ (fun a ha => (GI.out.sa a ha).2.2)
                obtain ⟨o1, o2⟩ := HKO.out ⟨cs, acs⟩ GSa.out GD.out
                have HO1 : Hid (_ → _) := o1
                have HO2 : Hid (_ → _) := o2
                have z0 := GC.out.c0
                have z1 := GC.out.c1
                clear o1 o2 GD GSa GI HKT HKO HKC HKB HKA HWs HOw HBw HCw
                go_wp2_with fail
                clear z0 z1
                refine Calls.mono HTx.out ?_
                rintro e w5 ⟨rfl, hb5⟩
                have GC5 : Hid (C2 w5 TB (.slice av cs.length cv) (.slice aw acs.length dw)) := GC.out.below hb5
                have HD5 : Hid (C2 w5 w.heap.size (.slice none 0 0) (.slice none 0 0)) := HDz.out.below hb5
                have HOc5 : Hid (OwnCd w5 W3.heap.size (.slice av cs.length cv) cs) := HOc.out.below hb5
                have GO5 : Hid (OwnAc w5 wo.heap.size (.slice aw acs.length dw) acs) := GO.out.below hb5
                have HB5 : Hid (Below w.heap.size w w5) := HBz.out.trans (hb5.mono HBz.out.size)
                have y0 := GC5.out.c0
                have y1 := GC5.out.c1
                have x0 := HD5.out.c0
                have x1 := HD5.out.c1
                have f0 := HD5.out.f 0
                have f1 := HD5.out.f 1
                clear hb5 GC GC5 HDz HOc GO HBz HTx
                by_cases hgood : okT ⟨cs, acs⟩ = true ∧ tT ⟨cs, acs⟩ = s.data.toList
                · have ho := HO1.out hgood
                  have q1 : ttE ⟨cs, acs⟩ = 0 := by unfold ttE; rw [hgood.1]; rfl
                  have q2 : (⟨(ttS ⟨cs, acs⟩).toArray⟩ : ByteArray) = s := by unfold ttS; rw [hgood.1]; show (⟨(tT _).toArray⟩ : ByteArray) = s; rw [hgood.2]
                  rw [q1, q2]
                  clear q1 q2 hgood HO1 HO2
                  have HF : Hid (C2 ((w5.setCell ⟨w.heap.size, 0, none⟩ (.slice av cs.length cv)).setCell ⟨w.heap.size, 1, none⟩ (.slice aw acs.length dw)) w.heap.size (.slice av cs.length cv) (.slice aw acs.length dw)) := HD5.out.set0.set1
                  have HR : Hid (RtR o w ((w5.setCell ⟨w.heap.size, 0, none⟩ (.slice av cs.length cv)).setCell ⟨w.heap.size, 1, none⟩ (.slice aw acs.length dw)) (.returned (.tuple #[.agg #[.slice av cs.length cv, .slice aw acs.length dw], .bool true]))) := by
                    unfold Hid
                    rw [ho]
                    exact RtR.some ⟨⟨_, _, rfl, owns_mono ((HOc5.out.set (by have := HTB.out; omega)).set (by have := HTB.out; omega)) (by have := HTB.out; omega), owns_mono ((GO5.out.set (by have := HTB.out; have := HWz.out; omega)).set (by have := HTB.out; have := HWz.out; omega)) (by have := HTB.out; have := HWz.out; omega)⟩, bset (bset HB5.out (Nat.le_refl _)) (Nat.le_refl _)⟩
                  clear ho
                  go_wp2
                  generalize ((w5.setCell ⟨w.heap.size, 0, none⟩ (.slice av cs.length cv)).setCell ⟨w.heap.size, 1, none⟩ (.slice aw acs.length dw)) = WF at *
                  have e0 := HF.out.c0
                  have e1 := HF.out.c1
                  refine bodyPost_ret (v := .tuple #[.agg #[.slice av cs.length cv, .slice aw acs.length dw], .bool true]) (by simp [results, Tryz.results24, go_sem, e0, e1]) rfl ?_
                  exact HR.out
                · have hon := HO2.out hgood
                  by_cases hok : okT ⟨cs, acs⟩ = true
                  · have q1 : ttE ⟨cs, acs⟩ = 0 := by unfold ttE; rw [hok]; rfl
                    obtain ⟨tx, htx⟩ : ∃ tx, (⟨(ttS ⟨cs, acs⟩).toArray⟩ : ByteArray) = tx := ⟨_, rfl⟩
                    have hne : (tx.toList == s.toList) = false := ne_list fun e => hgood ⟨hok, by
                      rw [← e, ← htx]
                      unfold ttS
                      rw [hok]
                      simp⟩
                    rw [q1, htx]
                    clear q1 htx hgood hok HO1 HO2
                    have HF : Hid (C2 ((w5.setCell ⟨w.heap.size, 0, none⟩ (.slice none 0 0)).setCell ⟨w.heap.size, 1, none⟩ (.slice none 0 0)) w.heap.size (.slice none 0 0) (.slice none 0 0)) := HD5.out.set0.set1
                    have HR : Hid (RtR o w ((w5.setCell ⟨w.heap.size, 0, none⟩ (.slice none 0 0)).setCell ⟨w.heap.size, 1, none⟩ (.slice none 0 0)) (.returned (.tuple #[.agg #[.slice none 0 0, .slice none 0 0], .bool false]))) := by
                      unfold Hid
                      rw [hon]
                      exact RtR.none ⟨rfl, bset (bset HB5.out (Nat.le_refl _)) (Nat.le_refl _)⟩
                    clear hon
                    go_wp2
                    generalize ((w5.setCell ⟨w.heap.size, 0, none⟩ (.slice none 0 0)).setCell ⟨w.heap.size, 1, none⟩ (.slice none 0 0)) = WF at *
                    have e0 := HF.out.c0
                    have e1 := HF.out.c1
                    refine bodyPost_ret (v := .tuple #[.agg #[.slice none 0 0, .slice none 0 0], .bool false]) (by simp [results, Tryz.results24, go_sem, e0, e1]) rfl ?_
                    exact HR.out
                  · have q1 : ttE ⟨cs, acs⟩ = 2 := by unfold ttE; rw [if_neg hok]
                    rw [q1]
                    clear q1 hgood hok HO1 HO2
                    generalize (⟨(ttS ⟨cs, acs⟩).toArray⟩ : ByteArray) = tx
                    have HF : Hid (C2 ((w5.setCell ⟨w.heap.size, 0, none⟩ (.slice none 0 0)).setCell ⟨w.heap.size, 1, none⟩ (.slice none 0 0)) w.heap.size (.slice none 0 0) (.slice none 0 0)) := HD5.out.set0.set1
                    have HR : Hid (RtR o w ((w5.setCell ⟨w.heap.size, 0, none⟩ (.slice none 0 0)).setCell ⟨w.heap.size, 1, none⟩ (.slice none 0 0)) (.returned (.tuple #[.agg #[.slice none 0 0, .slice none 0 0], .bool false]))) := by
                      unfold Hid
                      rw [hon]
                      exact RtR.none ⟨rfl, bset (bset HB5.out (Nat.le_refl _)) (Nat.le_refl _)⟩
                    clear hon
                    go_wp2
                    generalize ((w5.setCell ⟨w.heap.size, 0, none⟩ (.slice none 0 0)).setCell ⟨w.heap.size, 1, none⟩ (.slice none 0 0)) = WF at *
                    have e0 := HF.out.c0
                    have e1 := HF.out.c1
                    refine bodyPost_ret (v := .tuple #[.agg #[.slice none 0 0, .slice none 0 0], .bool false]) (by simp [results, Tryz.results24, go_sem, e0, e1]) rfl ?_
                    exact HR.out
          · have hlti : ¬ (i : Int) < (n : Int) := by omega
            have HLt : Hid (¬ i < n) := hlt
            clear hlt
            have GD : Hid (∀ T', Fits ws T' → (⟨cs, acs⟩ : Tm) = T') := GI.out.done (by rintro ⟨h, _⟩; rw [HN.out] at h; exact HLt.out h)
            have GSa : Hid (SzA acs) := GI.out.sa
            have HOc : Hid (OwnCd wr W3.heap.size (.slice av cs.length cv) cs) := HOw.out.bs2 GB.out (by have := HTB.out; omega) (by have := HTB.out; omega)
            have HBz : Hid (Below w.heap.size w wr) := HB3.out.trans ((HBw.out.trans GB.out).below (by have := HTB.out; omega) (by have := HTB.out; omega) (by have := HTB.out; omega))
            have HDz : Hid (C2 wr w.heap.size (.slice none 0 0) (.slice none 0 0)) := HD3.out.bs2 (HBw.out.trans GB.out) (by have := HTB.out; omega) (by have := HTB.out; omega)
            have HWz : Hid (W3.heap.size ≤ wo.heap.size) := HBw.out.size
            have HTx : Hid (Calls _ _ _ _ _) := HKT.out (.agg #[.slice av cs.length cv, .slice aw acs.length dw]) ⟨cs, acs⟩ wr HBz.out ⟨_, _, rfl, HOc.out.at, GO.out.at⟩ ⟨fun c hc => by have := GI.out.sz c hc; unfold maxLen; omega, fun a ha => by have := GI.out.sa a ha; unfold maxLen; omega, by have := GI.out.len; have := HN4.out; have := HN.out; show cs.length ≤ _; omega, by have := GI.out.lea; have := GI.out.top; have := HN4.out; have := HN.out; show acs.length ≤ _; omega⟩ (fun a ha => (GI.out.sa a ha).2.2)
            obtain ⟨o1, o2⟩ := HKO.out ⟨cs, acs⟩ GSa.out GD.out
            have HO1 : Hid (_ → _) := o1
            have HO2 : Hid (_ → _) := o2
            have z0 := GC.out.c0
            have z1 := GC.out.c1
            clear o1 o2 GD GSa GI HKT HKO HKC HKB HKA HWs HOw HBw HCw
            go_wp2_with fail
            clear z0 z1
            refine Calls.mono HTx.out ?_
            rintro e w5 ⟨rfl, hb5⟩
            have GC5 : Hid (C2 w5 TB (.slice av cs.length cv) (.slice aw acs.length dw)) := GC.out.below hb5
            have HD5 : Hid (C2 w5 w.heap.size (.slice none 0 0) (.slice none 0 0)) := HDz.out.below hb5
            have HOc5 : Hid (OwnCd w5 W3.heap.size (.slice av cs.length cv) cs) := HOc.out.below hb5
            have GO5 : Hid (OwnAc w5 wo.heap.size (.slice aw acs.length dw) acs) := GO.out.below hb5
            have HB5 : Hid (Below w.heap.size w w5) := HBz.out.trans (hb5.mono HBz.out.size)
            have y0 := GC5.out.c0
            have y1 := GC5.out.c1
            have x0 := HD5.out.c0
            have x1 := HD5.out.c1
            have f0 := HD5.out.f 0
            have f1 := HD5.out.f 1
            clear hb5 GC GC5 HDz HOc GO HBz HTx
            by_cases hgood : okT ⟨cs, acs⟩ = true ∧ tT ⟨cs, acs⟩ = s.data.toList
            · have ho := HO1.out hgood
              have q1 : ttE ⟨cs, acs⟩ = 0 := by unfold ttE; rw [hgood.1]; rfl
              have q2 : (⟨(ttS ⟨cs, acs⟩).toArray⟩ : ByteArray) = s := by unfold ttS; rw [hgood.1]; show (⟨(tT _).toArray⟩ : ByteArray) = s; rw [hgood.2]
              rw [q1, q2]
              clear q1 q2 hgood HO1 HO2
              have HF : Hid (C2 ((w5.setCell ⟨w.heap.size, 0, none⟩ (.slice av cs.length cv)).setCell ⟨w.heap.size, 1, none⟩ (.slice aw acs.length dw)) w.heap.size (.slice av cs.length cv) (.slice aw acs.length dw)) := HD5.out.set0.set1
              have HR : Hid (RtR o w ((w5.setCell ⟨w.heap.size, 0, none⟩ (.slice av cs.length cv)).setCell ⟨w.heap.size, 1, none⟩ (.slice aw acs.length dw)) (.returned (.tuple #[.agg #[.slice av cs.length cv, .slice aw acs.length dw], .bool true]))) := by
                unfold Hid
                rw [ho]
                exact RtR.some ⟨⟨_, _, rfl, owns_mono ((HOc5.out.set (by have := HTB.out; omega)).set (by have := HTB.out; omega)) (by have := HTB.out; omega), owns_mono ((GO5.out.set (by have := HTB.out; have := HWz.out; omega)).set (by have := HTB.out; have := HWz.out; omega)) (by have := HTB.out; have := HWz.out; omega)⟩, bset (bset HB5.out (Nat.le_refl _)) (Nat.le_refl _)⟩
              clear ho
              go_wp2
              generalize ((w5.setCell ⟨w.heap.size, 0, none⟩ (.slice av cs.length cv)).setCell ⟨w.heap.size, 1, none⟩ (.slice aw acs.length dw)) = WF at *
              have e0 := HF.out.c0
              have e1 := HF.out.c1
              refine bodyPost_ret (v := .tuple #[.agg #[.slice av cs.length cv, .slice aw acs.length dw], .bool true]) (by simp [results, Tryz.results24, go_sem, e0, e1]) rfl ?_
              exact HR.out
            · have hon := HO2.out hgood
              by_cases hok : okT ⟨cs, acs⟩ = true
              · have q1 : ttE ⟨cs, acs⟩ = 0 := by unfold ttE; rw [hok]; rfl
                obtain ⟨tx, htx⟩ : ∃ tx, (⟨(ttS ⟨cs, acs⟩).toArray⟩ : ByteArray) = tx := ⟨_, rfl⟩
                have hne : (tx.toList == s.toList) = false := ne_list fun e => hgood ⟨hok, by
                  rw [← e, ← htx]
                  unfold ttS
                  rw [hok]
                  simp⟩
                rw [q1, htx]
                clear q1 htx hgood hok HO1 HO2
                have HF : Hid (C2 ((w5.setCell ⟨w.heap.size, 0, none⟩ (.slice none 0 0)).setCell ⟨w.heap.size, 1, none⟩ (.slice none 0 0)) w.heap.size (.slice none 0 0) (.slice none 0 0)) := HD5.out.set0.set1
                have HR : Hid (RtR o w ((w5.setCell ⟨w.heap.size, 0, none⟩ (.slice none 0 0)).setCell ⟨w.heap.size, 1, none⟩ (.slice none 0 0)) (.returned (.tuple #[.agg #[.slice none 0 0, .slice none 0 0], .bool false]))) := by
                  unfold Hid
                  rw [hon]
                  exact RtR.none ⟨rfl, bset (bset HB5.out (Nat.le_refl _)) (Nat.le_refl _)⟩
                clear hon
                go_wp2
                generalize ((w5.setCell ⟨w.heap.size, 0, none⟩ (.slice none 0 0)).setCell ⟨w.heap.size, 1, none⟩ (.slice none 0 0)) = WF at *
                have e0 := HF.out.c0
                have e1 := HF.out.c1
                refine bodyPost_ret (v := .tuple #[.agg #[.slice none 0 0, .slice none 0 0], .bool false]) (by simp [results, Tryz.results24, go_sem, e0, e1]) rfl ?_
                exact HR.out
              · have q1 : ttE ⟨cs, acs⟩ = 2 := by unfold ttE; rw [if_neg hok]
                rw [q1]
                clear q1 hgood hok HO1 HO2
                generalize (⟨(ttS ⟨cs, acs⟩).toArray⟩ : ByteArray) = tx
                have HF : Hid (C2 ((w5.setCell ⟨w.heap.size, 0, none⟩ (.slice none 0 0)).setCell ⟨w.heap.size, 1, none⟩ (.slice none 0 0)) w.heap.size (.slice none 0 0) (.slice none 0 0)) := HD5.out.set0.set1
                have HR : Hid (RtR o w ((w5.setCell ⟨w.heap.size, 0, none⟩ (.slice none 0 0)).setCell ⟨w.heap.size, 1, none⟩ (.slice none 0 0)) (.returned (.tuple #[.agg #[.slice none 0 0, .slice none 0 0], .bool false]))) := by
                  unfold Hid
                  rw [hon]
                  exact RtR.none ⟨rfl, bset (bset HB5.out (Nat.le_refl _)) (Nat.le_refl _)⟩
                clear hon
                go_wp2
                generalize ((w5.setCell ⟨w.heap.size, 0, none⟩ (.slice none 0 0)).setCell ⟨w.heap.size, 1, none⟩ (.slice none 0 0)) = WF at *
                have e0 := HF.out.c0
                have e1 := HF.out.c1
                refine bodyPost_ret (v := .tuple #[.agg #[.slice none 0 0, .slice none 0 0], .bool false]) (by simp [results, Tryz.results24, go_sem, e0, e1]) rfl ?_
                exact HR.out
  · have HM0 : Hid (MidA ws 0 []) := MidA.start hif
    obtain ⟨yw, hyw⟩ : ∃ yw, ws.getD 0 [] = yw := ⟨_, rfl⟩
    rw [hyw] at hif ⊢
    have ha3 : ¬ yw = [105, 102] := hif
    have ha4 : (yw == ([105, 102] : List UInt8)) = false := beq_eq_false_iff_ne.2 hif
    clear hif hyw hn
    go_wp2
    clear ha3 ha4
    have HI1 : Hid (InvB ws 0 [] [] true) := InvB.start HM0.out
    have HBw : Hid (Bs2 TB TB W3 W3) := Bs2.refl _ _ _
    have HOw : Hid (OwnCd W3 W3.heap.size (.slice none 0 0) []) := OwnCd.nil _ _
    have HCw : Hid (C2 W3 TB (.slice none 0 0) (.slice none 0 0)) := HT3.out
    clear HM0
    go_wp2
    go_loopw [6, 9, 10, 11] (fun x6 x9 x10 x11 wr => ∃ (i : Nat) (acs : List Ac) (va : Value) (first : Bool), x6 = .int .i64 (i : Int) ∧ x9 = .bool first ∧ InvB ws i [] acs first ∧ OwnAc wr W3.heap.size va acs ∧ C2 wr TB (.slice none 0 0) va ∧ Bs2 TB TB W3 wr) (fun x6 _ _ _ _ => n + 5 - (intOf x6).toNat)
    case atStart => exact ⟨0, [], .slice none 0 0, true, rfl, rfl, HI1.out, OwnAc.nil _ _, HCw.out, Bs2.refl _ _ _⟩
    case round =>
      obtain ⟨i, acs, va, first, rfl, rfl, hinv, hown, hc2, hbs⟩ := hrel
      obtain ⟨aw, dw, rfl, hdw⟩ := own_len hown
      have GI : Hid (InvB ws i [] acs first) := hinv
      have GO : Hid (OwnAc wr W3.heap.size (.slice aw acs.length dw) acs) := hown
      have GC : Hid (C2 wr TB (.slice none 0 0) (.slice aw acs.length dw)) := hc2
      have GB : Hid (Bs2 TB TB W3 wr) := hbs
      have GK : Hid (i ≤ n + 4) := by unfold Hid; rw [← HN.out]; exact hinv.top
      clear hinv hown hc2 hbs hdw HI1
      by_cases hlt : i < n
      · have hlti : (i : Int) < (n : Int) := by omega
        have hi0 : (0 : Int) ≤ (i : Int) := by omega
        have hi1 : (i : Int) < 1099511627776 := by have := HN4.out; omega
        have HLt : Hid (i < n) := hlt
        clear hlt
        cases first with
        | true =>
          go_wp2_with fail
          clear hlti
          refine Calls.mono (HKB.out _ (i + 1) _ wr (by omega) (HWs.out wr (HBw.out.trans GB.out)) (by have := GK.out; have := HN4.out; omega)) ?_
          rintro e w2 ⟨⟨c, j, rfl, hcr⟩, hb⟩
          have GI2 : Hid (InvB ws j [] (acs ++ [c]) false) := GI.out.step (by rw [HN.out]; exact HLt.out) hcr
          have HJ : Hid (i < j ∧ j ≤ n + 4) := ⟨by have := hcr.1; omega, by rw [← HN.out]; exact GI2.out.top⟩
          have HLn : Hid (acs.length ≤ n + 4) := Nat.le_trans GI.out.lea GK.out
          have HO2 : Hid (OwnAc w2 W3.heap.size (.slice aw acs.length dw) acs) := GO.out.below hb
          have HC2' : Hid (C2 w2 TB (.slice none 0 0) (.slice aw acs.length dw)) := GC.out.below hb
          have HB2' : Hid (Bs2 TB TB W3 w2) := GB.out.trans (Bs2.of_below hb)
          have HA1 : Hid (∀ (X : World) A, Below X.heap.size X (X.alloc (.cells A 40))) := fun X A => (Below.refl _ _).alloc (Nat.le_refl _) _
          have HC1 : Hid (∀ X : World, AcAt (X.alloc (.cells #[.int .i64 c.k, .string c.nm, .int .u32 (c.n : Int), .string c.ad] 40)) (.slice (some ⟨X.heap.size, 0, none⟩) 1 1) [c]) := fun X => oneAc X c
          have HWz : Hid (W3.heap.size ≤ W3.heap.size) := HBw.out.size
          unfold acV
          clear hcr hb GI GO GC GB GK hi0 hi1
          obtain ⟨w3, hw3⟩ : ∃ w3, w2.alloc (.cells #[.int .i64 c.k, .string c.nm, .int .u32 (c.n : Int), .string c.ad] 40) = w3 := ⟨_, rfl⟩
          have HO3 : Hid (OwnAc w3 W3.heap.size (.slice aw acs.length dw) acs) := by unfold Hid; rw [← hw3]; exact HO2.out.below (HA1.out _ _)
          have HC3 : Hid (C2 w3 TB (.slice none 0 0) (.slice aw acs.length dw)) := by unfold Hid; rw [← hw3]; exact HC2'.out.below (HA1.out _ _)
          have HB3' : Hid (Bs2 TB TB W3 w3) := by unfold Hid; rw [← hw3]; exact HB2'.out.trans (Bs2.of_below (HA1.out _ _))
          have HY : Hid (C4 w3 w2.heap.size (.int .i64 c.k) (.string c.nm) (.int .u32 (c.n : Int)) (.string c.ad)) := by unfold Hid; rw [← hw3]; exact C4.new _ 40 _ _ _ _
          have z0 := HC3.out.c1
          have y0 := HY.out.c0
          have y1 := HY.out.c1
          have y2 := HY.out.c2
          have y3 := HY.out.c3
          clear HO2 HC2' HB2'
          go_wp2_with (at_builtin; refine wpList_append_Ac _ rfl _ _ rfl W3.heap.size _ _ acs [_] rfl rfl (HO3.out.below (HA1.out _ _)) (HC1.out w3) (by have := HLn.out; have := HN4.out; simp; omega) (by have := HB3'.out.size; have := (HA1.out w3 #[]).size; simp; omega) ?_; intro v6 w6 hown6 hb6; obtain ⟨av6, cv6, ev6, hcv6⟩ := own_len hown6; rw [List.length_append, List.length_singleton] at ev6; subst ev6; have HC6 : Hid (C2 w6 TB (.slice none 0 0) (.slice aw acs.length dw)) := (HC3.out.below (HA1.out _ _)).belowB hb6 (by have := HTB.out; have := HWz.out; omega); have HB6 : Hid (Bs2 TB TB W3 w6) := (HB3'.out.trans (Bs2.of_below (HA1.out _ _))).of_belowB hb6 (Nat.le_refl _); have HO6 : Hid (OwnAc w6 W3.heap.size (.slice av6 (acs.length + 1) cv6) (acs ++ [c])) := hown6; have x0 := HC6.out.c1; have x1 := HC6.out.f 1; clear hown6 hb6 hcv6; obtain ⟨w7, hw7⟩ : ∃ w7, w6.setCell ⟨TB, 1, none⟩ (.slice av6 (acs.length + 1) cv6) = w7 := ⟨_, rfl⟩)
          have HC7 : Hid (C2 w7 TB (.slice none 0 0) (.slice av6 (acs.length + 1) cv6)) := by unfold Hid; rw [← hw7]; exact HC6.out.set1
          have HB7 : Hid (Bs2 TB TB W3 w7) := by unfold Hid; rw [← hw7]; exact HB6.out.setp
          have HO7 : Hid (OwnAc w7 W3.heap.size (.slice av6 (acs.length + 1) cv6) (acs ++ [c])) := by unfold Hid; rw [← hw7]; exact HO6.out.set (by have := HTB.out; have := HWz.out; omega)
          refine ⟨⟨j, acs ++ [c], _, false, rfl, rfl, GI2.out, HO7.out, HC7.out, HB7.out⟩, ?_⟩
          have := HJ.out
          simp [intOf]; omega
        | false =>
          go_wp2_with fail
          refine Calls.mono (HKA.out _ i _ wr rfl (HWs.out wr (HBw.out.trans GB.out))) ?_
          rintro e Wq ⟨rfl, hq⟩
          subst Wq
          by_cases hand : ws.getD i [] = andW
          · rw [hand]
            have haw : (andW == ([97, 110, 100] : List UInt8)) = true := by decide
            clear hand
            go_wp2_with fail
            clear hlti haw
            refine Calls.mono (HKB.out _ (i + 1) _ wr (by omega) (HWs.out wr (HBw.out.trans GB.out)) (by have := GK.out; have := HN4.out; omega)) ?_
            rintro e w2 ⟨⟨c, j, rfl, hcr⟩, hb⟩
            have GI2 : Hid (InvB ws j [] (acs ++ [c]) false) := GI.out.step (by rw [HN.out]; exact HLt.out) hcr
            have HJ : Hid (i < j ∧ j ≤ n + 4) := ⟨by have := hcr.1; omega, by rw [← HN.out]; exact GI2.out.top⟩
            have HLn : Hid (acs.length ≤ n + 4) := Nat.le_trans GI.out.lea GK.out
            have HO2 : Hid (OwnAc w2 W3.heap.size (.slice aw acs.length dw) acs) := GO.out.below hb
            have HC2' : Hid (C2 w2 TB (.slice none 0 0) (.slice aw acs.length dw)) := GC.out.below hb
            have HB2' : Hid (Bs2 TB TB W3 w2) := GB.out.trans (Bs2.of_below hb)
            have HA1 : Hid (∀ (X : World) A, Below X.heap.size X (X.alloc (.cells A 40))) := fun X A => (Below.refl _ _).alloc (Nat.le_refl _) _
            have HC1 : Hid (∀ X : World, AcAt (X.alloc (.cells #[.int .i64 c.k, .string c.nm, .int .u32 (c.n : Int), .string c.ad] 40)) (.slice (some ⟨X.heap.size, 0, none⟩) 1 1) [c]) := fun X => oneAc X c
            have HWz : Hid (W3.heap.size ≤ W3.heap.size) := HBw.out.size
            unfold acV
            clear hcr hb GI GO GC GB GK hi0 hi1
            obtain ⟨w3, hw3⟩ : ∃ w3, w2.alloc (.cells #[.int .i64 c.k, .string c.nm, .int .u32 (c.n : Int), .string c.ad] 40) = w3 := ⟨_, rfl⟩
            have HO3 : Hid (OwnAc w3 W3.heap.size (.slice aw acs.length dw) acs) := by unfold Hid; rw [← hw3]; exact HO2.out.below (HA1.out _ _)
            have HC3 : Hid (C2 w3 TB (.slice none 0 0) (.slice aw acs.length dw)) := by unfold Hid; rw [← hw3]; exact HC2'.out.below (HA1.out _ _)
            have HB3' : Hid (Bs2 TB TB W3 w3) := by unfold Hid; rw [← hw3]; exact HB2'.out.trans (Bs2.of_below (HA1.out _ _))
            have HY : Hid (C4 w3 w2.heap.size (.int .i64 c.k) (.string c.nm) (.int .u32 (c.n : Int)) (.string c.ad)) := by unfold Hid; rw [← hw3]; exact C4.new _ 40 _ _ _ _
            have z0 := HC3.out.c1
            have y0 := HY.out.c0
            have y1 := HY.out.c1
            have y2 := HY.out.c2
            have y3 := HY.out.c3
            clear HO2 HC2' HB2'
            go_wp2_with (at_builtin; refine wpList_append_Ac _ rfl _ _ rfl W3.heap.size _ _ acs [_] rfl rfl (HO3.out.below (HA1.out _ _)) (HC1.out w3) (by have := HLn.out; have := HN4.out; simp; omega) (by have := HB3'.out.size; have := (HA1.out w3 #[]).size; simp; omega) ?_; intro v6 w6 hown6 hb6; obtain ⟨av6, cv6, ev6, hcv6⟩ := own_len hown6; rw [List.length_append, List.length_singleton] at ev6; subst ev6; have HC6 : Hid (C2 w6 TB (.slice none 0 0) (.slice aw acs.length dw)) := (HC3.out.below (HA1.out _ _)).belowB hb6 (by have := HTB.out; have := HWz.out; omega); have HB6 : Hid (Bs2 TB TB W3 w6) := (HB3'.out.trans (Bs2.of_below (HA1.out _ _))).of_belowB hb6 (Nat.le_refl _); have HO6 : Hid (OwnAc w6 W3.heap.size (.slice av6 (acs.length + 1) cv6) (acs ++ [c])) := hown6; have x0 := HC6.out.c1; have x1 := HC6.out.f 1; clear hown6 hb6 hcv6; obtain ⟨w7, hw7⟩ : ∃ w7, w6.setCell ⟨TB, 1, none⟩ (.slice av6 (acs.length + 1) cv6) = w7 := ⟨_, rfl⟩)
            have HC7 : Hid (C2 w7 TB (.slice none 0 0) (.slice av6 (acs.length + 1) cv6)) := by unfold Hid; rw [← hw7]; exact HC6.out.set1
            have HB7 : Hid (Bs2 TB TB W3 w7) := by unfold Hid; rw [← hw7]; exact HB6.out.setp
            have HO7 : Hid (OwnAc w7 W3.heap.size (.slice av6 (acs.length + 1) cv6) (acs ++ [c])) := by unfold Hid; rw [← hw7]; exact HO6.out.set (by have := HTB.out; have := HWz.out; omega)
            refine ⟨⟨j, acs ++ [c], _, false, rfl, rfl, GI2.out, HO7.out, HC7.out, HB7.out⟩, ?_⟩
            have := HJ.out
            simp [intOf]; omega
          · have HHn : Hid (¬ (ws.getD i [] = andW)) := hand
            obtain ⟨yw, hyw⟩ : ∃ yw, ws.getD i [] = yw := ⟨_, rfl⟩
            rw [hyw] at hand ⊢
            have ha3 : ¬ yw = [97, 110, 100] := hand
            have ha4 : (yw == ([97, 110, 100] : List UInt8)) = false := beq_eq_false_iff_ne.2 hand
            clear hand hyw
            have GD : Hid (∀ T', Fits ws T' → (⟨[], acs⟩ : Tm) = T') := GI.out.done (by rintro ⟨_, h | h⟩; exact absurd h (by simp); exact HHn.out h)
            have GSa : Hid (SzA acs) := GI.out.sa
            have HOc : Hid (OwnCd wr W3.heap.size (.slice none 0 0) []) := HOw.out.bs2 GB.out (by have := HTB.out; omega) (by have := HTB.out; omega)
            have HBz : Hid (Below w.heap.size w wr) := HB3.out.trans ((HBw.out.trans GB.out).below (by have := HTB.out; omega) (by have := HTB.out; omega) (by have := HTB.out; omega))
            have HDz : Hid (C2 wr w.heap.size (.slice none 0 0) (.slice none 0 0)) := HD3.out.bs2 (HBw.out.trans GB.out) (by have := HTB.out; omega) (by have := HTB.out; omega)
            have HWz : Hid (W3.heap.size ≤ W3.heap.size) := HBw.out.size
            have HTx : Hid (Calls _ _ _ _ _) := HKT.out (.agg #[.slice none 0 0, .slice aw acs.length dw]) ⟨[], acs⟩ wr HBz.out ⟨_, _, rfl, HOc.out.at, GO.out.at⟩ ⟨fun c hc => by have := GI.out.sz c hc; unfold maxLen; omega, fun a ha => by have := GI.out.sa a ha; unfold maxLen; omega, by have := GI.out.len; have := HN4.out; have := HN.out; show [].length ≤ _; omega, by have := GI.out.lea; have := GI.out.top; have := HN4.out; have := HN.out; show acs.length ≤ _; omega⟩ (fun a ha => (GI.out.sa a ha).2.2)
            obtain ⟨o1, o2⟩ := HKO.out ⟨[], acs⟩ GSa.out GD.out
            have HO1 : Hid (_ → _) := o1
            have HO2 : Hid (_ → _) := o2
            have z0 := GC.out.c0
            have z1 := GC.out.c1
            clear o1 o2 GD GSa GI HKT HKO HKC HKB HKA HWs HOw HBw HCw
            go_wp2_with fail
            clear z0 z1
            refine Calls.mono HTx.out ?_
            rintro e w5 ⟨rfl, hb5⟩
            have GC5 : Hid (C2 w5 TB (.slice none 0 0) (.slice aw acs.length dw)) := GC.out.below hb5
            have HD5 : Hid (C2 w5 w.heap.size (.slice none 0 0) (.slice none 0 0)) := HDz.out.below hb5
            have HOc5 : Hid (OwnCd w5 W3.heap.size (.slice none 0 0) []) := HOc.out.below hb5
            have GO5 : Hid (OwnAc w5 W3.heap.size (.slice aw acs.length dw) acs) := GO.out.below hb5
            have HB5 : Hid (Below w.heap.size w w5) := HBz.out.trans (hb5.mono HBz.out.size)
            have y0 := GC5.out.c0
            have y1 := GC5.out.c1
            have x0 := HD5.out.c0
            have x1 := HD5.out.c1
            have f0 := HD5.out.f 0
            have f1 := HD5.out.f 1
            clear hb5 GC GC5 HDz HOc GO HBz HTx
            by_cases hgood : okT ⟨[], acs⟩ = true ∧ tT ⟨[], acs⟩ = s.data.toList
            · have ho := HO1.out hgood
              have q1 : ttE ⟨[], acs⟩ = 0 := by unfold ttE; rw [hgood.1]; rfl
              have q2 : (⟨(ttS ⟨[], acs⟩).toArray⟩ : ByteArray) = s := by unfold ttS; rw [hgood.1]; show (⟨(tT _).toArray⟩ : ByteArray) = s; rw [hgood.2]
              rw [q1, q2]
              clear q1 q2 hgood HO1 HO2
              have HF : Hid (C2 ((w5.setCell ⟨w.heap.size, 0, none⟩ (.slice none 0 0)).setCell ⟨w.heap.size, 1, none⟩ (.slice aw acs.length dw)) w.heap.size (.slice none 0 0) (.slice aw acs.length dw)) := HD5.out.set0.set1
              have HR : Hid (RtR o w ((w5.setCell ⟨w.heap.size, 0, none⟩ (.slice none 0 0)).setCell ⟨w.heap.size, 1, none⟩ (.slice aw acs.length dw)) (.returned (.tuple #[.agg #[.slice none 0 0, .slice aw acs.length dw], .bool true]))) := by
                unfold Hid
                rw [ho]
                exact RtR.some ⟨⟨_, _, rfl, owns_mono ((HOc5.out.set (by have := HTB.out; omega)).set (by have := HTB.out; omega)) (by have := HTB.out; omega), owns_mono ((GO5.out.set (by have := HTB.out; have := HWz.out; omega)).set (by have := HTB.out; have := HWz.out; omega)) (by have := HTB.out; have := HWz.out; omega)⟩, bset (bset HB5.out (Nat.le_refl _)) (Nat.le_refl _)⟩
              clear ho
              go_wp2
              generalize ((w5.setCell ⟨w.heap.size, 0, none⟩ (.slice none 0 0)).setCell ⟨w.heap.size, 1, none⟩ (.slice aw acs.length dw)) = WF at *
              have e0 := HF.out.c0
              have e1 := HF.out.c1
              refine bodyPost_ret (v := .tuple #[.agg #[.slice none 0 0, .slice aw acs.length dw], .bool true]) (by simp [results, Tryz.results24, go_sem, e0, e1]) rfl ?_
              exact HR.out
            · have hon := HO2.out hgood
              by_cases hok : okT ⟨[], acs⟩ = true
              · have q1 : ttE ⟨[], acs⟩ = 0 := by unfold ttE; rw [hok]; rfl
                obtain ⟨tx, htx⟩ : ∃ tx, (⟨(ttS ⟨[], acs⟩).toArray⟩ : ByteArray) = tx := ⟨_, rfl⟩
                have hne : (tx.toList == s.toList) = false := ne_list fun e => hgood ⟨hok, by
                  rw [← e, ← htx]
                  unfold ttS
                  rw [hok]
                  simp⟩
                rw [q1, htx]
                clear q1 htx hgood hok HO1 HO2
                have HF : Hid (C2 ((w5.setCell ⟨w.heap.size, 0, none⟩ (.slice none 0 0)).setCell ⟨w.heap.size, 1, none⟩ (.slice none 0 0)) w.heap.size (.slice none 0 0) (.slice none 0 0)) := HD5.out.set0.set1
                have HR : Hid (RtR o w ((w5.setCell ⟨w.heap.size, 0, none⟩ (.slice none 0 0)).setCell ⟨w.heap.size, 1, none⟩ (.slice none 0 0)) (.returned (.tuple #[.agg #[.slice none 0 0, .slice none 0 0], .bool false]))) := by
                  unfold Hid
                  rw [hon]
                  exact RtR.none ⟨rfl, bset (bset HB5.out (Nat.le_refl _)) (Nat.le_refl _)⟩
                clear hon
                go_wp2
                generalize ((w5.setCell ⟨w.heap.size, 0, none⟩ (.slice none 0 0)).setCell ⟨w.heap.size, 1, none⟩ (.slice none 0 0)) = WF at *
                have e0 := HF.out.c0
                have e1 := HF.out.c1
                refine bodyPost_ret (v := .tuple #[.agg #[.slice none 0 0, .slice none 0 0], .bool false]) (by simp [results, Tryz.results24, go_sem, e0, e1]) rfl ?_
                exact HR.out
              · have q1 : ttE ⟨[], acs⟩ = 2 := by unfold ttE; rw [if_neg hok]
                rw [q1]
                clear q1 hgood hok HO1 HO2
                generalize (⟨(ttS ⟨[], acs⟩).toArray⟩ : ByteArray) = tx
                have HF : Hid (C2 ((w5.setCell ⟨w.heap.size, 0, none⟩ (.slice none 0 0)).setCell ⟨w.heap.size, 1, none⟩ (.slice none 0 0)) w.heap.size (.slice none 0 0) (.slice none 0 0)) := HD5.out.set0.set1
                have HR : Hid (RtR o w ((w5.setCell ⟨w.heap.size, 0, none⟩ (.slice none 0 0)).setCell ⟨w.heap.size, 1, none⟩ (.slice none 0 0)) (.returned (.tuple #[.agg #[.slice none 0 0, .slice none 0 0], .bool false]))) := by
                  unfold Hid
                  rw [hon]
                  exact RtR.none ⟨rfl, bset (bset HB5.out (Nat.le_refl _)) (Nat.le_refl _)⟩
                clear hon
                go_wp2
                generalize ((w5.setCell ⟨w.heap.size, 0, none⟩ (.slice none 0 0)).setCell ⟨w.heap.size, 1, none⟩ (.slice none 0 0)) = WF at *
                have e0 := HF.out.c0
                have e1 := HF.out.c1
                refine bodyPost_ret (v := .tuple #[.agg #[.slice none 0 0, .slice none 0 0], .bool false]) (by simp [results, Tryz.results24, go_sem, e0, e1]) rfl ?_
                exact HR.out
      · have hlti : ¬ (i : Int) < (n : Int) := by omega
        have HLt : Hid (¬ i < n) := hlt
        clear hlt
        have GD : Hid (∀ T', Fits ws T' → (⟨[], acs⟩ : Tm) = T') := GI.out.done (by rintro ⟨h, _⟩; rw [HN.out] at h; exact HLt.out h)
        have GSa : Hid (SzA acs) := GI.out.sa
        have HOc : Hid (OwnCd wr W3.heap.size (.slice none 0 0) []) := HOw.out.bs2 GB.out (by have := HTB.out; omega) (by have := HTB.out; omega)
        have HBz : Hid (Below w.heap.size w wr) := HB3.out.trans ((HBw.out.trans GB.out).below (by have := HTB.out; omega) (by have := HTB.out; omega) (by have := HTB.out; omega))
        have HDz : Hid (C2 wr w.heap.size (.slice none 0 0) (.slice none 0 0)) := HD3.out.bs2 (HBw.out.trans GB.out) (by have := HTB.out; omega) (by have := HTB.out; omega)
        have HWz : Hid (W3.heap.size ≤ W3.heap.size) := HBw.out.size
        have HTx : Hid (Calls _ _ _ _ _) := HKT.out (.agg #[.slice none 0 0, .slice aw acs.length dw]) ⟨[], acs⟩ wr HBz.out ⟨_, _, rfl, HOc.out.at, GO.out.at⟩ ⟨fun c hc => by have := GI.out.sz c hc; unfold maxLen; omega, fun a ha => by have := GI.out.sa a ha; unfold maxLen; omega, by have := GI.out.len; have := HN4.out; have := HN.out; show [].length ≤ _; omega, by have := GI.out.lea; have := GI.out.top; have := HN4.out; have := HN.out; show acs.length ≤ _; omega⟩ (fun a ha => (GI.out.sa a ha).2.2)
        obtain ⟨o1, o2⟩ := HKO.out ⟨[], acs⟩ GSa.out GD.out
        have HO1 : Hid (_ → _) := o1
        have HO2 : Hid (_ → _) := o2
        have z0 := GC.out.c0
        have z1 := GC.out.c1
        clear o1 o2 GD GSa GI HKT HKO HKC HKB HKA HWs HOw HBw HCw
        go_wp2_with fail
        clear z0 z1
        refine Calls.mono HTx.out ?_
        rintro e w5 ⟨rfl, hb5⟩
        have GC5 : Hid (C2 w5 TB (.slice none 0 0) (.slice aw acs.length dw)) := GC.out.below hb5
        have HD5 : Hid (C2 w5 w.heap.size (.slice none 0 0) (.slice none 0 0)) := HDz.out.below hb5
        have HOc5 : Hid (OwnCd w5 W3.heap.size (.slice none 0 0) []) := HOc.out.below hb5
        have GO5 : Hid (OwnAc w5 W3.heap.size (.slice aw acs.length dw) acs) := GO.out.below hb5
        have HB5 : Hid (Below w.heap.size w w5) := HBz.out.trans (hb5.mono HBz.out.size)
        have y0 := GC5.out.c0
        have y1 := GC5.out.c1
        have x0 := HD5.out.c0
        have x1 := HD5.out.c1
        have f0 := HD5.out.f 0
        have f1 := HD5.out.f 1
        clear hb5 GC GC5 HDz HOc GO HBz HTx
        by_cases hgood : okT ⟨[], acs⟩ = true ∧ tT ⟨[], acs⟩ = s.data.toList
        · have ho := HO1.out hgood
          have q1 : ttE ⟨[], acs⟩ = 0 := by unfold ttE; rw [hgood.1]; rfl
          have q2 : (⟨(ttS ⟨[], acs⟩).toArray⟩ : ByteArray) = s := by unfold ttS; rw [hgood.1]; show (⟨(tT _).toArray⟩ : ByteArray) = s; rw [hgood.2]
          rw [q1, q2]
          clear q1 q2 hgood HO1 HO2
          have HF : Hid (C2 ((w5.setCell ⟨w.heap.size, 0, none⟩ (.slice none 0 0)).setCell ⟨w.heap.size, 1, none⟩ (.slice aw acs.length dw)) w.heap.size (.slice none 0 0) (.slice aw acs.length dw)) := HD5.out.set0.set1
          have HR : Hid (RtR o w ((w5.setCell ⟨w.heap.size, 0, none⟩ (.slice none 0 0)).setCell ⟨w.heap.size, 1, none⟩ (.slice aw acs.length dw)) (.returned (.tuple #[.agg #[.slice none 0 0, .slice aw acs.length dw], .bool true]))) := by
            unfold Hid
            rw [ho]
            exact RtR.some ⟨⟨_, _, rfl, owns_mono ((HOc5.out.set (by have := HTB.out; omega)).set (by have := HTB.out; omega)) (by have := HTB.out; omega), owns_mono ((GO5.out.set (by have := HTB.out; have := HWz.out; omega)).set (by have := HTB.out; have := HWz.out; omega)) (by have := HTB.out; have := HWz.out; omega)⟩, bset (bset HB5.out (Nat.le_refl _)) (Nat.le_refl _)⟩
          clear ho
          go_wp2
          generalize ((w5.setCell ⟨w.heap.size, 0, none⟩ (.slice none 0 0)).setCell ⟨w.heap.size, 1, none⟩ (.slice aw acs.length dw)) = WF at *
          have e0 := HF.out.c0
          have e1 := HF.out.c1
          refine bodyPost_ret (v := .tuple #[.agg #[.slice none 0 0, .slice aw acs.length dw], .bool true]) (by simp [results, Tryz.results24, go_sem, e0, e1]) rfl ?_
          exact HR.out
        · have hon := HO2.out hgood
          by_cases hok : okT ⟨[], acs⟩ = true
          · have q1 : ttE ⟨[], acs⟩ = 0 := by unfold ttE; rw [hok]; rfl
            obtain ⟨tx, htx⟩ : ∃ tx, (⟨(ttS ⟨[], acs⟩).toArray⟩ : ByteArray) = tx := ⟨_, rfl⟩
            have hne : (tx.toList == s.toList) = false := ne_list fun e => hgood ⟨hok, by
              rw [← e, ← htx]
              unfold ttS
              rw [hok]
              simp⟩
            rw [q1, htx]
            clear q1 htx hgood hok HO1 HO2
            have HF : Hid (C2 ((w5.setCell ⟨w.heap.size, 0, none⟩ (.slice none 0 0)).setCell ⟨w.heap.size, 1, none⟩ (.slice none 0 0)) w.heap.size (.slice none 0 0) (.slice none 0 0)) := HD5.out.set0.set1
            have HR : Hid (RtR o w ((w5.setCell ⟨w.heap.size, 0, none⟩ (.slice none 0 0)).setCell ⟨w.heap.size, 1, none⟩ (.slice none 0 0)) (.returned (.tuple #[.agg #[.slice none 0 0, .slice none 0 0], .bool false]))) := by
              unfold Hid
              rw [hon]
              exact RtR.none ⟨rfl, bset (bset HB5.out (Nat.le_refl _)) (Nat.le_refl _)⟩
            clear hon
            go_wp2
            generalize ((w5.setCell ⟨w.heap.size, 0, none⟩ (.slice none 0 0)).setCell ⟨w.heap.size, 1, none⟩ (.slice none 0 0)) = WF at *
            have e0 := HF.out.c0
            have e1 := HF.out.c1
            refine bodyPost_ret (v := .tuple #[.agg #[.slice none 0 0, .slice none 0 0], .bool false]) (by simp [results, Tryz.results24, go_sem, e0, e1]) rfl ?_
            exact HR.out
          · have q1 : ttE ⟨[], acs⟩ = 2 := by unfold ttE; rw [if_neg hok]
            rw [q1]
            clear q1 hgood hok HO1 HO2
            generalize (⟨(ttS ⟨[], acs⟩).toArray⟩ : ByteArray) = tx
            have HF : Hid (C2 ((w5.setCell ⟨w.heap.size, 0, none⟩ (.slice none 0 0)).setCell ⟨w.heap.size, 1, none⟩ (.slice none 0 0)) w.heap.size (.slice none 0 0) (.slice none 0 0)) := HD5.out.set0.set1
            have HR : Hid (RtR o w ((w5.setCell ⟨w.heap.size, 0, none⟩ (.slice none 0 0)).setCell ⟨w.heap.size, 1, none⟩ (.slice none 0 0)) (.returned (.tuple #[.agg #[.slice none 0 0, .slice none 0 0], .bool false]))) := by
              unfold Hid
              rw [hon]
              exact RtR.none ⟨rfl, bset (bset HB5.out (Nat.le_refl _)) (Nat.le_refl _)⟩
            clear hon
            go_wp2
            generalize ((w5.setCell ⟨w.heap.size, 0, none⟩ (.slice none 0 0)).setCell ⟨w.heap.size, 1, none⟩ (.slice none 0 0)) = WF at *
            have e0 := HF.out.c0
            have e1 := HF.out.c1
            refine bodyPost_ret (v := .tuple #[.agg #[.slice none 0 0, .slice none 0 0], .bool false]) (by simp [results, Tryz.results24, go_sem, e0, e1]) rfl ?_
            exact HR.out
end Go.Proofs.YthaebbmekonacaaGreatDoor

set_option linter.unusedVariables false
set_option linter.unusedSimpArgs false
set_option maxRecDepth 100000
namespace Go.Proofs.YthaebbmekonacaaGreatDoor
open Go.RowKit
theorem flat_txt : ∀ (A : List (List UInt8)) (z : List UInt8), 32 :: (Ad.flat 32 A ++ z) = txt (A ++ [z])
  | [], z => by show 32 :: z = txt [z]; rw [txt_cons]; simp [txt]
  | x :: A, z => by
    rw [Ad.flat_cons, List.cons_append, txt_cons, ← flat_txt A z]
    simp
theorem spl_len : ∀ (s : List UInt8), (spl s).length ≤ s.length + 1
  | [] => by simp [spl]
  | c :: l => by
    have := spl_len l
    unfold spl
    split
    · simp; omega
    · split
      · simp
      · next y r hy => rw [hy] at this; simp at this ⊢; omega
theorem rterm_any (cm : List UInt8 → Option Nat) (ad : List UInt8 → Option ByteArray) (K : Knows cm ad) (s : ByteArray) (hs : s.size ≤ 4294967296) (w : World) (he : EnvX w) : Calls Tryz.prog 24 #[.string s] w fun e w' => RtR (rdT cm ad (spl s.data.toList)) w w' e := by
  have hl : s.data.toList.length ≤ 4294967296 := by have : s.data.toList.length = s.size := by simp
                                                    omega
  have hsm : ∀ x ∈ spl s.data.toList, x.length ≤ 4294967296 := fun x hx => Nat.le_trans (spl_small _ x hx) hl
  refine rterm_walk s (spl s.data.toList) _ w (by have := spl_len s.data.toList; omega) ?_ ?_ ?_ ?_ ?_ ?_
  · intro X
    refine (Ad.split_any s 32 X hs).mono ?_
    rintro e w' ⟨⟨v, A, z, rfl, h1, h2, ho⟩, hb⟩
    obtain ⟨a, c, rfl⟩ := Ad.slice_of_owns ho
    obtain ⟨g, rfl, hg, hc⟩ := Ad.row_at ho rfl (by simp)
    have e : spl s.data.toList = A ++ [z] := by
      obtain ⟨x, r, hxr⟩ : ∃ x r, A ++ [z] = x :: r := by
        cases A with
        | nil => exact ⟨z, [], rfl⟩
        | cons a A => exact ⟨a, A ++ [z], rfl⟩
      rw [hxr] at h2 ⊢
      refine spl_of _ x r ?_ (h2 x (by simp)) fun y hy => h2 y (by simp [hy])
      rw [h1, flat_txt, hxr]
    rw [e]
    exact ⟨⟨_, rfl, g, c, rfl, hc⟩, hb⟩
  · intro v i z X hz h
    subst hz
    exact rat_any v _ i X h
  · intro v i z X hz h hi
    subst hz
    exact rcond_read v _ i X h hi fun x hx => Nat.le_trans (hsm x hx) (by omega)
  · intro v i z X hz h hi
    subst hz
    exact raction_read v _ i X h hi hsm
  · intro v T X hX hv hT hn
    exact rtermText_any v T X (he.below hX) hv hT hn
  · intro T hT hF
    exact ref_reads K hF (fun a ha => (hT a ha).2.2) (fun x hx => by have := hsm x hx; omega)
end Go.Proofs.YthaebbmekonacaaGreatDoor
