/-
  Bytes of opens: the capabilities.
-/
import Derived.Test.YtlhnfejgkhilkaaGreatDoorP2
set_option linter.unusedVariables false
set_option linter.unusedSimpArgs false
namespace Go.Proofs.YtlhnfejgkhilkaaGreatDoor
open Go.RowKit
theorem ret_str {a b : List UInt8} (h : a = b) : Ending.returned (.string ⟨a.toArray⟩) = .returned (.string ⟨b.toArray⟩) := by rw [h]
/-- A family's capability. -/
def fcP (f : Int) : List UInt8 := pcL 1 (laid (afN f) 2 ++ laid (sfN f) 2)
theorem fcP_length (f : Int) : (fcP f).length = 6 := by unfold fcP; rw [pcL_length]; simp [laid_length]
def fcL (L : List Int) : List UInt8 := L.flatMap fcP
theorem fcL_length (L : List Int) : (fcL L).length = 6 * L.length := by
  induction L with
  | nil => rfl
  | cons k L ih => simp [fcL] at ih ⊢; rw [fcP_length]; omega
def c2L (o : Opn) : List UInt8 := if o.refr = true then pcL 2 [] else []
def c64L (o : Opn) : List UInt8 := if o.gr = true then pcL 64 (restL o.time.toNat o.again o.kept) else []
def c65L (o : Opn) : List UInt8 := if o.four = true then pcL 65 (laid o.asn.toNat 4) else []
def c69L (o : Opn) : List UInt8 := if 0 < o.adds.length then pcL 69 (adL o.adds) else []
/-- The capabilities of an open. -/
def capsL (o : Opn) : List UInt8 := fcL o.fams ++ c2L o ++ c64L o ++ c65L o ++ c69L o
theorem restL_length (t : Nat) (a : Bool) (L : List Kp) : (restL t a L).length = 2 + 4 * L.length := by unfold restL; rw [List.length_append, laid_length, kpL_length]
theorem c2L_length (o : Opn) : (c2L o).length ≤ 2 := by unfold c2L; split <;> simp [pcL_length]
theorem c64L_length (o : Opn) (h : o.kept.length ≤ 5) : (c64L o).length ≤ 24 := by unfold c64L; split <;> simp [pcL_length, restL_length]; omega
theorem c65L_length (o : Opn) : (c65L o).length ≤ 6 := by unfold c65L; split <;> simp [pcL_length, laid_length]
theorem c69L_length (o : Opn) (h : o.adds.length ≤ 5) : (c69L o).length ≤ 22 := by unfold c69L; split <;> simp [pcL_length, adL_length]; omega
set_option maxRecDepth 100000 in
set_option maxHeartbeats 6400000 in
theorem capsOf_any (o : Opn) (vf va vk : Value) (w : World) (hg : FamSizes w) (h : ListsAt w o vf va vk) (a : Nat) (ha : o.asn = (a : Int)) (ha2 : a < 4294967296) (t : Nat) (ht : o.time = (t : Int)) (ht2 : t ≤ 4095) (l1 : o.fams.length ≤ 5) (l2 : o.adds.length ≤ 5) (l3 : o.kept.length ≤ 5) :
    Calls Tryz.prog 41 #[opV o vf va vk] w fun e w' => e = .returned (.string ⟨(capsL o).toArray⟩) ∧ Below w.heap.size w w' := by
  have K53 : Hid (∀ X, Below w.heap.size w X → Calls Tryz.prog 51 #[opV o vf va vk] X fun e w' => e = .returned (.string ⟨(restL t o.again o.kept).toArray⟩) ∧ Below X.heap.size X w') := fun X hX => restartOf_any o vf va vk X (hg.below hX) (h.k.below hX) t ht ht2 l3
  have K54 : Hid (∀ X, Below w.heap.size w X → Calls Tryz.prog 52 #[opV o vf va vk] X fun e w' => e = .returned (.string ⟨(adL o.adds).toArray⟩) ∧ Below X.heap.size X w') := fun X hX => addsOf_any o vf va vk X (hg.below hX) (h.a.below hX) l2
  have KP : Hid (∀ (c : Nat) (l : List UInt8) (X : World), c < 256 → l.length < 256 → Calls Tryz.prog 40 #[.int .u8 (c : Int), .string ⟨l.toArray⟩] X fun e w' => e = .returned (.string ⟨(pcL c l).toArray⟩) ∧ Below X.heap.size X w') := fun c l X h1 h2 => piece_any c l X h1 h2
  have P2 : Hid (∀ X, Calls Tryz.prog 40 #[.int .u8 2, .string ⟨#[]⟩] X fun e w' => e = .returned (.string ⟨(pcL 2 []).toArray⟩) ∧ Below X.heap.size X w') := fun X => piece_any 2 [] X (by omega) (by simp)
  have P64 : Hid (∀ X, Calls Tryz.prog 40 #[.int .u8 64, .string ⟨(restL t o.again o.kept).toArray⟩] X fun e w' => e = .returned (.string ⟨(pcL 64 (restL t o.again o.kept)).toArray⟩) ∧ Below X.heap.size X w') := fun X => piece_any 64 _ X (by omega) (by rw [restL_length]; omega)
  have P65 : Hid (∀ X, Calls Tryz.prog 40 #[.int .u8 65, .string ⟨(laid a 4).toArray⟩] X fun e w' => e = .returned (.string ⟨(pcL 65 (laid a 4)).toArray⟩) ∧ Below X.heap.size X w') := fun X => piece_any 65 _ X (by omega) (by rw [laid_length]; omega)
  have U65 : Hid (∀ X, Calls Tryz.prog 38 #[.string ⟨#[]⟩, .int .u64 (a : Int), .int .i64 4] X fun e w' => e = .returned (.string ⟨(laid a 4).toArray⟩) ∧ Below X.heap.size X w') := fun X => put_l [] a 4 X (by omega) (by omega) (by omega) (by simp)
  have P69 : Hid (∀ X, Calls Tryz.prog 40 #[.int .u8 69, .string ⟨(adL o.adds).toArray⟩] X fun e w' => e = .returned (.string ⟨(pcL 69 (adL o.adds)).toArray⟩) ∧ Below X.heap.size X w') := fun X => piece_any 69 _ X (by omega) (by rw [adL_length]; omega)
  have D2 : Hid (o.refr = true → c2L o = pcL 2 []) := fun h => if_pos h
  have D2' : Hid (o.refr = false → c2L o = []) := fun h => if_neg (by rw [h]; decide)
  have D64 : Hid (o.gr = true → c64L o = pcL 64 (restL t o.again o.kept)) := fun h => (if_pos h).trans (by rw [ht]; rfl)
  have D64' : Hid (o.gr = false → c64L o = []) := fun h => if_neg (by rw [h]; decide)
  have D65 : Hid (o.four = true → c65L o = pcL 65 (laid a 4)) := fun h => (if_pos h).trans (by rw [ha]; rfl)
  have D65' : Hid (o.four = false → c65L o = []) := fun h => if_neg (by rw [h]; decide)
  have D69 : Hid (0 < o.adds.length → c69L o = pcL 69 (adL o.adds)) := fun h => if_pos h
  have D69' : Hid (o.adds.length = 0 → c69L o = []) := fun h => if_neg (by omega)
  have B2 : Hid (_ ≤ _) := c2L_length o
  have B64 : Hid (_ ≤ _) := c64L_length o l3
  have B65 : Hid (_ ≤ _) := c65L_length o
  have B69 : Hid (_ ≤ _) := c69L_length o l2
  have HC : Hid (capsL o = fcL o.fams ++ c2L o ++ c64L o ++ c65L o ++ c69L o) := rfl
  obtain ⟨fad, fb, foff, fcap, rfl, fhad, fhcap, fhrow⟩ := h.f
  obtain ⟨aad, acap, rfl⟩ : ∃ ad cap, va = .slice ad o.adds.length cap := by
    obtain ⟨ad, b, off, cap, h1, h2, h3, h4⟩ := h.a
    exact ⟨ad, cap, h1⟩
  have HR : Hid (_ : Prop) := fhrow
  have HG : Hid (FamSizes w) := hg
  clear hg h fhrow
  generalize capsL o = RES at *
  generalize c2L o = C2 at *
  generalize c64L o = C64 at *
  generalize c65L o = C65 at *
  generalize c69L o = C69 at *
  obtain ⟨asn, hold, id, fams, four, refr, adds, gr, again, time, kept⟩ := o
  dsimp only at *
  subst ha ht
  unfold opV opC at K53 K54
  unfold opV opC
  dsimp only at K53 K54 ⊢
  generalize restL t again kept = RL at *
  generalize adL adds = AL at *
  generalize pcL 2 [] = Q2 at *
  generalize pcL 64 RL = Q64 at *
  generalize pcL 65 (laid a 4) = Q65 at *
  generalize laid a 4 = LA at *
  generalize pcL 69 AL = Q69 at *
  have hba : Below w.heap.size w (w.alloc (.cells #[.int .u32 (a : Int), .int .i64 hold, .int .u32 id, .slice fad fams.length fcap, .bool four, .bool refr, .slice aad adds.length acap, .bool gr, .bool again, .int .i64 (t : Int), vk] 27)) := (Below.refl _ _).alloc (Nat.le_refl _) _
  have HBA : Hid (Below _ _ _) := hba
  have HRW : Hid ((w.alloc (.cells #[.int .u32 (a : Int), .int .i64 hold, .int .u32 id, .slice fad fams.length fcap, .bool four, .bool refr, .slice aad adds.length acap, .bool gr, .bool again, .int .i64 (t : Int), vk] 27)).heap[w.heap.size]? = some (.cells #[.int .u32 (a : Int), .int .i64 hold, .int .u32 id, .slice fad fams.length fcap, .bool four, .bool refr, .slice aad adds.length acap, .bool gr, .bool again, .int .i64 (t : Int), vk] 27 (0, 0))) := hp_new rfl
  clear hba
  go_enter Tryz.func41, Tryz.ntmps41
  go_wp2
  generalize w.alloc (.cells #[.int .u32 (a : Int), .int .i64 hold, .int .u32 id, .slice fad fams.length fcap, .bool four, .bool refr, .slice aad adds.length acap, .bool gr, .bool again, .int .i64 (t : Int), vk] 27) = W0 at *
  have HZ0 : Hid (w.heap.size < W0.heap.size) := lt_of_heap HRW.out
  go_loopw [3, 12] (fun s i wr => ∃ k : Nat, k ≤ fams.length ∧ i = .int .i64 k ∧ s = .string ⟨(fcL (fams.take k)).toArray⟩ ∧ Below W0.heap.size W0 wr) (fun _ i _ => fams.length - (intOf i).toNat)
  case atStart => exact ⟨0, Nat.zero_le _, rfl, by simp [fcL], Below.refl _ _⟩
  case round =>
    obtain ⟨k, hk, rfl, rfl, hb⟩ := hrel
    have HB0 : Hid (Below W0.heap.size W0 wr) := hb
    have HB : Hid (Below w.heap.size w wr) := HBA.out.trans (hb.mono HBA.out.size)
    clear hb
    by_cases hlt : k < fams.length
    · obtain rfl : fad = some ⟨fb, foff, none⟩ := by
        rcases fhad with h | h
        · exact h
        · omega
      have c0 := (HB.out.cell (p := ⟨fb, foff + k, none⟩) (lt_of_cell (HR.out k hlt))).trans (HR.out k hlt)
      have HT : Hid (fcL (fams.take (k + 1)) = fcL (fams.take k) ++ fcP fams[k]) := by
        unfold Hid fcL
        rw [List.take_succ_eq_append_getElem hlt, List.flatMap_append, List.flatMap_singleton]
      have HTL : Hid ((fcL (fams.take k)).length ≤ 1000) := by unfold Hid; rw [fcL_length]; simp; omega
      have hadd : ∀ X : World, (Op.stringOp .add ⟨(fcL (fams.take k)).toArray⟩ ⟨(fcP fams[k]).toArray⟩).run Tryz.prog X = .ok (.string ⟨(fcL (fams.take (k + 1))).toArray⟩) X := fun X => by
        rw [HT.out]
        exact add_l _ _ (by have := HTL.out; omega) (by rw [fcP_length]; omega) X
      obtain ⟨S1, hS1⟩ : ∃ S1, S1 = fcL (fams.take (k + 1)) := ⟨_, rfl⟩
      have HS1 : Hid (S1 = fcL (fams.take (k + 1))) := hS1
      rw [← hS1] at hadd
      clear hS1 HT HTL
      generalize fcL (fams.take k) = S0 at *
      generalize fams[k] = f at *
      have K0 : Hid (_ : Prop) := afi_any f wr (HG.out.below HB.out)
      have K1 : Hid (∀ X, Calls Tryz.prog 38 #[.string ⟨#[]⟩, .int .u64 (afN f : Int), .int .i64 2] X fun e w' => e = .returned (.string ⟨(laid (afN f) 2).toArray⟩) ∧ Below X.heap.size X w') := fun X => put_l [] (afN f) 2 X (by omega) (by omega) (by have := afN_bd f; omega) (by simp)
      have K2 : Hid (∀ X, Calls Tryz.prog 38 #[.string ⟨(laid (afN f) 2).toArray⟩, .int .u64 (sfN f : Int), .int .i64 2] X fun e w' => e = .returned (.string ⟨(laid (afN f) 2 ++ laid (sfN f) 2).toArray⟩) ∧ Below X.heap.size X w') := fun X => put_l _ (sfN f) 2 X (by omega) (by omega) (by have := sfN_bd f; omega) (by rw [laid_length]; omega)
      have K3 : Hid (∀ X, Calls Tryz.prog 40 #[.int .u8 1, .string ⟨(laid (afN f) 2 ++ laid (sfN f) 2).toArray⟩] X fun e w' => e = .returned (.string ⟨(fcP f).toArray⟩) ∧ Below X.heap.size X w') := fun X => piece_any 1 _ X (by omega) (by simp [laid_length])
      have ha := afN_bd f
      have hs := sfN_bd f
      generalize fcP f = FC at *
      generalize laid (afN f) 2 ++ laid (sfN f) 2 = B at *
      generalize laid (afN f) 2 = A at *
      generalize afN f = af at *
      generalize sfN f = sf at *
      generalize isF f = z at *
      go_wp2_with fail
      refine Calls.mono K0.out ?_
      rintro e w0 ⟨rfl, hb0⟩
      go_wp2_with fail
      refine Calls.mono (K1.out _) ?_
      rintro e w1 ⟨rfl, hb1⟩
      go_wp2_with fail
      refine Calls.mono (K2.out _) ?_
      rintro e w2 ⟨rfl, hb2⟩
      go_wp2_with fail
      refine Calls.mono (K3.out _) ?_
      rintro e w3 ⟨rfl, hb3⟩
      have h0 := HB0.out.trans (hb0.mono HB0.out.size)
      have h1 := h0.trans (hb1.mono h0.size)
      have h2 := h1.trans (hb2.mono h1.size)
      have H3 : Hid (Below W0.heap.size W0 w3) := h2.trans (hb3.mono h2.size)
      clear h0 h1 h2 hb0 hb1 hb2 hb3
      go_wp2
      go_roundw
      case rel => exact ⟨k + 1, by omega, by go_num, by rw [HS1.out], H3.out⟩
      case measure => simp [intOf]; omega
    · obtain rfl : k = fams.length := by omega
      rw [List.take_of_length_le (Nat.le_refl _)]
      have HRX : Hid (wr.heap[w.heap.size]? = _) := (HB0.out.block _ HZ0.out).trans HRW.out
      have HLS0 : Hid ((fcL fams).length ≤ 1000) := by unfold Hid; rw [fcL_length]; omega
      obtain ⟨S0, hS0⟩ : ∃ S0, S0 = fcL fams := ⟨_, rfl⟩
      rw [← hS0] at HC HLS0 ⊢
      clear hS0 HRW HZ0 HB0 HR HBA HG
      cases refr with
      | true =>
        have hC : C2 = Q2 := D2.out rfl
        have hadd : ∀ X : World, (Op.stringOp .add ⟨S0.toArray⟩ ⟨Q2.toArray⟩).run Tryz.prog X = .ok (.string ⟨(S0 ++ C2).toArray⟩) X := fun X => by rw [← hC]; exact add_l _ _ (by have := HLS0.out; omega) (by have := B2.out; omega) X
        have HLS1 : Hid ((S0 ++ C2).length ≤ 1100) := by unfold Hid; rw [List.length_append]; have := HLS0.out; have := B2.out; omega
        clear hC
        generalize S0 ++ C2 = S1 at *
        have c5 := cl_row (i := 5) HRX.out rfl
        go_wp2_with fail
        refine Calls.mono (P2.out _) ?_
        rintro e x10 ⟨rfl, hq⟩
        have HBx10 : Hid (Below w.heap.size w x10) := HB.out.trans (hq.mono HB.out.size)
        have HRx10 : Hid (x10.heap[w.heap.size]? = _) := (hq.block _ (lt_of_heap HRX.out)).trans HRX.out
        clear hq
        clear c5
        cases gr with
        | true =>
          have hC : C64 = Q64 := D64.out rfl
          have hadd : ∀ X : World, (Op.stringOp .add ⟨S1.toArray⟩ ⟨Q64.toArray⟩).run Tryz.prog X = .ok (.string ⟨(S1 ++ C64).toArray⟩) X := fun X => by rw [← hC]; exact add_l _ _ (by have := HLS1.out; omega) (by have := B64.out; omega) X
          have HLS2 : Hid ((S1 ++ C64).length ≤ 1200) := by unfold Hid; rw [List.length_append]; have := HLS1.out; have := B64.out; omega
          clear hC
          generalize S1 ++ C64 = S2 at *
          have c0 := cl_row (i := 0) HRx10.out rfl
          have c1 := cl_row (i := 1) HRx10.out rfl
          have c2 := cl_row (i := 2) HRx10.out rfl
          have c3 := cl_row (i := 3) HRx10.out rfl
          have c4 := cl_row (i := 4) HRx10.out rfl
          have c5 := cl_row (i := 5) HRx10.out rfl
          have c6 := cl_row (i := 6) HRx10.out rfl
          have c7 := cl_row (i := 7) HRx10.out rfl
          have c8 := cl_row (i := 8) HRx10.out rfl
          have c9 := cl_row (i := 9) HRx10.out rfl
          have c10 := cl_row (i := 10) HRx10.out rfl
          go_wp2_with fail
          refine Calls.mono (K53.out _ HBx10.out) ?_
          rintro e x20 ⟨rfl, hq⟩
          have HBx20 : Hid (Below w.heap.size w x20) := HBx10.out.trans (hq.mono HBx10.out.size)
          have HRx20 : Hid (x20.heap[w.heap.size]? = _) := (hq.block _ (lt_of_heap HRx10.out)).trans HRx10.out
          clear hq
          go_wp2_with fail
          refine Calls.mono (P64.out _) ?_
          rintro e x21 ⟨rfl, hq⟩
          have HBx21 : Hid (Below w.heap.size w x21) := HBx20.out.trans (hq.mono HBx20.out.size)
          have HRx21 : Hid (x21.heap[w.heap.size]? = _) := (hq.block _ (lt_of_heap HRx20.out)).trans HRx20.out
          clear hq
          clear c0 c1 c2 c3 c4 c5 c6 c7 c8 c9 c10
          cases four with
          | true =>
            have hC : C65 = Q65 := D65.out rfl
            have hadd : ∀ X : World, (Op.stringOp .add ⟨S2.toArray⟩ ⟨Q65.toArray⟩).run Tryz.prog X = .ok (.string ⟨(S2 ++ C65).toArray⟩) X := fun X => by rw [← hC]; exact add_l _ _ (by have := HLS2.out; omega) (by have := B65.out; omega) X
            have HLS3 : Hid ((S2 ++ C65).length ≤ 1300) := by unfold Hid; rw [List.length_append]; have := HLS2.out; have := B65.out; omega
            clear hC
            generalize S2 ++ C65 = S3 at *
            have c4 := cl_row (i := 4) HRx21.out rfl
            have c0 := cl_row (i := 0) HRx21.out rfl
            go_wp2_with fail
            refine Calls.mono (U65.out _) ?_
            rintro e x30 ⟨rfl, hq⟩
            have HBx30 : Hid (Below w.heap.size w x30) := HBx21.out.trans (hq.mono HBx21.out.size)
            have HRx30 : Hid (x30.heap[w.heap.size]? = _) := (hq.block _ (lt_of_heap HRx21.out)).trans HRx21.out
            clear hq
            go_wp2_with fail
            refine Calls.mono (P65.out _) ?_
            rintro e x31 ⟨rfl, hq⟩
            have HBx31 : Hid (Below w.heap.size w x31) := HBx30.out.trans (hq.mono HBx30.out.size)
            have HRx31 : Hid (x31.heap[w.heap.size]? = _) := (hq.block _ (lt_of_heap HRx30.out)).trans HRx30.out
            clear hq
            clear c4 c0
            by_cases hpos : 0 < adds.length
            · have hpi : (0 : Int) < (adds.length : Int) := by omega
              have hC : C69 = Q69 := D69.out hpos
              have hadd : ∀ X : World, (Op.stringOp .add ⟨S3.toArray⟩ ⟨Q69.toArray⟩).run Tryz.prog X = .ok (.string ⟨(S3 ++ C69).toArray⟩) X := fun X => by rw [← hC]; exact add_l _ _ (by have := HLS3.out; omega) (by have := B69.out; omega) X
              have HLS4 : Hid ((S3 ++ C69).length ≤ 1400) := by unfold Hid; rw [List.length_append]; have := HLS3.out; have := B69.out; omega
              clear hC
              generalize S3 ++ C69 = S4 at *
              have c0 := cl_row (i := 0) HRx31.out rfl
              have c1 := cl_row (i := 1) HRx31.out rfl
              have c2 := cl_row (i := 2) HRx31.out rfl
              have c3 := cl_row (i := 3) HRx31.out rfl
              have c4 := cl_row (i := 4) HRx31.out rfl
              have c5 := cl_row (i := 5) HRx31.out rfl
              have c6 := cl_row (i := 6) HRx31.out rfl
              have c7 := cl_row (i := 7) HRx31.out rfl
              have c8 := cl_row (i := 8) HRx31.out rfl
              have c9 := cl_row (i := 9) HRx31.out rfl
              have c10 := cl_row (i := 10) HRx31.out rfl
              go_wp2_with fail
              refine Calls.mono (K54.out _ HBx31.out) ?_
              rintro e x40 ⟨rfl, hq⟩
              have HBx40 : Hid (Below w.heap.size w x40) := HBx31.out.trans (hq.mono HBx31.out.size)
              have HRx40 : Hid (x40.heap[w.heap.size]? = _) := (hq.block _ (lt_of_heap HRx31.out)).trans HRx31.out
              clear hq
              go_wp2_with fail
              refine Calls.mono (P69.out _) ?_
              rintro e x41 ⟨rfl, hq⟩
              have HBx41 : Hid (Below w.heap.size w x41) := HBx40.out.trans (hq.mono HBx40.out.size)
              have HRx41 : Hid (x41.heap[w.heap.size]? = _) := (hq.block _ (lt_of_heap HRx40.out)).trans HRx40.out
              clear hq
              clear c0 c1 c2 c3 c4 c5 c6 c7 c8 c9 c10
              go_wp2
              go_ret
              exact ⟨ret_str HC.out.symm, HBx41.out⟩
            · have hzero : adds.length = 0 := by omega
              have hzi : ¬ (0 : Int) < (adds.length : Int) := by omega
              have hC : C69 = [] := D69'.out hzero
              have HLS4 : Hid (S3.length ≤ 1400) := by unfold Hid; have := HLS3.out; omega
              rw [hC, List.append_nil] at HC
              clear hC
              generalize S3 = S4 at *
              have c6 := cl_row (i := 6) HRx31.out rfl
              go_wp2
              go_ret
              exact ⟨ret_str HC.out.symm, HBx31.out⟩
          | false =>
            have hC : C65 = [] := D65'.out rfl
            have HLS3 : Hid (S2.length ≤ 1300) := by unfold Hid; have := HLS2.out; omega
            rw [hC, List.append_nil] at HC
            clear hC
            generalize S2 = S3 at *
            have c4 := cl_row (i := 4) HRx21.out rfl
            by_cases hpos : 0 < adds.length
            · have hpi : (0 : Int) < (adds.length : Int) := by omega
              have hC : C69 = Q69 := D69.out hpos
              have hadd : ∀ X : World, (Op.stringOp .add ⟨S3.toArray⟩ ⟨Q69.toArray⟩).run Tryz.prog X = .ok (.string ⟨(S3 ++ C69).toArray⟩) X := fun X => by rw [← hC]; exact add_l _ _ (by have := HLS3.out; omega) (by have := B69.out; omega) X
              have HLS4 : Hid ((S3 ++ C69).length ≤ 1400) := by unfold Hid; rw [List.length_append]; have := HLS3.out; have := B69.out; omega
              clear hC
              generalize S3 ++ C69 = S4 at *
              have c0 := cl_row (i := 0) HRx21.out rfl
              have c1 := cl_row (i := 1) HRx21.out rfl
              have c2 := cl_row (i := 2) HRx21.out rfl
              have c3 := cl_row (i := 3) HRx21.out rfl
              have c4 := cl_row (i := 4) HRx21.out rfl
              have c5 := cl_row (i := 5) HRx21.out rfl
              have c6 := cl_row (i := 6) HRx21.out rfl
              have c7 := cl_row (i := 7) HRx21.out rfl
              have c8 := cl_row (i := 8) HRx21.out rfl
              have c9 := cl_row (i := 9) HRx21.out rfl
              have c10 := cl_row (i := 10) HRx21.out rfl
              go_wp2_with fail
              refine Calls.mono (K54.out _ HBx21.out) ?_
              rintro e x40 ⟨rfl, hq⟩
              have HBx40 : Hid (Below w.heap.size w x40) := HBx21.out.trans (hq.mono HBx21.out.size)
              have HRx40 : Hid (x40.heap[w.heap.size]? = _) := (hq.block _ (lt_of_heap HRx21.out)).trans HRx21.out
              clear hq
              go_wp2_with fail
              refine Calls.mono (P69.out _) ?_
              rintro e x41 ⟨rfl, hq⟩
              have HBx41 : Hid (Below w.heap.size w x41) := HBx40.out.trans (hq.mono HBx40.out.size)
              have HRx41 : Hid (x41.heap[w.heap.size]? = _) := (hq.block _ (lt_of_heap HRx40.out)).trans HRx40.out
              clear hq
              clear c0 c1 c2 c3 c4 c5 c6 c7 c8 c9 c10
              go_wp2
              go_ret
              exact ⟨ret_str HC.out.symm, HBx41.out⟩
            · have hzero : adds.length = 0 := by omega
              have hzi : ¬ (0 : Int) < (adds.length : Int) := by omega
              have hC : C69 = [] := D69'.out hzero
              have HLS4 : Hid (S3.length ≤ 1400) := by unfold Hid; have := HLS3.out; omega
              rw [hC, List.append_nil] at HC
              clear hC
              generalize S3 = S4 at *
              have c6 := cl_row (i := 6) HRx21.out rfl
              go_wp2
              go_ret
              exact ⟨ret_str HC.out.symm, HBx21.out⟩
        | false =>
          have hC : C64 = [] := D64'.out rfl
          have HLS2 : Hid (S1.length ≤ 1200) := by unfold Hid; have := HLS1.out; omega
          rw [hC, List.append_nil] at HC
          clear hC
          generalize S1 = S2 at *
          have c7 := cl_row (i := 7) HRx10.out rfl
          cases four with
          | true =>
            have hC : C65 = Q65 := D65.out rfl
            have hadd : ∀ X : World, (Op.stringOp .add ⟨S2.toArray⟩ ⟨Q65.toArray⟩).run Tryz.prog X = .ok (.string ⟨(S2 ++ C65).toArray⟩) X := fun X => by rw [← hC]; exact add_l _ _ (by have := HLS2.out; omega) (by have := B65.out; omega) X
            have HLS3 : Hid ((S2 ++ C65).length ≤ 1300) := by unfold Hid; rw [List.length_append]; have := HLS2.out; have := B65.out; omega
            clear hC
            generalize S2 ++ C65 = S3 at *
            have c4 := cl_row (i := 4) HRx10.out rfl
            have c0 := cl_row (i := 0) HRx10.out rfl
            go_wp2_with fail
            refine Calls.mono (U65.out _) ?_
            rintro e x30 ⟨rfl, hq⟩
            have HBx30 : Hid (Below w.heap.size w x30) := HBx10.out.trans (hq.mono HBx10.out.size)
            have HRx30 : Hid (x30.heap[w.heap.size]? = _) := (hq.block _ (lt_of_heap HRx10.out)).trans HRx10.out
            clear hq
            go_wp2_with fail
            refine Calls.mono (P65.out _) ?_
            rintro e x31 ⟨rfl, hq⟩
            have HBx31 : Hid (Below w.heap.size w x31) := HBx30.out.trans (hq.mono HBx30.out.size)
            have HRx31 : Hid (x31.heap[w.heap.size]? = _) := (hq.block _ (lt_of_heap HRx30.out)).trans HRx30.out
            clear hq
            clear c4 c0
            by_cases hpos : 0 < adds.length
            · have hpi : (0 : Int) < (adds.length : Int) := by omega
              have hC : C69 = Q69 := D69.out hpos
              have hadd : ∀ X : World, (Op.stringOp .add ⟨S3.toArray⟩ ⟨Q69.toArray⟩).run Tryz.prog X = .ok (.string ⟨(S3 ++ C69).toArray⟩) X := fun X => by rw [← hC]; exact add_l _ _ (by have := HLS3.out; omega) (by have := B69.out; omega) X
              have HLS4 : Hid ((S3 ++ C69).length ≤ 1400) := by unfold Hid; rw [List.length_append]; have := HLS3.out; have := B69.out; omega
              clear hC
              generalize S3 ++ C69 = S4 at *
              have c0 := cl_row (i := 0) HRx31.out rfl
              have c1 := cl_row (i := 1) HRx31.out rfl
              have c2 := cl_row (i := 2) HRx31.out rfl
              have c3 := cl_row (i := 3) HRx31.out rfl
              have c4 := cl_row (i := 4) HRx31.out rfl
              have c5 := cl_row (i := 5) HRx31.out rfl
              have c6 := cl_row (i := 6) HRx31.out rfl
              have c7 := cl_row (i := 7) HRx31.out rfl
              have c8 := cl_row (i := 8) HRx31.out rfl
              have c9 := cl_row (i := 9) HRx31.out rfl
              have c10 := cl_row (i := 10) HRx31.out rfl
              go_wp2_with fail
              refine Calls.mono (K54.out _ HBx31.out) ?_
              rintro e x40 ⟨rfl, hq⟩
              have HBx40 : Hid (Below w.heap.size w x40) := HBx31.out.trans (hq.mono HBx31.out.size)
              have HRx40 : Hid (x40.heap[w.heap.size]? = _) := (hq.block _ (lt_of_heap HRx31.out)).trans HRx31.out
              clear hq
              go_wp2_with fail
              refine Calls.mono (P69.out _) ?_
              rintro e x41 ⟨rfl, hq⟩
              have HBx41 : Hid (Below w.heap.size w x41) := HBx40.out.trans (hq.mono HBx40.out.size)
              have HRx41 : Hid (x41.heap[w.heap.size]? = _) := (hq.block _ (lt_of_heap HRx40.out)).trans HRx40.out
              clear hq
              clear c0 c1 c2 c3 c4 c5 c6 c7 c8 c9 c10
              go_wp2
              go_ret
              exact ⟨ret_str HC.out.symm, HBx41.out⟩
            · have hzero : adds.length = 0 := by omega
              have hzi : ¬ (0 : Int) < (adds.length : Int) := by omega
              have hC : C69 = [] := D69'.out hzero
              have HLS4 : Hid (S3.length ≤ 1400) := by unfold Hid; have := HLS3.out; omega
              rw [hC, List.append_nil] at HC
              clear hC
              generalize S3 = S4 at *
              have c6 := cl_row (i := 6) HRx31.out rfl
              go_wp2
              go_ret
              exact ⟨ret_str HC.out.symm, HBx31.out⟩
          | false =>
            have hC : C65 = [] := D65'.out rfl
            have HLS3 : Hid (S2.length ≤ 1300) := by unfold Hid; have := HLS2.out; omega
            rw [hC, List.append_nil] at HC
            clear hC
            generalize S2 = S3 at *
            have c4 := cl_row (i := 4) HRx10.out rfl
            by_cases hpos : 0 < adds.length
            · have hpi : (0 : Int) < (adds.length : Int) := by omega
              have hC : C69 = Q69 := D69.out hpos
              have hadd : ∀ X : World, (Op.stringOp .add ⟨S3.toArray⟩ ⟨Q69.toArray⟩).run Tryz.prog X = .ok (.string ⟨(S3 ++ C69).toArray⟩) X := fun X => by rw [← hC]; exact add_l _ _ (by have := HLS3.out; omega) (by have := B69.out; omega) X
              have HLS4 : Hid ((S3 ++ C69).length ≤ 1400) := by unfold Hid; rw [List.length_append]; have := HLS3.out; have := B69.out; omega
              clear hC
              generalize S3 ++ C69 = S4 at *
              have c0 := cl_row (i := 0) HRx10.out rfl
              have c1 := cl_row (i := 1) HRx10.out rfl
              have c2 := cl_row (i := 2) HRx10.out rfl
              have c3 := cl_row (i := 3) HRx10.out rfl
              have c4 := cl_row (i := 4) HRx10.out rfl
              have c5 := cl_row (i := 5) HRx10.out rfl
              have c6 := cl_row (i := 6) HRx10.out rfl
              have c7 := cl_row (i := 7) HRx10.out rfl
              have c8 := cl_row (i := 8) HRx10.out rfl
              have c9 := cl_row (i := 9) HRx10.out rfl
              have c10 := cl_row (i := 10) HRx10.out rfl
              go_wp2_with fail
              refine Calls.mono (K54.out _ HBx10.out) ?_
              rintro e x40 ⟨rfl, hq⟩
              have HBx40 : Hid (Below w.heap.size w x40) := HBx10.out.trans (hq.mono HBx10.out.size)
              have HRx40 : Hid (x40.heap[w.heap.size]? = _) := (hq.block _ (lt_of_heap HRx10.out)).trans HRx10.out
              clear hq
              go_wp2_with fail
              refine Calls.mono (P69.out _) ?_
              rintro e x41 ⟨rfl, hq⟩
              have HBx41 : Hid (Below w.heap.size w x41) := HBx40.out.trans (hq.mono HBx40.out.size)
              have HRx41 : Hid (x41.heap[w.heap.size]? = _) := (hq.block _ (lt_of_heap HRx40.out)).trans HRx40.out
              clear hq
              clear c0 c1 c2 c3 c4 c5 c6 c7 c8 c9 c10
              go_wp2
              go_ret
              exact ⟨ret_str HC.out.symm, HBx41.out⟩
            · have hzero : adds.length = 0 := by omega
              have hzi : ¬ (0 : Int) < (adds.length : Int) := by omega
              have hC : C69 = [] := D69'.out hzero
              have HLS4 : Hid (S3.length ≤ 1400) := by unfold Hid; have := HLS3.out; omega
              rw [hC, List.append_nil] at HC
              clear hC
              generalize S3 = S4 at *
              have c6 := cl_row (i := 6) HRx10.out rfl
              go_wp2
              go_ret
              exact ⟨ret_str HC.out.symm, HBx10.out⟩
      | false =>
        have hC : C2 = [] := D2'.out rfl
        have HLS1 : Hid (S0.length ≤ 1100) := by unfold Hid; have := HLS0.out; omega
        rw [hC, List.append_nil] at HC
        clear hC
        generalize S0 = S1 at *
        have c5 := cl_row (i := 5) HRX.out rfl
        cases gr with
        | true =>
          have hC : C64 = Q64 := D64.out rfl
          have hadd : ∀ X : World, (Op.stringOp .add ⟨S1.toArray⟩ ⟨Q64.toArray⟩).run Tryz.prog X = .ok (.string ⟨(S1 ++ C64).toArray⟩) X := fun X => by rw [← hC]; exact add_l _ _ (by have := HLS1.out; omega) (by have := B64.out; omega) X
          have HLS2 : Hid ((S1 ++ C64).length ≤ 1200) := by unfold Hid; rw [List.length_append]; have := HLS1.out; have := B64.out; omega
          clear hC
          generalize S1 ++ C64 = S2 at *
          have c0 := cl_row (i := 0) HRX.out rfl
          have c1 := cl_row (i := 1) HRX.out rfl
          have c2 := cl_row (i := 2) HRX.out rfl
          have c3 := cl_row (i := 3) HRX.out rfl
          have c4 := cl_row (i := 4) HRX.out rfl
          have c5 := cl_row (i := 5) HRX.out rfl
          have c6 := cl_row (i := 6) HRX.out rfl
          have c7 := cl_row (i := 7) HRX.out rfl
          have c8 := cl_row (i := 8) HRX.out rfl
          have c9 := cl_row (i := 9) HRX.out rfl
          have c10 := cl_row (i := 10) HRX.out rfl
          go_wp2_with fail
          refine Calls.mono (K53.out _ HB.out) ?_
          rintro e x20 ⟨rfl, hq⟩
          have HBx20 : Hid (Below w.heap.size w x20) := HB.out.trans (hq.mono HB.out.size)
          have HRx20 : Hid (x20.heap[w.heap.size]? = _) := (hq.block _ (lt_of_heap HRX.out)).trans HRX.out
          clear hq
          go_wp2_with fail
          refine Calls.mono (P64.out _) ?_
          rintro e x21 ⟨rfl, hq⟩
          have HBx21 : Hid (Below w.heap.size w x21) := HBx20.out.trans (hq.mono HBx20.out.size)
          have HRx21 : Hid (x21.heap[w.heap.size]? = _) := (hq.block _ (lt_of_heap HRx20.out)).trans HRx20.out
          clear hq
          clear c0 c1 c2 c3 c4 c5 c6 c7 c8 c9 c10
          cases four with
          | true =>
            have hC : C65 = Q65 := D65.out rfl
            have hadd : ∀ X : World, (Op.stringOp .add ⟨S2.toArray⟩ ⟨Q65.toArray⟩).run Tryz.prog X = .ok (.string ⟨(S2 ++ C65).toArray⟩) X := fun X => by rw [← hC]; exact add_l _ _ (by have := HLS2.out; omega) (by have := B65.out; omega) X
            have HLS3 : Hid ((S2 ++ C65).length ≤ 1300) := by unfold Hid; rw [List.length_append]; have := HLS2.out; have := B65.out; omega
            clear hC
            generalize S2 ++ C65 = S3 at *
            have c4 := cl_row (i := 4) HRx21.out rfl
            have c0 := cl_row (i := 0) HRx21.out rfl
            go_wp2_with fail
            refine Calls.mono (U65.out _) ?_
            rintro e x30 ⟨rfl, hq⟩
            have HBx30 : Hid (Below w.heap.size w x30) := HBx21.out.trans (hq.mono HBx21.out.size)
            have HRx30 : Hid (x30.heap[w.heap.size]? = _) := (hq.block _ (lt_of_heap HRx21.out)).trans HRx21.out
            clear hq
            go_wp2_with fail
            refine Calls.mono (P65.out _) ?_
            rintro e x31 ⟨rfl, hq⟩
            have HBx31 : Hid (Below w.heap.size w x31) := HBx30.out.trans (hq.mono HBx30.out.size)
            have HRx31 : Hid (x31.heap[w.heap.size]? = _) := (hq.block _ (lt_of_heap HRx30.out)).trans HRx30.out
            clear hq
            clear c4 c0
            by_cases hpos : 0 < adds.length
            · have hpi : (0 : Int) < (adds.length : Int) := by omega
              have hC : C69 = Q69 := D69.out hpos
              have hadd : ∀ X : World, (Op.stringOp .add ⟨S3.toArray⟩ ⟨Q69.toArray⟩).run Tryz.prog X = .ok (.string ⟨(S3 ++ C69).toArray⟩) X := fun X => by rw [← hC]; exact add_l _ _ (by have := HLS3.out; omega) (by have := B69.out; omega) X
              have HLS4 : Hid ((S3 ++ C69).length ≤ 1400) := by unfold Hid; rw [List.length_append]; have := HLS3.out; have := B69.out; omega
              clear hC
              generalize S3 ++ C69 = S4 at *
              have c0 := cl_row (i := 0) HRx31.out rfl
              have c1 := cl_row (i := 1) HRx31.out rfl
              have c2 := cl_row (i := 2) HRx31.out rfl
              have c3 := cl_row (i := 3) HRx31.out rfl
              have c4 := cl_row (i := 4) HRx31.out rfl
              have c5 := cl_row (i := 5) HRx31.out rfl
              have c6 := cl_row (i := 6) HRx31.out rfl
              have c7 := cl_row (i := 7) HRx31.out rfl
              have c8 := cl_row (i := 8) HRx31.out rfl
              have c9 := cl_row (i := 9) HRx31.out rfl
              have c10 := cl_row (i := 10) HRx31.out rfl
              go_wp2_with fail
              refine Calls.mono (K54.out _ HBx31.out) ?_
              rintro e x40 ⟨rfl, hq⟩
              have HBx40 : Hid (Below w.heap.size w x40) := HBx31.out.trans (hq.mono HBx31.out.size)
              have HRx40 : Hid (x40.heap[w.heap.size]? = _) := (hq.block _ (lt_of_heap HRx31.out)).trans HRx31.out
              clear hq
              go_wp2_with fail
              refine Calls.mono (P69.out _) ?_
              rintro e x41 ⟨rfl, hq⟩
              have HBx41 : Hid (Below w.heap.size w x41) := HBx40.out.trans (hq.mono HBx40.out.size)
              have HRx41 : Hid (x41.heap[w.heap.size]? = _) := (hq.block _ (lt_of_heap HRx40.out)).trans HRx40.out
              clear hq
              clear c0 c1 c2 c3 c4 c5 c6 c7 c8 c9 c10
              go_wp2
              go_ret
              exact ⟨ret_str HC.out.symm, HBx41.out⟩
            · have hzero : adds.length = 0 := by omega
              have hzi : ¬ (0 : Int) < (adds.length : Int) := by omega
              have hC : C69 = [] := D69'.out hzero
              have HLS4 : Hid (S3.length ≤ 1400) := by unfold Hid; have := HLS3.out; omega
              rw [hC, List.append_nil] at HC
              clear hC
              generalize S3 = S4 at *
              have c6 := cl_row (i := 6) HRx31.out rfl
              go_wp2
              go_ret
              exact ⟨ret_str HC.out.symm, HBx31.out⟩
          | false =>
            have hC : C65 = [] := D65'.out rfl
            have HLS3 : Hid (S2.length ≤ 1300) := by unfold Hid; have := HLS2.out; omega
            rw [hC, List.append_nil] at HC
            clear hC
            generalize S2 = S3 at *
            have c4 := cl_row (i := 4) HRx21.out rfl
            by_cases hpos : 0 < adds.length
            · have hpi : (0 : Int) < (adds.length : Int) := by omega
              have hC : C69 = Q69 := D69.out hpos
              have hadd : ∀ X : World, (Op.stringOp .add ⟨S3.toArray⟩ ⟨Q69.toArray⟩).run Tryz.prog X = .ok (.string ⟨(S3 ++ C69).toArray⟩) X := fun X => by rw [← hC]; exact add_l _ _ (by have := HLS3.out; omega) (by have := B69.out; omega) X
              have HLS4 : Hid ((S3 ++ C69).length ≤ 1400) := by unfold Hid; rw [List.length_append]; have := HLS3.out; have := B69.out; omega
              clear hC
              generalize S3 ++ C69 = S4 at *
              have c0 := cl_row (i := 0) HRx21.out rfl
              have c1 := cl_row (i := 1) HRx21.out rfl
              have c2 := cl_row (i := 2) HRx21.out rfl
              have c3 := cl_row (i := 3) HRx21.out rfl
              have c4 := cl_row (i := 4) HRx21.out rfl
              have c5 := cl_row (i := 5) HRx21.out rfl
              have c6 := cl_row (i := 6) HRx21.out rfl
              have c7 := cl_row (i := 7) HRx21.out rfl
              have c8 := cl_row (i := 8) HRx21.out rfl
              have c9 := cl_row (i := 9) HRx21.out rfl
              have c10 := cl_row (i := 10) HRx21.out rfl
              go_wp2_with fail
              refine Calls.mono (K54.out _ HBx21.out) ?_
              rintro e x40 ⟨rfl, hq⟩
              have HBx40 : Hid (Below w.heap.size w x40) := HBx21.out.trans (hq.mono HBx21.out.size)
              have HRx40 : Hid (x40.heap[w.heap.size]? = _) := (hq.block _ (lt_of_heap HRx21.out)).trans HRx21.out
              clear hq
              go_wp2_with fail
              refine Calls.mono (P69.out _) ?_
              rintro e x41 ⟨rfl, hq⟩
              have HBx41 : Hid (Below w.heap.size w x41) := HBx40.out.trans (hq.mono HBx40.out.size)
              have HRx41 : Hid (x41.heap[w.heap.size]? = _) := (hq.block _ (lt_of_heap HRx40.out)).trans HRx40.out
              clear hq
              clear c0 c1 c2 c3 c4 c5 c6 c7 c8 c9 c10
              go_wp2
              go_ret
              exact ⟨ret_str HC.out.symm, HBx41.out⟩
            · have hzero : adds.length = 0 := by omega
              have hzi : ¬ (0 : Int) < (adds.length : Int) := by omega
              have hC : C69 = [] := D69'.out hzero
              have HLS4 : Hid (S3.length ≤ 1400) := by unfold Hid; have := HLS3.out; omega
              rw [hC, List.append_nil] at HC
              clear hC
              generalize S3 = S4 at *
              have c6 := cl_row (i := 6) HRx21.out rfl
              go_wp2
              go_ret
              exact ⟨ret_str HC.out.symm, HBx21.out⟩
        | false =>
          have hC : C64 = [] := D64'.out rfl
          have HLS2 : Hid (S1.length ≤ 1200) := by unfold Hid; have := HLS1.out; omega
          rw [hC, List.append_nil] at HC
          clear hC
          generalize S1 = S2 at *
          have c7 := cl_row (i := 7) HRX.out rfl
          cases four with
          | true =>
            have hC : C65 = Q65 := D65.out rfl
            have hadd : ∀ X : World, (Op.stringOp .add ⟨S2.toArray⟩ ⟨Q65.toArray⟩).run Tryz.prog X = .ok (.string ⟨(S2 ++ C65).toArray⟩) X := fun X => by rw [← hC]; exact add_l _ _ (by have := HLS2.out; omega) (by have := B65.out; omega) X
            have HLS3 : Hid ((S2 ++ C65).length ≤ 1300) := by unfold Hid; rw [List.length_append]; have := HLS2.out; have := B65.out; omega
            clear hC
            generalize S2 ++ C65 = S3 at *
            have c4 := cl_row (i := 4) HRX.out rfl
            have c0 := cl_row (i := 0) HRX.out rfl
            go_wp2_with fail
            refine Calls.mono (U65.out _) ?_
            rintro e x30 ⟨rfl, hq⟩
            have HBx30 : Hid (Below w.heap.size w x30) := HB.out.trans (hq.mono HB.out.size)
            have HRx30 : Hid (x30.heap[w.heap.size]? = _) := (hq.block _ (lt_of_heap HRX.out)).trans HRX.out
            clear hq
            go_wp2_with fail
            refine Calls.mono (P65.out _) ?_
            rintro e x31 ⟨rfl, hq⟩
            have HBx31 : Hid (Below w.heap.size w x31) := HBx30.out.trans (hq.mono HBx30.out.size)
            have HRx31 : Hid (x31.heap[w.heap.size]? = _) := (hq.block _ (lt_of_heap HRx30.out)).trans HRx30.out
            clear hq
            clear c4 c0
            by_cases hpos : 0 < adds.length
            · have hpi : (0 : Int) < (adds.length : Int) := by omega
              have hC : C69 = Q69 := D69.out hpos
              have hadd : ∀ X : World, (Op.stringOp .add ⟨S3.toArray⟩ ⟨Q69.toArray⟩).run Tryz.prog X = .ok (.string ⟨(S3 ++ C69).toArray⟩) X := fun X => by rw [← hC]; exact add_l _ _ (by have := HLS3.out; omega) (by have := B69.out; omega) X
              have HLS4 : Hid ((S3 ++ C69).length ≤ 1400) := by unfold Hid; rw [List.length_append]; have := HLS3.out; have := B69.out; omega
              clear hC
              generalize S3 ++ C69 = S4 at *
              have c0 := cl_row (i := 0) HRx31.out rfl
              have c1 := cl_row (i := 1) HRx31.out rfl
              have c2 := cl_row (i := 2) HRx31.out rfl
              have c3 := cl_row (i := 3) HRx31.out rfl
              have c4 := cl_row (i := 4) HRx31.out rfl
              have c5 := cl_row (i := 5) HRx31.out rfl
              have c6 := cl_row (i := 6) HRx31.out rfl
              have c7 := cl_row (i := 7) HRx31.out rfl
              have c8 := cl_row (i := 8) HRx31.out rfl
              have c9 := cl_row (i := 9) HRx31.out rfl
              have c10 := cl_row (i := 10) HRx31.out rfl
              go_wp2_with fail
              refine Calls.mono (K54.out _ HBx31.out) ?_
              rintro e x40 ⟨rfl, hq⟩
              have HBx40 : Hid (Below w.heap.size w x40) := HBx31.out.trans (hq.mono HBx31.out.size)
              have HRx40 : Hid (x40.heap[w.heap.size]? = _) := (hq.block _ (lt_of_heap HRx31.out)).trans HRx31.out
              clear hq
              go_wp2_with fail
              refine Calls.mono (P69.out _) ?_
              rintro e x41 ⟨rfl, hq⟩
              have HBx41 : Hid (Below w.heap.size w x41) := HBx40.out.trans (hq.mono HBx40.out.size)
              have HRx41 : Hid (x41.heap[w.heap.size]? = _) := (hq.block _ (lt_of_heap HRx40.out)).trans HRx40.out
              clear hq
              clear c0 c1 c2 c3 c4 c5 c6 c7 c8 c9 c10
              go_wp2
              go_ret
              exact ⟨ret_str HC.out.symm, HBx41.out⟩
            · have hzero : adds.length = 0 := by omega
              have hzi : ¬ (0 : Int) < (adds.length : Int) := by omega
              have hC : C69 = [] := D69'.out hzero
              have HLS4 : Hid (S3.length ≤ 1400) := by unfold Hid; have := HLS3.out; omega
              rw [hC, List.append_nil] at HC
              clear hC
              generalize S3 = S4 at *
              have c6 := cl_row (i := 6) HRx31.out rfl
              go_wp2
              go_ret
              exact ⟨ret_str HC.out.symm, HBx31.out⟩
          | false =>
            have hC : C65 = [] := D65'.out rfl
            have HLS3 : Hid (S2.length ≤ 1300) := by unfold Hid; have := HLS2.out; omega
            rw [hC, List.append_nil] at HC
            clear hC
            generalize S2 = S3 at *
            have c4 := cl_row (i := 4) HRX.out rfl
            by_cases hpos : 0 < adds.length
            · have hpi : (0 : Int) < (adds.length : Int) := by omega
              have hC : C69 = Q69 := D69.out hpos
              have hadd : ∀ X : World, (Op.stringOp .add ⟨S3.toArray⟩ ⟨Q69.toArray⟩).run Tryz.prog X = .ok (.string ⟨(S3 ++ C69).toArray⟩) X := fun X => by rw [← hC]; exact add_l _ _ (by have := HLS3.out; omega) (by have := B69.out; omega) X
              have HLS4 : Hid ((S3 ++ C69).length ≤ 1400) := by unfold Hid; rw [List.length_append]; have := HLS3.out; have := B69.out; omega
              clear hC
              generalize S3 ++ C69 = S4 at *
              have c0 := cl_row (i := 0) HRX.out rfl
              have c1 := cl_row (i := 1) HRX.out rfl
              have c2 := cl_row (i := 2) HRX.out rfl
              have c3 := cl_row (i := 3) HRX.out rfl
              have c4 := cl_row (i := 4) HRX.out rfl
              have c5 := cl_row (i := 5) HRX.out rfl
              have c6 := cl_row (i := 6) HRX.out rfl
              have c7 := cl_row (i := 7) HRX.out rfl
              have c8 := cl_row (i := 8) HRX.out rfl
              have c9 := cl_row (i := 9) HRX.out rfl
              have c10 := cl_row (i := 10) HRX.out rfl
              go_wp2_with fail
              refine Calls.mono (K54.out _ HB.out) ?_
              rintro e x40 ⟨rfl, hq⟩
              have HBx40 : Hid (Below w.heap.size w x40) := HB.out.trans (hq.mono HB.out.size)
              have HRx40 : Hid (x40.heap[w.heap.size]? = _) := (hq.block _ (lt_of_heap HRX.out)).trans HRX.out
              clear hq
              go_wp2_with fail
              refine Calls.mono (P69.out _) ?_
              rintro e x41 ⟨rfl, hq⟩
              have HBx41 : Hid (Below w.heap.size w x41) := HBx40.out.trans (hq.mono HBx40.out.size)
              have HRx41 : Hid (x41.heap[w.heap.size]? = _) := (hq.block _ (lt_of_heap HRx40.out)).trans HRx40.out
              clear hq
              clear c0 c1 c2 c3 c4 c5 c6 c7 c8 c9 c10
              go_wp2
              go_ret
              exact ⟨ret_str HC.out.symm, HBx41.out⟩
            · have hzero : adds.length = 0 := by omega
              have hzi : ¬ (0 : Int) < (adds.length : Int) := by omega
              have hC : C69 = [] := D69'.out hzero
              have HLS4 : Hid (S3.length ≤ 1400) := by unfold Hid; have := HLS3.out; omega
              rw [hC, List.append_nil] at HC
              clear hC
              generalize S3 = S4 at *
              have c6 := cl_row (i := 6) HRX.out rfl
              go_wp2
              go_ret
              exact ⟨ret_str HC.out.symm, HB.out⟩
end Go.Proofs.YtlhnfejgkhilkaaGreatDoor
