/-
  Lay: the walk.
-/
import Derived.Test.YtpahnebhcfpplabGreatDoorB5
namespace Go.Proofs.YtpahnebhcfpplabGreatDoor
open Go.RowKit
/-- What Lay answers. -/
def layAns (R : List Rw) : Value := if (layE R).length ≤ 4077 then .tuple #[.string ⟨(layE R).toArray⟩, .int .i64 0] else .tuple #[.string ⟨#[]⟩, .int .i64 3]
theorem data_back (v : ByteArray) : (⟨v.data.toList.toArray⟩ : ByteArray) = v := by
  apply ByteArray.ext
  simp
set_option maxRecDepth 100000 in
set_option maxHeartbeats 6400000 in
theorem lay_any (v : Value) (R : List Rw) (w : World) (h : RawsAt w v R) :
    Calls Tryz.prog 8 #[v] w fun e w' => e = .returned (layAns R) ∧ Below w.heap.size w w' := by
  obtain ⟨ad, b, off, cap, rfl, had, ⟨_, hl⟩, hr⟩ := h
  have HR : Hid (RowR _ _ _ _) := hr
  clear hr
  go_enter Tryz.func8, Tryz.ntmps8
  go_wp2
  have hq0 : Bld (w.alloc (.cells #[.pointer none, .slice none 0 0] 61)) w.heap.size w.heap.size [] := by
    refine Or.inl ⟨Nat.le_refl _, .slice none 0 0, heap_new _ _, World.ownsRowF_nil _ _ _ _, by simp [Value.ownBlock]⟩
  have hq1 : Below w.heap.size w (w.alloc (.cells #[.pointer none, .slice none 0 0] 61)) := (Below.refl _ _).alloc (Nat.le_refl _) _
  generalize w.alloc (.cells #[.pointer none, .slice none 0 0] 61) = W at *
  generalize hp : w.heap.size = p at *
  go_loopw [11] (fun i wr => ∃ n : Nat, n ≤ R.length ∧ i = .int .i64 n ∧ Bld wr p p (layE (R.take n)) ∧ Below p w wr ∧ (layE (R.take n)).length ≤ 4077) (fun i _ => R.length - (intOf i).toNat)
  case atStart => exact ⟨0, Nat.zero_le _, rfl, hq0, hq1, by simp [layE]⟩
  case round =>
    obtain ⟨n, hn, rfl, hbd, hb, hle⟩ := hrel
    clear hq0 hq1
    have HBD : Hid (Bld _ _ _ _) := hbd
    have HB : Hid (Below _ _ _) := hb
    clear hbd
    have hpz : p ≤ wr.heap.size := by rw [← hp]; exact hb.size
    by_cases hlt : n < R.length
    · obtain rfl : ad = some ⟨b, off, none⟩ := by rcases had with h | h; exact h; omega
      obtain ⟨⟨c0, c1, c2⟩, hf, ht, hs⟩ := (HR.out.below (hp ▸ hb)) n hlt
      have HX : Hid (layE (R.take (n + 1)) = layE (R.take n) ++ rawE R[n]) := by unfold Hid; rw [take_snoc R n hlt, layE_snoc]
      have HLN : Hid ((rawE R[n]).length = 2 + sizeE R[n] + R[n].2.2.size) := rawE_length _
      have HTOT : Hid (¬ (layE (R.take (n + 1))).length ≤ 4077 → layAns R = .tuple #[.string ⟨#[]⟩, .int .i64 3]) := fun h => by
        unfold layAns
        rw [if_neg]
        have := layE_le R (n + 1)
        omega
      have HPS : Hid (w.heap.size = p) := hp
      clear hb had hp
      generalize layE (R.take n) = E at *
      generalize R[n] = r at *
      obtain ⟨f, t, v⟩ := r
      simp only at c0 c1 c2 hf ht hs
      have HLA : Hid (LayAt w (wr.alloc (.cells #[.int .u8 (f : Int), .int .u8 (t : Int), .string v] 30)) p wr.heap.size E f t v) :=
        ⟨HBD.out.alloc _, heap_new _ _, HB.out.alloc hpz _, Nat.le_trans hpz (by simp), by have := HBD.out.lt; omega⟩
      clear HBD
      go_wp2_with fail
      clear c0 c1 c2
      generalize wr.alloc (.cells #[.int .u8 (f : Int), .int .u8 (t : Int), .string v] 30) = W0 at *
      generalize wr.heap.size = g at *
      obtain ⟨d0, d1, d2⟩ := HLA.out.cells
      have HLEN : Hid (Calls Tryz.prog 16 #[.pointer (some ⟨p, 0, none⟩)] W0.drew fun e w' => e = .returned (.int .i64 (E.length : Nat)) ∧ w' = W0.drew) := by
        have hx := Tryz.Builder_Len_f p p (Lib.byteCells E) W0.drew HLA.out.bld
        rw [Lib.byteCells_length] at hx
        exact hx
      have HHD : Hid (∀ W, Calls Tryz.prog 17 #[.agg #[.int .u8 (f : Int), .int .u8 (t : Int), .string v]] W fun e w' => e = .returned (.int .i64 (if 255 < v.size then 4 else 3)) ∧ Below W.heap.size W w') := fun W => head_any f t v W
      by_cases hlong : 255 < v.size
      · skip
        have hfl : flagE (f, t, v) = f ||| 16 := by unfold flagE; exact if_pos hlong
        have hsz : sizeE (f, t, v) = 2 := by unfold sizeE; exact if_pos hlong
        rw [if_pos hlong] at HHD
        have HFL : Hid (_ = _) := hfl
        have HSZ : Hid (_ = _) := hsz
        have hdl : decide (255 < v.size) = true := decide_eq_true hlong
        have HDL : Hid (_ = _) := hdl
        have hw1 : IntKind.i64.wrap ((E.length : Int) + 4) = (E.length : Int) + 4 := by rw [IntKind.wrap_i64]; omega
        have hw2 : IntKind.i64.wrap ((E.length : Int) + 4 + (v.size : Int)) = (E.length : Int) + 4 + (v.size : Int) := by rw [IntKind.wrap_i64]; omega
        clear hfl hsz hdl
        have HNEW : Hid ((layE (R.take (n + 1))).length = E.length + 4 + v.size) := by
          unfold Hid
          have h1 := HLN.out
          rw [HSZ.out] at h1
          rw [HX.out, List.length_append, h1]
          omega
        by_cases hfit : E.length + 4 + v.size ≤ 4077
        · have hgt : decide ((4077 : Int) < (E.length : Int) + 4 + (v.size : Int)) = false := by simp; omega
          have hgt2 : ¬ ((4077 : Int) < (E.length : Int) + 4 + (v.size : Int)) := by omega
          go_region_held (fun w' => w'.cell? ⟨g, 0, none⟩ = some (.int .u8 (f : Int)) ∧ w'.cell? ⟨g, 1, none⟩ = some (.int .u8 (t : Int)) ∧ w'.cell? ⟨g, 2, none⟩ = some (.string v)) (go_keep)
            (first | (go_at_call 16; refine HLEN.out.mono ?_; rintro e w4 ⟨rfl, rfl⟩) | (go_at_call 17; refine (HHD.out _).mono ?_; rintro e w5 ⟨rfl, hb5⟩; have q0 := below_cell (w := W0.drew) hb5 d0; have q1 := below_cell (w := W0.drew) hb5 d1; have q2 := below_cell (w := W0.drew) hb5 d2))
          have HL5 : Hid (LayAt w w5 p g E f t v) := HLA.out.drew.below hb5
          clear hb5 d0 d1 d2 HLA HLEN HHD
          have ha := andNot8 f hf
          have hfz := flag_lt f hf
          have hor := or8 f hf
          go_wp2_with fail
          refine (isLong_any f t v w5).mono ?_
          rintro e w6 ⟨rfl, hb6⟩
          rw [HDL.out]
          have HL6 : Hid (LayAt w w6 p g E f t v) := HL5.out.below hb6
          obtain ⟨e0, e1, e2⟩ := HL6.out.cells
          clear hb6 HL5 q0 q1 q2
          generalize hFF : f ||| 16 = FF at *
          have hF256 : FF < 256 := by omega
          have hwF : IntKind.u64.wrap (FF : Int) = (FF : Int) := by rw [IntKind.wrap_u64]; omega
          clear hFF hfz
          go_wp2_with fail
          refine (put47 FF 1 w6 (by omega) (by omega) (by omega)).mono ?_
          rintro e w7 ⟨rfl, hb7⟩
          have HL7 : Hid (LayAt w w7 p g E f t v) := HL6.out.below hb7
          clear hb7 HL6 e0 e1 e2 hor ha hwF
          have hl1 := laid_length FF 1
          go_wp2_with fail
          refine (write_at HL7.out (laid FF 1) (by omega)).mono ?_
          rintro e w8 ⟨rfl, hl8⟩
          have HL8 : Hid (LayAt w w8 p g _ f t v) := hl8
          obtain ⟨e0, e1, e2⟩ := hl8.cells
          clear hl8 HL7 hl1
          have hwT : IntKind.u64.wrap (t : Int) = (t : Int) := by rw [IntKind.wrap_u64]; omega
          go_wp2_with fail
          refine (put47 t 1 w8 (by omega) (by omega) (by omega)).mono ?_
          rintro e w9 ⟨rfl, hb9⟩
          have HL9 : Hid (LayAt w w9 p g _ f t v) := HL8.out.below hb9
          clear hb9 HL8 e0 e1 e2 hwT
          have hl1 := laid_length FF 1
          have hl2 := laid_length t 1
          go_wp2_with fail
          refine (write_at HL9.out (laid t 1) (by rw [List.length_append]; omega)).mono ?_
          rintro e w10 ⟨rfl, hl10⟩
          have HL10 : Hid (LayAt w w10 p g _ f t v) := hl10
          obtain ⟨e0, e1, e2⟩ := hl10.cells
          clear hl10 HL9 hl1 hl2
          have hwS : IntKind.u64.wrap (v.size : Int) = (v.size : Int) := by rw [IntKind.wrap_u64]; omega
          go_wp2_with fail
          refine (put47 v.size 2 w10 (by omega) (by omega) (by omega)).mono ?_
          rintro e w11 ⟨rfl, hb11⟩
          have HL11 : Hid (LayAt w w11 p g _ f t v) := HL10.out.below hb11
          clear hb11 HL10 e0 e1 e2 hwS
          have hl1 := laid_length FF 1
          have hl2 := laid_length t 1
          have hl3 := laid_length v.size 2
          go_wp2_with fail
          refine (write_at HL11.out (laid v.size 2) (by rw [List.length_append, List.length_append]; omega)).mono ?_
          rintro e w12 ⟨rfl, hl12⟩
          have HL12 : Hid (LayAt w w12 p g _ f t v) := hl12
          obtain ⟨e0, e1, e2⟩ := hl12.cells
          clear hl12 HL11
          have HVV : Hid (v.data.toList.length = v.size) := Array.length_toList
          have HWR : Hid (Calls Tryz.prog 19 #[.pointer (some ⟨p, 0, none⟩), .string v] w12 fun e W' => e = .returned (.tuple #[.int .i64 v.size, .nilIface]) ∧ LayAt w W' p g (E ++ laid FF 1 ++ laid t 1 ++ laid v.size 2 ++ v.data.toList) f t v) := by
            have hx := write_at HL12.out v.data.toList (by have := HVV.out; rw [List.length_append, List.length_append, List.length_append]; omega)
            rw [data_back] at hx
            exact hx
          clear hl1 hl2 hl3
          go_wp2_with fail
          refine HWR.out.mono ?_
          rintro e w13 ⟨rfl, hl13⟩
          have HL13 : Hid (LayAt w w13 p g _ f t v) := hl13
          have HE : Hid (layE (R.take (n + 1)) = E ++ laid FF 1 ++ laid t 1 ++ laid v.size 2 ++ v.data.toList) := by
            unfold Hid
            rw [HX.out]
            unfold rawE
            rw [HFL.out, HSZ.out]
            simp only [List.append_assoc]
          clear hl13 HL12 e0 e1 e2 HWR
          go_wp2
          go_roundw
          case rel => exact ⟨n + 1, by omega, by go_num, by rw [HE.out]; exact HL13.out.bld, HL13.out.bel, by rw [HNEW.out]; exact hfit⟩
          case measure => simp [intOf]; omega
        · have hgt : decide ((4077 : Int) < (E.length : Int) + 4 + (v.size : Int)) = true := by simp; omega
          have hgt2 : (4077 : Int) < (E.length : Int) + 4 + (v.size : Int) := by omega
          go_region_held (fun w' => w'.cell? ⟨g, 0, none⟩ = some (.int .u8 (f : Int)) ∧ w'.cell? ⟨g, 1, none⟩ = some (.int .u8 (t : Int)) ∧ w'.cell? ⟨g, 2, none⟩ = some (.string v)) (go_keep)
            (first | (go_at_call 16; refine HLEN.out.mono ?_; rintro e w4 ⟨rfl, rfl⟩) | (go_at_call 17; refine (HHD.out _).mono ?_; rintro e w5 ⟨rfl, hb5⟩; have q0 := below_cell (w := W0.drew) hb5 d0; have q1 := below_cell (w := W0.drew) hb5 d1; have q2 := below_cell (w := W0.drew) hb5 d2))
          have HL5 : Hid (LayAt w w5 p g E f t v) := HLA.out.drew.below hb5
          have HBAD : Hid (layAns R = _) := HTOT.out (by rw [HNEW.out]; exact hfit)
          clear hb5 d0 d1 d2 HLA HLEN HHD q0 q1 q2
          go_wp2
          go_ret2
          exact ⟨by rw [HBAD.out]; rfl, by rw [HPS.out]; exact HL5.out.bel⟩
      · skip
        have hfl : flagE (f, t, v) = f &&& 239 := by unfold flagE; exact if_neg hlong
        have hsz : sizeE (f, t, v) = 1 := by unfold sizeE; exact if_neg hlong
        rw [if_neg hlong] at HHD
        have HFL : Hid (_ = _) := hfl
        have HSZ : Hid (_ = _) := hsz
        have hdl : decide (255 < v.size) = false := decide_eq_false hlong
        have HDL : Hid (_ = _) := hdl
        have hw1 : IntKind.i64.wrap ((E.length : Int) + 3) = (E.length : Int) + 3 := by rw [IntKind.wrap_i64]; omega
        have hw2 : IntKind.i64.wrap ((E.length : Int) + 3 + (v.size : Int)) = (E.length : Int) + 3 + (v.size : Int) := by rw [IntKind.wrap_i64]; omega
        clear hfl hsz hdl
        have HNEW : Hid ((layE (R.take (n + 1))).length = E.length + 3 + v.size) := by
          unfold Hid
          have h1 := HLN.out
          rw [HSZ.out] at h1
          rw [HX.out, List.length_append, h1]
          omega
        by_cases hfit : E.length + 3 + v.size ≤ 4077
        · have hgt : decide ((4077 : Int) < (E.length : Int) + 3 + (v.size : Int)) = false := by simp; omega
          have hgt2 : ¬ ((4077 : Int) < (E.length : Int) + 3 + (v.size : Int)) := by omega
          go_region_held (fun w' => w'.cell? ⟨g, 0, none⟩ = some (.int .u8 (f : Int)) ∧ w'.cell? ⟨g, 1, none⟩ = some (.int .u8 (t : Int)) ∧ w'.cell? ⟨g, 2, none⟩ = some (.string v)) (go_keep)
            (first | (go_at_call 16; refine HLEN.out.mono ?_; rintro e w4 ⟨rfl, rfl⟩) | (go_at_call 17; refine (HHD.out _).mono ?_; rintro e w5 ⟨rfl, hb5⟩; have q0 := below_cell (w := W0.drew) hb5 d0; have q1 := below_cell (w := W0.drew) hb5 d1; have q2 := below_cell (w := W0.drew) hb5 d2))
          have HL5 : Hid (LayAt w w5 p g E f t v) := HLA.out.drew.below hb5
          clear hb5 d0 d1 d2 HLA HLEN HHD
          have ha := andNot8 f hf
          have hfz := flag_lt f hf
          go_wp2_with fail
          refine (isLong_any f t v w5).mono ?_
          rintro e w6 ⟨rfl, hb6⟩
          rw [HDL.out]
          have HL6 : Hid (LayAt w w6 p g E f t v) := HL5.out.below hb6
          obtain ⟨e0, e1, e2⟩ := HL6.out.cells
          clear hb6 HL5 q0 q1 q2
          generalize hFF : f &&& 239 = FF at *
          have hF256 : FF < 256 := by omega
          have hwF : IntKind.u64.wrap (FF : Int) = (FF : Int) := by rw [IntKind.wrap_u64]; omega
          clear hFF hfz
          go_wp2_with fail
          refine (put47 FF 1 w6 (by omega) (by omega) (by omega)).mono ?_
          rintro e w7 ⟨rfl, hb7⟩
          have HL7 : Hid (LayAt w w7 p g E f t v) := HL6.out.below hb7
          clear hb7 HL6 e0 e1 e2  ha hwF
          have hl1 := laid_length FF 1
          go_wp2_with fail
          refine (write_at HL7.out (laid FF 1) (by omega)).mono ?_
          rintro e w8 ⟨rfl, hl8⟩
          have HL8 : Hid (LayAt w w8 p g _ f t v) := hl8
          obtain ⟨e0, e1, e2⟩ := hl8.cells
          clear hl8 HL7 hl1
          have hwT : IntKind.u64.wrap (t : Int) = (t : Int) := by rw [IntKind.wrap_u64]; omega
          go_wp2_with fail
          refine (put47 t 1 w8 (by omega) (by omega) (by omega)).mono ?_
          rintro e w9 ⟨rfl, hb9⟩
          have HL9 : Hid (LayAt w w9 p g _ f t v) := HL8.out.below hb9
          clear hb9 HL8 e0 e1 e2 hwT
          have hl1 := laid_length FF 1
          have hl2 := laid_length t 1
          go_wp2_with fail
          refine (write_at HL9.out (laid t 1) (by rw [List.length_append]; omega)).mono ?_
          rintro e w10 ⟨rfl, hl10⟩
          have HL10 : Hid (LayAt w w10 p g _ f t v) := hl10
          obtain ⟨e0, e1, e2⟩ := hl10.cells
          clear hl10 HL9 hl1 hl2
          have hwS : IntKind.u64.wrap (v.size : Int) = (v.size : Int) := by rw [IntKind.wrap_u64]; omega
          go_wp2_with fail
          refine (put47 v.size 1 w10 (by omega) (by omega) (by omega)).mono ?_
          rintro e w11 ⟨rfl, hb11⟩
          have HL11 : Hid (LayAt w w11 p g _ f t v) := HL10.out.below hb11
          clear hb11 HL10 e0 e1 e2 hwS
          have hl1 := laid_length FF 1
          have hl2 := laid_length t 1
          have hl3 := laid_length v.size 1
          go_wp2_with fail
          refine (write_at HL11.out (laid v.size 1) (by rw [List.length_append, List.length_append]; omega)).mono ?_
          rintro e w12 ⟨rfl, hl12⟩
          have HL12 : Hid (LayAt w w12 p g _ f t v) := hl12
          obtain ⟨e0, e1, e2⟩ := hl12.cells
          clear hl12 HL11
          have HVV : Hid (v.data.toList.length = v.size) := Array.length_toList
          have HWR : Hid (Calls Tryz.prog 19 #[.pointer (some ⟨p, 0, none⟩), .string v] w12 fun e W' => e = .returned (.tuple #[.int .i64 v.size, .nilIface]) ∧ LayAt w W' p g (E ++ laid FF 1 ++ laid t 1 ++ laid v.size 1 ++ v.data.toList) f t v) := by
            have hx := write_at HL12.out v.data.toList (by have := HVV.out; rw [List.length_append, List.length_append, List.length_append]; omega)
            rw [data_back] at hx
            exact hx
          clear hl1 hl2 hl3
          go_wp2_with fail
          refine HWR.out.mono ?_
          rintro e w13 ⟨rfl, hl13⟩
          have HL13 : Hid (LayAt w w13 p g _ f t v) := hl13
          have HE : Hid (layE (R.take (n + 1)) = E ++ laid FF 1 ++ laid t 1 ++ laid v.size 1 ++ v.data.toList) := by
            unfold Hid
            rw [HX.out]
            unfold rawE
            rw [HFL.out, HSZ.out]
            simp only [List.append_assoc]
          clear hl13 HL12 e0 e1 e2 HWR
          go_wp2
          go_roundw
          case rel => exact ⟨n + 1, by omega, by go_num, by rw [HE.out]; exact HL13.out.bld, HL13.out.bel, by rw [HNEW.out]; exact hfit⟩
          case measure => simp [intOf]; omega
        · have hgt : decide ((4077 : Int) < (E.length : Int) + 3 + (v.size : Int)) = true := by simp; omega
          have hgt2 : (4077 : Int) < (E.length : Int) + 3 + (v.size : Int) := by omega
          go_region_held (fun w' => w'.cell? ⟨g, 0, none⟩ = some (.int .u8 (f : Int)) ∧ w'.cell? ⟨g, 1, none⟩ = some (.int .u8 (t : Int)) ∧ w'.cell? ⟨g, 2, none⟩ = some (.string v)) (go_keep)
            (first | (go_at_call 16; refine HLEN.out.mono ?_; rintro e w4 ⟨rfl, rfl⟩) | (go_at_call 17; refine (HHD.out _).mono ?_; rintro e w5 ⟨rfl, hb5⟩; have q0 := below_cell (w := W0.drew) hb5 d0; have q1 := below_cell (w := W0.drew) hb5 d1; have q2 := below_cell (w := W0.drew) hb5 d2))
          have HL5 : Hid (LayAt w w5 p g E f t v) := HLA.out.drew.below hb5
          have HBAD : Hid (layAns R = _) := HTOT.out (by rw [HNEW.out]; exact hfit)
          clear hb5 d0 d1 d2 HLA HLEN HHD q0 q1 q2
          go_wp2
          go_ret2
          exact ⟨by rw [HBAD.out]; rfl, by rw [HPS.out]; exact HL5.out.bel⟩
    · obtain rfl : n = R.length := by omega
      have HE : Hid (layE (R.take R.length) = layE R) := by unfold Hid; rw [List.take_length]
      rw [HE.out] at HBD hle
      have HAN : Hid (layAns R = .tuple #[.string ⟨(layE R).toArray⟩, .int .i64 0]) := by unfold Hid layAns; rw [if_pos hle]
      clear hle HE
      go_wp2_with fail
      refine (Tryz.Builder_String_any_k p p _ wr HBD.out hpz).mono ?_
      rintro e w2 ⟨rfl, _, hb2, _⟩
      have HB2 : Hid (Below p w w2) := HB.out.trans hb2
      clear hb2
      go_wp2
      go_ret2
      exact ⟨by rw [HAN.out]; rfl, by rw [hp]; exact HB2.out⟩
end Go.Proofs.YtpahnebhcfpplabGreatDoor
