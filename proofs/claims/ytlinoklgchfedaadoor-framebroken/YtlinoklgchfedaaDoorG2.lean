/-
  FrameBroken: the walk.
-/
import Derived.Test.YtlinoklgchfedaaDoorG1
namespace Go.Proofs.YtlinoklgchfedaaDoor
open Go.RowKit
set_option maxRecDepth 100000 in
set_option maxHeartbeats 6400000 in
theorem broken_walk (v : Value) (L : List Tl) (x0 x1 : Nat) (more : ByteArray) (w : World) (hT : SzAt w) (hL : TlsAt w v L) (hok : ∀ t ∈ L, TlOk t) (hx0 : x0 < 256) (hx1 : x1 < 256) (hmore : more.size ≤ maxLen) : Calls Tryd.prog 6 #[v, .agg #[.int .u8 (x0 : Int), .int .u8 (x1 : Int)], .string more] w fun e w' => e = .returned (.bool true) ∧ Below w.heap.size w w' := by
  have hb0 : Below w.heap.size w (w.alloc (.cells #[.int .u8 (x0 : Int), .int .u8 (x1 : Int)] 47)) := (Below.refl _ _).alloc (Nat.le_refl _) _
  have hL0 : TlsAt (w.alloc (.cells #[.int .u8 (x0 : Int), .int .u8 (x1 : Int)] 47)) v L := by
    obtain ⟨ad, b, off, cap, h1, h2, h3, h4⟩ := hL
    refine ⟨ad, b, off, cap, h1, h2, h3, fun j hj => ?_⟩
    have k := h4 j hj
    have hlt : b < w.heap.size := lt_of_cell k.1
    exact ⟨(hb0.cell (p := ⟨b, off + j * 3, none⟩) hlt).trans k.1, (hb0.cell (p := ⟨b, off + j * 3 + 1, none⟩) hlt).trans k.2.1, (hb0.cell (p := ⟨b, off + j * 3 + 2, none⟩) hlt).trans k.2.2⟩
  have KST : Hid (_ : Prop) := stream_any v L _ (hT.below hb0) hL0 hok
  have hok2 : ∀ t ∈ L.take 20, TlOk t := fun t ht => hok t (List.mem_of_mem_take ht)
  have hat : x0 % 19 < 19 := Nat.mod_lt _ (by decide)
  have HRN : Hid (runI st0 (msgs (L.take 20) ++ kbI (x0 % 19) x1) = ((runI st0 (kbI (x0 % 19) x1)).1, (L.take 20).map ofI ++ (runI st0 (kbI (x0 % 19) x1)).2)) := run_msgs (L.take 20) hok2 _
  have hml := msgs_len (L.take 20) hok2
  have hfl : ((L.take 20).map ofI).length ≤ 20 := by rw [List.length_map, List.length_take]; omega
  have hml2 : (msgs (L.take 20)).length ≤ 10000 := by rw [List.length_take] at hml; omega
  have happ := app_bytes (msgs (L.take 20)) (kbI (x0 % 19) x1)
  have hkl := kb_len (x0 % 19) x1
  have hsl : (msgs (L.take 20) ++ kbI (x0 % 19) x1).length ≤ 1000000 := by rw [List.length_append, hkl]; omega
  have hs1 : (⟨(msgs (L.take 20)).toArray⟩ : ByteArray).size ≤ 10000 := by rw [list_size]; exact hml2
  have hs2 : (⟨(kbI (x0 % 19) x1).toArray⟩ : ByteArray).size = 19 := by rw [list_size]; exact hkl
  have HZ : Hid (SzAt w) := hT
  have HW0 : Hid (0 < w.heap.size) := hT.lt
  have hrx : (w.alloc (.cells #[.int .u8 (x0 : Int), .int .u8 (x1 : Int)] 47)).heap[w.heap.size]? = some (.cells #[.int .u8 (x0 : Int), .int .u8 (x1 : Int)] 47 (0, 0)) := hp_new rfl
  have HRX0 : Hid ((w.alloc (.cells #[.int .u8 (x0 : Int), .int .u8 (x1 : Int)] 47)).heap[w.heap.size]? = some (.cells #[.int .u8 (x0 : Int), .int .u8 (x1 : Int)] 47 (0, 0))) := hrx
  have HB0 : Hid (Below w.heap.size w (w.alloc (.cells #[.int .u8 (x0 : Int), .int .u8 (x1 : Int)] 47))) := hb0
  have hmd : (x0 : Int) % 19 = ((x0 % 19 : Nat) : Int) := by omega
  have hx0' : (x0 : Int) < 256 := by omega
  have hx1' : (x1 : Int) < 256 := by omega
  have hxor := xor_kb (x0 % 19) x1 hx1
  have HKC : Hid (∀ (W : World) (g c : Nat), W.heap[g]? = some (.cells (kpC.setIfInBounds (x0 % 19) (.int .u8 ((keepL.getD (x0 % 19) 0 ^^^ UInt8.ofNat x1).toNat : Int))) 5 (19, 20)) → (convert 43 9 (.slice (some ⟨g, 0, none⟩) 19 c)).run Tryd.prog W = .ok (.string ⟨(kbI (x0 % 19) x1).toArray⟩) W) := fun W g c h => conv_kb hat c h
  have HKW : Hid (x1 ≠ 0 → wrongI (kbI (x0 % 19) x1) ≠ 0 ∧ (x0 % 19 < 16 → wrongI (kbI (x0 % 19) x1) = 1)) := fun h => kb_wrong _ _ hat hx1 h
  have HKR : Hid (x1 ≠ 0 → runI st0 (kbI (x0 % 19) x1) = (⟨[], wrongI (kbI (x0 % 19) x1)⟩, [])) := fun h => run_kb _ _ hat hx1 h
  have HKZ : Hid (x1 = 0 → runI st0 (kbI (x0 % 19) x1) = (st0, [⟨4, []⟩])) := fun h => by rw [h, kb_zero _ hat]; exact run_keep
  have HKA : Hid (∀ v, kpC[x0 % 19]? = some v ↔ kpC[x0 % 19]? = some v) := fun _ => Iff.rfl
  have hka := kpC_at (x0 % 19) hat
  unfold maxLen at hmore
  have hmin : min (more.size : Int) 300 = ((min more.size 300 : Nat) : Int) := by omega
  have hm1 : min more.size 300 ≤ more.size := by omega
  have hex : more.extract 0 (min more.size 300) = ⟨(more.data.toList.take (min more.size 300)).toArray⟩ := ext_take more.data.toList _
  have hmc : (more.data.toList.take (min more.size 300)).length ≤ 1000000 := by rw [List.length_take]; omega
  have hm1' : ((min more.size 300 : Nat) : Int) ≤ more.size := by omega
  generalize min more.size 300 = mm at *
  generalize more.data.toList.take mm = mk at *
  generalize (L.take 20).map ofI = FR at *
  generalize msgs (L.take 20) = MS at *
  generalize MS ++ kbI (x0 % 19) x1 = ALL at *
  generalize kbI (x0 % 19) x1 = KB at *
  generalize (keepL.getD (x0 % 19) 0 ^^^ UInt8.ofNat x1).toNat = nw at *
  generalize (keepL.getD (x0 % 19) 0).toNat = od at *
  generalize x0 % 19 = at0 at *
  clear hT hL hL0 hok hok2 hml hb0 hrx HKA hkl
  go_enter Tryd.func6, Tryd.ntmps6
  go_wp2_with fail
  generalize w.alloc (.cells #[.int .u8 (x0 : Int), .int .u8 (x1 : Int)] 47) = w0 at *
  refine Calls.mono KST.out ?_
  rintro e w1 ⟨adw, cpw, rfl, how, hb1⟩
  have HOW : Hid (OwnF w1 w0.heap.size (.slice adw FR.length cpw) FR) := how
  have HB1 : Hid (Below w.heap.size w w1) := HB0.out.trans (hb1.mono HB0.out.size)
  have HRX1 : Hid (w1.heap[w.heap.size]? = some (.cells #[.int .u8 (x0 : Int), .int .u8 (x1 : Int)] 47 (0, 0))) := (hb1.block _ (Array.getElem?_eq_some_iff.mp HRX0.out).1).trans HRX0.out
  have HXL0 : Hid (w.heap.size < w1.heap.size) := (Array.getElem?_eq_some_iff.mp HRX1.out).1
  clear how hb1 KST HRX0
  go_wp2_with fail
  refine (new_any w1).mono ?_
  rintro e W ⟨p, b, rfl, hf1, hb2, hp, hb⟩
  have HF1 : Hid (FrAt W p b st0) := hf1
  have HB2 : Hid (Below w1.heap.size w1 W) := hb2
  have HPB : Hid (w1.heap.size ≤ p ∧ w1.heap.size ≤ b) := ⟨hp, hb⟩
  have HPL : Hid (p < W.heap.size ∧ b < W.heap.size) := ⟨hf1.ltp, hf1.buf.lt⟩
  have HBW : Hid (Below w.heap.size w W) := HB1.out.trans (hb2.mono HB1.out.size)
  have HRX2 : Hid (W.heap[w.heap.size]? = some (.cells #[.int .u8 (x0 : Int), .int .u8 (x1 : Int)] 47 (0, 0))) := (hb2.block _ (Array.getElem?_eq_some_iff.mp HRX1.out).1).trans HRX1.out
  have c0 : W.cell? ⟨w.heap.size, 0, none⟩ = some (.int .u8 (x0 : Int)) := cl_row HRX2.out rfl
  clear hf1 hb2 hp hb HRX1
  have hcs : (convert 43 43 (.slice (some ⟨W.heap.size, 0, none⟩) 19 19)).run Tryd.prog (W.alloc (.cells kpC 5)) = .ok (.slice (some ⟨W.heap.size, 0, none⟩) 19 19) (W.alloc (.cells kpC 5 (19, 20))) := Lib.run_convert_bytes_const W 43 5 kpC 19 19 Tryd.underlying43 Tryd.underlying5
  unfold kpC at hcs
  have hKr : (W.alloc (.cells kpC 5 (19, 20))).heap[W.heap.size]? = some (.cells kpC 5 (19, 20)) := hp_new rfl
  have HKr : Hid ((W.alloc (.cells kpC 5 (19, 20))).heap[W.heap.size]? = some (.cells kpC 5 (19, 20))) := hKr
  have HKb : Hid (Below W.heap.size W (W.alloc (.cells kpC 5 (19, 20)))) := (Below.refl _ _).alloc (Nat.le_refl _) _
  have HKs : Hid ((W.alloc (.cells kpC 5 (19, 20))).heap.size = W.heap.size + 1) := by unfold Hid; simp
  clear hKr
  go_wp2
  change Code.wp _ _ _ _ (W.alloc (.cells kpC 5 (19, 20)))
  generalize W.alloc (.cells kpC 5 (19, 20)) = V at *
  have HRX3 : Hid (V.heap[w.heap.size]? = some (.cells #[.int .u8 (x0 : Int), .int .u8 (x1 : Int)] 47 (0, 0))) := (HKb.out.block _ (Array.getElem?_eq_some_iff.mp HRX2.out).1).trans HRX2.out
  have q1 : V.cell? ⟨w.heap.size, 1, none⟩ = some (.int .u8 (x1 : Int)) := cl_row HRX3.out rfl
  have qa : V.cell? ⟨W.heap.size, at0, none⟩ = some (.int .u8 (od : Int)) := cl_mark HKr.out hka
  have fa : V.frozen? ⟨W.heap.size, at0, none⟩ = false := by simp [World.frozen?, HKr.out]; omega
  clear hcs c0 hka
  have hat' : (at0 : Int) < 19 := by omega
  go_region
  have HG2 : Hid ((V.setCell ⟨W.heap.size, at0, none⟩ (.int .u8 (nw : Int))).drew.heap[W.heap.size]? = some (.cells (kpC.setIfInBounds at0 (.int .u8 (nw : Int))) 5 (19, 20))) := set_mark V W.heap.size at0 kpC 5 (19, 20) _ HKr.out
  have HBV : Hid (Below W.heap.size W (V.setCell ⟨W.heap.size, at0, none⟩ (.int .u8 (nw : Int))).drew) := below_drewN (HKb.out.setCell (p := ⟨W.heap.size, at0, none⟩) (Nat.le_refl _) _) 1
  generalize (V.setCell ⟨W.heap.size, at0, none⟩ (.int .u8 (nw : Int))).drew = U at *
  have hcv := HKC.out U W.heap.size 19 HG2.out
  have HFU : Hid (FrAt U p b st0) := HF1.out.below HBV.out HPL.out.1 HPL.out.2
  have HRXU : Hid (U.heap[w.heap.size]? = some (.cells #[.int .u8 (x0 : Int), .int .u8 (x1 : Int)] 47 (0, 0))) := (HBV.out.block _ (Array.getElem?_eq_some_iff.mp HRX2.out).1).trans HRX2.out
  have HSU : Hid (Beside p b W U) := Beside.of_below HBV.out (Nat.le_refl _)
  have HZU : Hid (SzAt U) := (HZ.out.below HBW.out).beside HSU.out (by have := HW0.out; have := HPB.out; have := HB1.out.size; omega) (by have := HW0.out; have := HPB.out; have := HB1.out.size; omega)
  have HXL : Hid (w.heap.size < w1.heap.size) := HXL0.out
  clear qa fa q1 HKr HKb HG2 HRX3 HRX2
  by_cases h1 : x1 = 0
  · have HR1 : Hid (runI st0 ALL = (st0, FR ++ [⟨4, []⟩])) := by unfold Hid; rw [HRN.out, HKZ.out h1]
    go_wp2_with fail
    refine (put_fine p b st0 st0 ALL (FR ++ [⟨4, []⟩]) U HFU.out HZU.out (by have := HW0.out; have := HPB.out; have := HB1.out.size; omega) (by have := HW0.out; have := HPB.out; have := HB1.out.size; omega) hsl HR1.out rfl).mono ?_
    rintro e w3 ⟨ad3, cp3, rfl, _, _, hbs3⟩
    have hba3 : Below w3.heap.size w3 (w3.alloc (.cells #[.int .i64 0, .int .u8 0, .int .u8 0] 27)) := (Below.refl _ _).alloc (Nat.le_refl _) _
    have HB3 : Hid (Beside p b W (w3.alloc (.cells #[.int .i64 0, .int .u8 0, .int .u8 0] 27))) := (HSU.out.trans hbs3).then hba3
    have HRX3 : Hid ((w3.alloc (.cells #[.int .i64 0, .int .u8 0, .int .u8 0] 27)).heap[w.heap.size]? = some (.cells #[.int .u8 (x0 : Int), .int .u8 (x1 : Int)] 47 (0, 0))) := hp_up ((hbs3.block _ (Array.getElem?_eq_some_iff.mp HRXU.out).1 (by have := HXL.out; have := HPB.out; omega) (by have := HXL.out; have := HPB.out; omega)).trans HRXU.out)
    have HV3 : Hid ((w3.alloc (.cells #[.int .i64 0, .int .u8 0, .int .u8 0] 27)).heap[w3.heap.size]? = some (.cells #[.int .i64 0, .int .u8 0, .int .u8 0] 27 (0, 0))) := hp_new rfl
    have q1 : (w3.alloc (.cells #[.int .i64 0, .int .u8 0, .int .u8 0] 27)).cell? ⟨w.heap.size, 1, none⟩ = some (.int .u8 0) := by have k := cl_row (i := 1) HRX3.out rfl; rw [h1] at k; exact k
    have a0 : (w3.alloc (.cells #[.int .i64 0, .int .u8 0, .int .u8 0] 27)).cell? ⟨w3.heap.size, 0, none⟩ = some (.int .i64 0) := cl_row HV3.out rfl
    have a1 : (w3.alloc (.cells #[.int .i64 0, .int .u8 0, .int .u8 0] 27)).cell? ⟨w3.heap.size, 1, none⟩ = some (.int .u8 0) := cl_row HV3.out rfl
    have a2 : (w3.alloc (.cells #[.int .i64 0, .int .u8 0, .int .u8 0] 27)).cell? ⟨w3.heap.size, 2, none⟩ = some (.int .u8 0) := cl_row HV3.out rfl
    have HB9 : Hid (Below w.heap.size w (w3.alloc (.cells #[.int .i64 0, .int .u8 0, .int .u8 0] 27))) := HBW.out.trans (HB3.out.below (by have := HPB.out; have := HB1.out.size; omega) (by have := HPB.out; have := HB1.out.size; omega) HBW.out.size)
    have hle : (FR ++ [(⟨4, []⟩ : Fm)]).length = FR.length + 1 := by simp
    rw [hle]
    clear hba3 hbs3
    go_wp2_with fail
    refine (works_any _ (HZ.out.below HB9.out)).mono ?_
    rintro e w10 ⟨rfl, hb10⟩
    go_wp2
    go_ret
    exact ⟨rfl, HB9.out.trans (hb10.mono HB9.out.size)⟩
  · obtain ⟨m, hm⟩ : ∃ m, m = wrongI KB := ⟨_, rfl⟩
    have HR1 : Hid (runI st0 ALL = (⟨[], m⟩, FR)) := by unfold Hid; rw [HRN.out, HKR.out h1, hm]; simp
    have HM0 : Hid (m ≠ 0) := by unfold Hid; rw [hm]; exact (HKW.out h1).1
    have HM1 : Hid (at0 < 16 → m = 1) := by unfold Hid; rw [hm]; exact (HKW.out h1).2
    have h1' : ((x1 : Int) == 0) = false := by rw [beq_eq_false_iff_ne]; omega
    clear hm h1
    go_wp2_with fail
    refine (put_wrong p b st0 ⟨[], m⟩ ALL FR U HFU.out HZU.out (by have := HW0.out; have := HPB.out; have := HB1.out.size; omega) (by have := HW0.out; have := HPB.out; have := HB1.out.size; omega) hsl HR1.out HM0.out).mono ?_
    rintro e w3 ⟨ad3, cp3, rfl, ho3, hf3, hbs3⟩
    have hba3 : Below w3.heap.size w3 (w3.alloc (.cells #[.int .i64 3, .int .u8 1, .int .u8 (m : Int)] 27)) := (Below.refl _ _).alloc (Nat.le_refl _) _
    have HB3 : Hid (Beside p b W (w3.alloc (.cells #[.int .i64 3, .int .u8 1, .int .u8 (m : Int)] 27))) := (HSU.out.trans hbs3).then hba3
    have HF3 : Hid (FrAt (w3.alloc (.cells #[.int .i64 3, .int .u8 1, .int .u8 (m : Int)] 27)) p b ⟨[], m⟩) := hf3.below hba3 hf3.ltp hf3.buf.lt
    have HL3 : Hid (p < w3.heap.size ∧ b < w3.heap.size) := ⟨hf3.ltp, hf3.buf.lt⟩
    have HRX3 : Hid ((w3.alloc (.cells #[.int .i64 3, .int .u8 1, .int .u8 (m : Int)] 27)).heap[w.heap.size]? = some (.cells #[.int .u8 (x0 : Int), .int .u8 (x1 : Int)] 47 (0, 0))) := hp_up ((hbs3.block _ (Array.getElem?_eq_some_iff.mp HRXU.out).1 (by have := HXL.out; have := HPB.out; omega) (by have := HXL.out; have := HPB.out; omega)).trans HRXU.out)
    have HV3 : Hid ((w3.alloc (.cells #[.int .i64 3, .int .u8 1, .int .u8 (m : Int)] 27)).heap[w3.heap.size]? = some (.cells #[.int .i64 3, .int .u8 1, .int .u8 (m : Int)] 27 (0, 0))) := hp_new rfl
    have q1 : (w3.alloc (.cells #[.int .i64 3, .int .u8 1, .int .u8 (m : Int)] 27)).cell? ⟨w.heap.size, 1, none⟩ = some (.int .u8 (x1 : Int)) := cl_row HRX3.out rfl
    have HO3 : Hid (FmsAt (w3.alloc (.cells #[.int .i64 3, .int .u8 1, .int .u8 (m : Int)] 27)) (.slice ad3 FR.length cp3) FR) := OwnF.at (owns_below ho3 hba3)
    have HOW3 : Hid (FmsAt (w3.alloc (.cells #[.int .i64 3, .int .u8 1, .int .u8 (m : Int)] 27)) (.slice adw FR.length cpw) FR) := OwnF.at (owns_heap' HOW.out fun g hg => by
      have hg2 := (owns_lt HOW.out g hg).2
      have h1 := HPB.out
      have h2 := HB2.out.size
      exact (HB3.out.block g (by omega) (by omega) (by omega)).trans (HB2.out.block g hg2))
    clear hba3 hbs3 ho3 hf3 HFU HRXU HSU HZU hcv
    obtain ⟨ada, ba, offa, capa, hva, hada, _, hra⟩ := HO3.out
    obtain ⟨adb, bb, offb, capb, hvb, hadb, _, hrb⟩ := HOW3.out
    simp only [Value.slice.injEq] at hva hvb
    obtain ⟨rfl, _, rfl⟩ := hva
    obtain ⟨rfl, _, rfl⟩ := hvb
    have HRA : Hid (RowF _ _ _ _) := hra
    have HRB : Hid (RowF _ _ _ _) := hrb
    have HADA : Hid (_ ∨ _) := hada
    have HADB : Hid (_ ∨ _) := hadb
    clear hra hrb hada hadb HO3 HOW3
    go_wp2
    generalize w3.alloc (.cells #[.int .i64 3, .int .u8 1, .int .u8 (m : Int)] 27) = V3 at *
    go_loopw [15] (fun i wz => ∃ n : Nat, n ≤ FR.length ∧ i = .int .i64 n ∧ ∃ q, wz = V3.drewN q) (fun i _ => FR.length - (intOf i).toNat)
    case atStart => exact ⟨0, Nat.zero_le _, rfl, 0, rfl⟩
    case round =>
      obtain ⟨n, hn, rfl, q, hq⟩ := hrel
      have HQ : Hid (wr = V3.drewN q) := hq
      clear hq
      by_cases hlt : n < FR.length
      · obtain rfl : ad3 = some ⟨ba, offa, none⟩ := by rcases HADA.out with h | h; exact h; omega
        obtain rfl : adw = some ⟨bb, offb, none⟩ := by rcases HADB.out with h | h; exact h; omega
        have hcell : ∀ a, wr.cell? a = V3.cell? a := fun a => by rw [HQ.out]; rfl
        have c := HRA.out n hlt
        have d := HRB.out n hlt
        generalize FR[n].k = kk at *
        generalize (⟨FR[n].b.toArray⟩ : ByteArray) = bb2 at *
        have c0 : wr.cell? ⟨ba, offa + n * 2, none⟩ = some (.int .i64 (kk : Int)) := (hcell _).trans c.1
        have c1 : wr.cell? ⟨ba, offa + n * 2 + 1, none⟩ = some (.string bb2) := (hcell _).trans c.2
        have d0 : wr.cell? ⟨bb, offb + n * 2, none⟩ = some (.int .i64 (kk : Int)) := (hcell _).trans d.1
        have d1 : wr.cell? ⟨bb, offb + n * 2 + 1, none⟩ = some (.string bb2) := (hcell _).trans d.2
        have HLN : Hid (n + 1 ≤ FR.length) := hlt
        clear c d hcell
        have hlt2 : (n : Int) < FR.length := by omega
        go_wp2
        go_quiet (fail)
        go_wp2
        exact ⟨⟨n + 1, HLN.out, by simp, q + nq, by rw [HQ.out]; simp [World.drewN, Nat.add_assoc]⟩, by simp [intOf]; omega⟩
      · obtain rfl : n = FR.length := by omega
        by_cases h16 : at0 < 16
        · obtain rfl : m = 1 := HM1.out h16
          have h16' : (at0 : Int) < 16 := by omega
          have HBr : Hid (Beside p b W wr) := by unfold Hid; rw [HQ.out]; exact HB3.out.then (below_drewN (Below.refl _ _) q)
          have HFr : Hid (FrAt wr p b ⟨[], 1⟩) := by unfold Hid; rw [HQ.out]; exact ⟨HF3.out.row, ⟨HF3.out.buf.row⟩, HF3.out.ne, HF3.out.ok⟩
          have HVr : Hid (wr.heap[w3.heap.size]? = some (.cells #[.int .i64 3, .int .u8 1, .int .u8 1] 27 (0, 0))) := by unfold Hid; rw [HQ.out]; exact HV3.out
          have a0 : wr.cell? ⟨w3.heap.size, 0, none⟩ = some (.int .i64 3) := cl_row HVr.out rfl
          have a1 : wr.cell? ⟨w3.heap.size, 1, none⟩ = some (.int .u8 1) := cl_row HVr.out rfl
          have a2 : wr.cell? ⟨w3.heap.size, 2, none⟩ = some (.int .u8 1) := cl_row HVr.out rfl
          have hwrs : w3.heap.size < wr.heap.size := (Array.getElem?_eq_some_iff.mp HVr.out).1
          go_wp2_with fail
          refine (copy_broken p 1 wr (HFr.out.bk HM0.out)).mono ?_
          rintro e w4 ⟨p', b', rfl, hbk4, hb4, hp4⟩
          have HF4 : Hid (FrAt w4 p b ⟨[], 1⟩) := HFr.out.below hb4 HFr.out.ltp HFr.out.buf.lt
          have HB4 : Hid (Beside p b W w4) := HBr.out.then hb4
          have HK4 : Hid (BkAt w4 p' (some ⟨b', 0, none⟩) 4096 1) := hbk4
          have HP4 : Hid (p < p' ∧ b < p') := ⟨Nat.lt_of_lt_of_le HFr.out.ltp hp4, Nat.lt_of_lt_of_le HFr.out.buf.lt hp4⟩
          have HV4 : Hid (w4.heap[w3.heap.size]? = some (.cells #[.int .i64 3, .int .u8 1, .int .u8 1] 27 (0, 0))) := (hb4.block _ hwrs).trans HVr.out
          clear hbk4 hb4 hp4 HBr HFr HVr a0 a1 a2 HQ hwrs
          go_wp2_with fail
          have HZ4 : Hid (SzAt w4) := (HZ.out.below HBW.out).beside HB4.out (by have := HW0.out; have := HPB.out; have := HB1.out.size; omega) (by have := HW0.out; have := HPB.out; have := HB1.out.size; omega)
          refine (put_wrong p b ⟨[], 1⟩ ⟨[], 1⟩ mk [] w4 HF4.out HZ4.out (by have := HW0.out; have := HPB.out; have := HB1.out.size; omega) (by have := HW0.out; have := HPB.out; have := HB1.out.size; omega) hmc (run_broken mk ⟨[], 1⟩ HM0.out) HM0.out).mono ?_
          rintro e w5 ⟨ad5, cp5, rfl, _, hf5, hbs5⟩
          have hba5 : Below w5.heap.size w5 (w5.alloc (.cells #[.int .i64 3, .int .u8 1, .int .u8 1] 27)) := (Below.refl _ _).alloc (Nat.le_refl _) _
          have HF5 : Hid (FrAt (w5.alloc (.cells #[.int .i64 3, .int .u8 1, .int .u8 1] 27)) p b ⟨[], 1⟩) := hf5.below hba5 hf5.ltp hf5.buf.lt
          have HB5 : Hid (Beside p b W (w5.alloc (.cells #[.int .i64 3, .int .u8 1, .int .u8 1] 27))) := (HB4.out.trans hbs5).then hba5
          have hp'4 : p' < w4.heap.size := (Array.getElem?_eq_some_iff.mp HK4.out.row).1
          have hv4 : w3.heap.size < w4.heap.size := (Array.getElem?_eq_some_iff.mp HV4.out).1
          have HK5 : Hid (BkAt (w5.alloc (.cells #[.int .i64 3, .int .u8 1, .int .u8 1] 27)) p' (some ⟨b', 0, none⟩) 4096 1) := ⟨hp_up ((hbs5.block p' hp'4 (by have := HP4.out; omega) (by have := HP4.out; omega)).trans HK4.out.row)⟩
          have HV5 : Hid ((w5.alloc (.cells #[.int .i64 3, .int .u8 1, .int .u8 1] 27)).heap[w3.heap.size]? = some (.cells #[.int .i64 3, .int .u8 1, .int .u8 1] 27 (0, 0))) := hp_up ((hbs5.block _ hv4 (by have := HL3.out; omega) (by have := HL3.out; omega)).trans HV4.out)
          have HW5 : Hid ((w5.alloc (.cells #[.int .i64 3, .int .u8 1, .int .u8 1] 27)).heap[w5.heap.size]? = some (.cells #[.int .i64 3, .int .u8 1, .int .u8 1] 27 (0, 0))) := hp_new rfl
          clear hf5 hbs5 hba5 hp'4 hv4 HF4 HB4 HK4 HV4 HZ4
          simp only [List.length_nil]
          go_wp2_with fail
          generalize w5.alloc (.cells #[.int .i64 3, .int .u8 1, .int .u8 1] 27) = V5 at *
          refine (put_broken p' 1 4096 (some ⟨b', 0, none⟩) ⟨keepL.toArray⟩ V5 HK5.out).mono ?_
          rintro e w6 ⟨rfl, hb6⟩
          have hba6 : Below w6.heap.size w6 (w6.alloc (.cells #[.int .i64 3, .int .u8 1, .int .u8 1] 27)) := (Below.refl _ _).alloc (Nat.le_refl _) _
          have HF6 : Hid (FrAt (w6.alloc (.cells #[.int .i64 3, .int .u8 1, .int .u8 1] 27)) p b ⟨[], 1⟩) := (HF5.out.below hb6 HF5.out.ltp HF5.out.buf.lt).below hba6 (Nat.lt_of_lt_of_le HF5.out.ltp hb6.size) (Nat.lt_of_lt_of_le HF5.out.buf.lt hb6.size)
          have HB6 : Hid (Beside p b W (w6.alloc (.cells #[.int .i64 3, .int .u8 1, .int .u8 1] 27))) := (HB5.out.then hb6).then hba6
          have HV6 : Hid ((w6.alloc (.cells #[.int .i64 3, .int .u8 1, .int .u8 1] 27)).heap[w3.heap.size]? = some (.cells #[.int .i64 3, .int .u8 1, .int .u8 1] 27 (0, 0))) := hp_up ((hb6.block _ (Array.getElem?_eq_some_iff.mp HV5.out).1).trans HV5.out)
          have HW6 : Hid ((w6.alloc (.cells #[.int .i64 3, .int .u8 1, .int .u8 1] 27)).heap[w5.heap.size]? = some (.cells #[.int .i64 3, .int .u8 1, .int .u8 1] 27 (0, 0))) := hp_up ((hb6.block _ (Array.getElem?_eq_some_iff.mp HW5.out).1).trans HW5.out)
          have HX6 : Hid ((w6.alloc (.cells #[.int .i64 3, .int .u8 1, .int .u8 1] 27)).heap[w6.heap.size]? = some (.cells #[.int .i64 3, .int .u8 1, .int .u8 1] 27 (0, 0))) := hp_new rfl
          have y0 : (w6.alloc (.cells #[.int .i64 3, .int .u8 1, .int .u8 1] 27)).cell? ⟨w3.heap.size, 0, none⟩ = some (.int .i64 3) := cl_row HV6.out rfl
          have y1 : (w6.alloc (.cells #[.int .i64 3, .int .u8 1, .int .u8 1] 27)).cell? ⟨w3.heap.size, 1, none⟩ = some (.int .u8 1) := cl_row HV6.out rfl
          have y2 : (w6.alloc (.cells #[.int .i64 3, .int .u8 1, .int .u8 1] 27)).cell? ⟨w3.heap.size, 2, none⟩ = some (.int .u8 1) := cl_row HV6.out rfl
          have y3 : (w6.alloc (.cells #[.int .i64 3, .int .u8 1, .int .u8 1] 27)).cell? ⟨w5.heap.size, 0, none⟩ = some (.int .i64 3) := cl_row HW6.out rfl
          have y4 : (w6.alloc (.cells #[.int .i64 3, .int .u8 1, .int .u8 1] 27)).cell? ⟨w5.heap.size, 1, none⟩ = some (.int .u8 1) := cl_row HW6.out rfl
          have y5 : (w6.alloc (.cells #[.int .i64 3, .int .u8 1, .int .u8 1] 27)).cell? ⟨w5.heap.size, 2, none⟩ = some (.int .u8 1) := cl_row HW6.out rfl
          have y6 : (w6.alloc (.cells #[.int .i64 3, .int .u8 1, .int .u8 1] 27)).cell? ⟨w6.heap.size, 0, none⟩ = some (.int .i64 3) := cl_row HX6.out rfl
          have y7 : (w6.alloc (.cells #[.int .i64 3, .int .u8 1, .int .u8 1] 27)).cell? ⟨w6.heap.size, 1, none⟩ = some (.int .u8 1) := cl_row HX6.out rfl
          have y8 : (w6.alloc (.cells #[.int .i64 3, .int .u8 1, .int .u8 1] 27)).cell? ⟨w6.heap.size, 2, none⟩ = some (.int .u8 1) := cl_row HX6.out rfl
          have KL : Hid (Calls Tryd.prog 12 #[.pointer (some ⟨p, 0, none⟩)] (w6.alloc (.cells #[.int .i64 3, .int .u8 1, .int .u8 1] 27)) fun e w' => e = .returned (.int .i64 0) ∧ w' = w6.alloc (.cells #[.int .i64 3, .int .u8 1, .int .u8 1] 27)) := left_any p b ⟨[], 1⟩ _ HF6.out
          have HB9 : Hid (Below w.heap.size w (w6.alloc (.cells #[.int .i64 3, .int .u8 1, .int .u8 1] 27))) := HBW.out.trans (HB6.out.below (by have := HPB.out; have := HB1.out.size; omega) (by have := HPB.out; have := HB1.out.size; omega) HBW.out.size)
          clear hb6 hba6 HF5 HB5 HK5 HV5 HW5
          go_wp2_with fail
          refine Calls.mono KL.out ?_
          rintro e w9 ⟨rfl, hw9⟩
          subst hw9
          go_wp2_with fail
          refine (works_any _ (HZ.out.below HB9.out)).mono ?_
          rintro e w10 ⟨rfl, hb10⟩
          go_wp2
          go_ret
          exact ⟨rfl, HB9.out.trans (hb10.mono HB9.out.size)⟩
        · have h16' : ¬ ((at0 : Int) < 16) := by omega
          have HBr : Hid (Beside p b W wr) := by unfold Hid; rw [HQ.out]; exact HB3.out.then (below_drewN (Below.refl _ _) q)
          have HFr : Hid (FrAt wr p b ⟨[], m⟩) := by unfold Hid; rw [HQ.out]; exact ⟨HF3.out.row, ⟨HF3.out.buf.row⟩, HF3.out.ne, HF3.out.ok⟩
          have HVr : Hid (wr.heap[w3.heap.size]? = some (.cells #[.int .i64 3, .int .u8 1, .int .u8 (m : Int)] 27 (0, 0))) := by unfold Hid; rw [HQ.out]; exact HV3.out
          have a0 : wr.cell? ⟨w3.heap.size, 0, none⟩ = some (.int .i64 3) := cl_row HVr.out rfl
          have a1 : wr.cell? ⟨w3.heap.size, 1, none⟩ = some (.int .u8 1) := cl_row HVr.out rfl
          have a2 : wr.cell? ⟨w3.heap.size, 2, none⟩ = some (.int .u8 (m : Int)) := cl_row HVr.out rfl
          have hwrs : w3.heap.size < wr.heap.size := (Array.getElem?_eq_some_iff.mp HVr.out).1
          go_wp2_with fail
          refine (copy_broken p m wr (HFr.out.bk HM0.out)).mono ?_
          rintro e w4 ⟨p', b', rfl, hbk4, hb4, hp4⟩
          have HF4 : Hid (FrAt w4 p b ⟨[], m⟩) := HFr.out.below hb4 HFr.out.ltp HFr.out.buf.lt
          have HB4 : Hid (Beside p b W w4) := HBr.out.then hb4
          have HK4 : Hid (BkAt w4 p' (some ⟨b', 0, none⟩) 4096 m) := hbk4
          have HP4 : Hid (p < p' ∧ b < p') := ⟨Nat.lt_of_lt_of_le HFr.out.ltp hp4, Nat.lt_of_lt_of_le HFr.out.buf.lt hp4⟩
          have HV4 : Hid (w4.heap[w3.heap.size]? = some (.cells #[.int .i64 3, .int .u8 1, .int .u8 (m : Int)] 27 (0, 0))) := (hb4.block _ hwrs).trans HVr.out
          clear hbk4 hb4 hp4 HBr HFr HVr a0 a1 a2 HQ hwrs
          go_wp2_with fail
          have HZ4 : Hid (SzAt w4) := (HZ.out.below HBW.out).beside HB4.out (by have := HW0.out; have := HPB.out; have := HB1.out.size; omega) (by have := HW0.out; have := HPB.out; have := HB1.out.size; omega)
          refine (put_wrong p b ⟨[], m⟩ ⟨[], m⟩ mk [] w4 HF4.out HZ4.out (by have := HW0.out; have := HPB.out; have := HB1.out.size; omega) (by have := HW0.out; have := HPB.out; have := HB1.out.size; omega) hmc (run_broken mk ⟨[], m⟩ HM0.out) HM0.out).mono ?_
          rintro e w5 ⟨ad5, cp5, rfl, _, hf5, hbs5⟩
          have hba5 : Below w5.heap.size w5 (w5.alloc (.cells #[.int .i64 3, .int .u8 1, .int .u8 (m : Int)] 27)) := (Below.refl _ _).alloc (Nat.le_refl _) _
          have HF5 : Hid (FrAt (w5.alloc (.cells #[.int .i64 3, .int .u8 1, .int .u8 (m : Int)] 27)) p b ⟨[], m⟩) := hf5.below hba5 hf5.ltp hf5.buf.lt
          have HB5 : Hid (Beside p b W (w5.alloc (.cells #[.int .i64 3, .int .u8 1, .int .u8 (m : Int)] 27))) := (HB4.out.trans hbs5).then hba5
          have hp'4 : p' < w4.heap.size := (Array.getElem?_eq_some_iff.mp HK4.out.row).1
          have hv4 : w3.heap.size < w4.heap.size := (Array.getElem?_eq_some_iff.mp HV4.out).1
          have HK5 : Hid (BkAt (w5.alloc (.cells #[.int .i64 3, .int .u8 1, .int .u8 (m : Int)] 27)) p' (some ⟨b', 0, none⟩) 4096 m) := ⟨hp_up ((hbs5.block p' hp'4 (by have := HP4.out; omega) (by have := HP4.out; omega)).trans HK4.out.row)⟩
          have HV5 : Hid ((w5.alloc (.cells #[.int .i64 3, .int .u8 1, .int .u8 (m : Int)] 27)).heap[w3.heap.size]? = some (.cells #[.int .i64 3, .int .u8 1, .int .u8 (m : Int)] 27 (0, 0))) := hp_up ((hbs5.block _ hv4 (by have := HL3.out; omega) (by have := HL3.out; omega)).trans HV4.out)
          have HW5 : Hid ((w5.alloc (.cells #[.int .i64 3, .int .u8 1, .int .u8 (m : Int)] 27)).heap[w5.heap.size]? = some (.cells #[.int .i64 3, .int .u8 1, .int .u8 (m : Int)] 27 (0, 0))) := hp_new rfl
          clear hf5 hbs5 hba5 hp'4 hv4 HF4 HB4 HK4 HV4 HZ4
          simp only [List.length_nil]
          go_wp2_with fail
          generalize w5.alloc (.cells #[.int .i64 3, .int .u8 1, .int .u8 (m : Int)] 27) = V5 at *
          refine (put_broken p' m 4096 (some ⟨b', 0, none⟩) ⟨keepL.toArray⟩ V5 HK5.out).mono ?_
          rintro e w6 ⟨rfl, hb6⟩
          have hba6 : Below w6.heap.size w6 (w6.alloc (.cells #[.int .i64 3, .int .u8 1, .int .u8 (m : Int)] 27)) := (Below.refl _ _).alloc (Nat.le_refl _) _
          have HF6 : Hid (FrAt (w6.alloc (.cells #[.int .i64 3, .int .u8 1, .int .u8 (m : Int)] 27)) p b ⟨[], m⟩) := (HF5.out.below hb6 HF5.out.ltp HF5.out.buf.lt).below hba6 (Nat.lt_of_lt_of_le HF5.out.ltp hb6.size) (Nat.lt_of_lt_of_le HF5.out.buf.lt hb6.size)
          have HB6 : Hid (Beside p b W (w6.alloc (.cells #[.int .i64 3, .int .u8 1, .int .u8 (m : Int)] 27))) := (HB5.out.then hb6).then hba6
          have HV6 : Hid ((w6.alloc (.cells #[.int .i64 3, .int .u8 1, .int .u8 (m : Int)] 27)).heap[w3.heap.size]? = some (.cells #[.int .i64 3, .int .u8 1, .int .u8 (m : Int)] 27 (0, 0))) := hp_up ((hb6.block _ (Array.getElem?_eq_some_iff.mp HV5.out).1).trans HV5.out)
          have HW6 : Hid ((w6.alloc (.cells #[.int .i64 3, .int .u8 1, .int .u8 (m : Int)] 27)).heap[w5.heap.size]? = some (.cells #[.int .i64 3, .int .u8 1, .int .u8 (m : Int)] 27 (0, 0))) := hp_up ((hb6.block _ (Array.getElem?_eq_some_iff.mp HW5.out).1).trans HW5.out)
          have HX6 : Hid ((w6.alloc (.cells #[.int .i64 3, .int .u8 1, .int .u8 (m : Int)] 27)).heap[w6.heap.size]? = some (.cells #[.int .i64 3, .int .u8 1, .int .u8 (m : Int)] 27 (0, 0))) := hp_new rfl
          have y0 : (w6.alloc (.cells #[.int .i64 3, .int .u8 1, .int .u8 (m : Int)] 27)).cell? ⟨w3.heap.size, 0, none⟩ = some (.int .i64 3) := cl_row HV6.out rfl
          have y1 : (w6.alloc (.cells #[.int .i64 3, .int .u8 1, .int .u8 (m : Int)] 27)).cell? ⟨w3.heap.size, 1, none⟩ = some (.int .u8 1) := cl_row HV6.out rfl
          have y2 : (w6.alloc (.cells #[.int .i64 3, .int .u8 1, .int .u8 (m : Int)] 27)).cell? ⟨w3.heap.size, 2, none⟩ = some (.int .u8 (m : Int)) := cl_row HV6.out rfl
          have y3 : (w6.alloc (.cells #[.int .i64 3, .int .u8 1, .int .u8 (m : Int)] 27)).cell? ⟨w5.heap.size, 0, none⟩ = some (.int .i64 3) := cl_row HW6.out rfl
          have y4 : (w6.alloc (.cells #[.int .i64 3, .int .u8 1, .int .u8 (m : Int)] 27)).cell? ⟨w5.heap.size, 1, none⟩ = some (.int .u8 1) := cl_row HW6.out rfl
          have y5 : (w6.alloc (.cells #[.int .i64 3, .int .u8 1, .int .u8 (m : Int)] 27)).cell? ⟨w5.heap.size, 2, none⟩ = some (.int .u8 (m : Int)) := cl_row HW6.out rfl
          have y6 : (w6.alloc (.cells #[.int .i64 3, .int .u8 1, .int .u8 (m : Int)] 27)).cell? ⟨w6.heap.size, 0, none⟩ = some (.int .i64 3) := cl_row HX6.out rfl
          have y7 : (w6.alloc (.cells #[.int .i64 3, .int .u8 1, .int .u8 (m : Int)] 27)).cell? ⟨w6.heap.size, 1, none⟩ = some (.int .u8 1) := cl_row HX6.out rfl
          have y8 : (w6.alloc (.cells #[.int .i64 3, .int .u8 1, .int .u8 (m : Int)] 27)).cell? ⟨w6.heap.size, 2, none⟩ = some (.int .u8 (m : Int)) := cl_row HX6.out rfl
          have KL : Hid (Calls Tryd.prog 12 #[.pointer (some ⟨p, 0, none⟩)] (w6.alloc (.cells #[.int .i64 3, .int .u8 1, .int .u8 (m : Int)] 27)) fun e w' => e = .returned (.int .i64 0) ∧ w' = w6.alloc (.cells #[.int .i64 3, .int .u8 1, .int .u8 (m : Int)] 27)) := left_any p b ⟨[], m⟩ _ HF6.out
          have HB9 : Hid (Below w.heap.size w (w6.alloc (.cells #[.int .i64 3, .int .u8 1, .int .u8 (m : Int)] 27))) := HBW.out.trans (HB6.out.below (by have := HPB.out; have := HB1.out.size; omega) (by have := HPB.out; have := HB1.out.size; omega) HBW.out.size)
          clear hb6 hba6 HF5 HB5 HK5 HV5 HW5
          go_wp2_with fail
          refine Calls.mono KL.out ?_
          rintro e w9 ⟨rfl, hw9⟩
          subst hw9
          go_wp2_with fail
          refine (works_any _ (HZ.out.below HB9.out)).mono ?_
          rintro e w10 ⟨rfl, hb10⟩
          go_wp2
          go_ret
          exact ⟨rfl, HB9.out.trans (hb10.mono HB9.out.size)⟩
end Go.Proofs.YtlinoklgchfedaaDoor
