/-
  A capability is taken: taker's closure.
-/
import Derived.Test.YtlhnfejgkhilkaaGreatDoorMb
import Derived.Test.YtlhnfejgkhilkaaGreatDoorRa
import Derived.Test.YtlhnfejgkhilkaaGreatDoorR1
import Derived.BigRegion
set_option linter.unusedVariables false
set_option linter.unusedSimpArgs false
namespace Go.Proofs.YtlhnfejgkhilkaaGreatDoor
open Go.RowKit
/-- A capability is put into an open. -/
def stepC (o : Opn) (c : Nat) (v : List UInt8) : Except Nat Opn :=
  if fitB c v.length = false then .error 0
  else if c = 1 then .ok { o with fams := famsI o.fams v }
  else if c = 2 then .ok { o with refr := true }
  else if c = 64 then .ok (entsL stK (v.drop 2) (grO o (worth (v.take 2))))
  else if c = 65 then (if worth v = 0 then .error 2 else .ok { o with asn := (worth v : Int), four := true })
  else if c = 69 then .ok (entsL stA v { o with adds := [] })
  else .ok o
/-- What is left behind a capability that was taken: the verdict's block as it was, the rest kept. -/
theorem tc_end {base p : Nat} {Y W1 w' : World} {o' : Opn} (hz : W1.heap[Y.heap.size]? = some (.cells #[.int .i64 0, .int .u8 0, .int .u8 0] 37 (0, 0))) (hY : Below Y.heap.size Y W1) (hF : Fr base p W1 w') (ho : OAt base w' p o') (hp : p < Y.heap.size) :
    w'.heap[Y.heap.size]? = some (.cells #[.int .i64 0, .int .u8 0, .int .u8 0] 37 (0, 0)) ∧ ∀ C : Array Value, OAt base (w'.setRow Y.heap.size C) p o' ∧ Fr base p Y (w'.setRow Y.heap.size C) := by
  have h1 := hF.keep hz (by omega) (by decide)
  refine ⟨h1, fun C => ?_⟩
  have hbz : Beside Y.heap.size w' (w'.setRow Y.heap.size C) := Beside.setRow h1
  have hFY : Fr base p Y w' := (Fr.of_below hY (Nat.le_refl _)).trans hF
  exact ⟨ho.beside hbz h1 (by decide), hFY.later (hbz.below (Nat.le_refl _) hFY.size)⟩
theorem OAt.plain {base p : Nat} {w W : World} {o o' : Opn} {vf va vk : Value} (hall : w.heap[p]? = some (.cells (opC o vf va vk) 27 (0, 0)) ∧ w.ownsRow base 3 1 vf o.fams.length (intsC o.fams) ∧ w.ownsRow base 52 3 va o.adds.length (addsC o.adds) ∧ w.ownsRow base 40 2 vk o.kept.length (keptC o.kept) ∧ OpOk o)
    (hb : Beside p w W) (h : W.heap[p]? = some (.cells (opC o' vf va vk) 27 (0, 0))) (e1 : o'.fams = o.fams) (e2 : o'.adds = o.adds) (e3 : o'.kept = o.kept) : OAt base W p o' ∧ Fr base p w W := by
  refine ⟨⟨vf, va, vk, h, ?_, ?_, ?_, ⟨by rw [e1]; exact hall.2.2.2.2.f, by rw [e2]; exact hall.2.2.2.2.a, by rw [e3]; exact hall.2.2.2.2.k⟩⟩, Fr.of_beside hb⟩
  · rw [e1]; exact owns_beside hall.2.1 hb hall.1 (by decide)
  · rw [e2]; exact owns_beside hall.2.2.1 hb hall.1 (by decide)
  · rw [e3]; exact owns_beside hall.2.2.2.1 hb hall.1 (by decide)
set_option maxHeartbeats 3200000 in
set_option maxRecDepth 100000 in
theorem taker_fam (base p q : Nat) (o : Opn) (v : List UInt8) (Y : World) (hv : v.length < 256) (ho : OAt base Y p o) (hq : Y.heap[q]? = some (.cells #[.pointer (some ⟨p, 0, none⟩)] 76 (0, 0))) (hg : FamSizes Y) (hb0 : 0 < base) (hbp : base ≤ p) (hp : p < Y.heap.size) (hbY : base ≤ Y.heap.size) (hfit : fitB 1 v.length = true) :
    Calls Tryz.prog 58 #[.int .u8 1, .string ⟨v.toArray⟩, .pointer (some ⟨q, 0, none⟩)] Y fun e w' => e = .returned (vdt 0 0 0) ∧ OAt base w' p ({ o with fams := famsI o.fams v }) ∧ Fr base p Y w' := by
  have hb1 : Below Y.heap.size Y (Y.alloc (.cells #[.int .i64 0, .int .u8 0, .int .u8 0] 37)) := (Below.refl _ _).alloc (Nat.le_refl _) _
  have hz1 : (Y.alloc (.cells #[.int .i64 0, .int .u8 0, .int .u8 0] 37)).heap[Y.heap.size]? = some (.cells #[.int .i64 0, .int .u8 0, .int .u8 0] 37 (0, 0)) := hp_new rfl
  have hs1 : (Y.alloc (.cells #[.int .i64 0, .int .u8 0, .int .u8 0] 37)).heap.size = Y.heap.size + 1 := by simp
  have HO1 : Hid (OAt base (Y.alloc (.cells #[.int .i64 0, .int .u8 0, .int .u8 0] 37)) p o) := ho.below hb1
  have HQ1 : Hid ((Y.alloc (.cells #[.int .i64 0, .int .u8 0, .int .u8 0] 37)).heap[q]? = _) := (hb1.block _ (lt_of_heap hq)).trans hq
  have HG1 : Hid (FamSizes (Y.alloc (.cells #[.int .i64 0, .int .u8 0, .int .u8 0] 37))) := hg.below hb1
  have HB1 : Hid (Below _ _ _) := hb1
  have HZ1 : Hid (_ = _) := hz1
  have HS1 : Hid (_ = _) := hs1
  have HN : Hid (0 < base ∧ base ≤ p ∧ p < Y.heap.size ∧ base ≤ Y.heap.size) := ⟨hb0, hbp, hp, hbY⟩
  have KFIT : Hid (∀ W, Calls Tryz.prog 59 #[.int .u8 1, .int .i64 (v.length : Int)] W fun e w' => e = .returned (.bool true) ∧ w' = W) := fun W => by have := fits_any 1 v.length W (by omega); rw [hfit] at this; exact this
  have hsz : (⟨v.toArray⟩ : ByteArray).size = v.length := rfl
  clear hb1 hz1 hs1 ho hq hg hb0 hbp hp hbY
  have HV4 : Hid (v.length = 4) := by unfold Hid; simpa [fitB] using hfit
  go_enter Tryz.func58, Tryz.ntmps58
  go_wp2_with fail
  generalize Y.alloc (.cells #[.int .i64 0, .int .u8 0, .int .u8 0] 37) = W1 at *
  refine Calls.mono (KFIT.out W1) ?_
  rintro e wf ⟨rfl, hwf⟩
  obtain rfl : W1 = wf := hwf.symm
  clear hwf KFIT
  go_wp2_with fail
  refine Calls.mono (newR_any v W1) ?_
  rintro e W2 ⟨rfl, hrd, hW2⟩
  have hb2 : Below W1.heap.size W1 W2 := by rw [hW2]; exact (Below.refl _ _).alloc (Nat.le_refl _) _
  have HO2 : Hid (OAt base W2 p o) := HO1.out.below hb2
  have HQ2 : Hid (W2.heap[q]? = _) := (hb2.block _ (lt_of_heap HQ1.out)).trans HQ1.out
  have HG2 : Hid (FamSizes W2) := HG1.out.below hb2
  have HF2 : Hid (Fr base p W1 W2) := Fr.of_below hb2 (Nat.le_refl _)
  have HRD : Hid (Rd W2 W1.heap.size v) := hrd
  have HZ2 : Hid (W1.heap.size ≤ W2.heap.size) := hb2.size
  clear hrd hW2 hb2 HO1 HQ1 HG1
  have cq : W2.cell? ⟨q, 0, none⟩ = some (.pointer (some ⟨p, 0, none⟩)) := cl_row HQ2.out rfl
  go_wp2_with fail
  refine Calls.mono (takeFam_any base p W1.heap.size o v W1 W2 HO2.out HRD.out (by have := HV4.out; omega) HG2.out HN.out.1 HN.out.2.1 HF2.out (Nat.le_refl _) (by have := HN.out; have := HS1.out; omega)) ?_
  rintro e W3 ⟨rfl, ho3, hf3⟩
  have HE : Hid (_ ∧ _) := tc_end HZ1.out HB1.out hf3 ho3 HN.out.2.2.1
  clear ho3 hf3 cq
  go_wp2_with (refine wpList_store_row rfl 37 _ _ rfl Y.heap.size #[.int .i64 0, .int .u8 0, .int .u8 0] rfl rfl 37 _ HE.out.1 size37 rfl (one37 _ _ _) ?_)
  have hr := row_same _ Y.heap.size _ #[.int .i64 0, .int .u8 0, .int .u8 0] HE.out.1
  have c0 := cl_row (i := 0) hr rfl
  have c1 := cl_row (i := 1) hr rfl
  have c2 := cl_row (i := 2) hr rfl
  refine bodyPost_ret (v := vdt 0 0 0) (by simp [results, Tryz.results58, go_sem, vdt, c0, c1, c2]) rfl ⟨rfl, (HE.out.2 _).1, (HE.out.2 _).2⟩
set_option maxHeartbeats 3200000 in
set_option maxRecDepth 100000 in
theorem taker_restart (base p q : Nat) (o : Opn) (v : List UInt8) (Y : World) (hv : v.length < 256) (ho : OAt base Y p o) (hq : Y.heap[q]? = some (.cells #[.pointer (some ⟨p, 0, none⟩)] 76 (0, 0))) (hg : FamSizes Y) (hb0 : 0 < base) (hbp : base ≤ p) (hp : p < Y.heap.size) (hbY : base ≤ Y.heap.size) (hfit : fitB 64 v.length = true) :
    Calls Tryz.prog 58 #[.int .u8 64, .string ⟨v.toArray⟩, .pointer (some ⟨q, 0, none⟩)] Y fun e w' => e = .returned (vdt 0 0 0) ∧ OAt base w' p (entsL stK (v.drop 2) (grO o (worth (v.take 2)))) ∧ Fr base p Y w' := by
  have hb1 : Below Y.heap.size Y (Y.alloc (.cells #[.int .i64 0, .int .u8 0, .int .u8 0] 37)) := (Below.refl _ _).alloc (Nat.le_refl _) _
  have hz1 : (Y.alloc (.cells #[.int .i64 0, .int .u8 0, .int .u8 0] 37)).heap[Y.heap.size]? = some (.cells #[.int .i64 0, .int .u8 0, .int .u8 0] 37 (0, 0)) := hp_new rfl
  have hs1 : (Y.alloc (.cells #[.int .i64 0, .int .u8 0, .int .u8 0] 37)).heap.size = Y.heap.size + 1 := by simp
  have HO1 : Hid (OAt base (Y.alloc (.cells #[.int .i64 0, .int .u8 0, .int .u8 0] 37)) p o) := ho.below hb1
  have HQ1 : Hid ((Y.alloc (.cells #[.int .i64 0, .int .u8 0, .int .u8 0] 37)).heap[q]? = _) := (hb1.block _ (lt_of_heap hq)).trans hq
  have HG1 : Hid (FamSizes (Y.alloc (.cells #[.int .i64 0, .int .u8 0, .int .u8 0] 37))) := hg.below hb1
  have HB1 : Hid (Below _ _ _) := hb1
  have HZ1 : Hid (_ = _) := hz1
  have HS1 : Hid (_ = _) := hs1
  have HN : Hid (0 < base ∧ base ≤ p ∧ p < Y.heap.size ∧ base ≤ Y.heap.size) := ⟨hb0, hbp, hp, hbY⟩
  have KFIT : Hid (∀ W, Calls Tryz.prog 59 #[.int .u8 64, .int .i64 (v.length : Int)] W fun e w' => e = .returned (.bool true) ∧ w' = W) := fun W => by have := fits_any 64 v.length W (by omega); rw [hfit] at this; exact this
  have hsz : (⟨v.toArray⟩ : ByteArray).size = v.length := rfl
  clear hb1 hz1 hs1 ho hq hg hb0 hbp hp hbY
  have HV2 : Hid (2 ≤ v.length) := by unfold Hid; simp [fitB] at hfit; omega
  go_enter Tryz.func58, Tryz.ntmps58
  go_wp2_with fail
  generalize Y.alloc (.cells #[.int .i64 0, .int .u8 0, .int .u8 0] 37) = W1 at *
  refine Calls.mono (KFIT.out W1) ?_
  rintro e wf ⟨rfl, hwf⟩
  obtain rfl : W1 = wf := hwf.symm
  clear hwf KFIT
  go_wp2_with fail
  refine Calls.mono (newR_any v W1) ?_
  rintro e W2 ⟨rfl, hrd, hW2⟩
  have hb2 : Below W1.heap.size W1 W2 := by rw [hW2]; exact (Below.refl _ _).alloc (Nat.le_refl _) _
  have HO2 : Hid (OAt base W2 p o) := HO1.out.below hb2
  have HQ2 : Hid (W2.heap[q]? = _) := (hb2.block _ (lt_of_heap HQ1.out)).trans HQ1.out
  have HG2 : Hid (FamSizes W2) := HG1.out.below hb2
  have HF2 : Hid (Fr base p W1 W2) := Fr.of_below hb2 (Nat.le_refl _)
  have HRD : Hid (Rd W2 W1.heap.size v) := hrd
  have HZ2 : Hid (W1.heap.size ≤ W2.heap.size) := hb2.size
  clear hrd hW2 hb2 HO1 HQ1 HG1
  have cq : W2.cell? ⟨q, 0, none⟩ = some (.pointer (some ⟨p, 0, none⟩)) := cl_row HQ2.out rfl
  go_wp2_with fail
  refine Calls.mono (takeRestart_any base p W1.heap.size o v W1 W2 HO2.out HRD.out HV2.out HG2.out HN.out.1 HN.out.2.1 HF2.out (Nat.le_refl _) (by have := HN.out; have := HS1.out; omega) (by have := HN.out; have := HS1.out; omega)) ?_
  rintro e W3 ⟨rfl, ho3, hf3⟩
  have HE : Hid (_ ∧ _) := tc_end HZ1.out HB1.out hf3 ho3 HN.out.2.2.1
  clear ho3 hf3 cq
  go_wp2_with (refine wpList_store_row rfl 37 _ _ rfl Y.heap.size #[.int .i64 0, .int .u8 0, .int .u8 0] rfl rfl 37 _ HE.out.1 size37 rfl (one37 _ _ _) ?_)
  have hr := row_same _ Y.heap.size _ #[.int .i64 0, .int .u8 0, .int .u8 0] HE.out.1
  have c0 := cl_row (i := 0) hr rfl
  have c1 := cl_row (i := 1) hr rfl
  have c2 := cl_row (i := 2) hr rfl
  refine bodyPost_ret (v := vdt 0 0 0) (by simp [results, Tryz.results58, go_sem, vdt, c0, c1, c2]) rfl ⟨rfl, (HE.out.2 _).1, (HE.out.2 _).2⟩
set_option maxHeartbeats 3200000 in
set_option maxRecDepth 100000 in
theorem taker_adds (base p q : Nat) (o : Opn) (v : List UInt8) (Y : World) (hv : v.length < 256) (ho : OAt base Y p o) (hq : Y.heap[q]? = some (.cells #[.pointer (some ⟨p, 0, none⟩)] 76 (0, 0))) (hg : FamSizes Y) (hb0 : 0 < base) (hbp : base ≤ p) (hp : p < Y.heap.size) (hbY : base ≤ Y.heap.size) (hfit : fitB 69 v.length = true) :
    Calls Tryz.prog 58 #[.int .u8 69, .string ⟨v.toArray⟩, .pointer (some ⟨q, 0, none⟩)] Y fun e w' => e = .returned (vdt 0 0 0) ∧ OAt base w' p (entsL stA v { o with adds := [] }) ∧ Fr base p Y w' := by
  have hb1 : Below Y.heap.size Y (Y.alloc (.cells #[.int .i64 0, .int .u8 0, .int .u8 0] 37)) := (Below.refl _ _).alloc (Nat.le_refl _) _
  have hz1 : (Y.alloc (.cells #[.int .i64 0, .int .u8 0, .int .u8 0] 37)).heap[Y.heap.size]? = some (.cells #[.int .i64 0, .int .u8 0, .int .u8 0] 37 (0, 0)) := hp_new rfl
  have hs1 : (Y.alloc (.cells #[.int .i64 0, .int .u8 0, .int .u8 0] 37)).heap.size = Y.heap.size + 1 := by simp
  have HO1 : Hid (OAt base (Y.alloc (.cells #[.int .i64 0, .int .u8 0, .int .u8 0] 37)) p o) := ho.below hb1
  have HQ1 : Hid ((Y.alloc (.cells #[.int .i64 0, .int .u8 0, .int .u8 0] 37)).heap[q]? = _) := (hb1.block _ (lt_of_heap hq)).trans hq
  have HG1 : Hid (FamSizes (Y.alloc (.cells #[.int .i64 0, .int .u8 0, .int .u8 0] 37))) := hg.below hb1
  have HB1 : Hid (Below _ _ _) := hb1
  have HZ1 : Hid (_ = _) := hz1
  have HS1 : Hid (_ = _) := hs1
  have HN : Hid (0 < base ∧ base ≤ p ∧ p < Y.heap.size ∧ base ≤ Y.heap.size) := ⟨hb0, hbp, hp, hbY⟩
  have KFIT : Hid (∀ W, Calls Tryz.prog 59 #[.int .u8 69, .int .i64 (v.length : Int)] W fun e w' => e = .returned (.bool true) ∧ w' = W) := fun W => by have := fits_any 69 v.length W (by omega); rw [hfit] at this; exact this
  have hsz : (⟨v.toArray⟩ : ByteArray).size = v.length := rfl
  clear hb1 hz1 hs1 ho hq hg hb0 hbp hp hbY
  go_enter Tryz.func58, Tryz.ntmps58
  go_wp2_with fail
  generalize Y.alloc (.cells #[.int .i64 0, .int .u8 0, .int .u8 0] 37) = W1 at *
  refine Calls.mono (KFIT.out W1) ?_
  rintro e wf ⟨rfl, hwf⟩
  obtain rfl : W1 = wf := hwf.symm
  clear hwf KFIT
  go_wp2_with fail
  refine Calls.mono (newR_any v W1) ?_
  rintro e W2 ⟨rfl, hrd, hW2⟩
  have hb2 : Below W1.heap.size W1 W2 := by rw [hW2]; exact (Below.refl _ _).alloc (Nat.le_refl _) _
  have HO2 : Hid (OAt base W2 p o) := HO1.out.below hb2
  have HQ2 : Hid (W2.heap[q]? = _) := (hb2.block _ (lt_of_heap HQ1.out)).trans HQ1.out
  have HG2 : Hid (FamSizes W2) := HG1.out.below hb2
  have HF2 : Hid (Fr base p W1 W2) := Fr.of_below hb2 (Nat.le_refl _)
  have HRD : Hid (Rd W2 W1.heap.size v) := hrd
  have HZ2 : Hid (W1.heap.size ≤ W2.heap.size) := hb2.size
  clear hrd hW2 hb2 HO1 HQ1 HG1
  have cq : W2.cell? ⟨q, 0, none⟩ = some (.pointer (some ⟨p, 0, none⟩)) := cl_row HQ2.out rfl
  go_wp2_with fail
  refine Calls.mono (takeAdds_any base p W1.heap.size o v W1 W2 HO2.out HRD.out HG2.out HN.out.1 HN.out.2.1 HF2.out (Nat.le_refl _) (by have := HN.out; have := HS1.out; omega) (by have := HN.out; have := HS1.out; omega)) ?_
  rintro e W3 ⟨rfl, ho3, hf3⟩
  have HE : Hid (_ ∧ _) := tc_end HZ1.out HB1.out hf3 ho3 HN.out.2.2.1
  clear ho3 hf3 cq
  go_wp2_with (refine wpList_store_row rfl 37 _ _ rfl Y.heap.size #[.int .i64 0, .int .u8 0, .int .u8 0] rfl rfl 37 _ HE.out.1 size37 rfl (one37 _ _ _) ?_)
  have hr := row_same _ Y.heap.size _ #[.int .i64 0, .int .u8 0, .int .u8 0] HE.out.1
  have c0 := cl_row (i := 0) hr rfl
  have c1 := cl_row (i := 1) hr rfl
  have c2 := cl_row (i := 2) hr rfl
  refine bodyPost_ret (v := vdt 0 0 0) (by simp [results, Tryz.results58, go_sem, vdt, c0, c1, c2]) rfl ⟨rfl, (HE.out.2 _).1, (HE.out.2 _).2⟩
set_option maxHeartbeats 3200000 in
set_option maxRecDepth 100000 in
theorem taker_refresh (base p q : Nat) (o : Opn) (v : List UInt8) (Y : World) (hv : v.length < 256) (ho : OAt base Y p o) (hq : Y.heap[q]? = some (.cells #[.pointer (some ⟨p, 0, none⟩)] 76 (0, 0))) (hg : FamSizes Y) (hb0 : 0 < base) (hbp : base ≤ p) (hp : p < Y.heap.size) (hbY : base ≤ Y.heap.size) (hfit : fitB 2 v.length = true) :
    Calls Tryz.prog 58 #[.int .u8 2, .string ⟨v.toArray⟩, .pointer (some ⟨q, 0, none⟩)] Y fun e w' => e = .returned (vdt 0 0 0) ∧ OAt base w' p ({ o with refr := true }) ∧ Fr base p Y w' := by
  have hb1 : Below Y.heap.size Y (Y.alloc (.cells #[.int .i64 0, .int .u8 0, .int .u8 0] 37)) := (Below.refl _ _).alloc (Nat.le_refl _) _
  have hz1 : (Y.alloc (.cells #[.int .i64 0, .int .u8 0, .int .u8 0] 37)).heap[Y.heap.size]? = some (.cells #[.int .i64 0, .int .u8 0, .int .u8 0] 37 (0, 0)) := hp_new rfl
  have hs1 : (Y.alloc (.cells #[.int .i64 0, .int .u8 0, .int .u8 0] 37)).heap.size = Y.heap.size + 1 := by simp
  have HO1 : Hid (OAt base (Y.alloc (.cells #[.int .i64 0, .int .u8 0, .int .u8 0] 37)) p o) := ho.below hb1
  have HQ1 : Hid ((Y.alloc (.cells #[.int .i64 0, .int .u8 0, .int .u8 0] 37)).heap[q]? = _) := (hb1.block _ (lt_of_heap hq)).trans hq
  have HG1 : Hid (FamSizes (Y.alloc (.cells #[.int .i64 0, .int .u8 0, .int .u8 0] 37))) := hg.below hb1
  have HB1 : Hid (Below _ _ _) := hb1
  have HZ1 : Hid (_ = _) := hz1
  have HS1 : Hid (_ = _) := hs1
  have HN : Hid (0 < base ∧ base ≤ p ∧ p < Y.heap.size ∧ base ≤ Y.heap.size) := ⟨hb0, hbp, hp, hbY⟩
  have KFIT : Hid (∀ W, Calls Tryz.prog 59 #[.int .u8 2, .int .i64 (v.length : Int)] W fun e w' => e = .returned (.bool true) ∧ w' = W) := fun W => by have := fits_any 2 v.length W (by omega); rw [hfit] at this; exact this
  have hsz : (⟨v.toArray⟩ : ByteArray).size = v.length := rfl
  clear hb1 hz1 hs1 ho hq hg hb0 hbp hp hbY
  go_enter Tryz.func58, Tryz.ntmps58
  go_wp2_with fail
  generalize Y.alloc (.cells #[.int .i64 0, .int .u8 0, .int .u8 0] 37) = W1 at *
  refine Calls.mono (KFIT.out W1) ?_
  rintro e wf ⟨rfl, hwf⟩
  obtain rfl : W1 = wf := hwf.symm
  clear hwf KFIT
  go_wp2_with fail
  refine Calls.mono (newR_any v W1) ?_
  rintro e W2 ⟨rfl, hrd, hW2⟩
  have hb2 : Below W1.heap.size W1 W2 := by rw [hW2]; exact (Below.refl _ _).alloc (Nat.le_refl _) _
  have HO2 : Hid (OAt base W2 p o) := HO1.out.below hb2
  have HQ2 : Hid (W2.heap[q]? = _) := (hb2.block _ (lt_of_heap HQ1.out)).trans HQ1.out
  have HG2 : Hid (FamSizes W2) := HG1.out.below hb2
  have HF2 : Hid (Fr base p W1 W2) := Fr.of_below hb2 (Nat.le_refl _)
  have HRD : Hid (Rd W2 W1.heap.size v) := hrd
  have HZ2 : Hid (W1.heap.size ≤ W2.heap.size) := hb2.size
  clear hrd hW2 hb2 HO1 HQ1 HG1
  have cq : W2.cell? ⟨q, 0, none⟩ = some (.pointer (some ⟨p, 0, none⟩)) := cl_row HQ2.out rfl
  obtain ⟨vf, va, vk, h1, h2, h3, h4, h5⟩ := HO2.out
  have k5 := cl_row (i := 5) h1 rfl
  have f5 := fz_row (i := 5) h1
  have hpl := OAt.plain (W := W2.setCell ⟨p, 5, none⟩ (.bool true)) (o' := { o with refr := true }) ⟨h1, h2, h3, h4, h5⟩ (Beside.set _ _ _) ((heap_setCell_same W2 p 5 _ _ _ h1).trans rfl) rfl rfl rfl
  have HE : Hid (_ ∧ _) := tc_end HZ1.out HB1.out (HF2.out.trans hpl.2) hpl.1 HN.out.2.2.1
  clear hpl h1 h2 h3 h4 h5
  go_wp2_with (refine wpList_store_row rfl 37 _ _ rfl Y.heap.size #[.int .i64 0, .int .u8 0, .int .u8 0] rfl rfl 37 _ HE.out.1 size37 rfl (one37 _ _ _) ?_)
  have hr := row_same _ Y.heap.size _ #[.int .i64 0, .int .u8 0, .int .u8 0] HE.out.1
  have c0 := cl_row (i := 0) hr rfl
  have c1 := cl_row (i := 1) hr rfl
  have c2 := cl_row (i := 2) hr rfl
  refine bodyPost_ret (v := vdt 0 0 0) (by simp [results, Tryz.results58, go_sem, vdt, c0, c1, c2]) rfl ⟨rfl, (HE.out.2 _).1, (HE.out.2 _).2⟩
set_option maxHeartbeats 3200000 in
set_option maxRecDepth 100000 in
theorem taker_four (base p q : Nat) (o : Opn) (v : List UInt8) (Y : World) (hv : v.length < 256) (ho : OAt base Y p o) (hq : Y.heap[q]? = some (.cells #[.pointer (some ⟨p, 0, none⟩)] 76 (0, 0))) (hg : FamSizes Y) (hb0 : 0 < base) (hbp : base ≤ p) (hp : p < Y.heap.size) (hbY : base ≤ Y.heap.size) (hfit : fitB 65 v.length = true) (hw : worth v ≠ 0) :
    Calls Tryz.prog 58 #[.int .u8 65, .string ⟨v.toArray⟩, .pointer (some ⟨q, 0, none⟩)] Y fun e w' => e = .returned (vdt 0 0 0) ∧ OAt base w' p ({ o with asn := (worth v : Int), four := true }) ∧ Fr base p Y w' := by
  have hb1 : Below Y.heap.size Y (Y.alloc (.cells #[.int .i64 0, .int .u8 0, .int .u8 0] 37)) := (Below.refl _ _).alloc (Nat.le_refl _) _
  have hz1 : (Y.alloc (.cells #[.int .i64 0, .int .u8 0, .int .u8 0] 37)).heap[Y.heap.size]? = some (.cells #[.int .i64 0, .int .u8 0, .int .u8 0] 37 (0, 0)) := hp_new rfl
  have hs1 : (Y.alloc (.cells #[.int .i64 0, .int .u8 0, .int .u8 0] 37)).heap.size = Y.heap.size + 1 := by simp
  have HO1 : Hid (OAt base (Y.alloc (.cells #[.int .i64 0, .int .u8 0, .int .u8 0] 37)) p o) := ho.below hb1
  have HQ1 : Hid ((Y.alloc (.cells #[.int .i64 0, .int .u8 0, .int .u8 0] 37)).heap[q]? = _) := (hb1.block _ (lt_of_heap hq)).trans hq
  have HG1 : Hid (FamSizes (Y.alloc (.cells #[.int .i64 0, .int .u8 0, .int .u8 0] 37))) := hg.below hb1
  have HB1 : Hid (Below _ _ _) := hb1
  have HZ1 : Hid (_ = _) := hz1
  have HS1 : Hid (_ = _) := hs1
  have HN : Hid (0 < base ∧ base ≤ p ∧ p < Y.heap.size ∧ base ≤ Y.heap.size) := ⟨hb0, hbp, hp, hbY⟩
  have KFIT : Hid (∀ W, Calls Tryz.prog 59 #[.int .u8 65, .int .i64 (v.length : Int)] W fun e w' => e = .returned (.bool true) ∧ w' = W) := fun W => by have := fits_any 65 v.length W (by omega); rw [hfit] at this; exact this
  have hsz : (⟨v.toArray⟩ : ByteArray).size = v.length := rfl
  clear hb1 hz1 hs1 ho hq hg hb0 hbp hp hbY
  have HV4 : Hid (v.length = 4) := by unfold Hid; simpa [fitB] using hfit
  have K4 : Hid (∀ X r, Rd X r v → Calls Tryz.prog 54 #[.pointer (some ⟨r, 0, none⟩), .int .i64 4] X fun e w' => e = .returned (.tuple #[.int .u64 (worth v : Int), .bool true]) ∧ Rd w' r (v.drop 4) ∧ Beside r X w') := fun X r hX => by
    have := numR_yes r v 4 X hX (by omega) (by omega) (by have := HV4.out; omega)
    rw [List.take_of_length_le (by have := HV4.out; omega)] at this
    exact this
  have hav : worth v < 4294967296 := by have := worth4 v; rw [List.take_of_length_le (by have := HV4.out; omega)] at this; exact this
  have hav0 : ((worth v : Int) == 0) = false := by simp; omega
  generalize worth v = av at *
  go_enter Tryz.func58, Tryz.ntmps58
  go_wp2_with fail
  generalize Y.alloc (.cells #[.int .i64 0, .int .u8 0, .int .u8 0] 37) = W1 at *
  refine Calls.mono (KFIT.out W1) ?_
  rintro e wf ⟨rfl, hwf⟩
  obtain rfl : W1 = wf := hwf.symm
  clear hwf KFIT
  go_wp2_with fail
  refine Calls.mono (newR_any v W1) ?_
  rintro e W2 ⟨rfl, hrd, hW2⟩
  have hb2 : Below W1.heap.size W1 W2 := by rw [hW2]; exact (Below.refl _ _).alloc (Nat.le_refl _) _
  have HO2 : Hid (OAt base W2 p o) := HO1.out.below hb2
  have HQ2 : Hid (W2.heap[q]? = _) := (hb2.block _ (lt_of_heap HQ1.out)).trans HQ1.out
  have HG2 : Hid (FamSizes W2) := HG1.out.below hb2
  have HF2 : Hid (Fr base p W1 W2) := Fr.of_below hb2 (Nat.le_refl _)
  have HRD : Hid (Rd W2 W1.heap.size v) := hrd
  have HZ2 : Hid (W1.heap.size ≤ W2.heap.size) := hb2.size
  clear hrd hW2 hb2 HO1 HQ1 HG1
  go_wp2_with fail
  refine Calls.mono (K4.out W2 _ HRD.out) ?_
  rintro e W3 ⟨rfl, hr3, hb3⟩
  obtain ⟨C, hC⟩ := HRD.out.ty
  have HO3 : Hid (OAt base W3 p o) := HO2.out.beside hb3 hC (by decide)
  have HF3 : Hid (Fr base p W1 W3) := HF2.out.later (hb3.below (Nat.le_refl _) HZ2.out)
  have HQ3 : Hid (W3.heap[q]? = _) := (hb3.block _ (lt_of_heap HQ2.out) (by
    intro e'
    have h := HQ2.out
    rw [e', hC] at h
    simp at h)).trans HQ2.out
  clear hr3 hb3 hC HO2 HF2 HQ2
  have cq : W3.cell? ⟨q, 0, none⟩ = some (.pointer (some ⟨p, 0, none⟩)) := cl_row HQ3.out rfl
  obtain ⟨vf, va, vk, h1, h2, h3, h4, h5⟩ := HO3.out
  have k0 := cl_row (i := 0) h1 rfl
  have f0 := fz_row (i := 0) h1
  have k4 := cl_row (i := 4) h1 rfl
  have f4 := fz_row (i := 4) h1
  have hqp : q ≠ p := HO3.out.ne HQ3.out (by decide)
  have hqp2 : ¬ (p = q) := fun e => hqp e.symm
  have HP1 : Hid (_ = _) := h1
  have HKEY : Hid (∀ W, Beside p W3 W → W.heap[p]? = some (.cells (opC { o with asn := (av : Int), four := true } vf va vk) 27 (0, 0)) → W.heap[Y.heap.size]? = some (.cells #[.int .i64 0, .int .u8 0, .int .u8 0] 37 (0, 0)) ∧ ∀ C : Array Value, OAt base (W.setRow Y.heap.size C) p { o with asn := (av : Int), four := true } ∧ Fr base p Y (W.setRow Y.heap.size C)) := fun W hb h => by
    have hpl := OAt.plain (o' := { o with asn := (av : Int), four := true }) ⟨h1, h2, h3, h4, h5⟩ hb h rfl rfl rfl
    exact tc_end HZ1.out HB1.out (HF3.out.trans hpl.2) hpl.1 HN.out.2.2.1
  have hw3d : Beside p W3 W3.drew := Beside.of_below (Below.refl _ _).drew (Nat.le_refl _)
  clear h1 h2 h3 h4 h5
  go_wp2
  go_region
  all_goals
    have HE : Hid (_ ∧ _) := HKEY.out (((W3.setCell ⟨p, 0, none⟩ (.int .u32 (av : Int))).setCell ⟨p, 4, none⟩ (.bool true)).drew) (((Beside.set W3 _ _).trans (Beside.set _ _ _)).trans (Beside.of_below (Below.refl _ _).drew (Nat.le_refl _))) ((heap_setCell_same _ p _ _ _ _ (heap_setCell_same W3 p _ _ _ _ HP1.out)).trans rfl)
    clear HKEY
    generalize ((W3.setCell ⟨p, 0, none⟩ (.int .u32 (av : Int))).setCell ⟨p, 4, none⟩ (.bool true)).drew = W4 at HE ⊢
    go_wp2_with (refine wpList_store_row rfl 37 _ _ rfl Y.heap.size #[.int .i64 0, .int .u8 0, .int .u8 0] rfl rfl 37 _ HE.out.1 size37 rfl (one37 _ _ _) ?_)
    have hr := row_same _ Y.heap.size _ #[.int .i64 0, .int .u8 0, .int .u8 0] HE.out.1
    have c0 := cl_row (i := 0) hr rfl
    have c1 := cl_row (i := 1) hr rfl
    have c2 := cl_row (i := 2) hr rfl
    refine bodyPost_ret (v := vdt 0 0 0) (by simp [results, Tryz.results58, go_sem, vdt, c0, c1, c2]) rfl ⟨rfl, (HE.out.2 _).1, (HE.out.2 _).2⟩
set_option maxHeartbeats 3200000 in
set_option maxRecDepth 100000 in
theorem taker_zero (base p q : Nat) (o : Opn) (v : List UInt8) (Y : World) (hv : v.length < 256) (ho : OAt base Y p o) (hq : Y.heap[q]? = some (.cells #[.pointer (some ⟨p, 0, none⟩)] 76 (0, 0))) (hg : FamSizes Y) (hb0 : 0 < base) (hbp : base ≤ p) (hp : p < Y.heap.size) (hbY : base ≤ Y.heap.size) (hfit : fitB 65 v.length = true) (hw : worth v = 0) :
    Calls Tryz.prog 58 #[.int .u8 65, .string ⟨v.toArray⟩, .pointer (some ⟨q, 0, none⟩)] Y fun e w' => e = .returned (vdt 3 2 2) ∧ Fr base p Y w' := by
  have hb1 : Below Y.heap.size Y (Y.alloc (.cells #[.int .i64 0, .int .u8 0, .int .u8 0] 37)) := (Below.refl _ _).alloc (Nat.le_refl _) _
  have hz1 : (Y.alloc (.cells #[.int .i64 0, .int .u8 0, .int .u8 0] 37)).heap[Y.heap.size]? = some (.cells #[.int .i64 0, .int .u8 0, .int .u8 0] 37 (0, 0)) := hp_new rfl
  have hs1 : (Y.alloc (.cells #[.int .i64 0, .int .u8 0, .int .u8 0] 37)).heap.size = Y.heap.size + 1 := by simp
  have HO1 : Hid (OAt base (Y.alloc (.cells #[.int .i64 0, .int .u8 0, .int .u8 0] 37)) p o) := ho.below hb1
  have HQ1 : Hid ((Y.alloc (.cells #[.int .i64 0, .int .u8 0, .int .u8 0] 37)).heap[q]? = _) := (hb1.block _ (lt_of_heap hq)).trans hq
  have HG1 : Hid (FamSizes (Y.alloc (.cells #[.int .i64 0, .int .u8 0, .int .u8 0] 37))) := hg.below hb1
  have HB1 : Hid (Below _ _ _) := hb1
  have HZ1 : Hid (_ = _) := hz1
  have HS1 : Hid (_ = _) := hs1
  have HN : Hid (0 < base ∧ base ≤ p ∧ p < Y.heap.size ∧ base ≤ Y.heap.size) := ⟨hb0, hbp, hp, hbY⟩
  have KFIT : Hid (∀ W, Calls Tryz.prog 59 #[.int .u8 65, .int .i64 (v.length : Int)] W fun e w' => e = .returned (.bool true) ∧ w' = W) := fun W => by have := fits_any 65 v.length W (by omega); rw [hfit] at this; exact this
  have hsz : (⟨v.toArray⟩ : ByteArray).size = v.length := rfl
  clear hb1 hz1 hs1 ho hq hg hb0 hbp hp hbY
  have HV4 : Hid (v.length = 4) := by unfold Hid; simpa [fitB] using hfit
  have K4 : Hid (∀ X r, Rd X r v → Calls Tryz.prog 54 #[.pointer (some ⟨r, 0, none⟩), .int .i64 4] X fun e w' => e = .returned (.tuple #[.int .u64 0, .bool true]) ∧ Rd w' r (v.drop 4) ∧ Beside r X w') := fun X r hX => by
    have := numR_yes r v 4 X hX (by omega) (by omega) (by have := HV4.out; omega)
    rw [List.take_of_length_le (by have := HV4.out; omega), hw] at this
    exact this
  go_enter Tryz.func58, Tryz.ntmps58
  go_wp2_with fail
  generalize Y.alloc (.cells #[.int .i64 0, .int .u8 0, .int .u8 0] 37) = W1 at *
  refine Calls.mono (KFIT.out W1) ?_
  rintro e wf ⟨rfl, hwf⟩
  obtain rfl : W1 = wf := hwf.symm
  clear hwf KFIT
  go_wp2_with fail
  refine Calls.mono (newR_any v W1) ?_
  rintro e W2 ⟨rfl, hrd, hW2⟩
  have hb2 : Below W1.heap.size W1 W2 := by rw [hW2]; exact (Below.refl _ _).alloc (Nat.le_refl _) _
  have HO2 : Hid (OAt base W2 p o) := HO1.out.below hb2
  have HQ2 : Hid (W2.heap[q]? = _) := (hb2.block _ (lt_of_heap HQ1.out)).trans HQ1.out
  have HG2 : Hid (FamSizes W2) := HG1.out.below hb2
  have HF2 : Hid (Fr base p W1 W2) := Fr.of_below hb2 (Nat.le_refl _)
  have HRD : Hid (Rd W2 W1.heap.size v) := hrd
  have HZ2 : Hid (W1.heap.size ≤ W2.heap.size) := hb2.size
  clear hrd hW2 hb2 HO1 HQ1 HG1
  go_wp2_with fail
  refine Calls.mono (K4.out W2 _ HRD.out) ?_
  rintro e W3 ⟨rfl, hr3, hb3⟩
  obtain ⟨C, hC⟩ := HRD.out.ty
  have HO3 : Hid (OAt base W3 p o) := HO2.out.beside hb3 hC (by decide)
  have HF3 : Hid (Fr base p W1 W3) := HF2.out.later (hb3.below (Nat.le_refl _) HZ2.out)
  clear hr3 hb3 hC HO2 HF2 HQ2
  go_wp2_with fail
  refine Calls.mono (reset_any 2 W3) ?_
  rintro e W4 ⟨rfl, hb4⟩
  unfold vdt
  have HE : Hid (_ ∧ _) := tc_end HZ1.out HB1.out (HF3.out.later (hb4.mono HF3.out.size)) (HO3.out.below hb4) HN.out.2.2.1
  clear hb4
  go_wp2_with (refine wpList_store_row rfl 37 _ _ rfl Y.heap.size #[.int .i64 3, .int .u8 2, .int .u8 2] rfl rfl 37 _ HE.out.1 size37 rfl (one37 _ _ _) ?_)
  have hr := row_same _ Y.heap.size _ #[.int .i64 3, .int .u8 2, .int .u8 2] HE.out.1
  have c0 := cl_row (i := 0) hr rfl
  have c1 := cl_row (i := 1) hr rfl
  have c2 := cl_row (i := 2) hr rfl
  refine bodyPost_ret (v := vdt 3 2 2) (by simp [results, Tryz.results58, go_sem, vdt, c0, c1, c2]) rfl ⟨rfl, (HE.out.2 _).2⟩
set_option maxHeartbeats 3200000 in
set_option maxRecDepth 100000 in
theorem taker_unfit (base p q : Nat) (o : Opn) (c : Nat) (v : List UInt8) (Y : World) (hc : c < 256) (hv : v.length < 256) (ho : OAt base Y p o) (hq : Y.heap[q]? = some (.cells #[.pointer (some ⟨p, 0, none⟩)] 76 (0, 0))) (hg : FamSizes Y) (hb0 : 0 < base) (hbp : base ≤ p) (hp : p < Y.heap.size) (hbY : base ≤ Y.heap.size) (hfit : fitB c v.length = false) :
    Calls Tryz.prog 58 #[.int .u8 (c : Int), .string ⟨v.toArray⟩, .pointer (some ⟨q, 0, none⟩)] Y fun e w' => e = .returned (vdt 3 2 0) ∧ Fr base p Y w' := by
  have hb1 : Below Y.heap.size Y (Y.alloc (.cells #[.int .i64 0, .int .u8 0, .int .u8 0] 37)) := (Below.refl _ _).alloc (Nat.le_refl _) _
  have hz1 : (Y.alloc (.cells #[.int .i64 0, .int .u8 0, .int .u8 0] 37)).heap[Y.heap.size]? = some (.cells #[.int .i64 0, .int .u8 0, .int .u8 0] 37 (0, 0)) := hp_new rfl
  have hs1 : (Y.alloc (.cells #[.int .i64 0, .int .u8 0, .int .u8 0] 37)).heap.size = Y.heap.size + 1 := by simp
  have HO1 : Hid (OAt base (Y.alloc (.cells #[.int .i64 0, .int .u8 0, .int .u8 0] 37)) p o) := ho.below hb1
  have HQ1 : Hid ((Y.alloc (.cells #[.int .i64 0, .int .u8 0, .int .u8 0] 37)).heap[q]? = _) := (hb1.block _ (lt_of_heap hq)).trans hq
  have HG1 : Hid (FamSizes (Y.alloc (.cells #[.int .i64 0, .int .u8 0, .int .u8 0] 37))) := hg.below hb1
  have HB1 : Hid (Below _ _ _) := hb1
  have HZ1 : Hid (_ = _) := hz1
  have HS1 : Hid (_ = _) := hs1
  have HN : Hid (0 < base ∧ base ≤ p ∧ p < Y.heap.size ∧ base ≤ Y.heap.size) := ⟨hb0, hbp, hp, hbY⟩
  have KFIT : Hid (∀ W, Calls Tryz.prog 59 #[.int .u8 (c : Int), .int .i64 (v.length : Int)] W fun e w' => e = .returned (.bool false) ∧ w' = W) := fun W => by have := fits_any c v.length W (by omega); rw [hfit] at this; exact this
  have hsz : (⟨v.toArray⟩ : ByteArray).size = v.length := rfl
  clear hb1 hz1 hs1 ho hq hg hb0 hbp hp hbY
  go_enter Tryz.func58, Tryz.ntmps58
  go_wp2_with fail
  generalize Y.alloc (.cells #[.int .i64 0, .int .u8 0, .int .u8 0] 37) = W1 at *
  refine Calls.mono (KFIT.out W1) ?_
  rintro e wf ⟨rfl, hwf⟩
  obtain rfl : W1 = wf := hwf.symm
  clear hwf KFIT
  go_wp2_with fail
  refine Calls.mono (reset_any 0 W1) ?_
  rintro e W4 ⟨rfl, hb4⟩
  unfold vdt
  have HE : Hid (_ ∧ _) := tc_end HZ1.out HB1.out (Fr.of_below hb4 (Nat.le_refl _)) (HO1.out.below hb4) HN.out.2.2.1
  clear hb4
  go_wp2_with (refine wpList_store_row rfl 37 _ _ rfl Y.heap.size #[.int .i64 3, .int .u8 2, .int .u8 0] rfl rfl 37 _ HE.out.1 size37 rfl (one37 _ _ _) ?_)
  have hr := row_same _ Y.heap.size _ #[.int .i64 3, .int .u8 2, .int .u8 0] HE.out.1
  have c0 := cl_row (i := 0) hr rfl
  have c1 := cl_row (i := 1) hr rfl
  have c2 := cl_row (i := 2) hr rfl
  refine bodyPost_ret (v := vdt 3 2 0) (by simp [results, Tryz.results58, go_sem, vdt, c0, c1, c2]) rfl ⟨rfl, (HE.out.2 _).2⟩
set_option maxHeartbeats 3200000 in
set_option maxRecDepth 100000 in
theorem taker_other (base p q : Nat) (o : Opn) (c : Nat) (v : List UInt8) (Y : World) (hc : c < 256) (n1 : c ≠ 1) (n2 : c ≠ 2) (n64 : c ≠ 64) (n65 : c ≠ 65) (n69 : c ≠ 69) (hv : v.length < 256) (ho : OAt base Y p o) (hq : Y.heap[q]? = some (.cells #[.pointer (some ⟨p, 0, none⟩)] 76 (0, 0))) (hg : FamSizes Y) (hb0 : 0 < base) (hbp : base ≤ p) (hp : p < Y.heap.size) (hbY : base ≤ Y.heap.size) (hfit : fitB c v.length = true) :
    Calls Tryz.prog 58 #[.int .u8 (c : Int), .string ⟨v.toArray⟩, .pointer (some ⟨q, 0, none⟩)] Y fun e w' => e = .returned (vdt 0 0 0) ∧ OAt base w' p o ∧ Fr base p Y w' := by
  have hb1 : Below Y.heap.size Y (Y.alloc (.cells #[.int .i64 0, .int .u8 0, .int .u8 0] 37)) := (Below.refl _ _).alloc (Nat.le_refl _) _
  have hz1 : (Y.alloc (.cells #[.int .i64 0, .int .u8 0, .int .u8 0] 37)).heap[Y.heap.size]? = some (.cells #[.int .i64 0, .int .u8 0, .int .u8 0] 37 (0, 0)) := hp_new rfl
  have hs1 : (Y.alloc (.cells #[.int .i64 0, .int .u8 0, .int .u8 0] 37)).heap.size = Y.heap.size + 1 := by simp
  have HO1 : Hid (OAt base (Y.alloc (.cells #[.int .i64 0, .int .u8 0, .int .u8 0] 37)) p o) := ho.below hb1
  have HQ1 : Hid ((Y.alloc (.cells #[.int .i64 0, .int .u8 0, .int .u8 0] 37)).heap[q]? = _) := (hb1.block _ (lt_of_heap hq)).trans hq
  have HG1 : Hid (FamSizes (Y.alloc (.cells #[.int .i64 0, .int .u8 0, .int .u8 0] 37))) := hg.below hb1
  have HB1 : Hid (Below _ _ _) := hb1
  have HZ1 : Hid (_ = _) := hz1
  have HS1 : Hid (_ = _) := hs1
  have HN : Hid (0 < base ∧ base ≤ p ∧ p < Y.heap.size ∧ base ≤ Y.heap.size) := ⟨hb0, hbp, hp, hbY⟩
  have KFIT : Hid (∀ W, Calls Tryz.prog 59 #[.int .u8 (c : Int), .int .i64 (v.length : Int)] W fun e w' => e = .returned (.bool true) ∧ w' = W) := fun W => by have := fits_any c v.length W (by omega); rw [hfit] at this; exact this
  have hsz : (⟨v.toArray⟩ : ByteArray).size = v.length := rfl
  clear hb1 hz1 hs1 ho hq hg hb0 hbp hp hbY
  have e1 : ((c : Int) == 1) = false := by simp; omega
  have e2 : ((c : Int) == 2) = false := by simp; omega
  have e64 : ((c : Int) == 64) = false := by simp; omega
  have e65 : ((c : Int) == 65) = false := by simp; omega
  have e69 : ((c : Int) == 69) = false := by simp; omega
  clear n1 n2 n64 n65 n69
  go_enter Tryz.func58, Tryz.ntmps58
  go_wp2_with fail
  generalize Y.alloc (.cells #[.int .i64 0, .int .u8 0, .int .u8 0] 37) = W1 at *
  refine Calls.mono (KFIT.out W1) ?_
  rintro e wf ⟨rfl, hwf⟩
  obtain rfl : W1 = wf := hwf.symm
  clear hwf KFIT
  go_wp2_with fail
  refine Calls.mono (newR_any v W1) ?_
  rintro e W2 ⟨rfl, hrd, hW2⟩
  have hb2 : Below W1.heap.size W1 W2 := by rw [hW2]; exact (Below.refl _ _).alloc (Nat.le_refl _) _
  have HO2 : Hid (OAt base W2 p o) := HO1.out.below hb2
  have HQ2 : Hid (W2.heap[q]? = _) := (hb2.block _ (lt_of_heap HQ1.out)).trans HQ1.out
  have HG2 : Hid (FamSizes W2) := HG1.out.below hb2
  have HF2 : Hid (Fr base p W1 W2) := Fr.of_below hb2 (Nat.le_refl _)
  have HRD : Hid (Rd W2 W1.heap.size v) := hrd
  have HZ2 : Hid (W1.heap.size ≤ W2.heap.size) := hb2.size
  clear hrd hW2 hb2 HO1 HQ1 HG1
  have HE : Hid (_ ∧ _) := tc_end HZ1.out HB1.out HF2.out HO2.out HN.out.2.2.1
  go_wp2_with (refine wpList_store_row rfl 37 _ _ rfl Y.heap.size #[.int .i64 0, .int .u8 0, .int .u8 0] rfl rfl 37 _ HE.out.1 size37 rfl (one37 _ _ _) ?_)
  have hr := row_same _ Y.heap.size _ #[.int .i64 0, .int .u8 0, .int .u8 0] HE.out.1
  have c0 := cl_row (i := 0) hr rfl
  have c1 := cl_row (i := 1) hr rfl
  have c2 := cl_row (i := 2) hr rfl
  refine bodyPost_ret (v := vdt 0 0 0) (by simp [results, Tryz.results58, go_sem, vdt, c0, c1, c2]) rfl ⟨rfl, (HE.out.2 _).1, (HE.out.2 _).2⟩
/-- A capability is taken, or refused. -/
theorem taker1_any (base p q : Nat) (o : Opn) (c : Nat) (v : List UInt8) (Y : World) (hc : c < 256) (hv : v.length < 256) (ho : OAt base Y p o) (hq : Y.heap[q]? = some (.cells #[.pointer (some ⟨p, 0, none⟩)] 76 (0, 0))) (hg : FamSizes Y) (hb0 : 0 < base) (hbp : base ≤ p) (hp : p < Y.heap.size) (hbY : base ≤ Y.heap.size) :
    Calls Tryz.prog 58 #[.int .u8 (c : Int), .string ⟨v.toArray⟩, .pointer (some ⟨q, 0, none⟩)] Y fun e w' => StepOk base p (stepC o c v) e w' ∧ Fr base p Y w' := by
  cases hfit : fitB c v.length with
  | false =>
    have hs : stepC o c v = .error 0 := by unfold stepC; rw [if_pos hfit]
    rw [hs]
    exact taker_unfit base p q o c v Y hc hv ho hq hg hb0 hbp hp hbY hfit
  | true =>
    have hn : ¬ (fitB c v.length = false) := by rw [hfit]; decide
    by_cases h1 : c = 1
    · subst h1
      have hs : stepC o 1 v = .ok { o with fams := famsI o.fams v } := by unfold stepC; rw [if_neg hn, if_pos rfl]
      rw [hs]
      exact (taker_fam base p q o v Y hv ho hq hg hb0 hbp hp hbY hfit).mono fun e w' h => ⟨⟨h.1, h.2.1⟩, h.2.2⟩
    by_cases h2 : c = 2
    · subst h2
      have hs : stepC o 2 v = .ok { o with refr := true } := by unfold stepC; rw [if_neg hn, if_neg h1, if_pos rfl]
      rw [hs]
      exact (taker_refresh base p q o v Y hv ho hq hg hb0 hbp hp hbY hfit).mono fun e w' h => ⟨⟨h.1, h.2.1⟩, h.2.2⟩
    by_cases h64 : c = 64
    · subst h64
      have hs : stepC o 64 v = .ok (entsL stK (v.drop 2) (grO o (worth (v.take 2)))) := by unfold stepC; rw [if_neg hn, if_neg h1, if_neg h2, if_pos rfl]
      rw [hs]
      exact (taker_restart base p q o v Y hv ho hq hg hb0 hbp hp hbY hfit).mono fun e w' h => ⟨⟨h.1, h.2.1⟩, h.2.2⟩
    by_cases h65 : c = 65
    · subst h65
      by_cases hw : worth v = 0
      · have hs : stepC o 65 v = .error 2 := by unfold stepC; rw [if_neg hn, if_neg h1, if_neg h2, if_neg h64, if_pos rfl, if_pos hw]
        rw [hs]
        exact taker_zero base p q o v Y hv ho hq hg hb0 hbp hp hbY hfit hw
      · have hs : stepC o 65 v = .ok { o with asn := (worth v : Int), four := true } := by unfold stepC; rw [if_neg hn, if_neg h1, if_neg h2, if_neg h64, if_pos rfl, if_neg hw]
        rw [hs]
        exact (taker_four base p q o v Y hv ho hq hg hb0 hbp hp hbY hfit hw).mono fun e w' h => ⟨⟨h.1, h.2.1⟩, h.2.2⟩
    by_cases h69 : c = 69
    · subst h69
      have hs : stepC o 69 v = .ok (entsL stA v { o with adds := [] }) := by unfold stepC; rw [if_neg hn, if_neg h1, if_neg h2, if_neg h64, if_neg h65, if_pos rfl]
      rw [hs]
      exact (taker_adds base p q o v Y hv ho hq hg hb0 hbp hp hbY hfit).mono fun e w' h => ⟨⟨h.1, h.2.1⟩, h.2.2⟩
    have hs : stepC o c v = .ok o := by unfold stepC; rw [if_neg hn, if_neg h1, if_neg h2, if_neg h64, if_neg h65, if_neg h69]
    rw [hs]
    exact (taker_other base p q o c v Y hc h1 h2 h64 h65 h69 hv ho hq hg hb0 hbp hp hbY hfit).mono fun e w' h => ⟨⟨h.1, h.2.1⟩, h.2.2⟩
end Go.Proofs.YtlhnfejgkhilkaaGreatDoor

set_option linter.unusedVariables false
set_option linter.unusedSimpArgs false
namespace Go.Proofs.YtlhnfejgkhilkaaGreatDoor
open Go.RowKit
/-- An open of which nothing is known. -/
def zO : Opn := ⟨0, 0, 0, [], false, false, [], false, false, 0, []⟩
abbrev nilS : Value := .slice none 0 0
def hd1 (l : List UInt8) : Nat := worth (l.take 1)
def hd2 (l : List UInt8) : Nat := worth ((l.drop 1).take 2)
def hd3 (l : List UInt8) : Nat := worth ((l.drop 3).take 2)
def hd4 (l : List UInt8) : Nat := worth ((l.drop 5).take 4)
def hd5 (l : List UInt8) : Nat := worth ((l.drop 9).take 1)
/-- The open of what stands ahead of the parameters, or what is wrong with it. -/
def headI (l : List UInt8) : Except Nat Opn :=
  if l.length < 10 then .error 0
  else if hd1 l ≠ 4 then .error 1
  else if hd2 l = 0 then .error 2
  else if holdB (hd3 l : Int) = false then .error 6
  else if hd4 l = 0 then .error 3
  else if l.length - 10 ≠ hd5 l then .error 0
  else .ok { zO with asn := (hd2 l : Int), hold := (hd3 l : Int), id := (hd4 l : Int) }
theorem size27 : (Tryz.prog.info? 27).map (·.size) = some 11 := by kernel_rfl
theorem size37' : (Tryz.prog.info? 37).map (·.size) = some 3 := by kernel_rfl
theorem one27 (a b c : Int) (a1 a2 a3 : Option Addr) (n1 n2 n3 k1 k2 k3 : Nat) (x y z u : Bool) (d : Int) : (#[.int .u32 a, .int .i64 b, .int .u32 c, .slice a1 n1 k1, .bool x, .bool y, .slice a2 n2 k2, .bool z, .bool u, .int .i64 d, .slice a3 n3 k3] : Array Value).all (·.oneCell') = true := by simp [Value.oneCell']
theorem one37' (a b c : Int) : (#[.int .i64 a, .int .u8 b, .int .u8 c] : Array Value).all (·.oneCell') = true := by simp [Value.oneCell']
/-- What takeHead answers. -/
def HeadOk (r : Except Nat Opn) (e : Ending) : Prop :=
  match r with
  | .ok o => e = .returned (.tuple #[opV o nilS nilS nilS, vdt 0 0 0])
  | .error n => e = .returned (.tuple #[opV zO nilS nilS nilS, vdt 3 2 (n : Int)])
theorem take_len (l : List UInt8) (a n : Nat) (h : a + n ≤ l.length) : ((l.drop a).take n).length = n := by simp; omega
theorem worth_bd (l : List UInt8) (a n : Nat) (h : a + n ≤ l.length) : worth ((l.drop a).take n) < 256 ^ n := by
  have := worth_lt ((l.drop a).take n)
  rw [take_len l a n h] at this
  exact this
set_option maxHeartbeats 6400000 in
set_option maxRecDepth 100000 in
theorem takeHead_any (l : List UInt8) (w : World) : Calls Tryz.prog 42 #[.string ⟨l.toArray⟩] w fun e w' => HeadOk (headI l) e ∧ Below w.heap.size w w' := by
  have hb1 : Below w.heap.size w ((w.alloc (.cells #[.int .u32 0, .int .i64 0, .int .u32 0, .slice none 0 0, .bool false, .bool false, .slice none 0 0, .bool false, .bool false, .int .i64 0, .slice none 0 0] 27)).alloc (.cells #[.int .i64 0, .int .u8 0, .int .u8 0] 37)) := ((Below.refl _ _).alloc (Nat.le_refl _) _).alloc (by simp) _
  have hz1 : ((w.alloc (.cells #[.int .u32 0, .int .i64 0, .int .u32 0, .slice none 0 0, .bool false, .bool false, .slice none 0 0, .bool false, .bool false, .int .i64 0, .slice none 0 0] 27)).alloc (.cells #[.int .i64 0, .int .u8 0, .int .u8 0] 37)).heap[w.heap.size]? = some (.cells #[.int .u32 0, .int .i64 0, .int .u32 0, .slice none 0 0, .bool false, .bool false, .slice none 0 0, .bool false, .bool false, .int .i64 0, .slice none 0 0] 27 (0, 0)) := hp_up (hp_new rfl)
  have hz2 : ((w.alloc (.cells #[.int .u32 0, .int .i64 0, .int .u32 0, .slice none 0 0, .bool false, .bool false, .slice none 0 0, .bool false, .bool false, .int .i64 0, .slice none 0 0] 27)).alloc (.cells #[.int .i64 0, .int .u8 0, .int .u8 0] 37)).heap[w.heap.size + 1]? = some (.cells #[.int .i64 0, .int .u8 0, .int .u8 0] 37 (0, 0)) := hp_new (by simp)
  have hs1 : ((w.alloc (.cells #[.int .u32 0, .int .i64 0, .int .u32 0, .slice none 0 0, .bool false, .bool false, .slice none 0 0, .bool false, .bool false, .int .i64 0, .slice none 0 0] 27)).alloc (.cells #[.int .i64 0, .int .u8 0, .int .u8 0] 37)).heap.size = w.heap.size + 2 := by simp
  have HB1 : Hid (Below _ _ _) := hb1
  have HZ1 : Hid (_ = _) := hz1
  have HZ2 : Hid (_ = _) := hz2
  have HS1 : Hid (_ = _) := hs1
  have hsz : (⟨l.toArray⟩ : ByteArray).size = l.length := rfl
  clear hb1 hz1 hz2 hs1
  by_cases h10 : l.length < 10
  · have HX : Hid (headI l = .error 0) := if_pos h10
    go_enter Tryz.func42, Tryz.ntmps42
    go_wp2_with fail
    generalize ((w.alloc (.cells #[.int .u32 0, .int .i64 0, .int .u32 0, .slice none 0 0, .bool false, .bool false, .slice none 0 0, .bool false, .bool false, .int .i64 0, .slice none 0 0] 27)).alloc (.cells #[.int .i64 0, .int .u8 0, .int .u8 0] 37)) = W1 at *
    refine Calls.mono (reset_any 0 W1) ?_
    rintro e W2 ⟨rfl, hb2⟩
    unfold vdt
    have HB2 : Hid (Below w.heap.size w W2) := HB1.out.trans (hb2.mono HB1.out.size)
    have HY1 : Hid (W2.heap[w.heap.size]? = _) := (hb2.block _ (lt_of_heap HZ1.out)).trans HZ1.out
    have HY2 : Hid (W2.heap[w.heap.size + 1]? = _) := (hb2.block _ (lt_of_heap HZ2.out)).trans HZ2.out
    clear hb2
    have HYb : Hid ((W2.setRow w.heap.size #[.int .u32 0, .int .i64 0, .int .u32 0, .slice none 0 0, .bool false, .bool false, .slice none 0 0, .bool false, .bool false, .int .i64 0, .slice none 0 0]).heap[w.heap.size + 1]? = _) := (row_other W2 w.heap.size (w.heap.size + 1) #[.int .u32 0, .int .i64 0, .int .u32 0, .slice none 0 0, .bool false, .bool false, .slice none 0 0, .bool false, .bool false, .int .i64 0, .slice none 0 0] (by omega)).trans HY2.out
    go_wp2_with (first | (refine wpList_store_row rfl 27 _ _ rfl w.heap.size #[.int .u32 0, .int .i64 0, .int .u32 0, .slice none 0 0, .bool false, .bool false, .slice none 0 0, .bool false, .bool false, .int .i64 0, .slice none 0 0] rfl rfl 27 _ HY1.out size27 rfl (one27 _ _ _ _ _ _ _ _ _ _ _ _ _ _ _ _ _) ?_) | (refine wpList_store_row rfl 37 _ _ rfl (w.heap.size + 1) #[.int .i64 3, .int .u8 2, .int .u8 0] rfl rfl 37 _ HYb.out size37' rfl (one37' _ _ _) ?_))
    have hr1 := (row_other (W2.setRow w.heap.size #[.int .u32 0, .int .i64 0, .int .u32 0, .slice none 0 0, .bool false, .bool false, .slice none 0 0, .bool false, .bool false, .int .i64 0, .slice none 0 0]) (w.heap.size + 1) w.heap.size #[.int .i64 3, .int .u8 2, .int .u8 0] (by omega)).trans (row_same W2 w.heap.size _ #[.int .u32 0, .int .i64 0, .int .u32 0, .slice none 0 0, .bool false, .bool false, .slice none 0 0, .bool false, .bool false, .int .i64 0, .slice none 0 0] HY1.out)
    have hr2 := row_same (W2.setRow w.heap.size #[.int .u32 0, .int .i64 0, .int .u32 0, .slice none 0 0, .bool false, .bool false, .slice none 0 0, .bool false, .bool false, .int .i64 0, .slice none 0 0]) (w.heap.size + 1) _ #[.int .i64 3, .int .u8 2, .int .u8 0] HYb.out
    have c0 := cl_row (i := 0) hr1 rfl
    have c1 := cl_row (i := 1) hr1 rfl
    have c2 := cl_row (i := 2) hr1 rfl
    have c3 := cl_row (i := 3) hr1 rfl
    have c4 := cl_row (i := 4) hr1 rfl
    have c5 := cl_row (i := 5) hr1 rfl
    have c6 := cl_row (i := 6) hr1 rfl
    have c7 := cl_row (i := 7) hr1 rfl
    have c8 := cl_row (i := 8) hr1 rfl
    have c9 := cl_row (i := 9) hr1 rfl
    have c10 := cl_row (i := 10) hr1 rfl
    have d0 := cl_row (i := 0) hr2 rfl
    have d1 := cl_row (i := 1) hr2 rfl
    have d2 := cl_row (i := 2) hr2 rfl
    refine bodyPost_ret (v := .tuple #[.agg #[.int .u32 0, .int .i64 0, .int .u32 0, .slice none 0 0, .bool false, .bool false, .slice none 0 0, .bool false, .bool false, .int .i64 0, .slice none 0 0], .agg #[.int .i64 3, .int .u8 2, .int .u8 0]]) (by simp [results, Tryz.results42, go_sem, c0, c1, c2, c3, c4, c5, c6, c7, c8, c9, c10, d0, d1, d2]) rfl ⟨by rw [HX.out]; rfl, below_setRow (below_setRow HB2.out (Nat.le_refl _) _) (by omega) _⟩
  · have hl10 : 10 ≤ l.length := by omega
    have hi10 : ¬ ((l.length : Int) < 10) := by omega
    have H10 : Hid (¬ l.length < 10) := h10
    have b1 : hd1 l < 256 := worth_bd l 0 1 (by omega)
    have b2 : hd2 l < 65536 := worth_bd l 1 2 (by omega)
    have b3 : hd3 l < 65536 := worth_bd l 3 2 (by omega)
    have b4 : hd4 l < 4294967296 := worth_bd l 5 4 (by omega)
    have b5 : hd5 l < 256 := worth_bd l 9 1 (by omega)
    have N1 : Hid (∀ X r, Rd X r l → Calls Tryz.prog 54 #[.pointer (some ⟨r, 0, none⟩), .int .i64 1] X fun e w' => e = .returned (.tuple #[.int .u64 (hd1 l : Int), .bool true]) ∧ Rd w' r (l.drop 1) ∧ Beside r X w') := fun X r hX => numR_yes r l 1 X hX (by omega) (by omega) (by omega)
    have N2 : Hid (∀ X r, Rd X r (l.drop 1) → Calls Tryz.prog 54 #[.pointer (some ⟨r, 0, none⟩), .int .i64 2] X fun e w' => e = .returned (.tuple #[.int .u64 (hd2 l : Int), .bool true]) ∧ Rd w' r (l.drop 3) ∧ Beside r X w') := fun X r hX => by have := numR_yes r (l.drop 1) 2 X hX (by omega) (by omega) (by simp; omega); rw [List.drop_drop] at this; exact this
    have N3 : Hid (∀ X r, Rd X r (l.drop 3) → Calls Tryz.prog 54 #[.pointer (some ⟨r, 0, none⟩), .int .i64 2] X fun e w' => e = .returned (.tuple #[.int .u64 (hd3 l : Int), .bool true]) ∧ Rd w' r (l.drop 5) ∧ Beside r X w') := fun X r hX => by have := numR_yes r (l.drop 3) 2 X hX (by omega) (by omega) (by simp; omega); rw [List.drop_drop] at this; exact this
    have N4 : Hid (∀ X r, Rd X r (l.drop 5) → Calls Tryz.prog 54 #[.pointer (some ⟨r, 0, none⟩), .int .i64 4] X fun e w' => e = .returned (.tuple #[.int .u64 (hd4 l : Int), .bool true]) ∧ Rd w' r (l.drop 9) ∧ Beside r X w') := fun X r hX => by have := numR_yes r (l.drop 5) 4 X hX (by omega) (by omega) (by simp; omega); rw [List.drop_drop] at this; exact this
    have N5 : Hid (∀ X r, Rd X r (l.drop 9) → Calls Tryz.prog 54 #[.pointer (some ⟨r, 0, none⟩), .int .i64 1] X fun e w' => e = .returned (.tuple #[.int .u64 (hd5 l : Int), .bool true]) ∧ Rd w' r (l.drop 10) ∧ Beside r X w') := fun X r hX => by have := numR_yes r (l.drop 9) 1 X hX (by omega) (by omega) (by simp; omega); rw [List.drop_drop] at this; exact this
    have NL : Hid (∀ X r, Rd X r (l.drop 10) → Calls Tryz.prog 55 #[.pointer (some ⟨r, 0, none⟩)] X fun e w' => e = .returned (.int .i64 ((l.length - 10 : Nat) : Int)) ∧ w' = X) := fun X r hX => by have := leftR_any r (l.drop 10) X hX; rw [List.length_drop] at this; exact this
    have KH : Hid (∀ X, Calls Tryz.prog 28 #[.int .i64 (hd3 l : Int)] X fun e w' => e = .returned (.bool (holdB (hd3 l : Int))) ∧ w' = X) := fun X => isHold_any _ X
    have HD : Hid (headI l = if hd1 l ≠ 4 then .error 1 else if hd2 l = 0 then .error 2 else if holdB (hd3 l : Int) = false then .error 6 else if hd4 l = 0 then .error 3 else if l.length - 10 ≠ hd5 l then .error 0 else .ok { zO with asn := (hd2 l : Int), hold := (hd3 l : Int), id := (hd4 l : Int) }) := if_neg h10
    clear h10
    generalize hd1 l = m1 at *
    generalize hd2 l = m2 at *
    generalize hd3 l = m3 at *
    generalize hd4 l = m4 at *
    generalize hd5 l = m5 at *
    have hmle : l.length - 10 ≤ l.length := by omega
    generalize l.length - 10 = ml at *
    by_cases h1 : m1 = 4
    · subst h1
      by_cases h2 : m2 = 0
      · have HX : Hid (headI l = .error 2) := by unfold Hid; rw [HD.out, if_neg (by omega), if_pos h2]
        subst h2
        clear HD
        go_enter Tryz.func42, Tryz.ntmps42
        go_wp2_with fail
        generalize ((w.alloc (.cells #[.int .u32 0, .int .i64 0, .int .u32 0, .slice none 0 0, .bool false, .bool false, .slice none 0 0, .bool false, .bool false, .int .i64 0, .slice none 0 0] 27)).alloc (.cells #[.int .i64 0, .int .u8 0, .int .u8 0] 37)) = W1 at *
        refine Calls.mono (newR_any l W1) ?_
        rintro e W2 ⟨rfl, hrd, hW2⟩
        have hb2 : Below W1.heap.size W1 W2 := by rw [hW2]; exact (Below.refl _ _).alloc (Nat.le_refl _) _
        have HK2 : Hid (Rd W2 W1.heap.size l ∧ Below w.heap.size w W2 ∧ W2.heap[w.heap.size]? = some (.cells #[.int .u32 0, .int .i64 0, .int .u32 0, .slice none 0 0, .bool false, .bool false, .slice none 0 0, .bool false, .bool false, .int .i64 0, .slice none 0 0] 27 (0, 0)) ∧ W2.heap[w.heap.size + 1]? = some (.cells #[.int .i64 0, .int .u8 0, .int .u8 0] 37 (0, 0))) := ⟨hrd, HB1.out.trans (hb2.mono HB1.out.size), (hb2.block _ (lt_of_heap HZ1.out)).trans HZ1.out, (hb2.block _ (lt_of_heap HZ2.out)).trans HZ2.out⟩
        clear hrd hW2 hb2
        go_wp2_with fail
        refine Calls.mono (N1.out W2 _ HK2.out.1) ?_
        rintro e W3 ⟨rfl, hr, hb⟩
        have HK3 : Hid (Rd W3 W1.heap.size (l.drop 1) ∧ Below w.heap.size w W3 ∧ W3.heap[w.heap.size]? = some (.cells #[.int .u32 0, .int .i64 0, .int .u32 0, .slice none 0 0, .bool false, .bool false, .slice none 0 0, .bool false, .bool false, .int .i64 0, .slice none 0 0] 27 (0, 0)) ∧ W3.heap[w.heap.size + 1]? = some (.cells #[.int .i64 0, .int .u8 0, .int .u8 0] 37 (0, 0))) := ⟨hr, HK2.out.2.1.trans (hb.below (by have := HS1.out; omega) HK2.out.2.1.size), (hb.block _ (lt_of_heap HK2.out.2.2.1) (by have := HS1.out; omega)).trans HK2.out.2.2.1, (hb.block _ (lt_of_heap HK2.out.2.2.2) (by have := HS1.out; omega)).trans HK2.out.2.2.2⟩
        clear hr hb HK2
        go_wp2_with fail
        refine Calls.mono (N2.out W3 _ HK3.out.1) ?_
        rintro e W4 ⟨rfl, hr, hb⟩
        have HK4 : Hid (Rd W4 W1.heap.size (l.drop 3) ∧ Below w.heap.size w W4 ∧ W4.heap[w.heap.size]? = some (.cells #[.int .u32 0, .int .i64 0, .int .u32 0, .slice none 0 0, .bool false, .bool false, .slice none 0 0, .bool false, .bool false, .int .i64 0, .slice none 0 0] 27 (0, 0)) ∧ W4.heap[w.heap.size + 1]? = some (.cells #[.int .i64 0, .int .u8 0, .int .u8 0] 37 (0, 0))) := ⟨hr, HK3.out.2.1.trans (hb.below (by have := HS1.out; omega) HK3.out.2.1.size), (hb.block _ (lt_of_heap HK3.out.2.2.1) (by have := HS1.out; omega)).trans HK3.out.2.2.1, (hb.block _ (lt_of_heap HK3.out.2.2.2) (by have := HS1.out; omega)).trans HK3.out.2.2.2⟩
        clear hr hb HK3
        go_wp2_with fail
        refine Calls.mono (N3.out W4 _ HK4.out.1) ?_
        rintro e W5 ⟨rfl, hr, hb⟩
        have HK5 : Hid (Rd W5 W1.heap.size (l.drop 5) ∧ Below w.heap.size w W5 ∧ W5.heap[w.heap.size]? = some (.cells #[.int .u32 0, .int .i64 0, .int .u32 0, .slice none 0 0, .bool false, .bool false, .slice none 0 0, .bool false, .bool false, .int .i64 0, .slice none 0 0] 27 (0, 0)) ∧ W5.heap[w.heap.size + 1]? = some (.cells #[.int .i64 0, .int .u8 0, .int .u8 0] 37 (0, 0))) := ⟨hr, HK4.out.2.1.trans (hb.below (by have := HS1.out; omega) HK4.out.2.1.size), (hb.block _ (lt_of_heap HK4.out.2.2.1) (by have := HS1.out; omega)).trans HK4.out.2.2.1, (hb.block _ (lt_of_heap HK4.out.2.2.2) (by have := HS1.out; omega)).trans HK4.out.2.2.2⟩
        clear hr hb HK4
        go_wp2_with fail
        refine Calls.mono (N4.out W5 _ HK5.out.1) ?_
        rintro e W6 ⟨rfl, hr, hb⟩
        have HK6 : Hid (Rd W6 W1.heap.size (l.drop 9) ∧ Below w.heap.size w W6 ∧ W6.heap[w.heap.size]? = some (.cells #[.int .u32 0, .int .i64 0, .int .u32 0, .slice none 0 0, .bool false, .bool false, .slice none 0 0, .bool false, .bool false, .int .i64 0, .slice none 0 0] 27 (0, 0)) ∧ W6.heap[w.heap.size + 1]? = some (.cells #[.int .i64 0, .int .u8 0, .int .u8 0] 37 (0, 0))) := ⟨hr, HK5.out.2.1.trans (hb.below (by have := HS1.out; omega) HK5.out.2.1.size), (hb.block _ (lt_of_heap HK5.out.2.2.1) (by have := HS1.out; omega)).trans HK5.out.2.2.1, (hb.block _ (lt_of_heap HK5.out.2.2.2) (by have := HS1.out; omega)).trans HK5.out.2.2.2⟩
        clear hr hb HK5
        go_wp2_with fail
        refine Calls.mono (N5.out W6 _ HK6.out.1) ?_
        rintro e W7 ⟨rfl, hr, hb⟩
        have HK7 : Hid (Rd W7 W1.heap.size (l.drop 10) ∧ Below w.heap.size w W7 ∧ W7.heap[w.heap.size]? = some (.cells #[.int .u32 0, .int .i64 0, .int .u32 0, .slice none 0 0, .bool false, .bool false, .slice none 0 0, .bool false, .bool false, .int .i64 0, .slice none 0 0] 27 (0, 0)) ∧ W7.heap[w.heap.size + 1]? = some (.cells #[.int .i64 0, .int .u8 0, .int .u8 0] 37 (0, 0))) := ⟨hr, HK6.out.2.1.trans (hb.below (by have := HS1.out; omega) HK6.out.2.1.size), (hb.block _ (lt_of_heap HK6.out.2.2.1) (by have := HS1.out; omega)).trans HK6.out.2.2.1, (hb.block _ (lt_of_heap HK6.out.2.2.2) (by have := HS1.out; omega)).trans HK6.out.2.2.2⟩
        clear hr hb HK6
        go_wp2_with fail
        refine Calls.mono (reset_any 2 W7) ?_
        rintro e W8 ⟨rfl, hb8⟩
        unfold vdt
        have HB8 : Hid (Below w.heap.size w W8) := HK7.out.2.1.trans (hb8.mono HK7.out.2.1.size)
        have HY1 : Hid (W8.heap[w.heap.size]? = _) := (hb8.block _ (lt_of_heap HK7.out.2.2.1)).trans HK7.out.2.2.1
        have HY2 : Hid (W8.heap[w.heap.size + 1]? = _) := (hb8.block _ (lt_of_heap HK7.out.2.2.2)).trans HK7.out.2.2.2
        clear hb8 HK7
        have HYb : Hid ((W8.setRow w.heap.size #[.int .u32 0, .int .i64 0, .int .u32 0, .slice none 0 0, .bool false, .bool false, .slice none 0 0, .bool false, .bool false, .int .i64 0, .slice none 0 0]).heap[w.heap.size + 1]? = _) := (row_other W8 w.heap.size (w.heap.size + 1) #[.int .u32 0, .int .i64 0, .int .u32 0, .slice none 0 0, .bool false, .bool false, .slice none 0 0, .bool false, .bool false, .int .i64 0, .slice none 0 0] (by omega)).trans HY2.out
        go_wp2_with (first | (refine wpList_store_row rfl 27 _ _ rfl w.heap.size #[.int .u32 0, .int .i64 0, .int .u32 0, .slice none 0 0, .bool false, .bool false, .slice none 0 0, .bool false, .bool false, .int .i64 0, .slice none 0 0] rfl rfl 27 _ HY1.out size27 rfl (one27 _ _ _ _ _ _ _ _ _ _ _ _ _ _ _ _ _) ?_) | (refine wpList_store_row rfl 37 _ _ rfl (w.heap.size + 1) #[.int .i64 3, .int .u8 2, .int .u8 2] rfl rfl 37 _ HYb.out size37' rfl (one37' _ _ _) ?_))
        have hr1 := (row_other (W8.setRow w.heap.size #[.int .u32 0, .int .i64 0, .int .u32 0, .slice none 0 0, .bool false, .bool false, .slice none 0 0, .bool false, .bool false, .int .i64 0, .slice none 0 0]) (w.heap.size + 1) w.heap.size #[.int .i64 3, .int .u8 2, .int .u8 2] (by omega)).trans (row_same W8 w.heap.size _ #[.int .u32 0, .int .i64 0, .int .u32 0, .slice none 0 0, .bool false, .bool false, .slice none 0 0, .bool false, .bool false, .int .i64 0, .slice none 0 0] HY1.out)
        have hr2 := row_same (W8.setRow w.heap.size #[.int .u32 0, .int .i64 0, .int .u32 0, .slice none 0 0, .bool false, .bool false, .slice none 0 0, .bool false, .bool false, .int .i64 0, .slice none 0 0]) (w.heap.size + 1) _ #[.int .i64 3, .int .u8 2, .int .u8 2] HYb.out
        have c0 := cl_row (i := 0) hr1 rfl
        have c1 := cl_row (i := 1) hr1 rfl
        have c2 := cl_row (i := 2) hr1 rfl
        have c3 := cl_row (i := 3) hr1 rfl
        have c4 := cl_row (i := 4) hr1 rfl
        have c5 := cl_row (i := 5) hr1 rfl
        have c6 := cl_row (i := 6) hr1 rfl
        have c7 := cl_row (i := 7) hr1 rfl
        have c8 := cl_row (i := 8) hr1 rfl
        have c9 := cl_row (i := 9) hr1 rfl
        have c10 := cl_row (i := 10) hr1 rfl
        have d0 := cl_row (i := 0) hr2 rfl
        have d1 := cl_row (i := 1) hr2 rfl
        have d2 := cl_row (i := 2) hr2 rfl
        refine bodyPost_ret (v := .tuple #[.agg #[.int .u32 0, .int .i64 0, .int .u32 0, .slice none 0 0, .bool false, .bool false, .slice none 0 0, .bool false, .bool false, .int .i64 0, .slice none 0 0], .agg #[.int .i64 3, .int .u8 2, .int .u8 2]]) (by simp [results, Tryz.results42, go_sem, c0, c1, c2, c3, c4, c5, c6, c7, c8, c9, c10, d0, d1, d2]) rfl ⟨by rw [HX.out]; rfl, below_setRow (below_setRow HB8.out (Nat.le_refl _) _) (by omega) _⟩
      · have e2 : ((m2 : Int) == 0) = false := by simp; omega
        cases h3 : holdB (m3 : Int) with
        | false =>
          have HX : Hid (headI l = .error 6) := by unfold Hid; rw [HD.out, if_neg (by omega), if_neg h2, if_pos h3]
          rw [h3] at KH
          clear HD h3 h2
          go_enter Tryz.func42, Tryz.ntmps42
          go_wp2_with fail
          generalize ((w.alloc (.cells #[.int .u32 0, .int .i64 0, .int .u32 0, .slice none 0 0, .bool false, .bool false, .slice none 0 0, .bool false, .bool false, .int .i64 0, .slice none 0 0] 27)).alloc (.cells #[.int .i64 0, .int .u8 0, .int .u8 0] 37)) = W1 at *
          refine Calls.mono (newR_any l W1) ?_
          rintro e W2 ⟨rfl, hrd, hW2⟩
          have hb2 : Below W1.heap.size W1 W2 := by rw [hW2]; exact (Below.refl _ _).alloc (Nat.le_refl _) _
          have HK2 : Hid (Rd W2 W1.heap.size l ∧ Below w.heap.size w W2 ∧ W2.heap[w.heap.size]? = some (.cells #[.int .u32 0, .int .i64 0, .int .u32 0, .slice none 0 0, .bool false, .bool false, .slice none 0 0, .bool false, .bool false, .int .i64 0, .slice none 0 0] 27 (0, 0)) ∧ W2.heap[w.heap.size + 1]? = some (.cells #[.int .i64 0, .int .u8 0, .int .u8 0] 37 (0, 0))) := ⟨hrd, HB1.out.trans (hb2.mono HB1.out.size), (hb2.block _ (lt_of_heap HZ1.out)).trans HZ1.out, (hb2.block _ (lt_of_heap HZ2.out)).trans HZ2.out⟩
          clear hrd hW2 hb2
          go_wp2_with fail
          refine Calls.mono (N1.out W2 _ HK2.out.1) ?_
          rintro e W3 ⟨rfl, hr, hb⟩
          have HK3 : Hid (Rd W3 W1.heap.size (l.drop 1) ∧ Below w.heap.size w W3 ∧ W3.heap[w.heap.size]? = some (.cells #[.int .u32 0, .int .i64 0, .int .u32 0, .slice none 0 0, .bool false, .bool false, .slice none 0 0, .bool false, .bool false, .int .i64 0, .slice none 0 0] 27 (0, 0)) ∧ W3.heap[w.heap.size + 1]? = some (.cells #[.int .i64 0, .int .u8 0, .int .u8 0] 37 (0, 0))) := ⟨hr, HK2.out.2.1.trans (hb.below (by have := HS1.out; omega) HK2.out.2.1.size), (hb.block _ (lt_of_heap HK2.out.2.2.1) (by have := HS1.out; omega)).trans HK2.out.2.2.1, (hb.block _ (lt_of_heap HK2.out.2.2.2) (by have := HS1.out; omega)).trans HK2.out.2.2.2⟩
          clear hr hb HK2
          go_wp2_with fail
          refine Calls.mono (N2.out W3 _ HK3.out.1) ?_
          rintro e W4 ⟨rfl, hr, hb⟩
          have HK4 : Hid (Rd W4 W1.heap.size (l.drop 3) ∧ Below w.heap.size w W4 ∧ W4.heap[w.heap.size]? = some (.cells #[.int .u32 0, .int .i64 0, .int .u32 0, .slice none 0 0, .bool false, .bool false, .slice none 0 0, .bool false, .bool false, .int .i64 0, .slice none 0 0] 27 (0, 0)) ∧ W4.heap[w.heap.size + 1]? = some (.cells #[.int .i64 0, .int .u8 0, .int .u8 0] 37 (0, 0))) := ⟨hr, HK3.out.2.1.trans (hb.below (by have := HS1.out; omega) HK3.out.2.1.size), (hb.block _ (lt_of_heap HK3.out.2.2.1) (by have := HS1.out; omega)).trans HK3.out.2.2.1, (hb.block _ (lt_of_heap HK3.out.2.2.2) (by have := HS1.out; omega)).trans HK3.out.2.2.2⟩
          clear hr hb HK3
          go_wp2_with fail
          refine Calls.mono (N3.out W4 _ HK4.out.1) ?_
          rintro e W5 ⟨rfl, hr, hb⟩
          have HK5 : Hid (Rd W5 W1.heap.size (l.drop 5) ∧ Below w.heap.size w W5 ∧ W5.heap[w.heap.size]? = some (.cells #[.int .u32 0, .int .i64 0, .int .u32 0, .slice none 0 0, .bool false, .bool false, .slice none 0 0, .bool false, .bool false, .int .i64 0, .slice none 0 0] 27 (0, 0)) ∧ W5.heap[w.heap.size + 1]? = some (.cells #[.int .i64 0, .int .u8 0, .int .u8 0] 37 (0, 0))) := ⟨hr, HK4.out.2.1.trans (hb.below (by have := HS1.out; omega) HK4.out.2.1.size), (hb.block _ (lt_of_heap HK4.out.2.2.1) (by have := HS1.out; omega)).trans HK4.out.2.2.1, (hb.block _ (lt_of_heap HK4.out.2.2.2) (by have := HS1.out; omega)).trans HK4.out.2.2.2⟩
          clear hr hb HK4
          go_wp2_with fail
          refine Calls.mono (N4.out W5 _ HK5.out.1) ?_
          rintro e W6 ⟨rfl, hr, hb⟩
          have HK6 : Hid (Rd W6 W1.heap.size (l.drop 9) ∧ Below w.heap.size w W6 ∧ W6.heap[w.heap.size]? = some (.cells #[.int .u32 0, .int .i64 0, .int .u32 0, .slice none 0 0, .bool false, .bool false, .slice none 0 0, .bool false, .bool false, .int .i64 0, .slice none 0 0] 27 (0, 0)) ∧ W6.heap[w.heap.size + 1]? = some (.cells #[.int .i64 0, .int .u8 0, .int .u8 0] 37 (0, 0))) := ⟨hr, HK5.out.2.1.trans (hb.below (by have := HS1.out; omega) HK5.out.2.1.size), (hb.block _ (lt_of_heap HK5.out.2.2.1) (by have := HS1.out; omega)).trans HK5.out.2.2.1, (hb.block _ (lt_of_heap HK5.out.2.2.2) (by have := HS1.out; omega)).trans HK5.out.2.2.2⟩
          clear hr hb HK5
          go_wp2_with fail
          refine Calls.mono (N5.out W6 _ HK6.out.1) ?_
          rintro e W7 ⟨rfl, hr, hb⟩
          have HK7 : Hid (Rd W7 W1.heap.size (l.drop 10) ∧ Below w.heap.size w W7 ∧ W7.heap[w.heap.size]? = some (.cells #[.int .u32 0, .int .i64 0, .int .u32 0, .slice none 0 0, .bool false, .bool false, .slice none 0 0, .bool false, .bool false, .int .i64 0, .slice none 0 0] 27 (0, 0)) ∧ W7.heap[w.heap.size + 1]? = some (.cells #[.int .i64 0, .int .u8 0, .int .u8 0] 37 (0, 0))) := ⟨hr, HK6.out.2.1.trans (hb.below (by have := HS1.out; omega) HK6.out.2.1.size), (hb.block _ (lt_of_heap HK6.out.2.2.1) (by have := HS1.out; omega)).trans HK6.out.2.2.1, (hb.block _ (lt_of_heap HK6.out.2.2.2) (by have := HS1.out; omega)).trans HK6.out.2.2.2⟩
          clear hr hb HK6
          go_wp2_with fail
          refine Calls.mono (KH.out W7) ?_
          rintro e wf ⟨rfl, hwf⟩
          obtain rfl : W7 = wf := hwf.symm
          clear hwf
          go_wp2_with fail
          refine Calls.mono (reset_any 6 W7) ?_
          rintro e W8 ⟨rfl, hb8⟩
          unfold vdt
          have HB8 : Hid (Below w.heap.size w W8) := HK7.out.2.1.trans (hb8.mono HK7.out.2.1.size)
          have HY1 : Hid (W8.heap[w.heap.size]? = _) := (hb8.block _ (lt_of_heap HK7.out.2.2.1)).trans HK7.out.2.2.1
          have HY2 : Hid (W8.heap[w.heap.size + 1]? = _) := (hb8.block _ (lt_of_heap HK7.out.2.2.2)).trans HK7.out.2.2.2
          clear hb8 HK7
          have HYb : Hid ((W8.setRow w.heap.size #[.int .u32 0, .int .i64 0, .int .u32 0, .slice none 0 0, .bool false, .bool false, .slice none 0 0, .bool false, .bool false, .int .i64 0, .slice none 0 0]).heap[w.heap.size + 1]? = _) := (row_other W8 w.heap.size (w.heap.size + 1) #[.int .u32 0, .int .i64 0, .int .u32 0, .slice none 0 0, .bool false, .bool false, .slice none 0 0, .bool false, .bool false, .int .i64 0, .slice none 0 0] (by omega)).trans HY2.out
          go_wp2_with (first | (refine wpList_store_row rfl 27 _ _ rfl w.heap.size #[.int .u32 0, .int .i64 0, .int .u32 0, .slice none 0 0, .bool false, .bool false, .slice none 0 0, .bool false, .bool false, .int .i64 0, .slice none 0 0] rfl rfl 27 _ HY1.out size27 rfl (one27 _ _ _ _ _ _ _ _ _ _ _ _ _ _ _ _ _) ?_) | (refine wpList_store_row rfl 37 _ _ rfl (w.heap.size + 1) #[.int .i64 3, .int .u8 2, .int .u8 6] rfl rfl 37 _ HYb.out size37' rfl (one37' _ _ _) ?_))
          have hr1 := (row_other (W8.setRow w.heap.size #[.int .u32 0, .int .i64 0, .int .u32 0, .slice none 0 0, .bool false, .bool false, .slice none 0 0, .bool false, .bool false, .int .i64 0, .slice none 0 0]) (w.heap.size + 1) w.heap.size #[.int .i64 3, .int .u8 2, .int .u8 6] (by omega)).trans (row_same W8 w.heap.size _ #[.int .u32 0, .int .i64 0, .int .u32 0, .slice none 0 0, .bool false, .bool false, .slice none 0 0, .bool false, .bool false, .int .i64 0, .slice none 0 0] HY1.out)
          have hr2 := row_same (W8.setRow w.heap.size #[.int .u32 0, .int .i64 0, .int .u32 0, .slice none 0 0, .bool false, .bool false, .slice none 0 0, .bool false, .bool false, .int .i64 0, .slice none 0 0]) (w.heap.size + 1) _ #[.int .i64 3, .int .u8 2, .int .u8 6] HYb.out
          have c0 := cl_row (i := 0) hr1 rfl
          have c1 := cl_row (i := 1) hr1 rfl
          have c2 := cl_row (i := 2) hr1 rfl
          have c3 := cl_row (i := 3) hr1 rfl
          have c4 := cl_row (i := 4) hr1 rfl
          have c5 := cl_row (i := 5) hr1 rfl
          have c6 := cl_row (i := 6) hr1 rfl
          have c7 := cl_row (i := 7) hr1 rfl
          have c8 := cl_row (i := 8) hr1 rfl
          have c9 := cl_row (i := 9) hr1 rfl
          have c10 := cl_row (i := 10) hr1 rfl
          have d0 := cl_row (i := 0) hr2 rfl
          have d1 := cl_row (i := 1) hr2 rfl
          have d2 := cl_row (i := 2) hr2 rfl
          refine bodyPost_ret (v := .tuple #[.agg #[.int .u32 0, .int .i64 0, .int .u32 0, .slice none 0 0, .bool false, .bool false, .slice none 0 0, .bool false, .bool false, .int .i64 0, .slice none 0 0], .agg #[.int .i64 3, .int .u8 2, .int .u8 6]]) (by simp [results, Tryz.results42, go_sem, c0, c1, c2, c3, c4, c5, c6, c7, c8, c9, c10, d0, d1, d2]) rfl ⟨by rw [HX.out]; rfl, below_setRow (below_setRow HB8.out (Nat.le_refl _) _) (by omega) _⟩
        | true =>
          rw [h3] at KH
          by_cases h4 : m4 = 0
          · have HX : Hid (headI l = .error 3) := by unfold Hid; rw [HD.out, if_neg (by omega), if_neg h2, if_neg (by rw [h3]; decide), if_pos h4]
            subst h4
            clear HD h3 h2
            go_enter Tryz.func42, Tryz.ntmps42
            go_wp2_with fail
            generalize ((w.alloc (.cells #[.int .u32 0, .int .i64 0, .int .u32 0, .slice none 0 0, .bool false, .bool false, .slice none 0 0, .bool false, .bool false, .int .i64 0, .slice none 0 0] 27)).alloc (.cells #[.int .i64 0, .int .u8 0, .int .u8 0] 37)) = W1 at *
            refine Calls.mono (newR_any l W1) ?_
            rintro e W2 ⟨rfl, hrd, hW2⟩
            have hb2 : Below W1.heap.size W1 W2 := by rw [hW2]; exact (Below.refl _ _).alloc (Nat.le_refl _) _
            have HK2 : Hid (Rd W2 W1.heap.size l ∧ Below w.heap.size w W2 ∧ W2.heap[w.heap.size]? = some (.cells #[.int .u32 0, .int .i64 0, .int .u32 0, .slice none 0 0, .bool false, .bool false, .slice none 0 0, .bool false, .bool false, .int .i64 0, .slice none 0 0] 27 (0, 0)) ∧ W2.heap[w.heap.size + 1]? = some (.cells #[.int .i64 0, .int .u8 0, .int .u8 0] 37 (0, 0))) := ⟨hrd, HB1.out.trans (hb2.mono HB1.out.size), (hb2.block _ (lt_of_heap HZ1.out)).trans HZ1.out, (hb2.block _ (lt_of_heap HZ2.out)).trans HZ2.out⟩
            clear hrd hW2 hb2
            go_wp2_with fail
            refine Calls.mono (N1.out W2 _ HK2.out.1) ?_
            rintro e W3 ⟨rfl, hr, hb⟩
            have HK3 : Hid (Rd W3 W1.heap.size (l.drop 1) ∧ Below w.heap.size w W3 ∧ W3.heap[w.heap.size]? = some (.cells #[.int .u32 0, .int .i64 0, .int .u32 0, .slice none 0 0, .bool false, .bool false, .slice none 0 0, .bool false, .bool false, .int .i64 0, .slice none 0 0] 27 (0, 0)) ∧ W3.heap[w.heap.size + 1]? = some (.cells #[.int .i64 0, .int .u8 0, .int .u8 0] 37 (0, 0))) := ⟨hr, HK2.out.2.1.trans (hb.below (by have := HS1.out; omega) HK2.out.2.1.size), (hb.block _ (lt_of_heap HK2.out.2.2.1) (by have := HS1.out; omega)).trans HK2.out.2.2.1, (hb.block _ (lt_of_heap HK2.out.2.2.2) (by have := HS1.out; omega)).trans HK2.out.2.2.2⟩
            clear hr hb HK2
            go_wp2_with fail
            refine Calls.mono (N2.out W3 _ HK3.out.1) ?_
            rintro e W4 ⟨rfl, hr, hb⟩
            have HK4 : Hid (Rd W4 W1.heap.size (l.drop 3) ∧ Below w.heap.size w W4 ∧ W4.heap[w.heap.size]? = some (.cells #[.int .u32 0, .int .i64 0, .int .u32 0, .slice none 0 0, .bool false, .bool false, .slice none 0 0, .bool false, .bool false, .int .i64 0, .slice none 0 0] 27 (0, 0)) ∧ W4.heap[w.heap.size + 1]? = some (.cells #[.int .i64 0, .int .u8 0, .int .u8 0] 37 (0, 0))) := ⟨hr, HK3.out.2.1.trans (hb.below (by have := HS1.out; omega) HK3.out.2.1.size), (hb.block _ (lt_of_heap HK3.out.2.2.1) (by have := HS1.out; omega)).trans HK3.out.2.2.1, (hb.block _ (lt_of_heap HK3.out.2.2.2) (by have := HS1.out; omega)).trans HK3.out.2.2.2⟩
            clear hr hb HK3
            go_wp2_with fail
            refine Calls.mono (N3.out W4 _ HK4.out.1) ?_
            rintro e W5 ⟨rfl, hr, hb⟩
            have HK5 : Hid (Rd W5 W1.heap.size (l.drop 5) ∧ Below w.heap.size w W5 ∧ W5.heap[w.heap.size]? = some (.cells #[.int .u32 0, .int .i64 0, .int .u32 0, .slice none 0 0, .bool false, .bool false, .slice none 0 0, .bool false, .bool false, .int .i64 0, .slice none 0 0] 27 (0, 0)) ∧ W5.heap[w.heap.size + 1]? = some (.cells #[.int .i64 0, .int .u8 0, .int .u8 0] 37 (0, 0))) := ⟨hr, HK4.out.2.1.trans (hb.below (by have := HS1.out; omega) HK4.out.2.1.size), (hb.block _ (lt_of_heap HK4.out.2.2.1) (by have := HS1.out; omega)).trans HK4.out.2.2.1, (hb.block _ (lt_of_heap HK4.out.2.2.2) (by have := HS1.out; omega)).trans HK4.out.2.2.2⟩
            clear hr hb HK4
            go_wp2_with fail
            refine Calls.mono (N4.out W5 _ HK5.out.1) ?_
            rintro e W6 ⟨rfl, hr, hb⟩
            have HK6 : Hid (Rd W6 W1.heap.size (l.drop 9) ∧ Below w.heap.size w W6 ∧ W6.heap[w.heap.size]? = some (.cells #[.int .u32 0, .int .i64 0, .int .u32 0, .slice none 0 0, .bool false, .bool false, .slice none 0 0, .bool false, .bool false, .int .i64 0, .slice none 0 0] 27 (0, 0)) ∧ W6.heap[w.heap.size + 1]? = some (.cells #[.int .i64 0, .int .u8 0, .int .u8 0] 37 (0, 0))) := ⟨hr, HK5.out.2.1.trans (hb.below (by have := HS1.out; omega) HK5.out.2.1.size), (hb.block _ (lt_of_heap HK5.out.2.2.1) (by have := HS1.out; omega)).trans HK5.out.2.2.1, (hb.block _ (lt_of_heap HK5.out.2.2.2) (by have := HS1.out; omega)).trans HK5.out.2.2.2⟩
            clear hr hb HK5
            go_wp2_with fail
            refine Calls.mono (N5.out W6 _ HK6.out.1) ?_
            rintro e W7 ⟨rfl, hr, hb⟩
            have HK7 : Hid (Rd W7 W1.heap.size (l.drop 10) ∧ Below w.heap.size w W7 ∧ W7.heap[w.heap.size]? = some (.cells #[.int .u32 0, .int .i64 0, .int .u32 0, .slice none 0 0, .bool false, .bool false, .slice none 0 0, .bool false, .bool false, .int .i64 0, .slice none 0 0] 27 (0, 0)) ∧ W7.heap[w.heap.size + 1]? = some (.cells #[.int .i64 0, .int .u8 0, .int .u8 0] 37 (0, 0))) := ⟨hr, HK6.out.2.1.trans (hb.below (by have := HS1.out; omega) HK6.out.2.1.size), (hb.block _ (lt_of_heap HK6.out.2.2.1) (by have := HS1.out; omega)).trans HK6.out.2.2.1, (hb.block _ (lt_of_heap HK6.out.2.2.2) (by have := HS1.out; omega)).trans HK6.out.2.2.2⟩
            clear hr hb HK6
            go_wp2_with fail
            refine Calls.mono (KH.out W7) ?_
            rintro e wf ⟨rfl, hwf⟩
            obtain rfl : W7 = wf := hwf.symm
            clear hwf
            go_wp2_with fail
            refine Calls.mono (reset_any 3 W7) ?_
            rintro e W8 ⟨rfl, hb8⟩
            unfold vdt
            have HB8 : Hid (Below w.heap.size w W8) := HK7.out.2.1.trans (hb8.mono HK7.out.2.1.size)
            have HY1 : Hid (W8.heap[w.heap.size]? = _) := (hb8.block _ (lt_of_heap HK7.out.2.2.1)).trans HK7.out.2.2.1
            have HY2 : Hid (W8.heap[w.heap.size + 1]? = _) := (hb8.block _ (lt_of_heap HK7.out.2.2.2)).trans HK7.out.2.2.2
            clear hb8 HK7
            have HYb : Hid ((W8.setRow w.heap.size #[.int .u32 0, .int .i64 0, .int .u32 0, .slice none 0 0, .bool false, .bool false, .slice none 0 0, .bool false, .bool false, .int .i64 0, .slice none 0 0]).heap[w.heap.size + 1]? = _) := (row_other W8 w.heap.size (w.heap.size + 1) #[.int .u32 0, .int .i64 0, .int .u32 0, .slice none 0 0, .bool false, .bool false, .slice none 0 0, .bool false, .bool false, .int .i64 0, .slice none 0 0] (by omega)).trans HY2.out
            go_wp2_with (first | (refine wpList_store_row rfl 27 _ _ rfl w.heap.size #[.int .u32 0, .int .i64 0, .int .u32 0, .slice none 0 0, .bool false, .bool false, .slice none 0 0, .bool false, .bool false, .int .i64 0, .slice none 0 0] rfl rfl 27 _ HY1.out size27 rfl (one27 _ _ _ _ _ _ _ _ _ _ _ _ _ _ _ _ _) ?_) | (refine wpList_store_row rfl 37 _ _ rfl (w.heap.size + 1) #[.int .i64 3, .int .u8 2, .int .u8 3] rfl rfl 37 _ HYb.out size37' rfl (one37' _ _ _) ?_))
            have hr1 := (row_other (W8.setRow w.heap.size #[.int .u32 0, .int .i64 0, .int .u32 0, .slice none 0 0, .bool false, .bool false, .slice none 0 0, .bool false, .bool false, .int .i64 0, .slice none 0 0]) (w.heap.size + 1) w.heap.size #[.int .i64 3, .int .u8 2, .int .u8 3] (by omega)).trans (row_same W8 w.heap.size _ #[.int .u32 0, .int .i64 0, .int .u32 0, .slice none 0 0, .bool false, .bool false, .slice none 0 0, .bool false, .bool false, .int .i64 0, .slice none 0 0] HY1.out)
            have hr2 := row_same (W8.setRow w.heap.size #[.int .u32 0, .int .i64 0, .int .u32 0, .slice none 0 0, .bool false, .bool false, .slice none 0 0, .bool false, .bool false, .int .i64 0, .slice none 0 0]) (w.heap.size + 1) _ #[.int .i64 3, .int .u8 2, .int .u8 3] HYb.out
            have c0 := cl_row (i := 0) hr1 rfl
            have c1 := cl_row (i := 1) hr1 rfl
            have c2 := cl_row (i := 2) hr1 rfl
            have c3 := cl_row (i := 3) hr1 rfl
            have c4 := cl_row (i := 4) hr1 rfl
            have c5 := cl_row (i := 5) hr1 rfl
            have c6 := cl_row (i := 6) hr1 rfl
            have c7 := cl_row (i := 7) hr1 rfl
            have c8 := cl_row (i := 8) hr1 rfl
            have c9 := cl_row (i := 9) hr1 rfl
            have c10 := cl_row (i := 10) hr1 rfl
            have d0 := cl_row (i := 0) hr2 rfl
            have d1 := cl_row (i := 1) hr2 rfl
            have d2 := cl_row (i := 2) hr2 rfl
            refine bodyPost_ret (v := .tuple #[.agg #[.int .u32 0, .int .i64 0, .int .u32 0, .slice none 0 0, .bool false, .bool false, .slice none 0 0, .bool false, .bool false, .int .i64 0, .slice none 0 0], .agg #[.int .i64 3, .int .u8 2, .int .u8 3]]) (by simp [results, Tryz.results42, go_sem, c0, c1, c2, c3, c4, c5, c6, c7, c8, c9, c10, d0, d1, d2]) rfl ⟨by rw [HX.out]; rfl, below_setRow (below_setRow HB8.out (Nat.le_refl _) _) (by omega) _⟩
          · have e4 : ((m4 : Int) == 0) = false := by simp; omega
            by_cases h5 : ml = m5
            · have HX : Hid (headI l = .ok { zO with asn := (m2 : Int), hold := (m3 : Int), id := (m4 : Int) }) := by unfold Hid; rw [HD.out, if_neg (by omega), if_neg h2, if_neg (by rw [h3]; decide), if_neg h4, if_neg (by omega)]
              subst h5
              clear HD h3 h2 h4
              go_enter Tryz.func42, Tryz.ntmps42
              go_wp2_with fail
              generalize ((w.alloc (.cells #[.int .u32 0, .int .i64 0, .int .u32 0, .slice none 0 0, .bool false, .bool false, .slice none 0 0, .bool false, .bool false, .int .i64 0, .slice none 0 0] 27)).alloc (.cells #[.int .i64 0, .int .u8 0, .int .u8 0] 37)) = W1 at *
              refine Calls.mono (newR_any l W1) ?_
              rintro e W2 ⟨rfl, hrd, hW2⟩
              have hb2 : Below W1.heap.size W1 W2 := by rw [hW2]; exact (Below.refl _ _).alloc (Nat.le_refl _) _
              have HK2 : Hid (Rd W2 W1.heap.size l ∧ Below w.heap.size w W2 ∧ W2.heap[w.heap.size]? = some (.cells #[.int .u32 0, .int .i64 0, .int .u32 0, .slice none 0 0, .bool false, .bool false, .slice none 0 0, .bool false, .bool false, .int .i64 0, .slice none 0 0] 27 (0, 0)) ∧ W2.heap[w.heap.size + 1]? = some (.cells #[.int .i64 0, .int .u8 0, .int .u8 0] 37 (0, 0))) := ⟨hrd, HB1.out.trans (hb2.mono HB1.out.size), (hb2.block _ (lt_of_heap HZ1.out)).trans HZ1.out, (hb2.block _ (lt_of_heap HZ2.out)).trans HZ2.out⟩
              clear hrd hW2 hb2
              go_wp2_with fail
              refine Calls.mono (N1.out W2 _ HK2.out.1) ?_
              rintro e W3 ⟨rfl, hr, hb⟩
              have HK3 : Hid (Rd W3 W1.heap.size (l.drop 1) ∧ Below w.heap.size w W3 ∧ W3.heap[w.heap.size]? = some (.cells #[.int .u32 0, .int .i64 0, .int .u32 0, .slice none 0 0, .bool false, .bool false, .slice none 0 0, .bool false, .bool false, .int .i64 0, .slice none 0 0] 27 (0, 0)) ∧ W3.heap[w.heap.size + 1]? = some (.cells #[.int .i64 0, .int .u8 0, .int .u8 0] 37 (0, 0))) := ⟨hr, HK2.out.2.1.trans (hb.below (by have := HS1.out; omega) HK2.out.2.1.size), (hb.block _ (lt_of_heap HK2.out.2.2.1) (by have := HS1.out; omega)).trans HK2.out.2.2.1, (hb.block _ (lt_of_heap HK2.out.2.2.2) (by have := HS1.out; omega)).trans HK2.out.2.2.2⟩
              clear hr hb HK2
              go_wp2_with fail
              refine Calls.mono (N2.out W3 _ HK3.out.1) ?_
              rintro e W4 ⟨rfl, hr, hb⟩
              have HK4 : Hid (Rd W4 W1.heap.size (l.drop 3) ∧ Below w.heap.size w W4 ∧ W4.heap[w.heap.size]? = some (.cells #[.int .u32 0, .int .i64 0, .int .u32 0, .slice none 0 0, .bool false, .bool false, .slice none 0 0, .bool false, .bool false, .int .i64 0, .slice none 0 0] 27 (0, 0)) ∧ W4.heap[w.heap.size + 1]? = some (.cells #[.int .i64 0, .int .u8 0, .int .u8 0] 37 (0, 0))) := ⟨hr, HK3.out.2.1.trans (hb.below (by have := HS1.out; omega) HK3.out.2.1.size), (hb.block _ (lt_of_heap HK3.out.2.2.1) (by have := HS1.out; omega)).trans HK3.out.2.2.1, (hb.block _ (lt_of_heap HK3.out.2.2.2) (by have := HS1.out; omega)).trans HK3.out.2.2.2⟩
              clear hr hb HK3
              go_wp2_with fail
              refine Calls.mono (N3.out W4 _ HK4.out.1) ?_
              rintro e W5 ⟨rfl, hr, hb⟩
              have HK5 : Hid (Rd W5 W1.heap.size (l.drop 5) ∧ Below w.heap.size w W5 ∧ W5.heap[w.heap.size]? = some (.cells #[.int .u32 0, .int .i64 0, .int .u32 0, .slice none 0 0, .bool false, .bool false, .slice none 0 0, .bool false, .bool false, .int .i64 0, .slice none 0 0] 27 (0, 0)) ∧ W5.heap[w.heap.size + 1]? = some (.cells #[.int .i64 0, .int .u8 0, .int .u8 0] 37 (0, 0))) := ⟨hr, HK4.out.2.1.trans (hb.below (by have := HS1.out; omega) HK4.out.2.1.size), (hb.block _ (lt_of_heap HK4.out.2.2.1) (by have := HS1.out; omega)).trans HK4.out.2.2.1, (hb.block _ (lt_of_heap HK4.out.2.2.2) (by have := HS1.out; omega)).trans HK4.out.2.2.2⟩
              clear hr hb HK4
              go_wp2_with fail
              refine Calls.mono (N4.out W5 _ HK5.out.1) ?_
              rintro e W6 ⟨rfl, hr, hb⟩
              have HK6 : Hid (Rd W6 W1.heap.size (l.drop 9) ∧ Below w.heap.size w W6 ∧ W6.heap[w.heap.size]? = some (.cells #[.int .u32 0, .int .i64 0, .int .u32 0, .slice none 0 0, .bool false, .bool false, .slice none 0 0, .bool false, .bool false, .int .i64 0, .slice none 0 0] 27 (0, 0)) ∧ W6.heap[w.heap.size + 1]? = some (.cells #[.int .i64 0, .int .u8 0, .int .u8 0] 37 (0, 0))) := ⟨hr, HK5.out.2.1.trans (hb.below (by have := HS1.out; omega) HK5.out.2.1.size), (hb.block _ (lt_of_heap HK5.out.2.2.1) (by have := HS1.out; omega)).trans HK5.out.2.2.1, (hb.block _ (lt_of_heap HK5.out.2.2.2) (by have := HS1.out; omega)).trans HK5.out.2.2.2⟩
              clear hr hb HK5
              go_wp2_with fail
              refine Calls.mono (N5.out W6 _ HK6.out.1) ?_
              rintro e W7 ⟨rfl, hr, hb⟩
              have HK7 : Hid (Rd W7 W1.heap.size (l.drop 10) ∧ Below w.heap.size w W7 ∧ W7.heap[w.heap.size]? = some (.cells #[.int .u32 0, .int .i64 0, .int .u32 0, .slice none 0 0, .bool false, .bool false, .slice none 0 0, .bool false, .bool false, .int .i64 0, .slice none 0 0] 27 (0, 0)) ∧ W7.heap[w.heap.size + 1]? = some (.cells #[.int .i64 0, .int .u8 0, .int .u8 0] 37 (0, 0))) := ⟨hr, HK6.out.2.1.trans (hb.below (by have := HS1.out; omega) HK6.out.2.1.size), (hb.block _ (lt_of_heap HK6.out.2.2.1) (by have := HS1.out; omega)).trans HK6.out.2.2.1, (hb.block _ (lt_of_heap HK6.out.2.2.2) (by have := HS1.out; omega)).trans HK6.out.2.2.2⟩
              clear hr hb HK6
              go_wp2_with fail
              refine Calls.mono (KH.out W7) ?_
              rintro e wf ⟨rfl, hwf⟩
              obtain rfl : W7 = wf := hwf.symm
              clear hwf
              go_wp2_with fail
              refine Calls.mono (NL.out W7 _ HK7.out.1) ?_
              rintro e wf ⟨rfl, hwf⟩
              obtain rfl : W7 = wf := hwf.symm
              clear hwf
              have HY1 : Hid (W7.heap[w.heap.size]? = _) := HK7.out.2.2.1
              have HY2 : Hid (W7.heap[w.heap.size + 1]? = _) := HK7.out.2.2.2
              have HB8 : Hid (Below w.heap.size w W7) := HK7.out.2.1
              have HYb : Hid ((W7.setRow w.heap.size #[.int .u32 (m2 : Int), .int .i64 (m3 : Int), .int .u32 (m4 : Int), .slice none 0 0, .bool false, .bool false, .slice none 0 0, .bool false, .bool false, .int .i64 0, .slice none 0 0]).heap[w.heap.size + 1]? = _) := (row_other W7 w.heap.size (w.heap.size + 1) #[.int .u32 (m2 : Int), .int .i64 (m3 : Int), .int .u32 (m4 : Int), .slice none 0 0, .bool false, .bool false, .slice none 0 0, .bool false, .bool false, .int .i64 0, .slice none 0 0] (by omega)).trans HY2.out
              go_wp2_with (first | (refine wpList_store_row rfl 27 _ _ rfl w.heap.size #[.int .u32 (m2 : Int), .int .i64 (m3 : Int), .int .u32 (m4 : Int), .slice none 0 0, .bool false, .bool false, .slice none 0 0, .bool false, .bool false, .int .i64 0, .slice none 0 0] rfl rfl 27 _ HY1.out size27 rfl (one27 _ _ _ _ _ _ _ _ _ _ _ _ _ _ _ _ _) ?_) | (refine wpList_store_row rfl 37 _ _ rfl (w.heap.size + 1) #[.int .i64 0, .int .u8 0, .int .u8 0] rfl rfl 37 _ HYb.out size37' rfl (one37' _ _ _) ?_))
              have hr1 := (row_other (W7.setRow w.heap.size #[.int .u32 (m2 : Int), .int .i64 (m3 : Int), .int .u32 (m4 : Int), .slice none 0 0, .bool false, .bool false, .slice none 0 0, .bool false, .bool false, .int .i64 0, .slice none 0 0]) (w.heap.size + 1) w.heap.size #[.int .i64 0, .int .u8 0, .int .u8 0] (by omega)).trans (row_same W7 w.heap.size _ #[.int .u32 (m2 : Int), .int .i64 (m3 : Int), .int .u32 (m4 : Int), .slice none 0 0, .bool false, .bool false, .slice none 0 0, .bool false, .bool false, .int .i64 0, .slice none 0 0] HY1.out)
              have hr2 := row_same (W7.setRow w.heap.size #[.int .u32 (m2 : Int), .int .i64 (m3 : Int), .int .u32 (m4 : Int), .slice none 0 0, .bool false, .bool false, .slice none 0 0, .bool false, .bool false, .int .i64 0, .slice none 0 0]) (w.heap.size + 1) _ #[.int .i64 0, .int .u8 0, .int .u8 0] HYb.out
              have c0 := cl_row (i := 0) hr1 rfl
              have c1 := cl_row (i := 1) hr1 rfl
              have c2 := cl_row (i := 2) hr1 rfl
              have c3 := cl_row (i := 3) hr1 rfl
              have c4 := cl_row (i := 4) hr1 rfl
              have c5 := cl_row (i := 5) hr1 rfl
              have c6 := cl_row (i := 6) hr1 rfl
              have c7 := cl_row (i := 7) hr1 rfl
              have c8 := cl_row (i := 8) hr1 rfl
              have c9 := cl_row (i := 9) hr1 rfl
              have c10 := cl_row (i := 10) hr1 rfl
              have d0 := cl_row (i := 0) hr2 rfl
              have d1 := cl_row (i := 1) hr2 rfl
              have d2 := cl_row (i := 2) hr2 rfl
              refine bodyPost_ret (v := .tuple #[.agg #[.int .u32 (m2 : Int), .int .i64 (m3 : Int), .int .u32 (m4 : Int), .slice none 0 0, .bool false, .bool false, .slice none 0 0, .bool false, .bool false, .int .i64 0, .slice none 0 0], .agg #[.int .i64 0, .int .u8 0, .int .u8 0]]) (by simp [results, Tryz.results42, go_sem, c0, c1, c2, c3, c4, c5, c6, c7, c8, c9, c10, d0, d1, d2]) rfl ⟨by rw [HX.out]; rfl, below_setRow (below_setRow HB8.out (Nat.le_refl _) _) (by omega) _⟩
            · have HX : Hid (headI l = .error 0) := by unfold Hid; rw [HD.out, if_neg (by omega), if_neg h2, if_neg (by rw [h3]; decide), if_neg h4, if_pos h5]
              have e5 : ((ml : Int) == (m5 : Int)) = false := by simp; omega
              clear HD h3 h2 h4
              go_enter Tryz.func42, Tryz.ntmps42
              go_wp2_with fail
              generalize ((w.alloc (.cells #[.int .u32 0, .int .i64 0, .int .u32 0, .slice none 0 0, .bool false, .bool false, .slice none 0 0, .bool false, .bool false, .int .i64 0, .slice none 0 0] 27)).alloc (.cells #[.int .i64 0, .int .u8 0, .int .u8 0] 37)) = W1 at *
              refine Calls.mono (newR_any l W1) ?_
              rintro e W2 ⟨rfl, hrd, hW2⟩
              have hb2 : Below W1.heap.size W1 W2 := by rw [hW2]; exact (Below.refl _ _).alloc (Nat.le_refl _) _
              have HK2 : Hid (Rd W2 W1.heap.size l ∧ Below w.heap.size w W2 ∧ W2.heap[w.heap.size]? = some (.cells #[.int .u32 0, .int .i64 0, .int .u32 0, .slice none 0 0, .bool false, .bool false, .slice none 0 0, .bool false, .bool false, .int .i64 0, .slice none 0 0] 27 (0, 0)) ∧ W2.heap[w.heap.size + 1]? = some (.cells #[.int .i64 0, .int .u8 0, .int .u8 0] 37 (0, 0))) := ⟨hrd, HB1.out.trans (hb2.mono HB1.out.size), (hb2.block _ (lt_of_heap HZ1.out)).trans HZ1.out, (hb2.block _ (lt_of_heap HZ2.out)).trans HZ2.out⟩
              clear hrd hW2 hb2
              go_wp2_with fail
              refine Calls.mono (N1.out W2 _ HK2.out.1) ?_
              rintro e W3 ⟨rfl, hr, hb⟩
              have HK3 : Hid (Rd W3 W1.heap.size (l.drop 1) ∧ Below w.heap.size w W3 ∧ W3.heap[w.heap.size]? = some (.cells #[.int .u32 0, .int .i64 0, .int .u32 0, .slice none 0 0, .bool false, .bool false, .slice none 0 0, .bool false, .bool false, .int .i64 0, .slice none 0 0] 27 (0, 0)) ∧ W3.heap[w.heap.size + 1]? = some (.cells #[.int .i64 0, .int .u8 0, .int .u8 0] 37 (0, 0))) := ⟨hr, HK2.out.2.1.trans (hb.below (by have := HS1.out; omega) HK2.out.2.1.size), (hb.block _ (lt_of_heap HK2.out.2.2.1) (by have := HS1.out; omega)).trans HK2.out.2.2.1, (hb.block _ (lt_of_heap HK2.out.2.2.2) (by have := HS1.out; omega)).trans HK2.out.2.2.2⟩
              clear hr hb HK2
              go_wp2_with fail
              refine Calls.mono (N2.out W3 _ HK3.out.1) ?_
              rintro e W4 ⟨rfl, hr, hb⟩
              have HK4 : Hid (Rd W4 W1.heap.size (l.drop 3) ∧ Below w.heap.size w W4 ∧ W4.heap[w.heap.size]? = some (.cells #[.int .u32 0, .int .i64 0, .int .u32 0, .slice none 0 0, .bool false, .bool false, .slice none 0 0, .bool false, .bool false, .int .i64 0, .slice none 0 0] 27 (0, 0)) ∧ W4.heap[w.heap.size + 1]? = some (.cells #[.int .i64 0, .int .u8 0, .int .u8 0] 37 (0, 0))) := ⟨hr, HK3.out.2.1.trans (hb.below (by have := HS1.out; omega) HK3.out.2.1.size), (hb.block _ (lt_of_heap HK3.out.2.2.1) (by have := HS1.out; omega)).trans HK3.out.2.2.1, (hb.block _ (lt_of_heap HK3.out.2.2.2) (by have := HS1.out; omega)).trans HK3.out.2.2.2⟩
              clear hr hb HK3
              go_wp2_with fail
              refine Calls.mono (N3.out W4 _ HK4.out.1) ?_
              rintro e W5 ⟨rfl, hr, hb⟩
              have HK5 : Hid (Rd W5 W1.heap.size (l.drop 5) ∧ Below w.heap.size w W5 ∧ W5.heap[w.heap.size]? = some (.cells #[.int .u32 0, .int .i64 0, .int .u32 0, .slice none 0 0, .bool false, .bool false, .slice none 0 0, .bool false, .bool false, .int .i64 0, .slice none 0 0] 27 (0, 0)) ∧ W5.heap[w.heap.size + 1]? = some (.cells #[.int .i64 0, .int .u8 0, .int .u8 0] 37 (0, 0))) := ⟨hr, HK4.out.2.1.trans (hb.below (by have := HS1.out; omega) HK4.out.2.1.size), (hb.block _ (lt_of_heap HK4.out.2.2.1) (by have := HS1.out; omega)).trans HK4.out.2.2.1, (hb.block _ (lt_of_heap HK4.out.2.2.2) (by have := HS1.out; omega)).trans HK4.out.2.2.2⟩
              clear hr hb HK4
              go_wp2_with fail
              refine Calls.mono (N4.out W5 _ HK5.out.1) ?_
              rintro e W6 ⟨rfl, hr, hb⟩
              have HK6 : Hid (Rd W6 W1.heap.size (l.drop 9) ∧ Below w.heap.size w W6 ∧ W6.heap[w.heap.size]? = some (.cells #[.int .u32 0, .int .i64 0, .int .u32 0, .slice none 0 0, .bool false, .bool false, .slice none 0 0, .bool false, .bool false, .int .i64 0, .slice none 0 0] 27 (0, 0)) ∧ W6.heap[w.heap.size + 1]? = some (.cells #[.int .i64 0, .int .u8 0, .int .u8 0] 37 (0, 0))) := ⟨hr, HK5.out.2.1.trans (hb.below (by have := HS1.out; omega) HK5.out.2.1.size), (hb.block _ (lt_of_heap HK5.out.2.2.1) (by have := HS1.out; omega)).trans HK5.out.2.2.1, (hb.block _ (lt_of_heap HK5.out.2.2.2) (by have := HS1.out; omega)).trans HK5.out.2.2.2⟩
              clear hr hb HK5
              go_wp2_with fail
              refine Calls.mono (N5.out W6 _ HK6.out.1) ?_
              rintro e W7 ⟨rfl, hr, hb⟩
              have HK7 : Hid (Rd W7 W1.heap.size (l.drop 10) ∧ Below w.heap.size w W7 ∧ W7.heap[w.heap.size]? = some (.cells #[.int .u32 0, .int .i64 0, .int .u32 0, .slice none 0 0, .bool false, .bool false, .slice none 0 0, .bool false, .bool false, .int .i64 0, .slice none 0 0] 27 (0, 0)) ∧ W7.heap[w.heap.size + 1]? = some (.cells #[.int .i64 0, .int .u8 0, .int .u8 0] 37 (0, 0))) := ⟨hr, HK6.out.2.1.trans (hb.below (by have := HS1.out; omega) HK6.out.2.1.size), (hb.block _ (lt_of_heap HK6.out.2.2.1) (by have := HS1.out; omega)).trans HK6.out.2.2.1, (hb.block _ (lt_of_heap HK6.out.2.2.2) (by have := HS1.out; omega)).trans HK6.out.2.2.2⟩
              clear hr hb HK6
              go_wp2_with fail
              refine Calls.mono (KH.out W7) ?_
              rintro e wf ⟨rfl, hwf⟩
              obtain rfl : W7 = wf := hwf.symm
              clear hwf
              go_wp2_with fail
              refine Calls.mono (NL.out W7 _ HK7.out.1) ?_
              rintro e wf ⟨rfl, hwf⟩
              obtain rfl : W7 = wf := hwf.symm
              clear hwf
              go_wp2_with fail
              refine Calls.mono (reset_any 0 W7) ?_
              rintro e W8 ⟨rfl, hb8⟩
              unfold vdt
              have HB8 : Hid (Below w.heap.size w W8) := HK7.out.2.1.trans (hb8.mono HK7.out.2.1.size)
              have HY1 : Hid (W8.heap[w.heap.size]? = _) := (hb8.block _ (lt_of_heap HK7.out.2.2.1)).trans HK7.out.2.2.1
              have HY2 : Hid (W8.heap[w.heap.size + 1]? = _) := (hb8.block _ (lt_of_heap HK7.out.2.2.2)).trans HK7.out.2.2.2
              clear hb8 HK7
              have HYb : Hid ((W8.setRow w.heap.size #[.int .u32 0, .int .i64 0, .int .u32 0, .slice none 0 0, .bool false, .bool false, .slice none 0 0, .bool false, .bool false, .int .i64 0, .slice none 0 0]).heap[w.heap.size + 1]? = _) := (row_other W8 w.heap.size (w.heap.size + 1) #[.int .u32 0, .int .i64 0, .int .u32 0, .slice none 0 0, .bool false, .bool false, .slice none 0 0, .bool false, .bool false, .int .i64 0, .slice none 0 0] (by omega)).trans HY2.out
              go_wp2_with (first | (refine wpList_store_row rfl 27 _ _ rfl w.heap.size #[.int .u32 0, .int .i64 0, .int .u32 0, .slice none 0 0, .bool false, .bool false, .slice none 0 0, .bool false, .bool false, .int .i64 0, .slice none 0 0] rfl rfl 27 _ HY1.out size27 rfl (one27 _ _ _ _ _ _ _ _ _ _ _ _ _ _ _ _ _) ?_) | (refine wpList_store_row rfl 37 _ _ rfl (w.heap.size + 1) #[.int .i64 3, .int .u8 2, .int .u8 0] rfl rfl 37 _ HYb.out size37' rfl (one37' _ _ _) ?_))
              have hr1 := (row_other (W8.setRow w.heap.size #[.int .u32 0, .int .i64 0, .int .u32 0, .slice none 0 0, .bool false, .bool false, .slice none 0 0, .bool false, .bool false, .int .i64 0, .slice none 0 0]) (w.heap.size + 1) w.heap.size #[.int .i64 3, .int .u8 2, .int .u8 0] (by omega)).trans (row_same W8 w.heap.size _ #[.int .u32 0, .int .i64 0, .int .u32 0, .slice none 0 0, .bool false, .bool false, .slice none 0 0, .bool false, .bool false, .int .i64 0, .slice none 0 0] HY1.out)
              have hr2 := row_same (W8.setRow w.heap.size #[.int .u32 0, .int .i64 0, .int .u32 0, .slice none 0 0, .bool false, .bool false, .slice none 0 0, .bool false, .bool false, .int .i64 0, .slice none 0 0]) (w.heap.size + 1) _ #[.int .i64 3, .int .u8 2, .int .u8 0] HYb.out
              have c0 := cl_row (i := 0) hr1 rfl
              have c1 := cl_row (i := 1) hr1 rfl
              have c2 := cl_row (i := 2) hr1 rfl
              have c3 := cl_row (i := 3) hr1 rfl
              have c4 := cl_row (i := 4) hr1 rfl
              have c5 := cl_row (i := 5) hr1 rfl
              have c6 := cl_row (i := 6) hr1 rfl
              have c7 := cl_row (i := 7) hr1 rfl
              have c8 := cl_row (i := 8) hr1 rfl
              have c9 := cl_row (i := 9) hr1 rfl
              have c10 := cl_row (i := 10) hr1 rfl
              have d0 := cl_row (i := 0) hr2 rfl
              have d1 := cl_row (i := 1) hr2 rfl
              have d2 := cl_row (i := 2) hr2 rfl
              refine bodyPost_ret (v := .tuple #[.agg #[.int .u32 0, .int .i64 0, .int .u32 0, .slice none 0 0, .bool false, .bool false, .slice none 0 0, .bool false, .bool false, .int .i64 0, .slice none 0 0], .agg #[.int .i64 3, .int .u8 2, .int .u8 0]]) (by simp [results, Tryz.results42, go_sem, c0, c1, c2, c3, c4, c5, c6, c7, c8, c9, c10, d0, d1, d2]) rfl ⟨by rw [HX.out]; rfl, below_setRow (below_setRow HB8.out (Nat.le_refl _) _) (by omega) _⟩
    · have HX : Hid (headI l = .error 1) := by unfold Hid; rw [HD.out, if_pos h1]
      have e1 : ((m1 : Int) == 4) = false := by simp; omega
      clear HD
      go_enter Tryz.func42, Tryz.ntmps42
      go_wp2_with fail
      generalize ((w.alloc (.cells #[.int .u32 0, .int .i64 0, .int .u32 0, .slice none 0 0, .bool false, .bool false, .slice none 0 0, .bool false, .bool false, .int .i64 0, .slice none 0 0] 27)).alloc (.cells #[.int .i64 0, .int .u8 0, .int .u8 0] 37)) = W1 at *
      refine Calls.mono (newR_any l W1) ?_
      rintro e W2 ⟨rfl, hrd, hW2⟩
      have hb2 : Below W1.heap.size W1 W2 := by rw [hW2]; exact (Below.refl _ _).alloc (Nat.le_refl _) _
      have HK2 : Hid (Rd W2 W1.heap.size l ∧ Below w.heap.size w W2 ∧ W2.heap[w.heap.size]? = some (.cells #[.int .u32 0, .int .i64 0, .int .u32 0, .slice none 0 0, .bool false, .bool false, .slice none 0 0, .bool false, .bool false, .int .i64 0, .slice none 0 0] 27 (0, 0)) ∧ W2.heap[w.heap.size + 1]? = some (.cells #[.int .i64 0, .int .u8 0, .int .u8 0] 37 (0, 0))) := ⟨hrd, HB1.out.trans (hb2.mono HB1.out.size), (hb2.block _ (lt_of_heap HZ1.out)).trans HZ1.out, (hb2.block _ (lt_of_heap HZ2.out)).trans HZ2.out⟩
      clear hrd hW2 hb2
      go_wp2_with fail
      refine Calls.mono (N1.out W2 _ HK2.out.1) ?_
      rintro e W3 ⟨rfl, hr, hb⟩
      have HK3 : Hid (Rd W3 W1.heap.size (l.drop 1) ∧ Below w.heap.size w W3 ∧ W3.heap[w.heap.size]? = some (.cells #[.int .u32 0, .int .i64 0, .int .u32 0, .slice none 0 0, .bool false, .bool false, .slice none 0 0, .bool false, .bool false, .int .i64 0, .slice none 0 0] 27 (0, 0)) ∧ W3.heap[w.heap.size + 1]? = some (.cells #[.int .i64 0, .int .u8 0, .int .u8 0] 37 (0, 0))) := ⟨hr, HK2.out.2.1.trans (hb.below (by have := HS1.out; omega) HK2.out.2.1.size), (hb.block _ (lt_of_heap HK2.out.2.2.1) (by have := HS1.out; omega)).trans HK2.out.2.2.1, (hb.block _ (lt_of_heap HK2.out.2.2.2) (by have := HS1.out; omega)).trans HK2.out.2.2.2⟩
      clear hr hb HK2
      go_wp2_with fail
      refine Calls.mono (N2.out W3 _ HK3.out.1) ?_
      rintro e W4 ⟨rfl, hr, hb⟩
      have HK4 : Hid (Rd W4 W1.heap.size (l.drop 3) ∧ Below w.heap.size w W4 ∧ W4.heap[w.heap.size]? = some (.cells #[.int .u32 0, .int .i64 0, .int .u32 0, .slice none 0 0, .bool false, .bool false, .slice none 0 0, .bool false, .bool false, .int .i64 0, .slice none 0 0] 27 (0, 0)) ∧ W4.heap[w.heap.size + 1]? = some (.cells #[.int .i64 0, .int .u8 0, .int .u8 0] 37 (0, 0))) := ⟨hr, HK3.out.2.1.trans (hb.below (by have := HS1.out; omega) HK3.out.2.1.size), (hb.block _ (lt_of_heap HK3.out.2.2.1) (by have := HS1.out; omega)).trans HK3.out.2.2.1, (hb.block _ (lt_of_heap HK3.out.2.2.2) (by have := HS1.out; omega)).trans HK3.out.2.2.2⟩
      clear hr hb HK3
      go_wp2_with fail
      refine Calls.mono (N3.out W4 _ HK4.out.1) ?_
      rintro e W5 ⟨rfl, hr, hb⟩
      have HK5 : Hid (Rd W5 W1.heap.size (l.drop 5) ∧ Below w.heap.size w W5 ∧ W5.heap[w.heap.size]? = some (.cells #[.int .u32 0, .int .i64 0, .int .u32 0, .slice none 0 0, .bool false, .bool false, .slice none 0 0, .bool false, .bool false, .int .i64 0, .slice none 0 0] 27 (0, 0)) ∧ W5.heap[w.heap.size + 1]? = some (.cells #[.int .i64 0, .int .u8 0, .int .u8 0] 37 (0, 0))) := ⟨hr, HK4.out.2.1.trans (hb.below (by have := HS1.out; omega) HK4.out.2.1.size), (hb.block _ (lt_of_heap HK4.out.2.2.1) (by have := HS1.out; omega)).trans HK4.out.2.2.1, (hb.block _ (lt_of_heap HK4.out.2.2.2) (by have := HS1.out; omega)).trans HK4.out.2.2.2⟩
      clear hr hb HK4
      go_wp2_with fail
      refine Calls.mono (N4.out W5 _ HK5.out.1) ?_
      rintro e W6 ⟨rfl, hr, hb⟩
      have HK6 : Hid (Rd W6 W1.heap.size (l.drop 9) ∧ Below w.heap.size w W6 ∧ W6.heap[w.heap.size]? = some (.cells #[.int .u32 0, .int .i64 0, .int .u32 0, .slice none 0 0, .bool false, .bool false, .slice none 0 0, .bool false, .bool false, .int .i64 0, .slice none 0 0] 27 (0, 0)) ∧ W6.heap[w.heap.size + 1]? = some (.cells #[.int .i64 0, .int .u8 0, .int .u8 0] 37 (0, 0))) := ⟨hr, HK5.out.2.1.trans (hb.below (by have := HS1.out; omega) HK5.out.2.1.size), (hb.block _ (lt_of_heap HK5.out.2.2.1) (by have := HS1.out; omega)).trans HK5.out.2.2.1, (hb.block _ (lt_of_heap HK5.out.2.2.2) (by have := HS1.out; omega)).trans HK5.out.2.2.2⟩
      clear hr hb HK5
      go_wp2_with fail
      refine Calls.mono (N5.out W6 _ HK6.out.1) ?_
      rintro e W7 ⟨rfl, hr, hb⟩
      have HK7 : Hid (Rd W7 W1.heap.size (l.drop 10) ∧ Below w.heap.size w W7 ∧ W7.heap[w.heap.size]? = some (.cells #[.int .u32 0, .int .i64 0, .int .u32 0, .slice none 0 0, .bool false, .bool false, .slice none 0 0, .bool false, .bool false, .int .i64 0, .slice none 0 0] 27 (0, 0)) ∧ W7.heap[w.heap.size + 1]? = some (.cells #[.int .i64 0, .int .u8 0, .int .u8 0] 37 (0, 0))) := ⟨hr, HK6.out.2.1.trans (hb.below (by have := HS1.out; omega) HK6.out.2.1.size), (hb.block _ (lt_of_heap HK6.out.2.2.1) (by have := HS1.out; omega)).trans HK6.out.2.2.1, (hb.block _ (lt_of_heap HK6.out.2.2.2) (by have := HS1.out; omega)).trans HK6.out.2.2.2⟩
      clear hr hb HK6
      go_wp2_with fail
      refine Calls.mono (reset_any 1 W7) ?_
      rintro e W8 ⟨rfl, hb8⟩
      unfold vdt
      have HB8 : Hid (Below w.heap.size w W8) := HK7.out.2.1.trans (hb8.mono HK7.out.2.1.size)
      have HY1 : Hid (W8.heap[w.heap.size]? = _) := (hb8.block _ (lt_of_heap HK7.out.2.2.1)).trans HK7.out.2.2.1
      have HY2 : Hid (W8.heap[w.heap.size + 1]? = _) := (hb8.block _ (lt_of_heap HK7.out.2.2.2)).trans HK7.out.2.2.2
      clear hb8 HK7
      have HYb : Hid ((W8.setRow w.heap.size #[.int .u32 0, .int .i64 0, .int .u32 0, .slice none 0 0, .bool false, .bool false, .slice none 0 0, .bool false, .bool false, .int .i64 0, .slice none 0 0]).heap[w.heap.size + 1]? = _) := (row_other W8 w.heap.size (w.heap.size + 1) #[.int .u32 0, .int .i64 0, .int .u32 0, .slice none 0 0, .bool false, .bool false, .slice none 0 0, .bool false, .bool false, .int .i64 0, .slice none 0 0] (by omega)).trans HY2.out
      go_wp2_with (first | (refine wpList_store_row rfl 27 _ _ rfl w.heap.size #[.int .u32 0, .int .i64 0, .int .u32 0, .slice none 0 0, .bool false, .bool false, .slice none 0 0, .bool false, .bool false, .int .i64 0, .slice none 0 0] rfl rfl 27 _ HY1.out size27 rfl (one27 _ _ _ _ _ _ _ _ _ _ _ _ _ _ _ _ _) ?_) | (refine wpList_store_row rfl 37 _ _ rfl (w.heap.size + 1) #[.int .i64 3, .int .u8 2, .int .u8 1] rfl rfl 37 _ HYb.out size37' rfl (one37' _ _ _) ?_))
      have hr1 := (row_other (W8.setRow w.heap.size #[.int .u32 0, .int .i64 0, .int .u32 0, .slice none 0 0, .bool false, .bool false, .slice none 0 0, .bool false, .bool false, .int .i64 0, .slice none 0 0]) (w.heap.size + 1) w.heap.size #[.int .i64 3, .int .u8 2, .int .u8 1] (by omega)).trans (row_same W8 w.heap.size _ #[.int .u32 0, .int .i64 0, .int .u32 0, .slice none 0 0, .bool false, .bool false, .slice none 0 0, .bool false, .bool false, .int .i64 0, .slice none 0 0] HY1.out)
      have hr2 := row_same (W8.setRow w.heap.size #[.int .u32 0, .int .i64 0, .int .u32 0, .slice none 0 0, .bool false, .bool false, .slice none 0 0, .bool false, .bool false, .int .i64 0, .slice none 0 0]) (w.heap.size + 1) _ #[.int .i64 3, .int .u8 2, .int .u8 1] HYb.out
      have c0 := cl_row (i := 0) hr1 rfl
      have c1 := cl_row (i := 1) hr1 rfl
      have c2 := cl_row (i := 2) hr1 rfl
      have c3 := cl_row (i := 3) hr1 rfl
      have c4 := cl_row (i := 4) hr1 rfl
      have c5 := cl_row (i := 5) hr1 rfl
      have c6 := cl_row (i := 6) hr1 rfl
      have c7 := cl_row (i := 7) hr1 rfl
      have c8 := cl_row (i := 8) hr1 rfl
      have c9 := cl_row (i := 9) hr1 rfl
      have c10 := cl_row (i := 10) hr1 rfl
      have d0 := cl_row (i := 0) hr2 rfl
      have d1 := cl_row (i := 1) hr2 rfl
      have d2 := cl_row (i := 2) hr2 rfl
      refine bodyPost_ret (v := .tuple #[.agg #[.int .u32 0, .int .i64 0, .int .u32 0, .slice none 0 0, .bool false, .bool false, .slice none 0 0, .bool false, .bool false, .int .i64 0, .slice none 0 0], .agg #[.int .i64 3, .int .u8 2, .int .u8 1]]) (by simp [results, Tryz.results42, go_sem, c0, c1, c2, c3, c4, c5, c6, c7, c8, c9, c10, d0, d1, d2]) rfl ⟨by rw [HX.out]; rfl, below_setRow (below_setRow HB8.out (Nat.le_refl _) _) (by omega) _⟩
end Go.Proofs.YtlhnfejgkhilkaaGreatDoor

set_option linter.unusedVariables false
set_option linter.unusedSimpArgs false
namespace Go.Proofs.YtlhnfejgkhilkaaGreatDoor
open Go.RowKit
/-- The open of a body, or what is wrong with it. -/
def decI (l : List UInt8) : Except Nat Opn :=
  match headI l with
  | .error n => .error n
  | .ok o => match runL (stepO stepC) (l.drop 10) o with
    | .error n => .error n
    | .ok o' => .ok (if o'.fams.length = 0 then { o' with fams := [1] } else o')
/-- What Decode answers; the lists of an open lie in rows of their own at base and above. -/
def DecOk (base : Nat) (r : Except Nat Opn) (e : Ending) (w' : World) : Prop :=
  match r with
  | .ok o => ∃ vf va vk, e = .returned (.tuple #[opV o vf va vk, vdt 0 0 0]) ∧ w'.ownsRow base 3 1 vf o.fams.length (intsC o.fams) ∧ w'.ownsRow base 52 3 va o.adds.length (addsC o.adds) ∧ w'.ownsRow base 40 2 vk o.kept.length (keptC o.kept) ∧ OpOk o
  | .error n => e = .returned (.tuple #[opV zO nilS nilS nilS, vdt 3 2 (n : Int)])
theorem row_step {W : World} {z : Nat} {old : Array Value} {t : TypeId} (h : W.heap[z]? = some (.cells old t (0, 0))) (C : Array Value) (i : Nat) (v : Value) : (W.setRow z C).setCell ⟨z, i, none⟩ v = W.setRow z (C.setIfInBounds i v) := by
  rw [setCell_eq_setRow (W.setRow z C) z i C t (0, 0) v (row_same W z old C h), setRow_setRow]
theorem chain11 {W : World} {z : Nat} {t : TypeId} {o0 o1 o2 o3 o4 o5 o6 o7 o8 o9 o10 : Value} (h : W.heap[z]? = some (.cells #[o0, o1, o2, o3, o4, o5, o6, o7, o8, o9, o10] t (0, 0))) (a0 a1 a2 a3 a4 a5 a6 a7 a8 a9 a10 : Value) : (((((((((((W.setCell ⟨z, 0, none⟩ a0).setCell ⟨z, 1, none⟩ a1).setCell ⟨z, 2, none⟩ a2).setCell ⟨z, 3, none⟩ a3).setCell ⟨z, 4, none⟩ a4).setCell ⟨z, 5, none⟩ a5).setCell ⟨z, 6, none⟩ a6).setCell ⟨z, 7, none⟩ a7).setCell ⟨z, 8, none⟩ a8).setCell ⟨z, 9, none⟩ a9).setCell ⟨z, 10, none⟩ a10) = W.setRow z #[a0, a1, a2, a3, a4, a5, a6, a7, a8, a9, a10] := by
  rw [setCell_eq_setRow W z 0 _ t (0, 0) a0 h, row_step h, row_step h, row_step h, row_step h, row_step h, row_step h, row_step h, row_step h, row_step h, row_step h]
  simp
theorem chain3 {W : World} {z : Nat} {t : TypeId} {o0 o1 o2 : Value} (h : W.heap[z]? = some (.cells #[o0, o1, o2] t (0, 0))) (a0 a1 a2 : Value) : ((W.setCell ⟨z, 0, none⟩ a0).setCell ⟨z, 1, none⟩ a1).setCell ⟨z, 2, none⟩ a2 = W.setRow z #[a0, a1, a2] := by
  rw [setCell_eq_setRow W z 0 _ t (0, 0) a0 h, row_step h, row_step h]
  simp
set_option maxHeartbeats 6400000 in
set_option maxRecDepth 100000 in
theorem decode_head (l : List UInt8) (n : Nat) (w : World) (hh : headI l = .error n) : Calls Tryz.prog 27 #[.string ⟨l.toArray⟩] w fun e w' => e = .returned (.tuple #[opV zO nilS nilS nilS, vdt 3 2 (n : Int)]) ∧ Below w.heap.size w w' := by
  have hb1 : Below w.heap.size w ((w.alloc (.cells #[.int .u32 0, .int .i64 0, .int .u32 0, .slice none 0 0, .bool false, .bool false, .slice none 0 0, .bool false, .bool false, .int .i64 0, .slice none 0 0] 27)).alloc (.cells #[.int .i64 0, .int .u8 0, .int .u8 0] 37)) := ((Below.refl _ _).alloc (Nat.le_refl _) _).alloc (by simp) _
  have hz1 : ((w.alloc (.cells #[.int .u32 0, .int .i64 0, .int .u32 0, .slice none 0 0, .bool false, .bool false, .slice none 0 0, .bool false, .bool false, .int .i64 0, .slice none 0 0] 27)).alloc (.cells #[.int .i64 0, .int .u8 0, .int .u8 0] 37)).heap[w.heap.size]? = some (.cells #[.int .u32 0, .int .i64 0, .int .u32 0, .slice none 0 0, .bool false, .bool false, .slice none 0 0, .bool false, .bool false, .int .i64 0, .slice none 0 0] 27 (0, 0)) := hp_up (hp_new rfl)
  have hz2 : ((w.alloc (.cells #[.int .u32 0, .int .i64 0, .int .u32 0, .slice none 0 0, .bool false, .bool false, .slice none 0 0, .bool false, .bool false, .int .i64 0, .slice none 0 0] 27)).alloc (.cells #[.int .i64 0, .int .u8 0, .int .u8 0] 37)).heap[w.heap.size + 1]? = some (.cells #[.int .i64 0, .int .u8 0, .int .u8 0] 37 (0, 0)) := hp_new (by simp)
  have HB1 : Hid (Below _ _ _) := hb1
  have HZ1 : Hid (_ = _) := hz1
  have HZ2 : Hid (_ = _) := hz2
  have KH : Hid (∀ X, Calls Tryz.prog 42 #[.string ⟨l.toArray⟩] X fun e w' => e = .returned (.tuple #[opV zO nilS nilS nilS, vdt 3 2 (n : Int)]) ∧ Below X.heap.size X w') := fun X => by have := takeHead_any l X; rw [hh] at this; exact this
  clear hb1 hz1 hz2 hh
  unfold opV opC zO nilS vdt at KH
  unfold opV opC zO nilS vdt
  dsimp only at KH ⊢
  go_enter Tryz.func27, Tryz.ntmps27
  go_wp2_with fail
  generalize ((w.alloc (.cells #[.int .u32 0, .int .i64 0, .int .u32 0, .slice none 0 0, .bool false, .bool false, .slice none 0 0, .bool false, .bool false, .int .i64 0, .slice none 0 0] 27)).alloc (.cells #[.int .i64 0, .int .u8 0, .int .u8 0] 37)) = W1 at *
  refine Calls.mono (KH.out W1) ?_
  rintro e W2 ⟨rfl, hb2⟩
  have HB2 : Hid (Below w.heap.size w W2) := HB1.out.trans (hb2.mono HB1.out.size)
  have HY1 : Hid (W2.heap[w.heap.size]? = _) := (hb2.block _ (lt_of_heap HZ1.out)).trans HZ1.out
  have HY2 : Hid (W2.heap[w.heap.size + 1]? = _) := (hb2.block _ (lt_of_heap HZ2.out)).trans HZ2.out
  clear hb2 HB1 HZ1 HZ2
  have hlt : w.heap.size + 1 < W2.heap.size := lt_of_heap HY2.out
  have hlt0 : w.heap.size < W2.heap.size := by omega
  have c0 := cl_row (i := 0) HY1.out rfl
  have f0 := fz_row (i := 0) HY1.out
  have c1 := cl_row (i := 1) HY1.out rfl
  have f1 := fz_row (i := 1) HY1.out
  have c2 := cl_row (i := 2) HY1.out rfl
  have f2 := fz_row (i := 2) HY1.out
  have c3 := cl_row (i := 3) HY1.out rfl
  have f3 := fz_row (i := 3) HY1.out
  have c4 := cl_row (i := 4) HY1.out rfl
  have f4 := fz_row (i := 4) HY1.out
  have c5 := cl_row (i := 5) HY1.out rfl
  have f5 := fz_row (i := 5) HY1.out
  have c6 := cl_row (i := 6) HY1.out rfl
  have f6 := fz_row (i := 6) HY1.out
  have c7 := cl_row (i := 7) HY1.out rfl
  have f7 := fz_row (i := 7) HY1.out
  have c8 := cl_row (i := 8) HY1.out rfl
  have f8 := fz_row (i := 8) HY1.out
  have c9 := cl_row (i := 9) HY1.out rfl
  have f9 := fz_row (i := 9) HY1.out
  have c10 := cl_row (i := 10) HY1.out rfl
  have f10 := fz_row (i := 10) HY1.out
  have d0 := cl_row (i := 0) HY2.out rfl
  have g0 := fz_row (i := 0) HY2.out
  have d1 := cl_row (i := 1) HY2.out rfl
  have g1 := fz_row (i := 1) HY2.out
  have d2 := cl_row (i := 2) HY2.out rfl
  have g2 := fz_row (i := 2) HY2.out
  go_wp2
  go_region
  rw [chain11 HY1.out, chain3 (W := W2.setRow w.heap.size #[.int .u32 0, .int .i64 0, .int .u32 0, .slice none 0 0, .bool false, .bool false, .slice none 0 0, .bool false, .bool false, .int .i64 0, .slice none 0 0]) ((row_other W2 w.heap.size (w.heap.size + 1) #[.int .u32 0, .int .i64 0, .int .u32 0, .slice none 0 0, .bool false, .bool false, .slice none 0 0, .bool false, .bool false, .int .i64 0, .slice none 0 0] (by omega)).trans HY2.out)]
  have HW5 : Hid ((((((W2.setRow w.heap.size #[.int .u32 0, .int .i64 0, .int .u32 0, .slice none 0 0, .bool false, .bool false, .slice none 0 0, .bool false, .bool false, .int .i64 0, .slice none 0 0]).setRow (w.heap.size + 1) #[.int .i64 3, .int .u8 2, .int .u8 (n : Int)]).alloc (.cells #[.int .u32 0, .int .i64 0, .int .u32 0, .slice none 0 0, .bool false, .bool false, .slice none 0 0, .bool false, .bool false, .int .i64 0, .slice none 0 0] 27)).alloc (.cells #[.int .i64 3, .int .u8 2, .int .u8 (n : Int)] 37)).drew).heap[w.heap.size]? = some (.cells #[.int .u32 0, .int .i64 0, .int .u32 0, .slice none 0 0, .bool false, .bool false, .slice none 0 0, .bool false, .bool false, .int .i64 0, .slice none 0 0] 27 (0, 0)) ∧ (((((W2.setRow w.heap.size #[.int .u32 0, .int .i64 0, .int .u32 0, .slice none 0 0, .bool false, .bool false, .slice none 0 0, .bool false, .bool false, .int .i64 0, .slice none 0 0]).setRow (w.heap.size + 1) #[.int .i64 3, .int .u8 2, .int .u8 (n : Int)]).alloc (.cells #[.int .u32 0, .int .i64 0, .int .u32 0, .slice none 0 0, .bool false, .bool false, .slice none 0 0, .bool false, .bool false, .int .i64 0, .slice none 0 0] 27)).alloc (.cells #[.int .i64 3, .int .u8 2, .int .u8 (n : Int)] 37)).drew).heap[w.heap.size + 1]? = some (.cells #[.int .i64 3, .int .u8 2, .int .u8 (n : Int)] 37 (0, 0)) ∧ Below w.heap.size w (((((W2.setRow w.heap.size #[.int .u32 0, .int .i64 0, .int .u32 0, .slice none 0 0, .bool false, .bool false, .slice none 0 0, .bool false, .bool false, .int .i64 0, .slice none 0 0]).setRow (w.heap.size + 1) #[.int .i64 3, .int .u8 2, .int .u8 (n : Int)]).alloc (.cells #[.int .u32 0, .int .i64 0, .int .u32 0, .slice none 0 0, .bool false, .bool false, .slice none 0 0, .bool false, .bool false, .int .i64 0, .slice none 0 0] 27)).alloc (.cells #[.int .i64 3, .int .u8 2, .int .u8 (n : Int)] 37)).drew)) := by
    have h1 := (row_other (W2.setRow w.heap.size #[.int .u32 0, .int .i64 0, .int .u32 0, .slice none 0 0, .bool false, .bool false, .slice none 0 0, .bool false, .bool false, .int .i64 0, .slice none 0 0]) (w.heap.size + 1) w.heap.size #[.int .i64 3, .int .u8 2, .int .u8 (n : Int)] (by omega)).trans (row_same W2 w.heap.size _ #[.int .u32 0, .int .i64 0, .int .u32 0, .slice none 0 0, .bool false, .bool false, .slice none 0 0, .bool false, .bool false, .int .i64 0, .slice none 0 0] HY1.out)
    have h2 := row_same (W2.setRow w.heap.size #[.int .u32 0, .int .i64 0, .int .u32 0, .slice none 0 0, .bool false, .bool false, .slice none 0 0, .bool false, .bool false, .int .i64 0, .slice none 0 0]) (w.heap.size + 1) _ #[.int .i64 3, .int .u8 2, .int .u8 (n : Int)] ((row_other W2 w.heap.size (w.heap.size + 1) #[.int .u32 0, .int .i64 0, .int .u32 0, .slice none 0 0, .bool false, .bool false, .slice none 0 0, .bool false, .bool false, .int .i64 0, .slice none 0 0] (by omega)).trans HY2.out)
    have hbb : Below w.heap.size w ((W2.setRow w.heap.size #[.int .u32 0, .int .i64 0, .int .u32 0, .slice none 0 0, .bool false, .bool false, .slice none 0 0, .bool false, .bool false, .int .i64 0, .slice none 0 0]).setRow (w.heap.size + 1) #[.int .i64 3, .int .u8 2, .int .u8 (n : Int)]) := below_setRow (below_setRow HB2.out (Nat.le_refl _) _) (by omega) _
    exact ⟨hp_up (hp_up h1), hp_up (hp_up h2), ((hbb.alloc hbb.size _).alloc (by have := hbb.size; simp at this ⊢; omega) _).drew⟩
  clear c0 f0 c1 f1 c2 f2 c3 f3 c4 f4 c5 f5 c6 f6 c7 f7 c8 f8 c9 f9 c10 f10 d0 g0 d1 g1 d2 g2
  generalize ((((W2.setRow w.heap.size #[.int .u32 0, .int .i64 0, .int .u32 0, .slice none 0 0, .bool false, .bool false, .slice none 0 0, .bool false, .bool false, .int .i64 0, .slice none 0 0]).setRow (w.heap.size + 1) #[.int .i64 3, .int .u8 2, .int .u8 (n : Int)]).alloc (.cells #[.int .u32 0, .int .i64 0, .int .u32 0, .slice none 0 0, .bool false, .bool false, .slice none 0 0, .bool false, .bool false, .int .i64 0, .slice none 0 0] 27)).alloc (.cells #[.int .i64 3, .int .u8 2, .int .u8 (n : Int)] 37)).drew = W5 at *
  have p0 := cl_row (i := 0) HW5.out.1 rfl
  have p1 := cl_row (i := 1) HW5.out.1 rfl
  have p2 := cl_row (i := 2) HW5.out.1 rfl
  have p3 := cl_row (i := 3) HW5.out.1 rfl
  have p4 := cl_row (i := 4) HW5.out.1 rfl
  have p5 := cl_row (i := 5) HW5.out.1 rfl
  have p6 := cl_row (i := 6) HW5.out.1 rfl
  have p7 := cl_row (i := 7) HW5.out.1 rfl
  have p8 := cl_row (i := 8) HW5.out.1 rfl
  have p9 := cl_row (i := 9) HW5.out.1 rfl
  have p10 := cl_row (i := 10) HW5.out.1 rfl
  have r0 := cl_row (i := 0) HW5.out.2.1 rfl
  have r1 := cl_row (i := 1) HW5.out.2.1 rfl
  have r2 := cl_row (i := 2) HW5.out.2.1 rfl
  go_wp2
  refine bodyPost_ret (v := .tuple #[.agg #[.int .u32 0, .int .i64 0, .int .u32 0, .slice none 0 0, .bool false, .bool false, .slice none 0 0, .bool false, .bool false, .int .i64 0, .slice none 0 0], .agg #[.int .i64 3, .int .u8 2, .int .u8 (n : Int)]]) (by simp [results, Tryz.results27, go_sem, p0, p1, p2, p3, p4, p5, p6, p7, p8, p9, p10, r0, r1, r2]) rfl ⟨rfl, HW5.out.2.2⟩
end Go.Proofs.YtlhnfejgkhilkaaGreatDoor

set_option linter.unusedVariables false
set_option linter.unusedSimpArgs false
namespace Go.Proofs.YtlhnfejgkhilkaaGreatDoor
open Go.RowKit
/-- What is left behind the capabilities' verdict, stored. -/
theorem setV_facts {w W2 W3 W4 w5 : World} {C V0 : Array Value} {R1 R2 : Array Value} (h3 : Below w.heap.size w W3) (h4 : Below W3.heap.size W3 W4) (hf : Fr w.heap.size W2.heap.size W4 w5) (hv : w5.heap[W2.heap.size + 1]? = some (.cells V0 37 (0, 0)))
    (u1 : W3.heap[w.heap.size]? = some (.cells R1 27 (0, 0))) (u2 : W3.heap[w.heap.size + 1]? = some (.cells R2 37 (0, 0))) (q1 : w.heap.size ≠ W2.heap.size) (q2 : w.heap.size + 1 ≠ W2.heap.size) (q3 : w.heap.size + 1 < W2.heap.size) :
    Below w.heap.size w (w5.setRow (W2.heap.size + 1) C) ∧ (w5.setRow (W2.heap.size + 1) C).heap[w.heap.size]? = some (.cells R1 27 (0, 0)) ∧ (w5.setRow (W2.heap.size + 1) C).heap[w.heap.size + 1]? = some (.cells R2 37 (0, 0)) ∧ (w5.setRow (W2.heap.size + 1) C).heap[W2.heap.size + 1]? = some (.cells C 37 (0, 0)) := by
  have b4 : Below w.heap.size w W4 := h3.trans (h4.mono h3.size)
  have b5 : Below w.heap.size w w5 := b4.trans (hf.below (by omega) b4.size)
  have k1 := hf.keep ((h4.block _ (lt_of_heap u1)).trans u1) q1 (by decide)
  have k2 := hf.keep ((h4.block _ (lt_of_heap u2)).trans u2) q2 (by decide)
  exact ⟨below_setRow b5 (by omega) _, (row_other w5 _ _ _ (by omega)).trans k1, (row_other w5 _ _ _ (by omega)).trans k2, row_same w5 _ _ _ hv⟩
set_option maxHeartbeats 6400000 in
set_option maxRecDepth 100000 in
theorem decode_caps (l : List UInt8) (m2 m3 m4 : Nat) (w : World) (hg : FamSizes w) (hl : 10 ≤ l.length) (hh : headI l = .ok { zO with asn := (m2 : Int), hold := (m3 : Int), id := (m4 : Int) }) (n : Nat) (hr : runL (stepO stepC) (l.drop 10) { zO with asn := (m2 : Int), hold := (m3 : Int), id := (m4 : Int) } = .error n) : Calls Tryz.prog 27 #[.string ⟨l.toArray⟩] w fun e w' => e = .returned (.tuple #[opV zO nilS nilS nilS, vdt 3 2 (n : Int)]) ∧ Below w.heap.size w w' := by
  have hb1 : Below w.heap.size w ((w.alloc (.cells #[.int .u32 0, .int .i64 0, .int .u32 0, .slice none 0 0, .bool false, .bool false, .slice none 0 0, .bool false, .bool false, .int .i64 0, .slice none 0 0] 27)).alloc (.cells #[.int .i64 0, .int .u8 0, .int .u8 0] 37)) := ((Below.refl _ _).alloc (Nat.le_refl _) _).alloc (by simp) _
  have hz1 : ((w.alloc (.cells #[.int .u32 0, .int .i64 0, .int .u32 0, .slice none 0 0, .bool false, .bool false, .slice none 0 0, .bool false, .bool false, .int .i64 0, .slice none 0 0] 27)).alloc (.cells #[.int .i64 0, .int .u8 0, .int .u8 0] 37)).heap[w.heap.size]? = some (.cells #[.int .u32 0, .int .i64 0, .int .u32 0, .slice none 0 0, .bool false, .bool false, .slice none 0 0, .bool false, .bool false, .int .i64 0, .slice none 0 0] 27 (0, 0)) := hp_up (hp_new rfl)
  have hz2 : ((w.alloc (.cells #[.int .u32 0, .int .i64 0, .int .u32 0, .slice none 0 0, .bool false, .bool false, .slice none 0 0, .bool false, .bool false, .int .i64 0, .slice none 0 0] 27)).alloc (.cells #[.int .i64 0, .int .u8 0, .int .u8 0] 37)).heap[w.heap.size + 1]? = some (.cells #[.int .i64 0, .int .u8 0, .int .u8 0] 37 (0, 0)) := hp_new (by simp)
  have HB1 : Hid (Below _ _ _) := hb1
  have HZ1 : Hid (_ = _) := hz1
  have HZ2 : Hid (_ = _) := hz2
  have KH : Hid (∀ X, Calls Tryz.prog 42 #[.string ⟨l.toArray⟩] X fun e w' => e = .returned (.tuple #[opV { zO with asn := (m2 : Int), hold := (m3 : Int), id := (m4 : Int) } nilS nilS nilS, vdt 0 0 0]) ∧ Below X.heap.size X w') := fun X => by have := takeHead_any l X; rw [hh] at this; exact this
  have HG : Hid (FamSizes w) := hg
  have HRUN : Hid (_ = _) := hr
  have hsl : (⟨l.toArray⟩ : ByteArray).extract 10 (⟨l.toArray⟩ : ByteArray).size = ⟨(l.drop 10).toArray⟩ := ext_l l 10
  have hsl2 : (⟨l.toArray⟩ : ByteArray).extract 10 l.length = ⟨(l.drop 10).toArray⟩ := ext_l l 10
  have s1 : (10 : Int) ≤ (l.length : Int) := by omega
  have s2 : (10 : Int) ≤ ((⟨l.toArray⟩ : ByteArray).size : Int) := by rw [list_size]; omega
  have s3 : 10 ≤ (⟨l.toArray⟩ : ByteArray).size := by rw [list_size]; omega
  clear hb1 hz1 hz2 hh hg hr
  unfold opV opC zO nilS vdt at KH
  unfold opV opC zO nilS vdt
  dsimp only at KH ⊢
  go_enter Tryz.func27, Tryz.ntmps27
  go_wp2_with fail
  generalize ((w.alloc (.cells #[.int .u32 0, .int .i64 0, .int .u32 0, .slice none 0 0, .bool false, .bool false, .slice none 0 0, .bool false, .bool false, .int .i64 0, .slice none 0 0] 27)).alloc (.cells #[.int .i64 0, .int .u8 0, .int .u8 0] 37)) = W1 at *
  refine Calls.mono (KH.out W1) ?_
  rintro e W2 ⟨rfl, hb2⟩
  have HB2 : Hid (Below w.heap.size w W2) := HB1.out.trans (hb2.mono HB1.out.size)
  have HY1 : Hid (W2.heap[w.heap.size]? = _) := (hb2.block _ (lt_of_heap HZ1.out)).trans HZ1.out
  have HY2 : Hid (W2.heap[w.heap.size + 1]? = _) := (hb2.block _ (lt_of_heap HZ2.out)).trans HZ2.out
  clear hb2 HB1 HZ1 HZ2
  have hlt : w.heap.size + 1 < W2.heap.size := lt_of_heap HY2.out
  have hlt0 : w.heap.size < W2.heap.size := by omega
  have hb3 : Below W2.heap.size W2 ((W2.alloc (.cells #[.int .u32 (m2 : Int), .int .i64 (m3 : Int), .int .u32 (m4 : Int), .slice none 0 0, .bool false, .bool false, .slice none 0 0, .bool false, .bool false, .int .i64 0, .slice none 0 0] 27)).alloc (.cells #[.int .i64 0, .int .u8 0, .int .u8 0] 37)) := ((Below.refl _ _).alloc (Nat.le_refl _) _).alloc (by simp) _
  have hp3 : ((W2.alloc (.cells #[.int .u32 (m2 : Int), .int .i64 (m3 : Int), .int .u32 (m4 : Int), .slice none 0 0, .bool false, .bool false, .slice none 0 0, .bool false, .bool false, .int .i64 0, .slice none 0 0] 27)).alloc (.cells #[.int .i64 0, .int .u8 0, .int .u8 0] 37)).heap[W2.heap.size]? = some (.cells (opC { zO with asn := (m2 : Int), hold := (m3 : Int), id := (m4 : Int) } nilS nilS nilS) 27 (0, 0)) := hp_up (hp_new rfl)
  have hv3 : ((W2.alloc (.cells #[.int .u32 (m2 : Int), .int .i64 (m3 : Int), .int .u32 (m4 : Int), .slice none 0 0, .bool false, .bool false, .slice none 0 0, .bool false, .bool false, .int .i64 0, .slice none 0 0] 27)).alloc (.cells #[.int .i64 0, .int .u8 0, .int .u8 0] 37)).heap[W2.heap.size + 1]? = some (.cells #[.int .i64 0, .int .u8 0, .int .u8 0] 37 (0, 0)) := hp_new (by simp)
  have hs3 : ((W2.alloc (.cells #[.int .u32 (m2 : Int), .int .i64 (m3 : Int), .int .u32 (m4 : Int), .slice none 0 0, .bool false, .bool false, .slice none 0 0, .bool false, .bool false, .int .i64 0, .slice none 0 0] 27)).alloc (.cells #[.int .i64 0, .int .u8 0, .int .u8 0] 37)).heap.size = W2.heap.size + 2 := by simp
  have HO3 : Hid (OAt w.heap.size ((W2.alloc (.cells #[.int .u32 (m2 : Int), .int .i64 (m3 : Int), .int .u32 (m4 : Int), .slice none 0 0, .bool false, .bool false, .slice none 0 0, .bool false, .bool false, .int .i64 0, .slice none 0 0] 27)).alloc (.cells #[.int .i64 0, .int .u8 0, .int .u8 0] 37)) W2.heap.size { zO with asn := (m2 : Int), hold := (m3 : Int), id := (m4 : Int) }) := ⟨nilS, nilS, nilS, hp3, World.ownsRow_nil _ _ _ _, World.ownsRow_nil _ _ _ _, World.ownsRow_nil _ _ _ _, ⟨rfl, rfl, rfl⟩⟩
  have HV3 : Hid (_ = _) := hv3
  have HS3 : Hid (_ = _) := hs3
  have HB3 : Hid (Below w.heap.size w ((W2.alloc (.cells #[.int .u32 (m2 : Int), .int .i64 (m3 : Int), .int .u32 (m4 : Int), .slice none 0 0, .bool false, .bool false, .slice none 0 0, .bool false, .bool false, .int .i64 0, .slice none 0 0] 27)).alloc (.cells #[.int .i64 0, .int .u8 0, .int .u8 0] 37))) := HB2.out.trans (hb3.mono HB2.out.size)
  have HU1 : Hid (((W2.alloc (.cells #[.int .u32 (m2 : Int), .int .i64 (m3 : Int), .int .u32 (m4 : Int), .slice none 0 0, .bool false, .bool false, .slice none 0 0, .bool false, .bool false, .int .i64 0, .slice none 0 0] 27)).alloc (.cells #[.int .i64 0, .int .u8 0, .int .u8 0] 37)).heap[w.heap.size]? = _) := (hb3.block _ (lt_of_heap HY1.out)).trans HY1.out
  have HU2 : Hid (((W2.alloc (.cells #[.int .u32 (m2 : Int), .int .i64 (m3 : Int), .int .u32 (m4 : Int), .slice none 0 0, .bool false, .bool false, .slice none 0 0, .bool false, .bool false, .int .i64 0, .slice none 0 0] 27)).alloc (.cells #[.int .i64 0, .int .u8 0, .int .u8 0] 37)).heap[w.heap.size + 1]? = _) := (hb3.block _ (lt_of_heap HY2.out)).trans HY2.out
  have HQ : Hid (w.heap.size + 1 < W2.heap.size) := hlt
  clear hb3 hp3 hv3 hs3
  go_wp2
  clear HY1 HY2 HB2
  generalize ((W2.alloc (.cells #[.int .u32 (m2 : Int), .int .i64 (m3 : Int), .int .u32 (m4 : Int), .slice none 0 0, .bool false, .bool false, .slice none 0 0, .bool false, .bool false, .int .i64 0, .slice none 0 0] 27)).alloc (.cells #[.int .i64 0, .int .u8 0, .int .u8 0] 37)) = W3 at *
  have KT : Hid (Calls Tryz.prog 44 #[.pointer (some ⟨W2.heap.size, 0, none⟩)] W3.drew fun e w' => e = .returned (.func (.func 58) #[] #[.pointer (some ⟨W3.heap.size, 0, none⟩)]) ∧ w' = W3.drew.alloc (.cells #[.pointer (some ⟨W2.heap.size, 0, none⟩)] 76)) := taker_any W2.heap.size W3.drew
  have hb4 : Below W3.heap.size W3 (W3.drew.alloc (.cells #[.pointer (some ⟨W2.heap.size, 0, none⟩)] 76)) := (Below.refl _ _).drew.alloc (Nat.le_refl _) _
  have hq4 : (W3.drew.alloc (.cells #[.pointer (some ⟨W2.heap.size, 0, none⟩)] 76)).heap[W3.heap.size]? = some (.cells #[.pointer (some ⟨W2.heap.size, 0, none⟩)] 76 (0, 0)) := hp_new rfl
  have hs4 : (W3.drew.alloc (.cells #[.pointer (some ⟨W2.heap.size, 0, none⟩)] 76)).heap.size = W3.heap.size + 1 := by simp
  have hg4 : FamSizes (W3.drew.alloc (.cells #[.pointer (some ⟨W2.heap.size, 0, none⟩)] 76)) := HG.out.below (HB3.out.trans (hb4.mono HB3.out.size))
  have KC : Hid (Calls Tryz.prog 43 #[.string ⟨(l.drop 10).toArray⟩, .func (.func 58) #[] #[.pointer (some ⟨W3.heap.size, 0, none⟩)]] (W3.drew.alloc (.cells #[.pointer (some ⟨W2.heap.size, 0, none⟩)] 76)) fun e w' => StepOk w.heap.size W2.heap.size (.error n) e w' ∧ Fr w.heap.size W2.heap.size (W3.drew.alloc (.cells #[.pointer (some ⟨W2.heap.size, 0, none⟩)] 76)) w') := by
    have h := eachCap_any w.heap.size W2.heap.size 58 (.pointer (some ⟨W3.heap.size, 0, none⟩)) stepC (l.drop 10) { zO with asn := (m2 : Int), hold := (m3 : Int), id := (m4 : Int) } (W3.drew.alloc (.cells #[.pointer (some ⟨W2.heap.size, 0, none⟩)] 76)) (HO3.out.below hb4) (by have := HS3.out; omega) (by have := HS3.out; have := HQ.out; omega) enter63
      (fun Y o' c v hc hv h1 hF => taker1_any w.heap.size W2.heap.size W3.heap.size o' c v Y hc hv h1 (hF.keep hq4 (by have := HS3.out; omega) (by decide)) (hg4.fr hF HG.out.lt (by have := HQ.out; omega)) HG.out.lt (by have := HQ.out; omega) (by have := hF.size; have := HS3.out; omega) (by have := hF.size; have := HS3.out; have := HQ.out; omega))
    rw [HRUN.out] at h
    exact h
  have HB4 : Hid (Below W3.heap.size W3 (W3.drew.alloc (.cells #[.pointer (some ⟨W2.heap.size, 0, none⟩)] 76))) := hb4
  clear hb4 hq4 hs4 hg4 HRUN
  go_region_with (first | (go_at_call 44; refine Calls.mono KT.out ?_; rintro e w4 ⟨rfl, hw4⟩; subst hw4) | (go_at_call 43; (try rw [hsl]); (try rw [hsl2]); refine Calls.mono KC.out ?_; rintro e w5 ⟨hok, hf5⟩; obtain rfl : e = .returned (vdt 3 2 (n : Int)) := hok; unfold vdt; have hv5 := hf5.keep ((HB4.out.block _ (lt_of_heap HV3.out)).trans HV3.out) (by omega) (by decide); have y0 := cl_row (i := 0) hv5 rfl; have y1 := cl_row (i := 1) hv5 rfl; have y2 := cl_row (i := 2) hv5 rfl; have x0 := fz_row (i := 0) hv5; have x1 := fz_row (i := 1) hv5; have x2 := fz_row (i := 2) hv5))
  all_goals
    have hE := setV_facts (w := w) (W3 := W3) (C := #[.int .i64 3, .int .u8 2, .int .u8 (n : Int)]) HB3.out HB4.out hf5 hv5 HU1.out HU2.out (by have := HQ.out; omega) (by have := HQ.out; omega) (by have := HQ.out; omega)
    rw [chain3 hv5]
    clear hf5 hv5 y0 y1 y2 x0 x1 x2
    generalize w5.setRow (W2.heap.size + 1) #[.int .i64 3, .int .u8 2, .int .u8 (n : Int)] = W6 at *
    obtain ⟨hB6, hU1, hU2, hV6⟩ := hE
    have HB6 : Hid (Below w.heap.size w W6) := hB6
    have HX1 : Hid (_ = _) := hU1
    have HX2 : Hid (_ = _) := hU2
    have e0 := cl_row (i := 0) hV6 rfl
    have e1 := cl_row (i := 1) hV6 rfl
    have e2 := cl_row (i := 2) hV6 rfl
    have c0 := cl_row (i := 0) HX1.out rfl
    have f0 := fz_row (i := 0) HX1.out
    have c1 := cl_row (i := 1) HX1.out rfl
    have f1 := fz_row (i := 1) HX1.out
    have c2 := cl_row (i := 2) HX1.out rfl
    have f2 := fz_row (i := 2) HX1.out
    have c3 := cl_row (i := 3) HX1.out rfl
    have f3 := fz_row (i := 3) HX1.out
    have c4 := cl_row (i := 4) HX1.out rfl
    have f4 := fz_row (i := 4) HX1.out
    have c5 := cl_row (i := 5) HX1.out rfl
    have f5 := fz_row (i := 5) HX1.out
    have c6 := cl_row (i := 6) HX1.out rfl
    have f6 := fz_row (i := 6) HX1.out
    have c7 := cl_row (i := 7) HX1.out rfl
    have f7 := fz_row (i := 7) HX1.out
    have c8 := cl_row (i := 8) HX1.out rfl
    have f8 := fz_row (i := 8) HX1.out
    have c9 := cl_row (i := 9) HX1.out rfl
    have f9 := fz_row (i := 9) HX1.out
    have c10 := cl_row (i := 10) HX1.out rfl
    have f10 := fz_row (i := 10) HX1.out
    have d0 := cl_row (i := 0) HX2.out rfl
    have g0 := fz_row (i := 0) HX2.out
    have d1 := cl_row (i := 1) HX2.out rfl
    have g1 := fz_row (i := 1) HX2.out
    have d2 := cl_row (i := 2) HX2.out rfl
    have g2 := fz_row (i := 2) HX2.out
    have hne1 : ¬ (W2.heap.size + 1 = w.heap.size) := by have := HQ.out; omega
    have hne2 : ¬ (W2.heap.size + 1 = w.heap.size + 1) := by have := HQ.out; omega
    go_wp2
    go_region
    rw [chain11 HX1.out, chain3 (W := W6.setRow w.heap.size #[.int .u32 0, .int .i64 0, .int .u32 0, .slice none 0 0, .bool false, .bool false, .slice none 0 0, .bool false, .bool false, .int .i64 0, .slice none 0 0]) ((row_other W6 w.heap.size (w.heap.size + 1) #[.int .u32 0, .int .i64 0, .int .u32 0, .slice none 0 0, .bool false, .bool false, .slice none 0 0, .bool false, .bool false, .int .i64 0, .slice none 0 0] (by omega)).trans HX2.out)]
    have HW5 : Hid ((((W6.setRow w.heap.size #[.int .u32 0, .int .i64 0, .int .u32 0, .slice none 0 0, .bool false, .bool false, .slice none 0 0, .bool false, .bool false, .int .i64 0, .slice none 0 0]).setRow (w.heap.size + 1) #[.int .i64 3, .int .u8 2, .int .u8 (n : Int)]).drew).heap[w.heap.size]? = some (.cells #[.int .u32 0, .int .i64 0, .int .u32 0, .slice none 0 0, .bool false, .bool false, .slice none 0 0, .bool false, .bool false, .int .i64 0, .slice none 0 0] 27 (0, 0)) ∧ (((W6.setRow w.heap.size #[.int .u32 0, .int .i64 0, .int .u32 0, .slice none 0 0, .bool false, .bool false, .slice none 0 0, .bool false, .bool false, .int .i64 0, .slice none 0 0]).setRow (w.heap.size + 1) #[.int .i64 3, .int .u8 2, .int .u8 (n : Int)]).drew).heap[w.heap.size + 1]? = some (.cells #[.int .i64 3, .int .u8 2, .int .u8 (n : Int)] 37 (0, 0)) ∧ Below w.heap.size w (((W6.setRow w.heap.size #[.int .u32 0, .int .i64 0, .int .u32 0, .slice none 0 0, .bool false, .bool false, .slice none 0 0, .bool false, .bool false, .int .i64 0, .slice none 0 0]).setRow (w.heap.size + 1) #[.int .i64 3, .int .u8 2, .int .u8 (n : Int)]).drew)) := by
      have h1 := (row_other (W6.setRow w.heap.size #[.int .u32 0, .int .i64 0, .int .u32 0, .slice none 0 0, .bool false, .bool false, .slice none 0 0, .bool false, .bool false, .int .i64 0, .slice none 0 0]) (w.heap.size + 1) w.heap.size #[.int .i64 3, .int .u8 2, .int .u8 (n : Int)] (by omega)).trans (row_same W6 w.heap.size _ #[.int .u32 0, .int .i64 0, .int .u32 0, .slice none 0 0, .bool false, .bool false, .slice none 0 0, .bool false, .bool false, .int .i64 0, .slice none 0 0] HX1.out)
      have h2 := row_same (W6.setRow w.heap.size #[.int .u32 0, .int .i64 0, .int .u32 0, .slice none 0 0, .bool false, .bool false, .slice none 0 0, .bool false, .bool false, .int .i64 0, .slice none 0 0]) (w.heap.size + 1) _ #[.int .i64 3, .int .u8 2, .int .u8 (n : Int)] ((row_other W6 w.heap.size (w.heap.size + 1) #[.int .u32 0, .int .i64 0, .int .u32 0, .slice none 0 0, .bool false, .bool false, .slice none 0 0, .bool false, .bool false, .int .i64 0, .slice none 0 0] (by omega)).trans HX2.out)
      exact ⟨h1, h2, (below_setRow (below_setRow HB6.out (Nat.le_refl _) _) (by omega) _).drew⟩
    clear c0 f0 c1 f1 c2 f2 c3 f3 c4 f4 c5 f5 c6 f6 c7 f7 c8 f8 c9 f9 c10 f10 d0 g0 d1 g1 d2 g2 e0 e1 e2 hV6
    generalize ((W6.setRow w.heap.size #[.int .u32 0, .int .i64 0, .int .u32 0, .slice none 0 0, .bool false, .bool false, .slice none 0 0, .bool false, .bool false, .int .i64 0, .slice none 0 0]).setRow (w.heap.size + 1) #[.int .i64 3, .int .u8 2, .int .u8 (n : Int)]).drew = W7 at *
    have p0 := cl_row (i := 0) HW5.out.1 rfl
    have p1 := cl_row (i := 1) HW5.out.1 rfl
    have p2 := cl_row (i := 2) HW5.out.1 rfl
    have p3 := cl_row (i := 3) HW5.out.1 rfl
    have p4 := cl_row (i := 4) HW5.out.1 rfl
    have p5 := cl_row (i := 5) HW5.out.1 rfl
    have p6 := cl_row (i := 6) HW5.out.1 rfl
    have p7 := cl_row (i := 7) HW5.out.1 rfl
    have p8 := cl_row (i := 8) HW5.out.1 rfl
    have p9 := cl_row (i := 9) HW5.out.1 rfl
    have p10 := cl_row (i := 10) HW5.out.1 rfl
    have r0 := cl_row (i := 0) HW5.out.2.1 rfl
    have r1 := cl_row (i := 1) HW5.out.2.1 rfl
    have r2 := cl_row (i := 2) HW5.out.2.1 rfl
    go_wp2
    refine bodyPost_ret (v := .tuple #[.agg #[.int .u32 0, .int .i64 0, .int .u32 0, .slice none 0 0, .bool false, .bool false, .slice none 0 0, .bool false, .bool false, .int .i64 0, .slice none 0 0], .agg #[.int .i64 3, .int .u8 2, .int .u8 (n : Int)]]) (by simp [results, Tryz.results27, go_sem, p0, p1, p2, p3, p4, p5, p6, p7, p8, p9, p10, r0, r1, r2]) rfl ⟨rfl, HW5.out.2.2⟩
end Go.Proofs.YtlhnfejgkhilkaaGreatDoor

set_option linter.unusedVariables false
set_option linter.unusedSimpArgs false
namespace Go.Proofs.YtlhnfejgkhilkaaGreatDoor
open Go.RowKit
/-- The answers are stored, and handed back. -/
theorem dec_rows {w W : World} {p : Nat} {o : Opn} {vf va vk : Value} (hb : Below w.heap.size w W) (u1 : W.heap[w.heap.size]? = some (.cells #[.int .u32 0, .int .i64 0, .int .u32 0, .slice none 0 0, .bool false, .bool false, .slice none 0 0, .bool false, .bool false, .int .i64 0, .slice none 0 0] 27 (0, 0))) (u2 : W.heap[w.heap.size + 1]? = some (.cells #[.int .i64 0, .int .u8 0, .int .u8 0] 37 (0, 0))) (hall : W.heap[p]? = some (.cells (opC o vf va vk) 27 (0, 0)) ∧ W.ownsRow w.heap.size 3 1 vf o.fams.length (intsC o.fams) ∧ W.ownsRow w.heap.size 52 3 va o.adds.length (addsC o.adds) ∧ W.ownsRow w.heap.size 40 2 vk o.kept.length (keptC o.kept) ∧ OpOk o) :
    let W' := ((W.setRow w.heap.size (opC o vf va vk)).setRow (w.heap.size + 1) #[.int .i64 0, .int .u8 0, .int .u8 0]).drew
    W'.heap[w.heap.size]? = some (.cells (opC o vf va vk) 27 (0, 0)) ∧ W'.heap[w.heap.size + 1]? = some (.cells #[.int .i64 0, .int .u8 0, .int .u8 0] 37 (0, 0)) ∧ Below w.heap.size w W' ∧ W'.ownsRow w.heap.size 3 1 vf o.fams.length (intsC o.fams) ∧ W'.ownsRow w.heap.size 52 3 va o.adds.length (addsC o.adds) ∧ W'.ownsRow w.heap.size 40 2 vk o.kept.length (keptC o.kept) := by
  intro W'
  have h2 : (W.setRow w.heap.size (opC o vf va vk)).heap[w.heap.size + 1]? = some (.cells #[.int .i64 0, .int .u8 0, .int .u8 0] 37 (0, 0)) := (row_other W w.heap.size (w.heap.size + 1) _ (by omega)).trans u2
  have b1 : Beside w.heap.size W (W.setRow w.heap.size (opC o vf va vk)) := Beside.setRow u1
  have b2 : Beside (w.heap.size + 1) (W.setRow w.heap.size (opC o vf va vk)) ((W.setRow w.heap.size (opC o vf va vk)).setRow (w.heap.size + 1) #[.int .i64 0, .int .u8 0, .int .u8 0]) := Beside.setRow h2
  refine ⟨(row_other (W.setRow w.heap.size (opC o vf va vk)) (w.heap.size + 1) w.heap.size #[.int .i64 0, .int .u8 0, .int .u8 0] (by omega)).trans (row_same W w.heap.size _ _ u1), row_same _ _ _ _ h2, (below_setRow (below_setRow hb (Nat.le_refl _) _) (by omega) _).drew, ?_, ?_, ?_⟩
  · have k := owns_beside (owns_beside hall.2.1 b1 u1 (by decide)) b2 h2 (by decide)
    exact k
  · have k := owns_beside (owns_beside hall.2.2.1 b1 u1 (by decide)) b2 h2 (by decide)
    exact k
  · have k := owns_beside (owns_beside hall.2.2.2.1 b1 u1 (by decide)) b2 h2 (by decide)
    exact k
set_option maxHeartbeats 6400000 in
set_option maxRecDepth 100000 in
theorem decode_fine (l : List UInt8) (m2 m3 m4 : Nat) (w : World) (hg : FamSizes w) (hl : 10 ≤ l.length) (hh : headI l = .ok { zO with asn := (m2 : Int), hold := (m3 : Int), id := (m4 : Int) }) (o : Opn) (hr : runL (stepO stepC) (l.drop 10) { zO with asn := (m2 : Int), hold := (m3 : Int), id := (m4 : Int) } = .ok o) : Calls Tryz.prog 27 #[.string ⟨l.toArray⟩] w fun e w' => DecOk w.heap.size (.ok (if o.fams.length = 0 then { o with fams := [1] } else o)) e w' ∧ Below w.heap.size w w' := by
  have hb1 : Below w.heap.size w ((w.alloc (.cells #[.int .u32 0, .int .i64 0, .int .u32 0, .slice none 0 0, .bool false, .bool false, .slice none 0 0, .bool false, .bool false, .int .i64 0, .slice none 0 0] 27)).alloc (.cells #[.int .i64 0, .int .u8 0, .int .u8 0] 37)) := ((Below.refl _ _).alloc (Nat.le_refl _) _).alloc (by simp) _
  have hz1 : ((w.alloc (.cells #[.int .u32 0, .int .i64 0, .int .u32 0, .slice none 0 0, .bool false, .bool false, .slice none 0 0, .bool false, .bool false, .int .i64 0, .slice none 0 0] 27)).alloc (.cells #[.int .i64 0, .int .u8 0, .int .u8 0] 37)).heap[w.heap.size]? = some (.cells #[.int .u32 0, .int .i64 0, .int .u32 0, .slice none 0 0, .bool false, .bool false, .slice none 0 0, .bool false, .bool false, .int .i64 0, .slice none 0 0] 27 (0, 0)) := hp_up (hp_new rfl)
  have hz2 : ((w.alloc (.cells #[.int .u32 0, .int .i64 0, .int .u32 0, .slice none 0 0, .bool false, .bool false, .slice none 0 0, .bool false, .bool false, .int .i64 0, .slice none 0 0] 27)).alloc (.cells #[.int .i64 0, .int .u8 0, .int .u8 0] 37)).heap[w.heap.size + 1]? = some (.cells #[.int .i64 0, .int .u8 0, .int .u8 0] 37 (0, 0)) := hp_new (by simp)
  have HB1 : Hid (Below _ _ _) := hb1
  have HZ1 : Hid (_ = _) := hz1
  have HZ2 : Hid (_ = _) := hz2
  have KH : Hid (∀ X, Calls Tryz.prog 42 #[.string ⟨l.toArray⟩] X fun e w' => e = .returned (.tuple #[opV { zO with asn := (m2 : Int), hold := (m3 : Int), id := (m4 : Int) } nilS nilS nilS, vdt 0 0 0]) ∧ Below X.heap.size X w') := fun X => by have := takeHead_any l X; rw [hh] at this; exact this
  have HG : Hid (FamSizes w) := hg
  have HRUN : Hid (_ = _) := hr
  have hsl : (⟨l.toArray⟩ : ByteArray).extract 10 (⟨l.toArray⟩ : ByteArray).size = ⟨(l.drop 10).toArray⟩ := ext_l l 10
  have hsl2 : (⟨l.toArray⟩ : ByteArray).extract 10 l.length = ⟨(l.drop 10).toArray⟩ := ext_l l 10
  have s1 : (10 : Int) ≤ (l.length : Int) := by omega
  have s2 : (10 : Int) ≤ ((⟨l.toArray⟩ : ByteArray).size : Int) := by rw [list_size]; omega
  have s3 : 10 ≤ (⟨l.toArray⟩ : ByteArray).size := by rw [list_size]; omega
  clear hb1 hz1 hz2 hh hg hr
  unfold opV opC zO nilS vdt at KH
  dsimp only at KH
  go_enter Tryz.func27, Tryz.ntmps27
  go_wp2_with fail
  generalize ((w.alloc (.cells #[.int .u32 0, .int .i64 0, .int .u32 0, .slice none 0 0, .bool false, .bool false, .slice none 0 0, .bool false, .bool false, .int .i64 0, .slice none 0 0] 27)).alloc (.cells #[.int .i64 0, .int .u8 0, .int .u8 0] 37)) = W1 at *
  refine Calls.mono (KH.out W1) ?_
  rintro e W2 ⟨rfl, hb2⟩
  have HB2 : Hid (Below w.heap.size w W2) := HB1.out.trans (hb2.mono HB1.out.size)
  have HY1 : Hid (W2.heap[w.heap.size]? = _) := (hb2.block _ (lt_of_heap HZ1.out)).trans HZ1.out
  have HY2 : Hid (W2.heap[w.heap.size + 1]? = _) := (hb2.block _ (lt_of_heap HZ2.out)).trans HZ2.out
  clear hb2 HB1 HZ1 HZ2
  have hlt : w.heap.size + 1 < W2.heap.size := lt_of_heap HY2.out
  have hlt0 : w.heap.size < W2.heap.size := by omega
  have hb3 : Below W2.heap.size W2 ((W2.alloc (.cells #[.int .u32 (m2 : Int), .int .i64 (m3 : Int), .int .u32 (m4 : Int), .slice none 0 0, .bool false, .bool false, .slice none 0 0, .bool false, .bool false, .int .i64 0, .slice none 0 0] 27)).alloc (.cells #[.int .i64 0, .int .u8 0, .int .u8 0] 37)) := ((Below.refl _ _).alloc (Nat.le_refl _) _).alloc (by simp) _
  have hp3 : ((W2.alloc (.cells #[.int .u32 (m2 : Int), .int .i64 (m3 : Int), .int .u32 (m4 : Int), .slice none 0 0, .bool false, .bool false, .slice none 0 0, .bool false, .bool false, .int .i64 0, .slice none 0 0] 27)).alloc (.cells #[.int .i64 0, .int .u8 0, .int .u8 0] 37)).heap[W2.heap.size]? = some (.cells (opC { zO with asn := (m2 : Int), hold := (m3 : Int), id := (m4 : Int) } nilS nilS nilS) 27 (0, 0)) := hp_up (hp_new rfl)
  have hv3 : ((W2.alloc (.cells #[.int .u32 (m2 : Int), .int .i64 (m3 : Int), .int .u32 (m4 : Int), .slice none 0 0, .bool false, .bool false, .slice none 0 0, .bool false, .bool false, .int .i64 0, .slice none 0 0] 27)).alloc (.cells #[.int .i64 0, .int .u8 0, .int .u8 0] 37)).heap[W2.heap.size + 1]? = some (.cells #[.int .i64 0, .int .u8 0, .int .u8 0] 37 (0, 0)) := hp_new (by simp)
  have hs3 : ((W2.alloc (.cells #[.int .u32 (m2 : Int), .int .i64 (m3 : Int), .int .u32 (m4 : Int), .slice none 0 0, .bool false, .bool false, .slice none 0 0, .bool false, .bool false, .int .i64 0, .slice none 0 0] 27)).alloc (.cells #[.int .i64 0, .int .u8 0, .int .u8 0] 37)).heap.size = W2.heap.size + 2 := by simp
  have HO3 : Hid (OAt w.heap.size ((W2.alloc (.cells #[.int .u32 (m2 : Int), .int .i64 (m3 : Int), .int .u32 (m4 : Int), .slice none 0 0, .bool false, .bool false, .slice none 0 0, .bool false, .bool false, .int .i64 0, .slice none 0 0] 27)).alloc (.cells #[.int .i64 0, .int .u8 0, .int .u8 0] 37)) W2.heap.size { zO with asn := (m2 : Int), hold := (m3 : Int), id := (m4 : Int) }) := ⟨nilS, nilS, nilS, hp3, World.ownsRow_nil _ _ _ _, World.ownsRow_nil _ _ _ _, World.ownsRow_nil _ _ _ _, ⟨rfl, rfl, rfl⟩⟩
  have HV3 : Hid (_ = _) := hv3
  have HS3 : Hid (_ = _) := hs3
  have HB3 : Hid (Below w.heap.size w ((W2.alloc (.cells #[.int .u32 (m2 : Int), .int .i64 (m3 : Int), .int .u32 (m4 : Int), .slice none 0 0, .bool false, .bool false, .slice none 0 0, .bool false, .bool false, .int .i64 0, .slice none 0 0] 27)).alloc (.cells #[.int .i64 0, .int .u8 0, .int .u8 0] 37))) := HB2.out.trans (hb3.mono HB2.out.size)
  have HU1 : Hid (((W2.alloc (.cells #[.int .u32 (m2 : Int), .int .i64 (m3 : Int), .int .u32 (m4 : Int), .slice none 0 0, .bool false, .bool false, .slice none 0 0, .bool false, .bool false, .int .i64 0, .slice none 0 0] 27)).alloc (.cells #[.int .i64 0, .int .u8 0, .int .u8 0] 37)).heap[w.heap.size]? = _) := (hb3.block _ (lt_of_heap HY1.out)).trans HY1.out
  have HU2 : Hid (((W2.alloc (.cells #[.int .u32 (m2 : Int), .int .i64 (m3 : Int), .int .u32 (m4 : Int), .slice none 0 0, .bool false, .bool false, .slice none 0 0, .bool false, .bool false, .int .i64 0, .slice none 0 0] 27)).alloc (.cells #[.int .i64 0, .int .u8 0, .int .u8 0] 37)).heap[w.heap.size + 1]? = _) := (hb3.block _ (lt_of_heap HY2.out)).trans HY2.out
  have HQ : Hid (w.heap.size + 1 < W2.heap.size) := hlt
  clear hb3 hp3 hv3 hs3
  go_wp2
  clear HY1 HY2 HB2
  generalize ((W2.alloc (.cells #[.int .u32 (m2 : Int), .int .i64 (m3 : Int), .int .u32 (m4 : Int), .slice none 0 0, .bool false, .bool false, .slice none 0 0, .bool false, .bool false, .int .i64 0, .slice none 0 0] 27)).alloc (.cells #[.int .i64 0, .int .u8 0, .int .u8 0] 37)) = W3 at *
  have KT : Hid (Calls Tryz.prog 44 #[.pointer (some ⟨W2.heap.size, 0, none⟩)] W3.drew fun e w' => e = .returned (.func (.func 58) #[] #[.pointer (some ⟨W3.heap.size, 0, none⟩)]) ∧ w' = W3.drew.alloc (.cells #[.pointer (some ⟨W2.heap.size, 0, none⟩)] 76)) := taker_any W2.heap.size W3.drew
  have hb4 : Below W3.heap.size W3 (W3.drew.alloc (.cells #[.pointer (some ⟨W2.heap.size, 0, none⟩)] 76)) := (Below.refl _ _).drew.alloc (Nat.le_refl _) _
  have hq4 : (W3.drew.alloc (.cells #[.pointer (some ⟨W2.heap.size, 0, none⟩)] 76)).heap[W3.heap.size]? = some (.cells #[.pointer (some ⟨W2.heap.size, 0, none⟩)] 76 (0, 0)) := hp_new rfl
  have hs4 : (W3.drew.alloc (.cells #[.pointer (some ⟨W2.heap.size, 0, none⟩)] 76)).heap.size = W3.heap.size + 1 := by simp
  have hg4 : FamSizes (W3.drew.alloc (.cells #[.pointer (some ⟨W2.heap.size, 0, none⟩)] 76)) := HG.out.below (HB3.out.trans (hb4.mono HB3.out.size))
  have KC : Hid (Calls Tryz.prog 43 #[.string ⟨(l.drop 10).toArray⟩, .func (.func 58) #[] #[.pointer (some ⟨W3.heap.size, 0, none⟩)]] (W3.drew.alloc (.cells #[.pointer (some ⟨W2.heap.size, 0, none⟩)] 76)) fun e w' => StepOk w.heap.size W2.heap.size (.ok o) e w' ∧ Fr w.heap.size W2.heap.size (W3.drew.alloc (.cells #[.pointer (some ⟨W2.heap.size, 0, none⟩)] 76)) w') := by
    have h := eachCap_any w.heap.size W2.heap.size 58 (.pointer (some ⟨W3.heap.size, 0, none⟩)) stepC (l.drop 10) { zO with asn := (m2 : Int), hold := (m3 : Int), id := (m4 : Int) } (W3.drew.alloc (.cells #[.pointer (some ⟨W2.heap.size, 0, none⟩)] 76)) (HO3.out.below hb4) (by have := HS3.out; omega) (by have := HS3.out; have := HQ.out; omega) enter63
      (fun Y o' c v hc hv h1 hF => taker1_any w.heap.size W2.heap.size W3.heap.size o' c v Y hc hv h1 (hF.keep hq4 (by have := HS3.out; omega) (by decide)) (hg4.fr hF HG.out.lt (by have := HQ.out; omega)) HG.out.lt (by have := HQ.out; omega) (by have := hF.size; have := HS3.out; omega) (by have := hF.size; have := HS3.out; have := HQ.out; omega))
    rw [HRUN.out] at h
    exact h
  have HB4 : Hid (Below W3.heap.size W3 (W3.drew.alloc (.cells #[.pointer (some ⟨W2.heap.size, 0, none⟩)] 76))) := hb4
  clear hb4 hq4 hs4 hg4 HRUN
  go_region_with (first | (go_at_call 44; refine Calls.mono KT.out ?_; rintro e w4 ⟨rfl, hw4⟩; subst hw4) | (go_at_call 43; (try rw [hsl]); (try rw [hsl2]); refine Calls.mono KC.out ?_; rintro e w5 ⟨hok, hf5⟩; obtain ⟨rfl, ho5⟩ : e = .returned (vdt 0 0 0) ∧ OAt w.heap.size w5 W2.heap.size o := hok; unfold vdt; have hv5 := hf5.keep ((HB4.out.block _ (lt_of_heap HV3.out)).trans HV3.out) (by omega) (by decide); have y0 := cl_row (i := 0) hv5 rfl; have y1 := cl_row (i := 1) hv5 rfl; have y2 := cl_row (i := 2) hv5 rfl; have x0 := fz_row (i := 0) hv5; have x1 := fz_row (i := 1) hv5; have x2 := fz_row (i := 2) hv5))
  all_goals
    have hE := setV_facts (w := w) (W3 := W3) (C := #[.int .i64 0, .int .u8 0, .int .u8 0]) HB3.out HB4.out hf5 hv5 HU1.out HU2.out (by have := HQ.out; omega) (by have := HQ.out; omega) (by have := HQ.out; omega)
    have HO6 : Hid (OAt w.heap.size (w5.setRow (W2.heap.size + 1) #[.int .i64 0, .int .u8 0, .int .u8 0]) W2.heap.size o) := ho5.beside (Beside.setRow hv5) hv5 (by decide)
    rw [chain3 hv5]
    clear hf5 hv5 y0 y1 y2 x0 x1 x2 ho5
    generalize w5.setRow (W2.heap.size + 1) #[.int .i64 0, .int .u8 0, .int .u8 0] = W6 at *
    obtain ⟨hB6, hU1, hU2, hV6⟩ := hE
    have HB6 : Hid (Below w.heap.size w W6) := hB6
    have HX1 : Hid (_ = _) := hU1
    have HX2 : Hid (_ = _) := hU2
    have HV6 : Hid (_ = _) := hV6
    have e0 := cl_row (i := 0) hV6 rfl
    clear hB6 hU1 hU2 hV6 KC KT HB4 HB3 HU1 HU2 HV3 HO3
    obtain ⟨vf, va, vk, h1, h2, h3, h4, h5⟩ := HO6.out
    obtain ⟨a1, k1, rfl⟩ := slice_of_owns h2
    obtain ⟨a2, k2, rfl⟩ := slice_of_owns h3
    obtain ⟨a3, k3, rfl⟩ := slice_of_owns h4
    have c3 : W6.cell? ⟨W2.heap.size, 3, none⟩ = some (.slice a1 o.fams.length k1) := cl_row h1 rfl
    have f3 := fz_row (i := 3) h1
    have hpl : W2.heap.size < W6.heap.size := lt_of_heap h1
    by_cases hz : o.fams.length = 0
    · have HIF : Hid ((if o.fams.length = 0 then { o with fams := [1] } else o) = { o with fams := [1] }) := if_pos hz
      rw [hz] at c3
      have hba : Below W6.heap.size W6 (W6.alloc (.cells #[.int .i64 1] 3)) := (Below.refl _ _).alloc (Nat.le_refl _) _
      have hown : (W6.alloc (.cells #[.int .i64 1] 3)).ownsRow w.heap.size 3 1 (.slice (some ⟨W6.heap.size, 0, none⟩) 1 1) ([1] : List Int).length (intsC [1]) := ⟨rfl, Or.inr ⟨W6.heap.size, 1, #[.int .i64 1], rfl, by have := HQ.out; omega, hp_new rfl, Nat.le_refl _, by unfold maxLen; omega, rfl, rfl⟩⟩
      obtain ⟨hO, hF, hP⟩ := OAt.setF (vf' := .slice (some ⟨W6.heap.size, 0, none⟩) 1 1) (L' := [1]) ((hba.block _ hpl).trans h1) (owns_below h2 hba) (owns_below h3 hba) (owns_below h4 hba) h5 (grown_refl _ _) hown rfl
      have HB6' : Hid (Below w.heap.size w ((W6.setCell ⟨W2.heap.size, 3, none⟩ (.slice (some ⟨W6.heap.size, 0, none⟩) 1 1)).alloc (.cells #[.int .i64 1] 3))) := by
        unfold Hid
        rw [← World.setCell_alloc_past _ _ _ _ hpl]
        exact (HB6.out.trans (hba.mono HB6.out.size)).trans (hF.below (by have := HQ.out; omega) (Nat.le_trans HB6.out.size hba.size))
      rw [World.setCell_alloc_past _ _ _ _ hpl] at hO hF
      have hX1 := hF.keep ((hba.block _ (lt_of_heap HX1.out)).trans HX1.out) (by have := HQ.out; omega) (by decide)
      have hX2 := hF.keep ((hba.block _ (lt_of_heap HX2.out)).trans HX2.out) (by have := HQ.out; omega) (by decide)
      have hV7 := hF.keep ((hba.block _ (lt_of_heap HV6.out)).trans HV6.out) (by omega) (by decide)
      obtain ⟨q, hq⟩ : ∃ q, q = ({ o with fams := [1] } : Opn) := ⟨_, rfl⟩
      rw [← hq] at hO HIF
      have HQE : Hid (q = ({ o with fams := [1] } : Opn)) := hq
      clear hq
      go_wp2
      clear HX1 HX2 HV6 HB6 HO6 e0 c3 f3 hP hown hba h1 h2 h3 h4 h5 hF
      generalize (W6.setCell ⟨W2.heap.size, 3, none⟩ (.slice (some ⟨W6.heap.size, 0, none⟩) 1 1)).alloc (.cells #[.int .i64 1] 3) = W8 at *
      have HB6 : Hid (Below w.heap.size w W8) := HB6'.out
      have HX1 : Hid (_ = _) := hX1
      have HX2 : Hid (_ = _) := hX2
      have HV6 : Hid (_ = _) := hV7
      obtain ⟨vf', va', vk', h1, h2, h3, h4, h5⟩ := hO
      obtain ⟨a1', k1', rfl⟩ := slice_of_owns h2
      obtain ⟨a2', k2', rfl⟩ := slice_of_owns h3
      obtain ⟨a3', k3', rfl⟩ := slice_of_owns h4
      have HALL : Hid (_ ∧ _ ∧ _ ∧ _ ∧ _) := ⟨h1, h2, h3, h4, h5⟩
      clear h1 h2 h3 h4 h5 hX1 hX2 hV7
      have c0 := cl_row (i := 0) HX1.out rfl
      have f0 := fz_row (i := 0) HX1.out
      have c1 := cl_row (i := 1) HX1.out rfl
      have f1 := fz_row (i := 1) HX1.out
      have c2 := cl_row (i := 2) HX1.out rfl
      have f2 := fz_row (i := 2) HX1.out
      have c3 := cl_row (i := 3) HX1.out rfl
      have f3 := fz_row (i := 3) HX1.out
      have c4 := cl_row (i := 4) HX1.out rfl
      have f4 := fz_row (i := 4) HX1.out
      have c5 := cl_row (i := 5) HX1.out rfl
      have f5 := fz_row (i := 5) HX1.out
      have c6 := cl_row (i := 6) HX1.out rfl
      have f6 := fz_row (i := 6) HX1.out
      have c7 := cl_row (i := 7) HX1.out rfl
      have f7 := fz_row (i := 7) HX1.out
      have c8 := cl_row (i := 8) HX1.out rfl
      have f8 := fz_row (i := 8) HX1.out
      have c9 := cl_row (i := 9) HX1.out rfl
      have f9 := fz_row (i := 9) HX1.out
      have c10 := cl_row (i := 10) HX1.out rfl
      have f10 := fz_row (i := 10) HX1.out
      have d0 := cl_row (i := 0) HX2.out rfl
      have g0 := fz_row (i := 0) HX2.out
      have d1 := cl_row (i := 1) HX2.out rfl
      have g1 := fz_row (i := 1) HX2.out
      have d2 := cl_row (i := 2) HX2.out rfl
      have g2 := fz_row (i := 2) HX2.out
      have u0 : W8.cell? ⟨W2.heap.size, 0, none⟩ = some (.int .u32 q.asn) := cl_row HALL.out.1 rfl
      have u1 : W8.cell? ⟨W2.heap.size, 1, none⟩ = some (.int .i64 q.hold) := cl_row HALL.out.1 rfl
      have u2 : W8.cell? ⟨W2.heap.size, 2, none⟩ = some (.int .u32 q.id) := cl_row HALL.out.1 rfl
      have u3 : W8.cell? ⟨W2.heap.size, 3, none⟩ = some (.slice a1' q.fams.length k1') := cl_row HALL.out.1 rfl
      have u4 : W8.cell? ⟨W2.heap.size, 4, none⟩ = some (.bool q.four) := cl_row HALL.out.1 rfl
      have u5 : W8.cell? ⟨W2.heap.size, 5, none⟩ = some (.bool q.refr) := cl_row HALL.out.1 rfl
      have u6 : W8.cell? ⟨W2.heap.size, 6, none⟩ = some (.slice a2' q.adds.length k2') := cl_row HALL.out.1 rfl
      have u7 : W8.cell? ⟨W2.heap.size, 7, none⟩ = some (.bool q.gr) := cl_row HALL.out.1 rfl
      have u8 : W8.cell? ⟨W2.heap.size, 8, none⟩ = some (.bool q.again) := cl_row HALL.out.1 rfl
      have u9 : W8.cell? ⟨W2.heap.size, 9, none⟩ = some (.int .i64 q.time) := cl_row HALL.out.1 rfl
      have u10 : W8.cell? ⟨W2.heap.size, 10, none⟩ = some (.slice a3' q.kept.length k3') := cl_row HALL.out.1 rfl
      have v0 := cl_row (i := 0) HV6.out rfl
      have v1 := cl_row (i := 1) HV6.out rfl
      have v2 := cl_row (i := 2) HV6.out rfl
      have hne1 : ¬ (W2.heap.size + 1 = w.heap.size) := by have := HQ.out; omega
      have hne2 : ¬ (W2.heap.size + 1 = w.heap.size + 1) := by have := HQ.out; omega
      have hne3 : ¬ (W2.heap.size = w.heap.size) := by have := HQ.out; omega
      have hne4 : ¬ (W2.heap.size = w.heap.size + 1) := by have := HQ.out; omega
      have HW5 : Hid (_ ∧ _ ∧ _ ∧ _ ∧ _ ∧ _) := dec_rows HB6.out HX1.out HX2.out HALL.out
      unfold opC at HW5
      try dsimp only at HW5
      go_region
      rw [chain11 HX1.out, chain3 (W := W8.setRow w.heap.size #[.int .u32 q.asn, .int .i64 q.hold, .int .u32 q.id, .slice a1' q.fams.length k1', .bool q.four, .bool q.refr, .slice a2' q.adds.length k2', .bool q.gr, .bool q.again, .int .i64 q.time, .slice a3' q.kept.length k3']) ((row_other W8 w.heap.size (w.heap.size + 1) #[.int .u32 q.asn, .int .i64 q.hold, .int .u32 q.id, .slice a1' q.fams.length k1', .bool q.four, .bool q.refr, .slice a2' q.adds.length k2', .bool q.gr, .bool q.again, .int .i64 q.time, .slice a3' q.kept.length k3'] (by omega)).trans HX2.out)]
      clear c0 f0 c1 f1 c2 f2 c3 f3 c4 f4 c5 f5 c6 f6 c7 f7 c8 f8 c9 f9 c10 f10 d0 g0 d1 g1 d2 g2 u0 u1 u2 u3 u4 u5 u6 u7 u8 u9 u10 v0 v1 v2
      generalize ((W8.setRow w.heap.size #[.int .u32 q.asn, .int .i64 q.hold, .int .u32 q.id, .slice a1' q.fams.length k1', .bool q.four, .bool q.refr, .slice a2' q.adds.length k2', .bool q.gr, .bool q.again, .int .i64 q.time, .slice a3' q.kept.length k3']).setRow (w.heap.size + 1) #[.int .i64 0, .int .u8 0, .int .u8 0]).drew = W7 at *
      have p0 := cl_row (i := 0) HW5.out.1 rfl
      have p1 := cl_row (i := 1) HW5.out.1 rfl
      have p2 := cl_row (i := 2) HW5.out.1 rfl
      have p3 := cl_row (i := 3) HW5.out.1 rfl
      have p4 := cl_row (i := 4) HW5.out.1 rfl
      have p5 := cl_row (i := 5) HW5.out.1 rfl
      have p6 := cl_row (i := 6) HW5.out.1 rfl
      have p7 := cl_row (i := 7) HW5.out.1 rfl
      have p8 := cl_row (i := 8) HW5.out.1 rfl
      have p9 := cl_row (i := 9) HW5.out.1 rfl
      have p10 := cl_row (i := 10) HW5.out.1 rfl
      have r0 := cl_row (i := 0) HW5.out.2.1 rfl
      have r1 := cl_row (i := 1) HW5.out.2.1 rfl
      have r2 := cl_row (i := 2) HW5.out.2.1 rfl
      go_wp2
      refine bodyPost_ret (v := .tuple #[.agg #[.int .u32 q.asn, .int .i64 q.hold, .int .u32 q.id, .slice a1' q.fams.length k1', .bool q.four, .bool q.refr, .slice a2' q.adds.length k2', .bool q.gr, .bool q.again, .int .i64 q.time, .slice a3' q.kept.length k3'], .agg #[.int .i64 0, .int .u8 0, .int .u8 0]]) (by simp [results, Tryz.results27, go_sem, p0, p1, p2, p3, p4, p5, p6, p7, p8, p9, p10, r0, r1, r2]) rfl ⟨by rw [← HQE.out]; exact ⟨_, _, _, rfl, HW5.out.2.2.2.1, HW5.out.2.2.2.2.1, HW5.out.2.2.2.2.2, HALL.out.2.2.2.2⟩, HW5.out.2.2.1⟩
    · have HIF : Hid ((if o.fams.length = 0 then { o with fams := [1] } else o) = o) := if_neg hz
      have hzi : ((o.fams.length : Int) == 0) = false := beq_eq_false_iff_ne.2 (by omega)
      have HALL : Hid (_ ∧ _ ∧ _ ∧ _ ∧ _) := ⟨h1, h2, h3, h4, h5⟩
      clear h1 h2 h3 h4 h5 HO6 e0 c3 f3
      have c0 := cl_row (i := 0) HX1.out rfl
      have f0 := fz_row (i := 0) HX1.out
      have c1 := cl_row (i := 1) HX1.out rfl
      have f1 := fz_row (i := 1) HX1.out
      have c2 := cl_row (i := 2) HX1.out rfl
      have f2 := fz_row (i := 2) HX1.out
      have c3 := cl_row (i := 3) HX1.out rfl
      have f3 := fz_row (i := 3) HX1.out
      have c4 := cl_row (i := 4) HX1.out rfl
      have f4 := fz_row (i := 4) HX1.out
      have c5 := cl_row (i := 5) HX1.out rfl
      have f5 := fz_row (i := 5) HX1.out
      have c6 := cl_row (i := 6) HX1.out rfl
      have f6 := fz_row (i := 6) HX1.out
      have c7 := cl_row (i := 7) HX1.out rfl
      have f7 := fz_row (i := 7) HX1.out
      have c8 := cl_row (i := 8) HX1.out rfl
      have f8 := fz_row (i := 8) HX1.out
      have c9 := cl_row (i := 9) HX1.out rfl
      have f9 := fz_row (i := 9) HX1.out
      have c10 := cl_row (i := 10) HX1.out rfl
      have f10 := fz_row (i := 10) HX1.out
      have d0 := cl_row (i := 0) HX2.out rfl
      have g0 := fz_row (i := 0) HX2.out
      have d1 := cl_row (i := 1) HX2.out rfl
      have g1 := fz_row (i := 1) HX2.out
      have d2 := cl_row (i := 2) HX2.out rfl
      have g2 := fz_row (i := 2) HX2.out
      have u0 : W6.cell? ⟨W2.heap.size, 0, none⟩ = some (.int .u32 o.asn) := cl_row HALL.out.1 rfl
      have u1 : W6.cell? ⟨W2.heap.size, 1, none⟩ = some (.int .i64 o.hold) := cl_row HALL.out.1 rfl
      have u2 : W6.cell? ⟨W2.heap.size, 2, none⟩ = some (.int .u32 o.id) := cl_row HALL.out.1 rfl
      have u3 : W6.cell? ⟨W2.heap.size, 3, none⟩ = some (.slice a1 o.fams.length k1) := cl_row HALL.out.1 rfl
      have u4 : W6.cell? ⟨W2.heap.size, 4, none⟩ = some (.bool o.four) := cl_row HALL.out.1 rfl
      have u5 : W6.cell? ⟨W2.heap.size, 5, none⟩ = some (.bool o.refr) := cl_row HALL.out.1 rfl
      have u6 : W6.cell? ⟨W2.heap.size, 6, none⟩ = some (.slice a2 o.adds.length k2) := cl_row HALL.out.1 rfl
      have u7 : W6.cell? ⟨W2.heap.size, 7, none⟩ = some (.bool o.gr) := cl_row HALL.out.1 rfl
      have u8 : W6.cell? ⟨W2.heap.size, 8, none⟩ = some (.bool o.again) := cl_row HALL.out.1 rfl
      have u9 : W6.cell? ⟨W2.heap.size, 9, none⟩ = some (.int .i64 o.time) := cl_row HALL.out.1 rfl
      have u10 : W6.cell? ⟨W2.heap.size, 10, none⟩ = some (.slice a3 o.kept.length k3) := cl_row HALL.out.1 rfl
      have v0 := cl_row (i := 0) HV6.out rfl
      have v1 := cl_row (i := 1) HV6.out rfl
      have v2 := cl_row (i := 2) HV6.out rfl
      have hne1 : ¬ (W2.heap.size + 1 = w.heap.size) := by have := HQ.out; omega
      have hne2 : ¬ (W2.heap.size + 1 = w.heap.size + 1) := by have := HQ.out; omega
      have hne3 : ¬ (W2.heap.size = w.heap.size) := by have := HQ.out; omega
      have hne4 : ¬ (W2.heap.size = w.heap.size + 1) := by have := HQ.out; omega
      have HW5 : Hid (_ ∧ _ ∧ _ ∧ _ ∧ _ ∧ _) := dec_rows HB6.out HX1.out HX2.out HALL.out
      unfold opC at HW5
      try dsimp only at HW5
      go_wp2
      go_region
      rw [chain11 HX1.out, chain3 (W := W6.setRow w.heap.size #[.int .u32 o.asn, .int .i64 o.hold, .int .u32 o.id, .slice a1 o.fams.length k1, .bool o.four, .bool o.refr, .slice a2 o.adds.length k2, .bool o.gr, .bool o.again, .int .i64 o.time, .slice a3 o.kept.length k3]) ((row_other W6 w.heap.size (w.heap.size + 1) #[.int .u32 o.asn, .int .i64 o.hold, .int .u32 o.id, .slice a1 o.fams.length k1, .bool o.four, .bool o.refr, .slice a2 o.adds.length k2, .bool o.gr, .bool o.again, .int .i64 o.time, .slice a3 o.kept.length k3] (by omega)).trans HX2.out)]
      clear c0 f0 c1 f1 c2 f2 c3 f3 c4 f4 c5 f5 c6 f6 c7 f7 c8 f8 c9 f9 c10 f10 d0 g0 d1 g1 d2 g2 u0 u1 u2 u3 u4 u5 u6 u7 u8 u9 u10 v0 v1 v2
      generalize ((W6.setRow w.heap.size #[.int .u32 o.asn, .int .i64 o.hold, .int .u32 o.id, .slice a1 o.fams.length k1, .bool o.four, .bool o.refr, .slice a2 o.adds.length k2, .bool o.gr, .bool o.again, .int .i64 o.time, .slice a3 o.kept.length k3]).setRow (w.heap.size + 1) #[.int .i64 0, .int .u8 0, .int .u8 0]).drew = W7 at *
      have p0 := cl_row (i := 0) HW5.out.1 rfl
      have p1 := cl_row (i := 1) HW5.out.1 rfl
      have p2 := cl_row (i := 2) HW5.out.1 rfl
      have p3 := cl_row (i := 3) HW5.out.1 rfl
      have p4 := cl_row (i := 4) HW5.out.1 rfl
      have p5 := cl_row (i := 5) HW5.out.1 rfl
      have p6 := cl_row (i := 6) HW5.out.1 rfl
      have p7 := cl_row (i := 7) HW5.out.1 rfl
      have p8 := cl_row (i := 8) HW5.out.1 rfl
      have p9 := cl_row (i := 9) HW5.out.1 rfl
      have p10 := cl_row (i := 10) HW5.out.1 rfl
      have r0 := cl_row (i := 0) HW5.out.2.1 rfl
      have r1 := cl_row (i := 1) HW5.out.2.1 rfl
      have r2 := cl_row (i := 2) HW5.out.2.1 rfl
      go_wp2
      refine bodyPost_ret (v := .tuple #[.agg #[.int .u32 o.asn, .int .i64 o.hold, .int .u32 o.id, .slice a1 o.fams.length k1, .bool o.four, .bool o.refr, .slice a2 o.adds.length k2, .bool o.gr, .bool o.again, .int .i64 o.time, .slice a3 o.kept.length k3], .agg #[.int .i64 0, .int .u8 0, .int .u8 0]]) (by simp [results, Tryz.results27, go_sem, p0, p1, p2, p3, p4, p5, p6, p7, p8, p9, p10, r0, r1, r2]) rfl ⟨by exact ⟨_, _, _, rfl, HW5.out.2.2.2.1, HW5.out.2.2.2.2.1, HW5.out.2.2.2.2.2, HALL.out.2.2.2.2⟩, HW5.out.2.2.1⟩
end Go.Proofs.YtlhnfejgkhilkaaGreatDoor
