/-
  A capability is taken: taker's closure.
-/
import Derived.Test.YtfhapjhkjdifjaaGreatDoorM4
import Derived.Test.YtfhapjhkjdifjaaGreatDoorR3
set_option linter.unusedVariables false
set_option linter.unusedSimpArgs false
namespace Go.Proofs.YtfhapjhkjdifjaaGreatDoor
open Go.RowKit
/-- A capability is put into an open. -/
def stepC (o : Opn) (c : Nat) (v : List UInt8) : Except Nat Opn :=
  if fitB c v.length = false then .error 0
  else if c = 1 then .ok { o with fams := famsI o.fams v }
  else if c = 2 then .ok { o with refr := true }
  else if c = 64 then .ok (entsL stK (v.drop 2) (grO o (worth (v.take 2))))
  else if c = 65 then (if worth v = 0 then .error 2 else .ok { o with asn := (worth v : Int), four := true })
  else if c = 69 then .ok (entsL stA v { o with adds := [] })
  else .ok o
/-- What is left behind a capability that was taken: the verdict's block as it was, the rest kept. -/
theorem tc_end {base p : Nat} {Y W1 w' : World} {o' : Opn} (hz : W1.heap[Y.heap.size]? = some (.cells #[.int .i64 0, .int .u8 0, .int .u8 0] 37 (0, 0))) (hY : Below Y.heap.size Y W1) (hF : Fr base p W1 w') (ho : OAt base w' p o') (hp : p < Y.heap.size) :
    w'.heap[Y.heap.size]? = some (.cells #[.int .i64 0, .int .u8 0, .int .u8 0] 37 (0, 0)) ∧ ∀ C : Array Value, OAt base (w'.setRow Y.heap.size C) p o' ∧ Fr base p Y (w'.setRow Y.heap.size C) := by
  have h1 := hF.keep hz (by omega) (by decide)
  refine ⟨h1, fun C => ?_⟩
  have hbz : Beside Y.heap.size w' (w'.setRow Y.heap.size C) := Beside.setRow h1
  have hFY : Fr base p Y w' := (Fr.of_below hY (Nat.le_refl _)).trans hF
  exact ⟨ho.beside hbz h1 (by decide), hFY.later (hbz.below (Nat.le_refl _) hFY.size)⟩
theorem OAt.plain {base p : Nat} {w W : World} {o o' : Opn} {vf va vk : Value} (hall : w.heap[p]? = some (.cells (opC o vf va vk) 50 (0, 0)) ∧ w.ownsRow base 3 1 vf o.fams.length (intsC o.fams) ∧ w.ownsRow base 108 3 va o.adds.length (addsC o.adds) ∧ w.ownsRow base 129 2 vk o.kept.length (keptC o.kept) ∧ OpOk o)
    (hb : Beside p w W) (h : W.heap[p]? = some (.cells (opC o' vf va vk) 50 (0, 0))) (e1 : o'.fams = o.fams) (e2 : o'.adds = o.adds) (e3 : o'.kept = o.kept) : OAt base W p o' ∧ Fr base p w W := by
  refine ⟨⟨vf, va, vk, h, ?_, ?_, ?_, ⟨by rw [e1]; exact hall.2.2.2.2.f, by rw [e2]; exact hall.2.2.2.2.a, by rw [e3]; exact hall.2.2.2.2.k⟩⟩, Fr.of_beside hb⟩
  · rw [e1]; exact owns_beside hall.2.1 hb hall.1 (by decide)
  · rw [e2]; exact owns_beside hall.2.2.1 hb hall.1 (by decide)
  · rw [e3]; exact owns_beside hall.2.2.2.1 hb hall.1 (by decide)
set_option maxHeartbeats 3200000 in
set_option maxRecDepth 100000 in
theorem taker_fam (base p q : Nat) (o : Opn) (v : List UInt8) (Y : World) (hv : v.length < 256) (ho : OAt base Y p o) (hq : Y.heap[q]? = some (.cells #[.pointer (some ⟨p, 0, none⟩)] 76 (0, 0))) (hg : FamSizes Y) (hb0 : 1 < base) (hbp : base ≤ p) (hp : p < Y.heap.size) (hbY : base ≤ Y.heap.size) (hfit : fitB 1 v.length = true) :
    Calls Tryz.prog 54 #[.int .u8 1, .string ⟨v.toArray⟩, .pointer (some ⟨q, 0, none⟩)] Y fun e w' => e = .returned (vdt 0 0 0) ∧ OAt base w' p ({ o with fams := famsI o.fams v }) ∧ Fr base p Y w' := by
  have hb1 : Below Y.heap.size Y (Y.alloc (.cells #[.int .i64 0, .int .u8 0, .int .u8 0] 37)) := (Below.refl _ _).alloc (Nat.le_refl _) _
  have hz1 : (Y.alloc (.cells #[.int .i64 0, .int .u8 0, .int .u8 0] 37)).heap[Y.heap.size]? = some (.cells #[.int .i64 0, .int .u8 0, .int .u8 0] 37 (0, 0)) := hp_new rfl
  have hs1 : (Y.alloc (.cells #[.int .i64 0, .int .u8 0, .int .u8 0] 37)).heap.size = Y.heap.size + 1 := by simp
  have HO1 : Hid (OAt base (Y.alloc (.cells #[.int .i64 0, .int .u8 0, .int .u8 0] 37)) p o) := ho.below hb1
  have HQ1 : Hid ((Y.alloc (.cells #[.int .i64 0, .int .u8 0, .int .u8 0] 37)).heap[q]? = _) := (hb1.block _ (lt_of_heap hq)).trans hq
  have HG1 : Hid (FamSizes (Y.alloc (.cells #[.int .i64 0, .int .u8 0, .int .u8 0] 37))) := hg.below hb1
  have HB1 : Hid (Below _ _ _) := hb1
  have HZ1 : Hid (_ = _) := hz1
  have HS1 : Hid (_ = _) := hs1
  have HN : Hid (1 < base ∧ base ≤ p ∧ p < Y.heap.size ∧ base ≤ Y.heap.size) := ⟨hb0, hbp, hp, hbY⟩
  have KFIT : Hid (∀ W, Calls Tryz.prog 55 #[.int .u8 1, .int .i64 (v.length : Int)] W fun e w' => e = .returned (.bool true) ∧ w' = W) := fun W => by have := fits_any 1 v.length W (by omega); rw [hfit] at this; exact this
  have hsz : (⟨v.toArray⟩ : ByteArray).size = v.length := rfl
  clear hb1 hz1 hs1 ho hq hg hb0 hbp hp hbY
  have HV4 : Hid (v.length = 4) := by unfold Hid; simpa [fitB] using hfit
  go_enter Tryz.func54, Tryz.ntmps54
  go_wp2_with fail
  generalize Y.alloc (.cells #[.int .i64 0, .int .u8 0, .int .u8 0] 37) = W1 at *
  refine Calls.mono (KFIT.out W1) ?_
  rintro e wf ⟨rfl, hwf⟩
  obtain rfl : W1 = wf := hwf.symm
  clear hwf KFIT
  go_wp2_with fail
  refine Calls.mono (newR_any v W1) ?_
  rintro e W2 ⟨rfl, hrd, hW2⟩
  have hb2 : Below W1.heap.size W1 W2 := by rw [hW2]; exact (Below.refl _ _).alloc (Nat.le_refl _) _
  have HO2 : Hid (OAt base W2 p o) := HO1.out.below hb2
  have HQ2 : Hid (W2.heap[q]? = _) := (hb2.block _ (lt_of_heap HQ1.out)).trans HQ1.out
  have HG2 : Hid (FamSizes W2) := HG1.out.below hb2
  have HF2 : Hid (Fr base p W1 W2) := Fr.of_below hb2 (Nat.le_refl _)
  have HRD : Hid (Rd W2 W1.heap.size v) := hrd
  have HZ2 : Hid (W1.heap.size ≤ W2.heap.size) := hb2.size
  clear hrd hW2 hb2 HO1 HQ1 HG1
  have cq : W2.cell? ⟨q, 0, none⟩ = some (.pointer (some ⟨p, 0, none⟩)) := cl_row HQ2.out rfl
  go_wp2_with fail
  refine Calls.mono (takeFam_any base p W1.heap.size o v W1 W2 HO2.out HRD.out (by have := HV4.out; omega) HG2.out HN.out.1 HN.out.2.1 HF2.out (Nat.le_refl _) (by have := HN.out; have := HS1.out; omega)) ?_
  rintro e W3 ⟨rfl, ho3, hf3⟩
  have HE : Hid (_ ∧ _) := tc_end HZ1.out HB1.out hf3 ho3 HN.out.2.2.1
  clear ho3 hf3 cq
  go_wp2_with (refine wpList_store_row rfl 37 _ _ rfl Y.heap.size #[.int .i64 0, .int .u8 0, .int .u8 0] rfl rfl 37 _ HE.out.1 size37 rfl (one37 _ _ _) ?_)
  have hr := row_same _ Y.heap.size _ #[.int .i64 0, .int .u8 0, .int .u8 0] HE.out.1
  have c0 := cl_row (i := 0) hr rfl
  have c1 := cl_row (i := 1) hr rfl
  have c2 := cl_row (i := 2) hr rfl
  refine bodyPost_ret (v := vdt 0 0 0) (by simp [results, Tryz.results54, go_sem, vdt, c0, c1, c2]) rfl ⟨rfl, (HE.out.2 _).1, (HE.out.2 _).2⟩
set_option maxHeartbeats 3200000 in
set_option maxRecDepth 100000 in
theorem taker_restart (base p q : Nat) (o : Opn) (v : List UInt8) (Y : World) (hv : v.length < 256) (ho : OAt base Y p o) (hq : Y.heap[q]? = some (.cells #[.pointer (some ⟨p, 0, none⟩)] 76 (0, 0))) (hg : FamSizes Y) (hb0 : 1 < base) (hbp : base ≤ p) (hp : p < Y.heap.size) (hbY : base ≤ Y.heap.size) (hfit : fitB 64 v.length = true) :
    Calls Tryz.prog 54 #[.int .u8 64, .string ⟨v.toArray⟩, .pointer (some ⟨q, 0, none⟩)] Y fun e w' => e = .returned (vdt 0 0 0) ∧ OAt base w' p (entsL stK (v.drop 2) (grO o (worth (v.take 2)))) ∧ Fr base p Y w' := by
  have hb1 : Below Y.heap.size Y (Y.alloc (.cells #[.int .i64 0, .int .u8 0, .int .u8 0] 37)) := (Below.refl _ _).alloc (Nat.le_refl _) _
  have hz1 : (Y.alloc (.cells #[.int .i64 0, .int .u8 0, .int .u8 0] 37)).heap[Y.heap.size]? = some (.cells #[.int .i64 0, .int .u8 0, .int .u8 0] 37 (0, 0)) := hp_new rfl
  have hs1 : (Y.alloc (.cells #[.int .i64 0, .int .u8 0, .int .u8 0] 37)).heap.size = Y.heap.size + 1 := by simp
  have HO1 : Hid (OAt base (Y.alloc (.cells #[.int .i64 0, .int .u8 0, .int .u8 0] 37)) p o) := ho.below hb1
  have HQ1 : Hid ((Y.alloc (.cells #[.int .i64 0, .int .u8 0, .int .u8 0] 37)).heap[q]? = _) := (hb1.block _ (lt_of_heap hq)).trans hq
  have HG1 : Hid (FamSizes (Y.alloc (.cells #[.int .i64 0, .int .u8 0, .int .u8 0] 37))) := hg.below hb1
  have HB1 : Hid (Below _ _ _) := hb1
  have HZ1 : Hid (_ = _) := hz1
  have HS1 : Hid (_ = _) := hs1
  have HN : Hid (1 < base ∧ base ≤ p ∧ p < Y.heap.size ∧ base ≤ Y.heap.size) := ⟨hb0, hbp, hp, hbY⟩
  have KFIT : Hid (∀ W, Calls Tryz.prog 55 #[.int .u8 64, .int .i64 (v.length : Int)] W fun e w' => e = .returned (.bool true) ∧ w' = W) := fun W => by have := fits_any 64 v.length W (by omega); rw [hfit] at this; exact this
  have hsz : (⟨v.toArray⟩ : ByteArray).size = v.length := rfl
  clear hb1 hz1 hs1 ho hq hg hb0 hbp hp hbY
  have HV2 : Hid (2 ≤ v.length) := by unfold Hid; simp [fitB] at hfit; omega
  go_enter Tryz.func54, Tryz.ntmps54
  go_wp2_with fail
  generalize Y.alloc (.cells #[.int .i64 0, .int .u8 0, .int .u8 0] 37) = W1 at *
  refine Calls.mono (KFIT.out W1) ?_
  rintro e wf ⟨rfl, hwf⟩
  obtain rfl : W1 = wf := hwf.symm
  clear hwf KFIT
  go_wp2_with fail
  refine Calls.mono (newR_any v W1) ?_
  rintro e W2 ⟨rfl, hrd, hW2⟩
  have hb2 : Below W1.heap.size W1 W2 := by rw [hW2]; exact (Below.refl _ _).alloc (Nat.le_refl _) _
  have HO2 : Hid (OAt base W2 p o) := HO1.out.below hb2
  have HQ2 : Hid (W2.heap[q]? = _) := (hb2.block _ (lt_of_heap HQ1.out)).trans HQ1.out
  have HG2 : Hid (FamSizes W2) := HG1.out.below hb2
  have HF2 : Hid (Fr base p W1 W2) := Fr.of_below hb2 (Nat.le_refl _)
  have HRD : Hid (Rd W2 W1.heap.size v) := hrd
  have HZ2 : Hid (W1.heap.size ≤ W2.heap.size) := hb2.size
  clear hrd hW2 hb2 HO1 HQ1 HG1
  have cq : W2.cell? ⟨q, 0, none⟩ = some (.pointer (some ⟨p, 0, none⟩)) := cl_row HQ2.out rfl
  go_wp2_with fail
  refine Calls.mono (takeRestart_any base p W1.heap.size o v W1 W2 HO2.out HRD.out HV2.out HG2.out HN.out.1 HN.out.2.1 HF2.out (Nat.le_refl _) (by have := HN.out; have := HS1.out; omega) (by have := HN.out; have := HS1.out; omega)) ?_
  rintro e W3 ⟨rfl, ho3, hf3⟩
  have HE : Hid (_ ∧ _) := tc_end HZ1.out HB1.out hf3 ho3 HN.out.2.2.1
  clear ho3 hf3 cq
  go_wp2_with (refine wpList_store_row rfl 37 _ _ rfl Y.heap.size #[.int .i64 0, .int .u8 0, .int .u8 0] rfl rfl 37 _ HE.out.1 size37 rfl (one37 _ _ _) ?_)
  have hr := row_same _ Y.heap.size _ #[.int .i64 0, .int .u8 0, .int .u8 0] HE.out.1
  have c0 := cl_row (i := 0) hr rfl
  have c1 := cl_row (i := 1) hr rfl
  have c2 := cl_row (i := 2) hr rfl
  refine bodyPost_ret (v := vdt 0 0 0) (by simp [results, Tryz.results54, go_sem, vdt, c0, c1, c2]) rfl ⟨rfl, (HE.out.2 _).1, (HE.out.2 _).2⟩
set_option maxHeartbeats 3200000 in
set_option maxRecDepth 100000 in
theorem taker_adds (base p q : Nat) (o : Opn) (v : List UInt8) (Y : World) (hv : v.length < 256) (ho : OAt base Y p o) (hq : Y.heap[q]? = some (.cells #[.pointer (some ⟨p, 0, none⟩)] 76 (0, 0))) (hg : FamSizes Y) (hb0 : 1 < base) (hbp : base ≤ p) (hp : p < Y.heap.size) (hbY : base ≤ Y.heap.size) (hfit : fitB 69 v.length = true) :
    Calls Tryz.prog 54 #[.int .u8 69, .string ⟨v.toArray⟩, .pointer (some ⟨q, 0, none⟩)] Y fun e w' => e = .returned (vdt 0 0 0) ∧ OAt base w' p (entsL stA v { o with adds := [] }) ∧ Fr base p Y w' := by
  have hb1 : Below Y.heap.size Y (Y.alloc (.cells #[.int .i64 0, .int .u8 0, .int .u8 0] 37)) := (Below.refl _ _).alloc (Nat.le_refl _) _
  have hz1 : (Y.alloc (.cells #[.int .i64 0, .int .u8 0, .int .u8 0] 37)).heap[Y.heap.size]? = some (.cells #[.int .i64 0, .int .u8 0, .int .u8 0] 37 (0, 0)) := hp_new rfl
  have hs1 : (Y.alloc (.cells #[.int .i64 0, .int .u8 0, .int .u8 0] 37)).heap.size = Y.heap.size + 1 := by simp
  have HO1 : Hid (OAt base (Y.alloc (.cells #[.int .i64 0, .int .u8 0, .int .u8 0] 37)) p o) := ho.below hb1
  have HQ1 : Hid ((Y.alloc (.cells #[.int .i64 0, .int .u8 0, .int .u8 0] 37)).heap[q]? = _) := (hb1.block _ (lt_of_heap hq)).trans hq
  have HG1 : Hid (FamSizes (Y.alloc (.cells #[.int .i64 0, .int .u8 0, .int .u8 0] 37))) := hg.below hb1
  have HB1 : Hid (Below _ _ _) := hb1
  have HZ1 : Hid (_ = _) := hz1
  have HS1 : Hid (_ = _) := hs1
  have HN : Hid (1 < base ∧ base ≤ p ∧ p < Y.heap.size ∧ base ≤ Y.heap.size) := ⟨hb0, hbp, hp, hbY⟩
  have KFIT : Hid (∀ W, Calls Tryz.prog 55 #[.int .u8 69, .int .i64 (v.length : Int)] W fun e w' => e = .returned (.bool true) ∧ w' = W) := fun W => by have := fits_any 69 v.length W (by omega); rw [hfit] at this; exact this
  have hsz : (⟨v.toArray⟩ : ByteArray).size = v.length := rfl
  clear hb1 hz1 hs1 ho hq hg hb0 hbp hp hbY
  go_enter Tryz.func54, Tryz.ntmps54
  go_wp2_with fail
  generalize Y.alloc (.cells #[.int .i64 0, .int .u8 0, .int .u8 0] 37) = W1 at *
  refine Calls.mono (KFIT.out W1) ?_
  rintro e wf ⟨rfl, hwf⟩
  obtain rfl : W1 = wf := hwf.symm
  clear hwf KFIT
  go_wp2_with fail
  refine Calls.mono (newR_any v W1) ?_
  rintro e W2 ⟨rfl, hrd, hW2⟩
  have hb2 : Below W1.heap.size W1 W2 := by rw [hW2]; exact (Below.refl _ _).alloc (Nat.le_refl _) _
  have HO2 : Hid (OAt base W2 p o) := HO1.out.below hb2
  have HQ2 : Hid (W2.heap[q]? = _) := (hb2.block _ (lt_of_heap HQ1.out)).trans HQ1.out
  have HG2 : Hid (FamSizes W2) := HG1.out.below hb2
  have HF2 : Hid (Fr base p W1 W2) := Fr.of_below hb2 (Nat.le_refl _)
  have HRD : Hid (Rd W2 W1.heap.size v) := hrd
  have HZ2 : Hid (W1.heap.size ≤ W2.heap.size) := hb2.size
  clear hrd hW2 hb2 HO1 HQ1 HG1
  have cq : W2.cell? ⟨q, 0, none⟩ = some (.pointer (some ⟨p, 0, none⟩)) := cl_row HQ2.out rfl
  go_wp2_with fail
  refine Calls.mono (takeAdds_any base p W1.heap.size o v W1 W2 HO2.out HRD.out HG2.out HN.out.1 HN.out.2.1 HF2.out (Nat.le_refl _) (by have := HN.out; have := HS1.out; omega) (by have := HN.out; have := HS1.out; omega)) ?_
  rintro e W3 ⟨rfl, ho3, hf3⟩
  have HE : Hid (_ ∧ _) := tc_end HZ1.out HB1.out hf3 ho3 HN.out.2.2.1
  clear ho3 hf3 cq
  go_wp2_with (refine wpList_store_row rfl 37 _ _ rfl Y.heap.size #[.int .i64 0, .int .u8 0, .int .u8 0] rfl rfl 37 _ HE.out.1 size37 rfl (one37 _ _ _) ?_)
  have hr := row_same _ Y.heap.size _ #[.int .i64 0, .int .u8 0, .int .u8 0] HE.out.1
  have c0 := cl_row (i := 0) hr rfl
  have c1 := cl_row (i := 1) hr rfl
  have c2 := cl_row (i := 2) hr rfl
  refine bodyPost_ret (v := vdt 0 0 0) (by simp [results, Tryz.results54, go_sem, vdt, c0, c1, c2]) rfl ⟨rfl, (HE.out.2 _).1, (HE.out.2 _).2⟩
set_option maxHeartbeats 3200000 in
set_option maxRecDepth 100000 in
theorem taker_refresh (base p q : Nat) (o : Opn) (v : List UInt8) (Y : World) (hv : v.length < 256) (ho : OAt base Y p o) (hq : Y.heap[q]? = some (.cells #[.pointer (some ⟨p, 0, none⟩)] 76 (0, 0))) (hg : FamSizes Y) (hb0 : 1 < base) (hbp : base ≤ p) (hp : p < Y.heap.size) (hbY : base ≤ Y.heap.size) (hfit : fitB 2 v.length = true) :
    Calls Tryz.prog 54 #[.int .u8 2, .string ⟨v.toArray⟩, .pointer (some ⟨q, 0, none⟩)] Y fun e w' => e = .returned (vdt 0 0 0) ∧ OAt base w' p ({ o with refr := true }) ∧ Fr base p Y w' := by
  have hb1 : Below Y.heap.size Y (Y.alloc (.cells #[.int .i64 0, .int .u8 0, .int .u8 0] 37)) := (Below.refl _ _).alloc (Nat.le_refl _) _
  have hz1 : (Y.alloc (.cells #[.int .i64 0, .int .u8 0, .int .u8 0] 37)).heap[Y.heap.size]? = some (.cells #[.int .i64 0, .int .u8 0, .int .u8 0] 37 (0, 0)) := hp_new rfl
  have hs1 : (Y.alloc (.cells #[.int .i64 0, .int .u8 0, .int .u8 0] 37)).heap.size = Y.heap.size + 1 := by simp
  have HO1 : Hid (OAt base (Y.alloc (.cells #[.int .i64 0, .int .u8 0, .int .u8 0] 37)) p o) := ho.below hb1
  have HQ1 : Hid ((Y.alloc (.cells #[.int .i64 0, .int .u8 0, .int .u8 0] 37)).heap[q]? = _) := (hb1.block _ (lt_of_heap hq)).trans hq
  have HG1 : Hid (FamSizes (Y.alloc (.cells #[.int .i64 0, .int .u8 0, .int .u8 0] 37))) := hg.below hb1
  have HB1 : Hid (Below _ _ _) := hb1
  have HZ1 : Hid (_ = _) := hz1
  have HS1 : Hid (_ = _) := hs1
  have HN : Hid (1 < base ∧ base ≤ p ∧ p < Y.heap.size ∧ base ≤ Y.heap.size) := ⟨hb0, hbp, hp, hbY⟩
  have KFIT : Hid (∀ W, Calls Tryz.prog 55 #[.int .u8 2, .int .i64 (v.length : Int)] W fun e w' => e = .returned (.bool true) ∧ w' = W) := fun W => by have := fits_any 2 v.length W (by omega); rw [hfit] at this; exact this
  have hsz : (⟨v.toArray⟩ : ByteArray).size = v.length := rfl
  clear hb1 hz1 hs1 ho hq hg hb0 hbp hp hbY
  go_enter Tryz.func54, Tryz.ntmps54
  go_wp2_with fail
  generalize Y.alloc (.cells #[.int .i64 0, .int .u8 0, .int .u8 0] 37) = W1 at *
  refine Calls.mono (KFIT.out W1) ?_
  rintro e wf ⟨rfl, hwf⟩
  obtain rfl : W1 = wf := hwf.symm
  clear hwf KFIT
  go_wp2_with fail
  refine Calls.mono (newR_any v W1) ?_
  rintro e W2 ⟨rfl, hrd, hW2⟩
  have hb2 : Below W1.heap.size W1 W2 := by rw [hW2]; exact (Below.refl _ _).alloc (Nat.le_refl _) _
  have HO2 : Hid (OAt base W2 p o) := HO1.out.below hb2
  have HQ2 : Hid (W2.heap[q]? = _) := (hb2.block _ (lt_of_heap HQ1.out)).trans HQ1.out
  have HG2 : Hid (FamSizes W2) := HG1.out.below hb2
  have HF2 : Hid (Fr base p W1 W2) := Fr.of_below hb2 (Nat.le_refl _)
  have HRD : Hid (Rd W2 W1.heap.size v) := hrd
  have HZ2 : Hid (W1.heap.size ≤ W2.heap.size) := hb2.size
  clear hrd hW2 hb2 HO1 HQ1 HG1
  have cq : W2.cell? ⟨q, 0, none⟩ = some (.pointer (some ⟨p, 0, none⟩)) := cl_row HQ2.out rfl
  obtain ⟨vf, va, vk, h1, h2, h3, h4, h5⟩ := HO2.out
  have k5 := cl_row (i := 5) h1 rfl
  have f5 := fz_row (i := 5) h1
  have hpl := OAt.plain (W := W2.setCell ⟨p, 5, none⟩ (.bool true)) (o' := { o with refr := true }) ⟨h1, h2, h3, h4, h5⟩ (Beside.set _ _ _) ((heap_setCell_same W2 p 5 _ _ _ h1).trans rfl) rfl rfl rfl
  have HE : Hid (_ ∧ _) := tc_end HZ1.out HB1.out (HF2.out.trans hpl.2) hpl.1 HN.out.2.2.1
  clear hpl h1 h2 h3 h4 h5
  go_wp2_with (refine wpList_store_row rfl 37 _ _ rfl Y.heap.size #[.int .i64 0, .int .u8 0, .int .u8 0] rfl rfl 37 _ HE.out.1 size37 rfl (one37 _ _ _) ?_)
  have hr := row_same _ Y.heap.size _ #[.int .i64 0, .int .u8 0, .int .u8 0] HE.out.1
  have c0 := cl_row (i := 0) hr rfl
  have c1 := cl_row (i := 1) hr rfl
  have c2 := cl_row (i := 2) hr rfl
  refine bodyPost_ret (v := vdt 0 0 0) (by simp [results, Tryz.results54, go_sem, vdt, c0, c1, c2]) rfl ⟨rfl, (HE.out.2 _).1, (HE.out.2 _).2⟩
set_option maxHeartbeats 3200000 in
set_option maxRecDepth 100000 in
theorem taker_four (base p q : Nat) (o : Opn) (v : List UInt8) (Y : World) (hv : v.length < 256) (ho : OAt base Y p o) (hq : Y.heap[q]? = some (.cells #[.pointer (some ⟨p, 0, none⟩)] 76 (0, 0))) (hg : FamSizes Y) (hb0 : 1 < base) (hbp : base ≤ p) (hp : p < Y.heap.size) (hbY : base ≤ Y.heap.size) (hfit : fitB 65 v.length = true) (hw : worth v ≠ 0) :
    Calls Tryz.prog 54 #[.int .u8 65, .string ⟨v.toArray⟩, .pointer (some ⟨q, 0, none⟩)] Y fun e w' => e = .returned (vdt 0 0 0) ∧ OAt base w' p ({ o with asn := (worth v : Int), four := true }) ∧ Fr base p Y w' := by
  have hb1 : Below Y.heap.size Y (Y.alloc (.cells #[.int .i64 0, .int .u8 0, .int .u8 0] 37)) := (Below.refl _ _).alloc (Nat.le_refl _) _
  have hz1 : (Y.alloc (.cells #[.int .i64 0, .int .u8 0, .int .u8 0] 37)).heap[Y.heap.size]? = some (.cells #[.int .i64 0, .int .u8 0, .int .u8 0] 37 (0, 0)) := hp_new rfl
  have hs1 : (Y.alloc (.cells #[.int .i64 0, .int .u8 0, .int .u8 0] 37)).heap.size = Y.heap.size + 1 := by simp
  have HO1 : Hid (OAt base (Y.alloc (.cells #[.int .i64 0, .int .u8 0, .int .u8 0] 37)) p o) := ho.below hb1
  have HQ1 : Hid ((Y.alloc (.cells #[.int .i64 0, .int .u8 0, .int .u8 0] 37)).heap[q]? = _) := (hb1.block _ (lt_of_heap hq)).trans hq
  have HG1 : Hid (FamSizes (Y.alloc (.cells #[.int .i64 0, .int .u8 0, .int .u8 0] 37))) := hg.below hb1
  have HB1 : Hid (Below _ _ _) := hb1
  have HZ1 : Hid (_ = _) := hz1
  have HS1 : Hid (_ = _) := hs1
  have HN : Hid (1 < base ∧ base ≤ p ∧ p < Y.heap.size ∧ base ≤ Y.heap.size) := ⟨hb0, hbp, hp, hbY⟩
  have KFIT : Hid (∀ W, Calls Tryz.prog 55 #[.int .u8 65, .int .i64 (v.length : Int)] W fun e w' => e = .returned (.bool true) ∧ w' = W) := fun W => by have := fits_any 65 v.length W (by omega); rw [hfit] at this; exact this
  have hsz : (⟨v.toArray⟩ : ByteArray).size = v.length := rfl
  clear hb1 hz1 hs1 ho hq hg hb0 hbp hp hbY
  have HV4 : Hid (v.length = 4) := by unfold Hid; simpa [fitB] using hfit
  have K4 : Hid (∀ X r, Rd X r v → Calls Tryz.prog 39 #[.pointer (some ⟨r, 0, none⟩), .int .i64 4] X fun e w' => e = .returned (.tuple #[.int .u64 (worth v : Int), .bool true]) ∧ Rd w' r (v.drop 4) ∧ Beside r X w') := fun X r hX => by
    have := numR_yes r v 4 X hX (by omega) (by omega) (by have := HV4.out; omega)
    rw [List.take_of_length_le (by have := HV4.out; omega)] at this
    exact this
  have hav : worth v < 4294967296 := by have := worth4 v; rw [List.take_of_length_le (by have := HV4.out; omega)] at this; exact this
  have hav0 : ((worth v : Int) == 0) = false := by simp; omega
  generalize worth v = av at *
  go_enter Tryz.func54, Tryz.ntmps54
  go_wp2_with fail
  generalize Y.alloc (.cells #[.int .i64 0, .int .u8 0, .int .u8 0] 37) = W1 at *
  refine Calls.mono (KFIT.out W1) ?_
  rintro e wf ⟨rfl, hwf⟩
  obtain rfl : W1 = wf := hwf.symm
  clear hwf KFIT
  go_wp2_with fail
  refine Calls.mono (newR_any v W1) ?_
  rintro e W2 ⟨rfl, hrd, hW2⟩
  have hb2 : Below W1.heap.size W1 W2 := by rw [hW2]; exact (Below.refl _ _).alloc (Nat.le_refl _) _
  have HO2 : Hid (OAt base W2 p o) := HO1.out.below hb2
  have HQ2 : Hid (W2.heap[q]? = _) := (hb2.block _ (lt_of_heap HQ1.out)).trans HQ1.out
  have HG2 : Hid (FamSizes W2) := HG1.out.below hb2
  have HF2 : Hid (Fr base p W1 W2) := Fr.of_below hb2 (Nat.le_refl _)
  have HRD : Hid (Rd W2 W1.heap.size v) := hrd
  have HZ2 : Hid (W1.heap.size ≤ W2.heap.size) := hb2.size
  clear hrd hW2 hb2 HO1 HQ1 HG1
  go_wp2_with fail
  refine Calls.mono (K4.out W2 _ HRD.out) ?_
  rintro e W3 ⟨rfl, hr3, hb3⟩
  obtain ⟨C, hC⟩ := HRD.out.ty
  have HO3 : Hid (OAt base W3 p o) := HO2.out.beside hb3 hC (by decide)
  have HF3 : Hid (Fr base p W1 W3) := HF2.out.later (hb3.below (Nat.le_refl _) HZ2.out)
  have HQ3 : Hid (W3.heap[q]? = _) := (hb3.block _ (lt_of_heap HQ2.out) (by
    intro e'
    have h := HQ2.out
    rw [e', hC] at h
    simp at h)).trans HQ2.out
  clear hr3 hb3 hC HO2 HF2 HQ2
  have cq : W3.cell? ⟨q, 0, none⟩ = some (.pointer (some ⟨p, 0, none⟩)) := cl_row HQ3.out rfl
  obtain ⟨vf, va, vk, h1, h2, h3, h4, h5⟩ := HO3.out
  have k0 := cl_row (i := 0) h1 rfl
  have f0 := fz_row (i := 0) h1
  have k4 := cl_row (i := 4) h1 rfl
  have f4 := fz_row (i := 4) h1
  have hqp : q ≠ p := HO3.out.ne HQ3.out (by decide)
  have hqp2 : ¬ (p = q) := fun e => hqp e.symm
  have HP1 : Hid (_ = _) := h1
  have HKEY : Hid (∀ W, Beside p W3 W → W.heap[p]? = some (.cells (opC { o with asn := (av : Int), four := true } vf va vk) 50 (0, 0)) → W.heap[Y.heap.size]? = some (.cells #[.int .i64 0, .int .u8 0, .int .u8 0] 37 (0, 0)) ∧ ∀ C : Array Value, OAt base (W.setRow Y.heap.size C) p { o with asn := (av : Int), four := true } ∧ Fr base p Y (W.setRow Y.heap.size C)) := fun W hb h => by
    have hpl := OAt.plain (o' := { o with asn := (av : Int), four := true }) ⟨h1, h2, h3, h4, h5⟩ hb h rfl rfl rfl
    exact tc_end HZ1.out HB1.out (HF3.out.trans hpl.2) hpl.1 HN.out.2.2.1
  have hw3d : Beside p W3 W3.drew := Beside.of_below (Below.refl _ _).drew (Nat.le_refl _)
  clear h1 h2 h3 h4 h5
  go_wp2
  go_region
  all_goals
    have HE : Hid (_ ∧ _) := HKEY.out (((W3.setCell ⟨p, 0, none⟩ (.int .u32 (av : Int))).setCell ⟨p, 4, none⟩ (.bool true)).drew) (((Beside.set W3 _ _).trans (Beside.set _ _ _)).trans (Beside.of_below (Below.refl _ _).drew (Nat.le_refl _))) ((heap_setCell_same _ p _ _ _ _ (heap_setCell_same W3 p _ _ _ _ HP1.out)).trans rfl)
    clear HKEY
    generalize ((W3.setCell ⟨p, 0, none⟩ (.int .u32 (av : Int))).setCell ⟨p, 4, none⟩ (.bool true)).drew = W4 at HE ⊢
    go_wp2_with (refine wpList_store_row rfl 37 _ _ rfl Y.heap.size #[.int .i64 0, .int .u8 0, .int .u8 0] rfl rfl 37 _ HE.out.1 size37 rfl (one37 _ _ _) ?_)
    have hr := row_same _ Y.heap.size _ #[.int .i64 0, .int .u8 0, .int .u8 0] HE.out.1
    have c0 := cl_row (i := 0) hr rfl
    have c1 := cl_row (i := 1) hr rfl
    have c2 := cl_row (i := 2) hr rfl
    refine bodyPost_ret (v := vdt 0 0 0) (by simp [results, Tryz.results54, go_sem, vdt, c0, c1, c2]) rfl ⟨rfl, (HE.out.2 _).1, (HE.out.2 _).2⟩
set_option maxHeartbeats 3200000 in
set_option maxRecDepth 100000 in
theorem taker_zero (base p q : Nat) (o : Opn) (v : List UInt8) (Y : World) (hv : v.length < 256) (ho : OAt base Y p o) (hq : Y.heap[q]? = some (.cells #[.pointer (some ⟨p, 0, none⟩)] 76 (0, 0))) (hg : FamSizes Y) (hb0 : 1 < base) (hbp : base ≤ p) (hp : p < Y.heap.size) (hbY : base ≤ Y.heap.size) (hfit : fitB 65 v.length = true) (hw : worth v = 0) :
    Calls Tryz.prog 54 #[.int .u8 65, .string ⟨v.toArray⟩, .pointer (some ⟨q, 0, none⟩)] Y fun e w' => e = .returned (vdt 3 2 2) ∧ Fr base p Y w' := by
  have hb1 : Below Y.heap.size Y (Y.alloc (.cells #[.int .i64 0, .int .u8 0, .int .u8 0] 37)) := (Below.refl _ _).alloc (Nat.le_refl _) _
  have hz1 : (Y.alloc (.cells #[.int .i64 0, .int .u8 0, .int .u8 0] 37)).heap[Y.heap.size]? = some (.cells #[.int .i64 0, .int .u8 0, .int .u8 0] 37 (0, 0)) := hp_new rfl
  have hs1 : (Y.alloc (.cells #[.int .i64 0, .int .u8 0, .int .u8 0] 37)).heap.size = Y.heap.size + 1 := by simp
  have HO1 : Hid (OAt base (Y.alloc (.cells #[.int .i64 0, .int .u8 0, .int .u8 0] 37)) p o) := ho.below hb1
  have HQ1 : Hid ((Y.alloc (.cells #[.int .i64 0, .int .u8 0, .int .u8 0] 37)).heap[q]? = _) := (hb1.block _ (lt_of_heap hq)).trans hq
  have HG1 : Hid (FamSizes (Y.alloc (.cells #[.int .i64 0, .int .u8 0, .int .u8 0] 37))) := hg.below hb1
  have HB1 : Hid (Below _ _ _) := hb1
  have HZ1 : Hid (_ = _) := hz1
  have HS1 : Hid (_ = _) := hs1
  have HN : Hid (1 < base ∧ base ≤ p ∧ p < Y.heap.size ∧ base ≤ Y.heap.size) := ⟨hb0, hbp, hp, hbY⟩
  have KFIT : Hid (∀ W, Calls Tryz.prog 55 #[.int .u8 65, .int .i64 (v.length : Int)] W fun e w' => e = .returned (.bool true) ∧ w' = W) := fun W => by have := fits_any 65 v.length W (by omega); rw [hfit] at this; exact this
  have hsz : (⟨v.toArray⟩ : ByteArray).size = v.length := rfl
  clear hb1 hz1 hs1 ho hq hg hb0 hbp hp hbY
  have HV4 : Hid (v.length = 4) := by unfold Hid; simpa [fitB] using hfit
  have K4 : Hid (∀ X r, Rd X r v → Calls Tryz.prog 39 #[.pointer (some ⟨r, 0, none⟩), .int .i64 4] X fun e w' => e = .returned (.tuple #[.int .u64 0, .bool true]) ∧ Rd w' r (v.drop 4) ∧ Beside r X w') := fun X r hX => by
    have := numR_yes r v 4 X hX (by omega) (by omega) (by have := HV4.out; omega)
    rw [List.take_of_length_le (by have := HV4.out; omega), hw] at this
    exact this
  go_enter Tryz.func54, Tryz.ntmps54
  go_wp2_with fail
  generalize Y.alloc (.cells #[.int .i64 0, .int .u8 0, .int .u8 0] 37) = W1 at *
  refine Calls.mono (KFIT.out W1) ?_
  rintro e wf ⟨rfl, hwf⟩
  obtain rfl : W1 = wf := hwf.symm
  clear hwf KFIT
  go_wp2_with fail
  refine Calls.mono (newR_any v W1) ?_
  rintro e W2 ⟨rfl, hrd, hW2⟩
  have hb2 : Below W1.heap.size W1 W2 := by rw [hW2]; exact (Below.refl _ _).alloc (Nat.le_refl _) _
  have HO2 : Hid (OAt base W2 p o) := HO1.out.below hb2
  have HQ2 : Hid (W2.heap[q]? = _) := (hb2.block _ (lt_of_heap HQ1.out)).trans HQ1.out
  have HG2 : Hid (FamSizes W2) := HG1.out.below hb2
  have HF2 : Hid (Fr base p W1 W2) := Fr.of_below hb2 (Nat.le_refl _)
  have HRD : Hid (Rd W2 W1.heap.size v) := hrd
  have HZ2 : Hid (W1.heap.size ≤ W2.heap.size) := hb2.size
  clear hrd hW2 hb2 HO1 HQ1 HG1
  go_wp2_with fail
  refine Calls.mono (K4.out W2 _ HRD.out) ?_
  rintro e W3 ⟨rfl, hr3, hb3⟩
  obtain ⟨C, hC⟩ := HRD.out.ty
  have HO3 : Hid (OAt base W3 p o) := HO2.out.beside hb3 hC (by decide)
  have HF3 : Hid (Fr base p W1 W3) := HF2.out.later (hb3.below (Nat.le_refl _) HZ2.out)
  clear hr3 hb3 hC HO2 HF2 HQ2
  go_wp2_with fail
  refine Calls.mono (reset_any 2 W3) ?_
  rintro e W4 ⟨rfl, hb4⟩
  unfold vdt
  have HE : Hid (_ ∧ _) := tc_end HZ1.out HB1.out (HF3.out.later (hb4.mono HF3.out.size)) (HO3.out.below hb4) HN.out.2.2.1
  clear hb4
  go_wp2_with (refine wpList_store_row rfl 37 _ _ rfl Y.heap.size #[.int .i64 3, .int .u8 2, .int .u8 2] rfl rfl 37 _ HE.out.1 size37 rfl (one37 _ _ _) ?_)
  have hr := row_same _ Y.heap.size _ #[.int .i64 3, .int .u8 2, .int .u8 2] HE.out.1
  have c0 := cl_row (i := 0) hr rfl
  have c1 := cl_row (i := 1) hr rfl
  have c2 := cl_row (i := 2) hr rfl
  refine bodyPost_ret (v := vdt 3 2 2) (by simp [results, Tryz.results54, go_sem, vdt, c0, c1, c2]) rfl ⟨rfl, (HE.out.2 _).2⟩
set_option maxHeartbeats 3200000 in
set_option maxRecDepth 100000 in
theorem taker_unfit (base p q : Nat) (o : Opn) (c : Nat) (v : List UInt8) (Y : World) (hc : c < 256) (hv : v.length < 256) (ho : OAt base Y p o) (hq : Y.heap[q]? = some (.cells #[.pointer (some ⟨p, 0, none⟩)] 76 (0, 0))) (hg : FamSizes Y) (hb0 : 1 < base) (hbp : base ≤ p) (hp : p < Y.heap.size) (hbY : base ≤ Y.heap.size) (hfit : fitB c v.length = false) :
    Calls Tryz.prog 54 #[.int .u8 (c : Int), .string ⟨v.toArray⟩, .pointer (some ⟨q, 0, none⟩)] Y fun e w' => e = .returned (vdt 3 2 0) ∧ Fr base p Y w' := by
  have hb1 : Below Y.heap.size Y (Y.alloc (.cells #[.int .i64 0, .int .u8 0, .int .u8 0] 37)) := (Below.refl _ _).alloc (Nat.le_refl _) _
  have hz1 : (Y.alloc (.cells #[.int .i64 0, .int .u8 0, .int .u8 0] 37)).heap[Y.heap.size]? = some (.cells #[.int .i64 0, .int .u8 0, .int .u8 0] 37 (0, 0)) := hp_new rfl
  have hs1 : (Y.alloc (.cells #[.int .i64 0, .int .u8 0, .int .u8 0] 37)).heap.size = Y.heap.size + 1 := by simp
  have HO1 : Hid (OAt base (Y.alloc (.cells #[.int .i64 0, .int .u8 0, .int .u8 0] 37)) p o) := ho.below hb1
  have HQ1 : Hid ((Y.alloc (.cells #[.int .i64 0, .int .u8 0, .int .u8 0] 37)).heap[q]? = _) := (hb1.block _ (lt_of_heap hq)).trans hq
  have HG1 : Hid (FamSizes (Y.alloc (.cells #[.int .i64 0, .int .u8 0, .int .u8 0] 37))) := hg.below hb1
  have HB1 : Hid (Below _ _ _) := hb1
  have HZ1 : Hid (_ = _) := hz1
  have HS1 : Hid (_ = _) := hs1
  have HN : Hid (1 < base ∧ base ≤ p ∧ p < Y.heap.size ∧ base ≤ Y.heap.size) := ⟨hb0, hbp, hp, hbY⟩
  have KFIT : Hid (∀ W, Calls Tryz.prog 55 #[.int .u8 (c : Int), .int .i64 (v.length : Int)] W fun e w' => e = .returned (.bool false) ∧ w' = W) := fun W => by have := fits_any c v.length W (by omega); rw [hfit] at this; exact this
  have hsz : (⟨v.toArray⟩ : ByteArray).size = v.length := rfl
  clear hb1 hz1 hs1 ho hq hg hb0 hbp hp hbY
  go_enter Tryz.func54, Tryz.ntmps54
  go_wp2_with fail
  generalize Y.alloc (.cells #[.int .i64 0, .int .u8 0, .int .u8 0] 37) = W1 at *
  refine Calls.mono (KFIT.out W1) ?_
  rintro e wf ⟨rfl, hwf⟩
  obtain rfl : W1 = wf := hwf.symm
  clear hwf KFIT
  go_wp2_with fail
  refine Calls.mono (reset_any 0 W1) ?_
  rintro e W4 ⟨rfl, hb4⟩
  unfold vdt
  have HE : Hid (_ ∧ _) := tc_end HZ1.out HB1.out (Fr.of_below hb4 (Nat.le_refl _)) (HO1.out.below hb4) HN.out.2.2.1
  clear hb4
  go_wp2_with (refine wpList_store_row rfl 37 _ _ rfl Y.heap.size #[.int .i64 3, .int .u8 2, .int .u8 0] rfl rfl 37 _ HE.out.1 size37 rfl (one37 _ _ _) ?_)
  have hr := row_same _ Y.heap.size _ #[.int .i64 3, .int .u8 2, .int .u8 0] HE.out.1
  have c0 := cl_row (i := 0) hr rfl
  have c1 := cl_row (i := 1) hr rfl
  have c2 := cl_row (i := 2) hr rfl
  refine bodyPost_ret (v := vdt 3 2 0) (by simp [results, Tryz.results54, go_sem, vdt, c0, c1, c2]) rfl ⟨rfl, (HE.out.2 _).2⟩
set_option maxHeartbeats 3200000 in
set_option maxRecDepth 100000 in
theorem taker_other (base p q : Nat) (o : Opn) (c : Nat) (v : List UInt8) (Y : World) (hc : c < 256) (n1 : c ≠ 1) (n2 : c ≠ 2) (n64 : c ≠ 64) (n65 : c ≠ 65) (n69 : c ≠ 69) (hv : v.length < 256) (ho : OAt base Y p o) (hq : Y.heap[q]? = some (.cells #[.pointer (some ⟨p, 0, none⟩)] 76 (0, 0))) (hg : FamSizes Y) (hb0 : 1 < base) (hbp : base ≤ p) (hp : p < Y.heap.size) (hbY : base ≤ Y.heap.size) (hfit : fitB c v.length = true) :
    Calls Tryz.prog 54 #[.int .u8 (c : Int), .string ⟨v.toArray⟩, .pointer (some ⟨q, 0, none⟩)] Y fun e w' => e = .returned (vdt 0 0 0) ∧ OAt base w' p o ∧ Fr base p Y w' := by
  have hb1 : Below Y.heap.size Y (Y.alloc (.cells #[.int .i64 0, .int .u8 0, .int .u8 0] 37)) := (Below.refl _ _).alloc (Nat.le_refl _) _
  have hz1 : (Y.alloc (.cells #[.int .i64 0, .int .u8 0, .int .u8 0] 37)).heap[Y.heap.size]? = some (.cells #[.int .i64 0, .int .u8 0, .int .u8 0] 37 (0, 0)) := hp_new rfl
  have hs1 : (Y.alloc (.cells #[.int .i64 0, .int .u8 0, .int .u8 0] 37)).heap.size = Y.heap.size + 1 := by simp
  have HO1 : Hid (OAt base (Y.alloc (.cells #[.int .i64 0, .int .u8 0, .int .u8 0] 37)) p o) := ho.below hb1
  have HQ1 : Hid ((Y.alloc (.cells #[.int .i64 0, .int .u8 0, .int .u8 0] 37)).heap[q]? = _) := (hb1.block _ (lt_of_heap hq)).trans hq
  have HG1 : Hid (FamSizes (Y.alloc (.cells #[.int .i64 0, .int .u8 0, .int .u8 0] 37))) := hg.below hb1
  have HB1 : Hid (Below _ _ _) := hb1
  have HZ1 : Hid (_ = _) := hz1
  have HS1 : Hid (_ = _) := hs1
  have HN : Hid (1 < base ∧ base ≤ p ∧ p < Y.heap.size ∧ base ≤ Y.heap.size) := ⟨hb0, hbp, hp, hbY⟩
  have KFIT : Hid (∀ W, Calls Tryz.prog 55 #[.int .u8 (c : Int), .int .i64 (v.length : Int)] W fun e w' => e = .returned (.bool true) ∧ w' = W) := fun W => by have := fits_any c v.length W (by omega); rw [hfit] at this; exact this
  have hsz : (⟨v.toArray⟩ : ByteArray).size = v.length := rfl
  clear hb1 hz1 hs1 ho hq hg hb0 hbp hp hbY
  have e1 : ((c : Int) == 1) = false := by simp; omega
  have e2 : ((c : Int) == 2) = false := by simp; omega
  have e64 : ((c : Int) == 64) = false := by simp; omega
  have e65 : ((c : Int) == 65) = false := by simp; omega
  have e69 : ((c : Int) == 69) = false := by simp; omega
  clear n1 n2 n64 n65 n69
  go_enter Tryz.func54, Tryz.ntmps54
  go_wp2_with fail
  generalize Y.alloc (.cells #[.int .i64 0, .int .u8 0, .int .u8 0] 37) = W1 at *
  refine Calls.mono (KFIT.out W1) ?_
  rintro e wf ⟨rfl, hwf⟩
  obtain rfl : W1 = wf := hwf.symm
  clear hwf KFIT
  go_wp2_with fail
  refine Calls.mono (newR_any v W1) ?_
  rintro e W2 ⟨rfl, hrd, hW2⟩
  have hb2 : Below W1.heap.size W1 W2 := by rw [hW2]; exact (Below.refl _ _).alloc (Nat.le_refl _) _
  have HO2 : Hid (OAt base W2 p o) := HO1.out.below hb2
  have HQ2 : Hid (W2.heap[q]? = _) := (hb2.block _ (lt_of_heap HQ1.out)).trans HQ1.out
  have HG2 : Hid (FamSizes W2) := HG1.out.below hb2
  have HF2 : Hid (Fr base p W1 W2) := Fr.of_below hb2 (Nat.le_refl _)
  have HRD : Hid (Rd W2 W1.heap.size v) := hrd
  have HZ2 : Hid (W1.heap.size ≤ W2.heap.size) := hb2.size
  clear hrd hW2 hb2 HO1 HQ1 HG1
  have HE : Hid (_ ∧ _) := tc_end HZ1.out HB1.out HF2.out HO2.out HN.out.2.2.1
  go_wp2_with (refine wpList_store_row rfl 37 _ _ rfl Y.heap.size #[.int .i64 0, .int .u8 0, .int .u8 0] rfl rfl 37 _ HE.out.1 size37 rfl (one37 _ _ _) ?_)
  have hr := row_same _ Y.heap.size _ #[.int .i64 0, .int .u8 0, .int .u8 0] HE.out.1
  have c0 := cl_row (i := 0) hr rfl
  have c1 := cl_row (i := 1) hr rfl
  have c2 := cl_row (i := 2) hr rfl
  refine bodyPost_ret (v := vdt 0 0 0) (by simp [results, Tryz.results54, go_sem, vdt, c0, c1, c2]) rfl ⟨rfl, (HE.out.2 _).1, (HE.out.2 _).2⟩
/-- A capability is taken, or refused. -/
theorem taker1_any (base p q : Nat) (o : Opn) (c : Nat) (v : List UInt8) (Y : World) (hc : c < 256) (hv : v.length < 256) (ho : OAt base Y p o) (hq : Y.heap[q]? = some (.cells #[.pointer (some ⟨p, 0, none⟩)] 76 (0, 0))) (hg : FamSizes Y) (hb0 : 1 < base) (hbp : base ≤ p) (hp : p < Y.heap.size) (hbY : base ≤ Y.heap.size) :
    Calls Tryz.prog 54 #[.int .u8 (c : Int), .string ⟨v.toArray⟩, .pointer (some ⟨q, 0, none⟩)] Y fun e w' => StepOk base p (stepC o c v) e w' ∧ Fr base p Y w' := by
  cases hfit : fitB c v.length with
  | false =>
    have hs : stepC o c v = .error 0 := by unfold stepC; rw [if_pos hfit]
    rw [hs]
    exact taker_unfit base p q o c v Y hc hv ho hq hg hb0 hbp hp hbY hfit
  | true =>
    have hn : ¬ (fitB c v.length = false) := by rw [hfit]; decide
    by_cases h1 : c = 1
    · subst h1
      have hs : stepC o 1 v = .ok { o with fams := famsI o.fams v } := by unfold stepC; rw [if_neg hn, if_pos rfl]
      rw [hs]
      exact (taker_fam base p q o v Y hv ho hq hg hb0 hbp hp hbY hfit).mono fun e w' h => ⟨⟨h.1, h.2.1⟩, h.2.2⟩
    by_cases h2 : c = 2
    · subst h2
      have hs : stepC o 2 v = .ok { o with refr := true } := by unfold stepC; rw [if_neg hn, if_neg h1, if_pos rfl]
      rw [hs]
      exact (taker_refresh base p q o v Y hv ho hq hg hb0 hbp hp hbY hfit).mono fun e w' h => ⟨⟨h.1, h.2.1⟩, h.2.2⟩
    by_cases h64 : c = 64
    · subst h64
      have hs : stepC o 64 v = .ok (entsL stK (v.drop 2) (grO o (worth (v.take 2)))) := by unfold stepC; rw [if_neg hn, if_neg h1, if_neg h2, if_pos rfl]
      rw [hs]
      exact (taker_restart base p q o v Y hv ho hq hg hb0 hbp hp hbY hfit).mono fun e w' h => ⟨⟨h.1, h.2.1⟩, h.2.2⟩
    by_cases h65 : c = 65
    · subst h65
      by_cases hw : worth v = 0
      · have hs : stepC o 65 v = .error 2 := by unfold stepC; rw [if_neg hn, if_neg h1, if_neg h2, if_neg h64, if_pos rfl, if_pos hw]
        rw [hs]
        exact taker_zero base p q o v Y hv ho hq hg hb0 hbp hp hbY hfit hw
      · have hs : stepC o 65 v = .ok { o with asn := (worth v : Int), four := true } := by unfold stepC; rw [if_neg hn, if_neg h1, if_neg h2, if_neg h64, if_pos rfl, if_neg hw]
        rw [hs]
        exact (taker_four base p q o v Y hv ho hq hg hb0 hbp hp hbY hfit hw).mono fun e w' h => ⟨⟨h.1, h.2.1⟩, h.2.2⟩
    by_cases h69 : c = 69
    · subst h69
      have hs : stepC o 69 v = .ok (entsL stA v { o with adds := [] }) := by unfold stepC; rw [if_neg hn, if_neg h1, if_neg h2, if_neg h64, if_neg h65, if_pos rfl]
      rw [hs]
      exact (taker_adds base p q o v Y hv ho hq hg hb0 hbp hp hbY hfit).mono fun e w' h => ⟨⟨h.1, h.2.1⟩, h.2.2⟩
    have hs : stepC o c v = .ok o := by unfold stepC; rw [if_neg hn, if_neg h1, if_neg h2, if_neg h64, if_neg h65, if_neg h69]
    rw [hs]
    exact (taker_other base p q o c v Y hc h1 h2 h64 h65 h69 hv ho hq hg hb0 hbp hp hbY hfit).mono fun e w' h => ⟨⟨h.1, h.2.1⟩, h.2.2⟩
end Go.Proofs.YtfhapjhkjdifjaaGreatDoor
