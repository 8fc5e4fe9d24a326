/-
  Capabilities of parameters: eachCap, its closure, what takes capabilities; how many bytes may follow a code.
-/
import Derived.Test.YtfhapjhkjdifjaaGreatDoorR2
set_option linter.unusedVariables false
set_option linter.unusedSimpArgs false
namespace Go.Proofs.YtfhapjhkjdifjaaGreatDoor
open Go.RowKit
/-- A parameter: of kind 2 it has capabilities. -/
def stepO (step : Opn → Nat → List UInt8 → Except Nat Opn) (o : Opn) (k : Nat) (v : List UInt8) : Except Nat Opn := if k = 2 then runL step v o else .error 4
set_option maxRecDepth 100000 in
set_option maxHeartbeats 1600000 in
theorem eachCapC_any (base p b1 g : Nat) (cv : Value) (step : Opn → Nat → List UInt8 → Except Nat Opn) (o : Opn) (k : Nat) (v : List UInt8) (w X : World) (hk : k < 256) (hX : Fr base p w X) (ho : OAt base X p o) (hp : p < X.heap.size) (hbp : base ≤ X.heap.size)
    (eg : ∀ args W, (callFunc g args).run Tryz.prog W = .ok (.enter g args) W)
    (hbox : X.heap[b1]? = some (.cells #[.func (.func g) #[] #[cv]] 74 (0, 0)))
    (hf : ∀ Y o (c : Nat) v, c < 256 → v.length < 256 → OAt base Y p o → Fr base p w Y → Calls Tryz.prog g #[.int .u8 (c : Int), .string ⟨v.toArray⟩, cv] Y fun e w' => StepOk base p (step o c v) e w' ∧ Fr base p Y w') :
    Calls Tryz.prog 53 #[.int .u8 (k : Int), .string ⟨v.toArray⟩, .pointer (some ⟨b1, 0, none⟩)] X fun e w' => StepOk base p (stepO step o k v) e w' ∧ Fr base p X w' := by
  have hba : Below X.heap.size X (X.alloc (.cells #[.int .i64 0, .int .u8 0, .int .u8 0] 37)) := (Below.refl _ _).alloc (Nat.le_refl _) _
  have hza : (X.alloc (.cells #[.int .i64 0, .int .u8 0, .int .u8 0] 37)).heap[X.heap.size]? = some (.cells #[.int .i64 0, .int .u8 0, .int .u8 0] 37 (0, 0)) := hp_new rfl
  have HZ : Hid (_ = _) := hza
  have HBA : Hid (Below _ _ _) := hba
  have HO : Hid (OAt base (X.alloc (.cells #[.int .i64 0, .int .u8 0, .int .u8 0] 37)) p o) := ho.below hba
  have cb := cl_row (i := 0) ((hba.block _ (lt_of_heap hbox)).trans hbox) rfl
  have HPX : Hid (p < X.heap.size ∧ base ≤ X.heap.size) := ⟨hp, hbp⟩
  have HFX : Hid (_ : Prop) := hf
  have HX : Hid (Fr base p w X) := hX
  clear hba hza ho hbox hf hX hp hbp
  by_cases h2 : k = 2
  · subst h2
    have HST : Hid (stepO step o 2 v = runL step v o) := if_pos rfl
    have K : Hid (_ : Prop) := eachPiece_any base p g cv step v o (X.alloc (.cells #[.int .i64 0, .int .u8 0, .int .u8 0] 37)) (by have := HPX.out.2; simp; omega) (by have := HPX.out.1; simp; omega) eg HO.out (fun Y o' c v' hc hv h1 hF => HFX.out Y o' c v' hc hv h1 (((HX.out.later (HBA.out.mono HX.out.size))).trans hF))
    go_enter Tryz.func53, Tryz.ntmps53
    go_wp2_with fail
    generalize X.alloc (.cells #[.int .i64 0, .int .u8 0, .int .u8 0] 37) = W1 at *
    refine Calls.mono K.out ?_
    rintro e W2 ⟨hok, hfr⟩
    have HZ2 : Hid (W2.heap[X.heap.size]? = _) := hfr.keep HZ.out (by have := HPX.out.1; omega) (by decide)
    have HF2 : Hid (Fr base p X W2) := (Fr.of_below HBA.out (Nat.le_refl _)).trans hfr
    clear hfr K HZ HBA HO cb
    cases hr : runL step v o with
    | error n =>
      rw [hr] at hok HST
      obtain rfl : e = .returned (vdt 3 2 (n : Int)) := hok
      unfold vdt
      clear hr
      go_wp2_with (refine wpList_store_row rfl 37 _ _ rfl X.heap.size #[.int .i64 3, .int .u8 2, .int .u8 (n : Int)] rfl rfl 37 _ HZ2.out size37 rfl (one37 _ _ _) ?_)
      have hr := row_same W2 X.heap.size _ #[.int .i64 3, .int .u8 2, .int .u8 (n : Int)] HZ2.out
      have c0 := cl_row (i := 0) hr rfl
      have c1 := cl_row (i := 1) hr rfl
      have c2 := cl_row (i := 2) hr rfl
      have hbz : Beside X.heap.size W2 (W2.setRow X.heap.size #[.int .i64 3, .int .u8 2, .int .u8 (n : Int)]) := Beside.setRow HZ2.out
      refine bodyPost_ret (v := vdt 3 2 (n : Int)) (by simp [results, Tryz.results53, go_sem, vdt, c0, c1, c2]) rfl ⟨by rw [HST.out]; rfl, HF2.out.later (hbz.below (Nat.le_refl _) HF2.out.size)⟩
    | ok o' =>
      rw [hr] at hok HST
      obtain ⟨rfl, ho2⟩ : e = .returned (vdt 0 0 0) ∧ OAt base W2 p o' := hok
      have HO2 : Hid (OAt base W2 p o') := ho2
      unfold vdt
      clear hr ho2
      go_wp2_with (refine wpList_store_row rfl 37 _ _ rfl X.heap.size #[.int .i64 0, .int .u8 0, .int .u8 0] rfl rfl 37 _ HZ2.out size37 rfl (one37 _ _ _) ?_)
      have hr := row_same W2 X.heap.size _ #[.int .i64 0, .int .u8 0, .int .u8 0] HZ2.out
      have c0 := cl_row (i := 0) hr rfl
      have c1 := cl_row (i := 1) hr rfl
      have c2 := cl_row (i := 2) hr rfl
      have hbz : Beside X.heap.size W2 (W2.setRow X.heap.size #[.int .i64 0, .int .u8 0, .int .u8 0]) := Beside.setRow HZ2.out
      refine bodyPost_ret (v := vdt 0 0 0) (by simp [results, Tryz.results53, go_sem, vdt, c0, c1, c2]) rfl ⟨by rw [HST.out]; exact ⟨rfl, HO2.out.beside hbz HZ2.out (by decide)⟩, HF2.out.later (hbz.below (Nat.le_refl _) HF2.out.size)⟩
  · have HST : Hid (stepO step o k v = .error 4) := if_neg h2
    have h2' : ((k : Int) == 2) = false := by simp; omega
    have h2n : ((k : Int) != 2) = true := by simp; omega
    clear h2
    go_enter Tryz.func53, Tryz.ntmps53
    go_wp2_with fail
    generalize X.alloc (.cells #[.int .i64 0, .int .u8 0, .int .u8 0] 37) = W1 at *
    refine Calls.mono (reset_any 4 W1) ?_
    rintro e W2 ⟨rfl, hb2⟩
    unfold vdt
    have HZ2 : Hid (W2.heap[X.heap.size]? = _) := (hb2.block _ (lt_of_heap HZ.out)).trans HZ.out
    have HF2 : Hid (Fr base p X W2) := (Fr.of_below HBA.out (Nat.le_refl _)).later (hb2.mono HBA.out.size)
    clear hb2 HZ HBA HO cb
    go_wp2_with (refine wpList_store_row rfl 37 _ _ rfl X.heap.size #[.int .i64 3, .int .u8 2, .int .u8 4] rfl rfl 37 _ HZ2.out size37 rfl (one37 _ _ _) ?_)
    have hr := row_same W2 X.heap.size _ #[.int .i64 3, .int .u8 2, .int .u8 4] HZ2.out
    have c0 := cl_row (i := 0) hr rfl
    have c1 := cl_row (i := 1) hr rfl
    have c2 := cl_row (i := 2) hr rfl
    have hbz : Beside X.heap.size W2 (W2.setRow X.heap.size #[.int .i64 3, .int .u8 2, .int .u8 4]) := Beside.setRow HZ2.out
    refine bodyPost_ret (v := vdt 3 2 4) (by simp [results, Tryz.results53, go_sem, vdt, c0, c1, c2]) rfl ⟨by rw [HST.out]; rfl, HF2.out.later (hbz.below (Nat.le_refl _) HF2.out.size)⟩
theorem enter62 (args : Array Value) (W : World) : (callFunc 53 args).run Tryz.prog W = .ok (.enter 53 args) W := by kernel_rfl
theorem enter63 (args : Array Value) (W : World) : (callFunc 54 args).run Tryz.prog W = .ok (.enter 54 args) W := by kernel_rfl
set_option maxRecDepth 100000 in
set_option maxHeartbeats 1600000 in
theorem eachCap_any (base p g : Nat) (cv : Value) (step : Opn → Nat → List UInt8 → Except Nat Opn) (l : List UInt8) (o : Opn) (w : World) (ho : OAt base w p o) (hp : p < w.heap.size) (hbp : base ≤ w.heap.size)
    (eg : ∀ args W, (callFunc g args).run Tryz.prog W = .ok (.enter g args) W)
    (hf : ∀ Y o (c : Nat) v, c < 256 → v.length < 256 → OAt base Y p o → Fr base p w Y → Calls Tryz.prog g #[.int .u8 (c : Int), .string ⟨v.toArray⟩, cv] Y fun e w' => StepOk base p (step o c v) e w' ∧ Fr base p Y w') :
    Calls Tryz.prog 31 #[.string ⟨l.toArray⟩, .func (.func g) #[] #[cv]] w fun e w' => StepOk base p (runL (stepO step) l o) e w' ∧ Fr base p w w' := by
  have hb1 : Below w.heap.size w (w.alloc (.cells #[.func (.func g) #[] #[cv]] 74)) := (Below.refl _ _).alloc (Nat.le_refl _) _
  have hb2 : Below w.heap.size w ((w.alloc (.cells #[.func (.func g) #[] #[cv]] 74)).alloc (.cells #[.int .i64 0, .int .u8 0, .int .u8 0] 37)) := hb1.alloc (by simp) _
  have hx : ((w.alloc (.cells #[.func (.func g) #[] #[cv]] 74)).alloc (.cells #[.int .i64 0, .int .u8 0, .int .u8 0] 37)).heap[w.heap.size]? = some (.cells #[.func (.func g) #[] #[cv]] 74 (0, 0)) := hp_up (hp_new rfl)
  have hz : ((w.alloc (.cells #[.func (.func g) #[] #[cv]] 74)).alloc (.cells #[.int .i64 0, .int .u8 0, .int .u8 0] 37)).heap[w.heap.size + 1]? = some (.cells #[.int .i64 0, .int .u8 0, .int .u8 0] 37 (0, 0)) := hp_new (by simp)
  have hsz : ((w.alloc (.cells #[.func (.func g) #[] #[cv]] 74)).alloc (.cells #[.int .i64 0, .int .u8 0, .int .u8 0] 37)).heap.size = w.heap.size + 2 := by simp
  have K : Hid (_ : Prop) := eachPiece_any base p 53 (.pointer (some ⟨w.heap.size, 0, none⟩)) (stepO step) l o ((w.alloc (.cells #[.func (.func g) #[] #[cv]] 74)).alloc (.cells #[.int .i64 0, .int .u8 0, .int .u8 0] 37)) (by omega) (by omega) enter62 (ho.below hb2)
    (fun X o' c v hc hv h1 hF => eachCapC_any base p w.heap.size g cv step o' c v w X hc ((Fr.of_below hb2 (Nat.le_refl _)).trans hF) h1 (by have := hF.size; omega) (by have := hF.size; omega) eg (hF.keep hx (by omega) (by decide)) hf)
  have HZ : Hid (_ = _) := hz
  have HB2 : Hid (Below _ _ _) := hb2
  have HPX : Hid (p < w.heap.size) := hp
  clear hb1 hb2 hx hz hsz hf ho hp
  go_enter Tryz.func31, Tryz.ntmps31
  go_wp2_with fail
  generalize (w.alloc (.cells #[.func (.func g) #[] #[cv]] 74)).alloc (.cells #[.int .i64 0, .int .u8 0, .int .u8 0] 37) = W1 at *
  refine Calls.mono K.out ?_
  rintro e W2 ⟨hok, hfr⟩
  have HZ2 : Hid (W2.heap[w.heap.size + 1]? = _) := hfr.keep HZ.out (by have := HPX.out; omega) (by decide)
  have HF2 : Hid (Fr base p w W2) := (Fr.of_below HB2.out (Nat.le_refl _)).trans hfr
  clear hfr K HZ HB2
  cases hr : runL (stepO step) l o with
  | error n =>
    have HST : Hid (_ = _) := hr
    rw [hr] at hok
    obtain rfl : e = .returned (vdt 3 2 (n : Int)) := hok
    unfold vdt
    clear hr
    go_wp2_with (refine wpList_store_row rfl 37 _ _ rfl (w.heap.size + 1) #[.int .i64 3, .int .u8 2, .int .u8 (n : Int)] rfl rfl 37 _ HZ2.out size37 rfl (one37 _ _ _) ?_)
    have hr := row_same W2 (w.heap.size + 1) _ #[.int .i64 3, .int .u8 2, .int .u8 (n : Int)] HZ2.out
    have c0 := cl_row (i := 0) hr rfl
    have c1 := cl_row (i := 1) hr rfl
    have c2 := cl_row (i := 2) hr rfl
    have hbz : Beside (w.heap.size + 1) W2 (W2.setRow (w.heap.size + 1) #[.int .i64 3, .int .u8 2, .int .u8 (n : Int)]) := Beside.setRow HZ2.out
    refine bodyPost_ret (v := vdt 3 2 (n : Int)) (by simp [results, Tryz.results31, go_sem, vdt, c0, c1, c2]) rfl ⟨by first | rfl | (rw [HST.out]; rfl), HF2.out.later (hbz.below (by omega) HF2.out.size)⟩
  | ok o' =>
    have HST : Hid (_ = _) := hr
    rw [hr] at hok
    obtain ⟨rfl, ho2⟩ : e = .returned (vdt 0 0 0) ∧ OAt base W2 p o' := hok
    have HO2 : Hid (OAt base W2 p o') := ho2
    unfold vdt
    clear hr ho2
    go_wp2_with (refine wpList_store_row rfl 37 _ _ rfl (w.heap.size + 1) #[.int .i64 0, .int .u8 0, .int .u8 0] rfl rfl 37 _ HZ2.out size37 rfl (one37 _ _ _) ?_)
    have hr := row_same W2 (w.heap.size + 1) _ #[.int .i64 0, .int .u8 0, .int .u8 0] HZ2.out
    have c0 := cl_row (i := 0) hr rfl
    have c1 := cl_row (i := 1) hr rfl
    have c2 := cl_row (i := 2) hr rfl
    have hbz : Beside (w.heap.size + 1) W2 (W2.setRow (w.heap.size + 1) #[.int .i64 0, .int .u8 0, .int .u8 0]) := Beside.setRow HZ2.out
    refine bodyPost_ret (v := vdt 0 0 0) (by simp [results, Tryz.results31, go_sem, vdt, c0, c1, c2]) rfl ⟨by first | exact ⟨rfl, HO2.out.beside hbz HZ2.out (by decide)⟩ | (rw [HST.out]; exact ⟨rfl, HO2.out.beside hbz HZ2.out (by decide)⟩), HF2.out.later (hbz.below (by omega) HF2.out.size)⟩
end Go.Proofs.YtfhapjhkjdifjaaGreatDoor
