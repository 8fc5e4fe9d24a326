/-
  Encode.
-/
import Derived.Test.YtlhnfejgkhilkaaGreatDoorP3
import Derived.Test.YtlhnfejgkhilkaaGreatDoorO3
set_option linter.unusedVariables false
set_option linter.unusedSimpArgs false
namespace Go.Proofs.YtlhnfejgkhilkaaGreatDoor
open Go.RowKit
structure OpnWf (o : Opn) : Prop where
  a0 : 0 ≤ o.asn
  a1 : o.asn < 4294967296
  i0 : 0 ≤ o.id
  i1 : o.id < 4294967296
def shN (a : Nat) : Nat := if a ≤ 65535 then a else 23456
/-- The body of an open. -/
def encL (o : Opn) : List UInt8 := laid 4 1 ++ laid (shN o.asn.toNat) 2 ++ laid o.hold.toNat 2 ++ laid o.id.toNat 4 ++ laid ((capsL o).length + 2) 1 ++ pcL 2 (capsL o)
/-- What follows of an open that may be. -/
structure MayF (o : Opn) : Prop where
  a : 0 < o.asn
  s : o.four = true ∨ o.asn ≤ 65535
  h : holdB o.hold = true
  i : 0 < o.id
  n : 0 < o.fams.length
  f : risF 0 o.fams = true
  d : risF 0 (o.adds.map (·.f)) = true
  z : o.adds.any idleB = false
  r : restB o = true
theorem mayF_of {o : Opn} (h : mayB o = true) : MayF o := by
  unfold mayB at h
  simp only [Bool.and_eq_true, Bool.or_eq_true, decide_eq_true_eq, Bool.not_eq_true'] at h
  obtain ⟨⟨⟨⟨⟨⟨⟨⟨h1, h2⟩, h3⟩, h4⟩, h5⟩, h6⟩, h7⟩, h8⟩, h9⟩ := h
  exact ⟨h1, h2, h3, h4, by omega, h6, h7, h8, h9⟩
theorem MayF.mk' {o : Opn} (h : MayF o) : mayB o = true := by
  unfold mayB
  simp only [Bool.and_eq_true, Bool.or_eq_true, decide_eq_true_eq, Bool.not_eq_true']
  exact ⟨⟨⟨⟨⟨⟨⟨⟨h.a, h.s⟩, h.h⟩, h.i⟩, by have := h.n; omega⟩, h.f⟩, h.d⟩, h.z⟩, h.r⟩
theorem MayF.fl {o : Opn} (h : MayF o) : o.fams.length ≤ 5 := by have := risF_length 0 _ h.f (by omega); omega
theorem MayF.al {o : Opn} (h : MayF o) : o.adds.length ≤ 5 := by have := risF_length 0 _ h.d (by omega); simp at this; omega
theorem MayF.kt {o : Opn} (h : MayF o) : o.kept.length ≤ 5 ∧ 0 ≤ o.time ∧ o.time ≤ 4095 := by
  have h := h.r
  unfold restB at h
  split at h
  · simp only [Bool.and_eq_true, decide_eq_true_eq] at h
    have := risF_length 0 _ h.2 (by omega)
    simp at this
    omega
  · simp only [Bool.and_eq_true, beq_iff_eq] at h
    omega
theorem MayF.hd {o : Opn} (h : MayF o) : 0 ≤ o.hold ∧ o.hold ≤ 65535 := by
  have h := h.h
  unfold holdB at h
  simp only [Bool.or_eq_true, Bool.and_eq_true, decide_eq_true_eq, beq_iff_eq] at h
  omega
theorem capsL_length (o : Opn) (l1 : o.fams.length ≤ 5) (l2 : o.adds.length ≤ 5) (l3 : o.kept.length ≤ 5) : (capsL o).length ≤ 84 := by
  unfold capsL
  have := fcL_length o.fams
  have := c2L_length o
  have := c64L_length o l3
  have := c65L_length o
  have := c69L_length o l2
  simp only [List.length_append]
  omega
theorem encode_no (o : Opn) (vf va vk : Value) (w : World) (hg : FamSizes w) (h : ListsAt w o vf va vk) (hm : mayB o = false) :
    Calls Tryz.prog 25 #[opV o vf va vk] w fun e w' => e = .returned (.tuple #[.string ⟨#[]⟩, .int .i64 2]) ∧ Below w.heap.size w w' := by
  have hba : Below w.heap.size w (w.alloc (.cells (opC o vf va vk) 27)) := (Below.refl _ _).alloc (Nat.le_refl _) _
  have HK : Hid (_ : Prop) := mayBe_any o vf va vk _ (hg.below hba) (h.below hba)
  rw [hm] at HK
  have HBA : Hid (Below _ _ _) := hba
  clear hg h hm hba
  obtain ⟨asn, hold, id, fams, four, refr, adds, gr, again, time, kept⟩ := o
  unfold opV opC at HK
  unfold opC at HBA
  unfold opV opC
  dsimp only at HK HBA ⊢
  go_enter Tryz.func25, Tryz.ntmps25
  go_wp2_with fail
  refine Calls.mono HK.out ?_
  rintro e w1 ⟨rfl, hb1⟩
  go_wp2
  go_ret2
  exact ⟨rfl, HBA.out.trans (hb1.mono HBA.out.size)⟩
set_option maxRecDepth 100000 in
set_option maxHeartbeats 3200000 in
theorem encode_yes (o : Opn) (vf va vk : Value) (w : World) (hg : FamSizes w) (h : ListsAt w o vf va vk) (hw : OpnWf o) (hm : mayB o = true) :
    Calls Tryz.prog 25 #[opV o vf va vk] w fun e w' => e = .returned (.tuple #[.string ⟨(encL o).toArray⟩, .int .i64 0]) ∧ Below w.heap.size w w' := by
  have hM := mayF_of hm
  have hkt := hM.kt
  have hhd := hM.hd
  obtain ⟨a, ha⟩ : ∃ a : Nat, o.asn = (a : Int) := ⟨o.asn.toNat, by have := hw.a0; omega⟩
  obtain ⟨i, hi⟩ : ∃ i : Nat, o.id = (i : Int) := ⟨o.id.toNat, by have := hw.i0; omega⟩
  obtain ⟨d, hd⟩ : ∃ d : Nat, o.hold = (d : Int) := ⟨o.hold.toNat, by omega⟩
  obtain ⟨t, ht⟩ : ∃ t : Nat, o.time = (t : Int) := ⟨o.time.toNat, by omega⟩
  have ha2 : a < 4294967296 := by have := hw.a1; omega
  have hi2 : i < 4294967296 := by have := hw.i1; omega
  have hd2 : d < 65536 := by omega
  have hba : Below w.heap.size w (w.alloc (.cells (opC o vf va vk) 27)) := (Below.refl _ _).alloc (Nat.le_refl _) _
  have KM : Hid (_ : Prop) := mayBe_any o vf va vk _ (hg.below hba) (h.below hba)
  rw [hm] at KM
  have HBA : Hid (Below _ _ _) := hba
  have HRW : Hid ((w.alloc (.cells (opC o vf va vk) 27)).heap[w.heap.size]? = some (.cells (opC o vf va vk) 27 (0, 0))) := hp_new rfl
  have hcl := capsL_length o hM.fl hM.al hkt.1
  have KC : Hid (∀ X, Below w.heap.size w X → Calls Tryz.prog 41 #[opV o vf va vk] X fun e w' => e = .returned (.string ⟨(capsL o).toArray⟩) ∧ Below X.heap.size X w') := fun X hX => capsOf_any o vf va vk X (hg.below hX) (h.below hX) a ha ha2 t ht (by omega) hM.fl hM.al hkt.1
  have KPc : Hid (∀ X, Calls Tryz.prog 40 #[.int .u8 2, .string ⟨(capsL o).toArray⟩] X fun e w' => e = .returned (.string ⟨(pcL 2 (capsL o)).toArray⟩) ∧ Below X.heap.size X w') := fun X => piece_any 2 _ X (by omega) (by omega)
  have KS : Hid (∀ X, Calls Tryz.prog 39 #[.int .u32 (a : Int)] X fun e w' => e = .returned (.int .u64 (shN a : Int)) ∧ w' = X) := fun X => shortAS_any a X ha2
  have hsh : shN a < 65536 := by unfold shN; split <;> omega
  have HE : Hid (encL o = laid 4 1 ++ laid (shN a) 2 ++ laid d 2 ++ laid i 4 ++ laid ((capsL o).length + 2) 1 ++ pcL 2 (capsL o)) := by unfold Hid encL; rw [ha, hd, hi]; rfl
  have hpl : (pcL 2 (capsL o)).length = (capsL o).length + 2 := pcL_length _ _
  have U1 : Hid (∀ X, Calls Tryz.prog 38 #[.string ⟨#[]⟩, .int .u64 4, .int .i64 1] X fun e w' => e = .returned (.string ⟨(laid 4 1).toArray⟩) ∧ Below X.heap.size X w') := fun X => put_l [] 4 1 X (by omega) (by omega) (by omega) (by simp)
  have U2 : Hid (∀ X, Calls Tryz.prog 38 #[.string ⟨(laid 4 1).toArray⟩, .int .u64 (shN a : Int), .int .i64 2] X fun e w' => e = .returned (.string ⟨(laid 4 1 ++ laid (shN a) 2).toArray⟩) ∧ Below X.heap.size X w') := fun X => put_l _ (shN a) 2 X (by omega) (by omega) (by omega) (by simp [laid_length])
  have U3 : Hid (∀ X, Calls Tryz.prog 38 #[.string ⟨(laid 4 1 ++ laid (shN a) 2).toArray⟩, .int .u64 (d : Int), .int .i64 2] X fun e w' => e = .returned (.string ⟨(laid 4 1 ++ laid (shN a) 2 ++ laid d 2).toArray⟩) ∧ Below X.heap.size X w') := fun X => put_l _ d 2 X (by omega) (by omega) (by omega) (by simp [laid_length])
  have U4 : Hid (∀ X, Calls Tryz.prog 38 #[.string ⟨(laid 4 1 ++ laid (shN a) 2 ++ laid d 2).toArray⟩, .int .u64 (i : Int), .int .i64 4] X fun e w' => e = .returned (.string ⟨(laid 4 1 ++ laid (shN a) 2 ++ laid d 2 ++ laid i 4).toArray⟩) ∧ Below X.heap.size X w') := fun X => put_l _ i 4 X (by omega) (by omega) (by omega) (by simp [laid_length])
  have U5 : Hid (∀ X, Calls Tryz.prog 38 #[.string ⟨(laid 4 1 ++ laid (shN a) 2 ++ laid d 2 ++ laid i 4).toArray⟩, .int .u64 (((capsL o).length + 2 : Nat) : Int), .int .i64 1] X fun e w' => e = .returned (.string ⟨(laid 4 1 ++ laid (shN a) 2 ++ laid d 2 ++ laid i 4 ++ laid ((capsL o).length + 2) 1).toArray⟩) ∧ Below X.heap.size X w') := fun X => put_l _ _ 1 X (by omega) (by omega) (by omega) (by simp [laid_length])
  have hadd : ∀ X : World, (Op.stringOp .add ⟨(laid 4 1 ++ laid (shN a) 2 ++ laid d 2 ++ laid i 4 ++ laid ((capsL o).length + 2) 1).toArray⟩ ⟨(pcL 2 (capsL o)).toArray⟩).run Tryz.prog X = .ok (.string ⟨(encL o).toArray⟩) X := fun X => by
    rw [HE.out]
    exact add_l _ _ (by simp [laid_length]) (by omega) X
  have hsz : (⟨(pcL 2 (capsL o)).toArray⟩ : ByteArray).size = (capsL o).length + 2 := hpl
  have hcl2 : (capsL o).length + 2 ≤ 86 := by omega
  clear HE hpl hsh hcl hM hkt hhd hg h hw hm hba
  generalize laid 4 1 ++ laid (shN a) 2 ++ laid d 2 ++ laid i 4 ++ laid ((capsL o).length + 2) 1 = A5 at *
  generalize laid 4 1 ++ laid (shN a) 2 ++ laid d 2 ++ laid i 4 = A4 at *
  generalize laid 4 1 ++ laid (shN a) 2 ++ laid d 2 = A3 at *
  generalize laid 4 1 ++ laid (shN a) 2 = A2 at *
  generalize laid 4 1 = A1 at *
  generalize pcL 2 (capsL o) = PC at *
  generalize encL o = RES at *
  generalize (capsL o).length + 2 = n at *
  generalize capsL o = CL at *
  generalize shN a = sa at *
  obtain ⟨asn, hold, id, fams, four, refr, adds, gr, again, time, kept⟩ := o
  unfold opV opC at KM KC
  unfold opC at HBA HRW
  unfold opV opC
  dsimp only at *
  subst ha hi hd ht
  go_enter Tryz.func25, Tryz.ntmps25
  go_wp2_with fail
  refine Calls.mono KM.out ?_
  rintro e w1 ⟨rfl, hb1⟩
  have HB1 : Hid (Below w.heap.size w w1) := HBA.out.trans (hb1.mono HBA.out.size)
  have HR1 : Hid (w1.heap[w.heap.size]? = _) := (hb1.block _ (lt_of_heap HRW.out)).trans HRW.out
  clear hb1 KM HBA HRW
  go_wp2_with fail
  refine Calls.mono (U1.out _) ?_
  rintro e w2 ⟨rfl, hb2⟩
  have HB2 : Hid (Below w.heap.size w w2) := HB1.out.trans (hb2.mono HB1.out.size)
  have HR2 : Hid (w2.heap[w.heap.size]? = _) := (hb2.block _ (lt_of_heap HR1.out)).trans HR1.out
  have c0 := cl_row (i := 0) HR2.out rfl
  clear hb2 U1 HB1 HR1
  go_wp2_with fail
  refine Calls.mono (KS.out _) ?_
  rintro e w3 ⟨rfl, hw3⟩
  subst hw3
  go_wp2_with fail
  refine Calls.mono (U2.out _) ?_
  rintro e w4 ⟨rfl, hb4⟩
  have HB4 : Hid (Below w.heap.size w w4) := HB2.out.trans (hb4.mono HB2.out.size)
  have HR4 : Hid (w4.heap[w.heap.size]? = _) := (hb4.block _ (lt_of_heap HR2.out)).trans HR2.out
  clear hb4 c0 U2 HB2 HR2
  have c1 := cl_row (i := 1) HR4.out rfl
  go_wp2_with fail
  refine Calls.mono (U3.out _) ?_
  rintro e w5 ⟨rfl, hb5⟩
  have HB5 : Hid (Below w.heap.size w w5) := HB4.out.trans (hb5.mono HB4.out.size)
  have HR5 : Hid (w5.heap[w.heap.size]? = _) := (hb5.block _ (lt_of_heap HR4.out)).trans HR4.out
  clear hb5 c1 U3 HB4 HR4
  have c2 := cl_row (i := 2) HR5.out rfl
  go_wp2_with fail
  refine Calls.mono (U4.out _) ?_
  rintro e w6 ⟨rfl, hb6⟩
  have HB6 : Hid (Below w.heap.size w w6) := HB5.out.trans (hb6.mono HB5.out.size)
  have HR6 : Hid (w6.heap[w.heap.size]? = _) := (hb6.block _ (lt_of_heap HR5.out)).trans HR5.out
  clear hb6 c2 U4 HB5 HR5
  have c0 := cl_row (i := 0) HR6.out rfl
  have c1 := cl_row (i := 1) HR6.out rfl
  have c2 := cl_row (i := 2) HR6.out rfl
  have c3 := cl_row (i := 3) HR6.out rfl
  have c4 := cl_row (i := 4) HR6.out rfl
  have c5 := cl_row (i := 5) HR6.out rfl
  have c6 := cl_row (i := 6) HR6.out rfl
  have c7 := cl_row (i := 7) HR6.out rfl
  have c8 := cl_row (i := 8) HR6.out rfl
  have c9 := cl_row (i := 9) HR6.out rfl
  have c10 := cl_row (i := 10) HR6.out rfl
  go_wp2_with fail
  refine Calls.mono (KC.out _ HB6.out) ?_
  rintro e w7 ⟨rfl, hb7⟩
  have HB7 : Hid (Below w.heap.size w w7) := HB6.out.trans (hb7.mono HB6.out.size)
  clear hb7 c0 c1 c2 c3 c4 c5 c6 c7 c8 c9 c10 KC HB6 HR6
  go_wp2_with fail
  refine Calls.mono (KPc.out _) ?_
  rintro e w8 ⟨rfl, hb8⟩
  have HB8 : Hid (Below w.heap.size w w8) := HB7.out.trans (hb8.mono HB7.out.size)
  clear hb8 HB7
  go_wp2_with fail
  refine Calls.mono (U5.out _) ?_
  rintro e w9 ⟨rfl, hb9⟩
  have HB9 : Hid (Below w.heap.size w w9) := HB8.out.trans (hb9.mono HB8.out.size)
  clear hb9 HB8
  go_wp2
  go_ret2
  exact ⟨rfl, HB9.out⟩
end Go.Proofs.YtlhnfejgkhilkaaGreatDoor
