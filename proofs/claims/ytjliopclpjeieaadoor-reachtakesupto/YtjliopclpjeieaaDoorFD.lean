/-
  Values laid: pair, putList, Put, PutGone.
-/
import Derived.Test.YtjliopclpjeieaaDoorFB
import Derived.Test.YtjliopclpjeieaaDoorE3
namespace Go.Proofs.YtjliopclpjeieaaDoor
open Go.RowKit
theorem app_l (X Y : List UInt8) : (⟨X.toArray⟩ : ByteArray) ++ ⟨Y.toArray⟩ = ⟨(X ++ Y).toArray⟩ := by apply ByteArray.ext; simp
theorem bytes_l (s : ByteArray) : s = ⟨s.data.toList.toArray⟩ := by apply ByteArray.ext; simp
theorem add_lb (X Y : List UInt8) (h : X.length + Y.length ≤ 100000000) (W : World) : (Op.stringOp .add ⟨X.toArray⟩ ⟨Y.toArray⟩).run Tryd.prog W = .ok (.string ⟨(X ++ Y).toArray⟩) W := by
  have := run_string_add_if (P := Tryd.prog) W ⟨X.toArray⟩ ⟨Y.toArray⟩
  rw [if_neg (by rw [list_size, list_size]; omega), app_l] at this
  exact this
/-- The bytes of a pair. -/
def pairL (f : Int) : List UInt8 := laid (afN f) 2 ++ laid (sfN f) 1
set_option maxHeartbeats 1600000 in
theorem pair_any (a s : Nat) (h : Int) (b : ByteArray) (t : Bool) (ha : a < 65536) (hs : s < 256) (w : World) :
    Calls Tryd.prog 32 #[.agg #[.int .u16 a, .int .u8 s, .int .i64 h, .string b, .bool t]] w fun e w' => e = .returned (.string ⟨(laid a 2 ++ laid s 1).toArray⟩) ∧ Below w.heap.size w w' := by
  have HA : Hid (a < 256 ^ 2) := ha
  have HS : Hid (s < 256 ^ 1) := hs
  have hsa : (w.alloc (.cells #[.int .u16 a, .int .u8 s, .int .i64 h, .string b, .bool t] 55)).heap.size = w.heap.size + 1 := by simp
  have HSA : Hid (_ = _) := hsa
  clear hsa
  go_enter Tryd.func32, Tryd.ntmps32
  go_wp2_with fail
  refine (put_yes ⟨#[]⟩ a 2 _ (by omega) (by omega) HA.out (by decide)).mono ?_
  rintro e w1 ⟨rfl, hb1⟩
  have c1 : w1.cell? ⟨w.heap.size, 1, none⟩ = some (.int .u8 s) := (hb1.cell (p := ⟨w.heap.size, 1, none⟩) (by simp)).trans (by simp)
  have HB1 : Hid (Below w.heap.size w w1) := ((Below.refl _ _).alloc (Nat.le_refl _) _).trans (hb1.mono (by rw [HSA.out]; omega))
  rw [empty_append]
  have HL : Hid ((laid a 2).length = 2) := laid_length a 2
  clear hb1
  go_wp2_with fail
  refine (put_yes ⟨(laid a 2).toArray⟩ s 1 _ (by omega) (by omega) HS.out (by rw [list_size, HL.out]; decide)).mono ?_
  rintro e w2 ⟨rfl, hb2⟩
  rw [app_l]
  go_wp2
  go_ret
  exact ⟨rfl, HB1.out.trans (hb2.mono HB1.out.size)⟩
/-- What a list laid behind a head is answered as: the error, the bytes. -/
def putE (hd : List UInt8) (fam : Int) (add : Bool) (R : List Nl) : Int := if R.all (okE fam add) then (if 4077 < hd.length + (encL add R).length then 3 else 0) else 2
def putS (hd : List UInt8) (fam : Int) (add : Bool) (R : List Nl) : List UInt8 := if putE hd fam add R = 0 then hd ++ encL add R else []
def putAns (hd : List UInt8) (fam : Int) (add : Bool) (R : List Nl) : Ending := .returned (.tuple #[.string ⟨(putS hd fam add R).toArray⟩, .int .i64 (putE hd fam add R)])
set_option maxHeartbeats 1600000 in
theorem putList_any (hd : List UInt8) (hh : hd.length ≤ 1000) (fam : Int) (add : Bool) (v : Value) (R : List Nl) (w : World) (hg : FamSizes w) (hr : FamRds w) (hz : szOf fam ≠ 0) (hv : NlsAt w v R) (hwf : ∀ n ∈ R, NlWf n) (hlen : R.length ≤ 30000) :
    Calls Tryd.prog 33 #[.string ⟨hd.toArray⟩, .int .i64 fam, v, .bool add] w fun e w' => e = putAns hd fam add R ∧ Below w.heap.size w w' := by
  have HK : Hid (_ : Prop) := encode_any fam add v R w hg hr hz hv hwf hlen
  have HE : Hid (R.all (okE fam add) = true → (encL add R).length ≤ 960000) := fun h => by
    have := encL_len add R fun n hn => ((okE_iff fam add n).1 (List.all_eq_true.mp h n hn)).1
    omega
  clear hg hr hz hv hwf hlen
  unfold encAns at HK
  cases ho : R.all (okE fam add) with
  | false =>
    rw [ho] at HK
    have hpe : putE hd fam add R = 2 := by unfold putE; rw [ho]; rfl
    have HP : Hid (putAns hd fam add R = .returned (.tuple #[.string ⟨#[]⟩, .int .i64 2])) := by unfold Hid putAns putS; rw [hpe]; rfl
    simp only [Bool.false_eq_true, if_false] at HK
    clear HE ho hpe
    rw [HP.out]
    go_enter Tryd.func33, Tryd.ntmps33
    go_wp2_with fail
    refine Calls.mono HK.out ?_
    rintro e w1 ⟨rfl, hb1⟩
    go_wp2
    go_ret2
    exact ⟨rfl, hb1⟩
  | true =>
    rw [ho] at HK
    have hel := HE.out ho
    simp only [if_true] at HK
    clear HE
    by_cases hlt : 4077 < hd.length + (encL add R).length
    · have hpe : putE hd fam add R = 3 := by unfold putE; rw [ho, if_pos rfl, if_pos hlt]
      have HP : Hid (putAns hd fam add R = .returned (.tuple #[.string ⟨#[]⟩, .int .i64 3])) := by unfold Hid putAns putS; rw [hpe]; rfl
      rw [HP.out]
      clear ho hpe HP
      generalize encL add R = E at *
      go_enter Tryd.func33, Tryd.ntmps33
      go_wp2_with fail
      refine Calls.mono HK.out ?_
      rintro e w1 ⟨rfl, hb1⟩
      go_wp2
      go_ret2
      exact ⟨rfl, hb1⟩
    · have hpe : putE hd fam add R = 0 := by unfold putE; rw [ho, if_pos rfl, if_neg hlt]
      have HP : Hid (putAns hd fam add R = .returned (.tuple #[.string ⟨(hd ++ encL add R).toArray⟩, .int .i64 0])) := by unfold Hid putAns putS; rw [hpe]; rfl
      rw [HP.out]
      clear ho hpe HP
      generalize encL add R = E at *
      have ha := add_lb hd E (by omega)
      go_enter Tryd.func33, Tryd.ntmps33
      go_wp2_with fail
      refine Calls.mono HK.out ?_
      rintro e w1 ⟨rfl, hb1⟩
      go_wp2
      go_ret2
      exact ⟨rfl, hb1⟩
/-- What stands ahead of a list that is told. -/
def headL (f : Int) (nx : List UInt8) : List UInt8 := pairL f ++ laid (ahL f ++ nx).length 1 ++ (ahL f ++ nx) ++ [0]
theorem af_lt (f : Int) : afN f < 65536 := by
  unfold afN
  split
  · split <;> omega
  · omega
theorem sf_lt (f : Int) : sfN f < 256 := by
  unfold sfN
  split
  · split
    · omega
    · split <;> omega
  · omega
theorem ah_le (f : Int) : (ahL f).length ≤ 8 := by unfold ahL; split <;> simp
theorem sz_fam {f : Int} (h : isF f = true) : szOf f ≠ 0 ∧ szOf f ≤ 16 := by
  rcases isF_cases h with rfl | rfl | rfl | rfl | rfl <;> decide
theorem pairL_len (f : Int) : (pairL f).length = 3 := by simp [pairL, laid_length]
set_option maxHeartbeats 1600000 in
theorem putGone_no (f : Int) (v : Value) (add : Bool) (w : World) (h : isF f = false) :
    Calls Tryd.prog 17 #[.int .i64 f, v, .bool add] w fun e w' => e = .returned (.tuple #[.string ⟨#[]⟩, .int .i64 2]) ∧ Below w.heap.size w w' := by
  have HK : Hid (_ : Prop) := familyOf_no f h w
  clear h
  go_enter Tryd.func17, Tryd.ntmps17
  go_wp2_with fail
  refine Calls.mono HK.out ?_
  rintro e w1 ⟨rfl, hb1⟩
  go_wp2
  go_ret2
  exact ⟨rfl, hb1.alloc hb1.size _⟩
set_option maxHeartbeats 1600000 in
theorem putGone_yes (f : Int) (v : Value) (add : Bool) (R : List Nl) (w : World) (h : isF f = true) (hg : FamSizes w) (hr : FamRds w) (hv : NlsAt w v R) (hwf : ∀ n ∈ R, NlWf n) (hlen : R.length ≤ 30000) :
    Calls Tryd.prog 17 #[.int .i64 f, v, .bool add] w fun e w' => e = putAns (pairL f) f add R ∧ Below w.heap.size w w' := by
  have HK : Hid (_ : Prop) := familyOf_yes f h w hg
  have HL : Hid (∀ W, Below w.heap.size w W → Calls Tryd.prog 33 #[.string ⟨(pairL f).toArray⟩, .int .i64 f, v, .bool add] W fun e w' => e = putAns (pairL f) f add R ∧ Below W.heap.size W w') := fun W hW => putList_any (pairL f) (by rw [pairL_len]; omega) f add v R W (hg.below hW) (hr.below hW) (sz_fam h).1 (hv.below hW) hwf hlen
  clear h hg hr hv hwf hlen
  go_enter Tryd.func17, Tryd.ntmps17
  go_wp2_with fail
  refine Calls.mono HK.out ?_
  rintro e w1 ⟨rfl, hb1⟩
  unfold fam5
  have HB1 : Hid (Below w.heap.size w (w1.alloc (.cells #[.int .u16 (afN f), .int .u8 (sfN f), .int .i64 (szOf f), .string (ahB f), .bool (twB f)] 55))) := hb1.alloc hb1.size _
  clear hb1
  go_wp2_with fail
  refine (pair_any (afN f) (sfN f) (szOf f) (ahB f) (twB f) (af_lt f) (sf_lt f) _).mono ?_
  rintro e w2 ⟨rfl, hb2⟩
  have HB2 : Hid (Below w.heap.size w w2) := HB1.out.trans (hb2.mono HB1.out.size)
  clear hb2 HB1
  go_wp2_with fail
  refine Calls.mono (HL.out _ HB2.out) ?_
  rintro e w3 ⟨rfl, hb3⟩
  have HB3 : Hid (Below w.heap.size w w3) := HB2.out.trans (hb3.mono HB2.out.size)
  clear hb3 HL
  unfold putAns
  go_wp2
  go_ret2
  exact ⟨rfl, HB3.out⟩
def okH (f : Int) (nx : List UInt8) : Bool := isF f && decide ((nx.length : Int) = szOf f)
set_option maxHeartbeats 1600000 in
theorem put_no (f : Int) (nx : List UInt8) (v : Value) (add : Bool) (w : World) (hg : FamSizes w) (h : okH f nx = false) :
    Calls Tryd.prog 15 #[.int .i64 f, .string ⟨nx.toArray⟩, v, .bool add] w fun e w' => e = .returned (.tuple #[.string ⟨#[]⟩, .int .i64 2]) ∧ Below w.heap.size w w' := by
  cases hf : isF f with
  | false =>
    have HK : Hid (_ : Prop) := familyOf_no f hf w
    clear h hg hf
    go_enter Tryd.func15, Tryd.ntmps15
    go_wp2_with fail
    refine Calls.mono HK.out ?_
    rintro e w1 ⟨rfl, hb1⟩
    go_wp2
    go_ret2
    exact ⟨rfl, hb1.alloc hb1.size _⟩
  | true =>
    have HK : Hid (_ : Prop) := familyOf_yes f hf w hg
    have hn : ¬ (nx.length : Int) = szOf f := by
      unfold okH at h
      rw [hf] at h
      simpa using h
    have hn1 : ((nx.length : Int) == szOf f) = false := by simpa using hn
    have hn2 : ((nx.length : Int) != szOf f) = true := by simpa using hn
    clear h hg hf hn
    unfold fam5 at HK
    generalize szOf f = z at *
    go_enter Tryd.func15, Tryd.ntmps15
    go_wp2_with fail
    refine Calls.mono HK.out ?_
    rintro e w1 ⟨rfl, hb1⟩
    go_wp2
    go_ret2
    exact ⟨rfl, hb1.alloc hb1.size _⟩
set_option maxHeartbeats 1600000 in
theorem put_any' (f : Int) (nx : List UInt8) (v : Value) (add : Bool) (R : List Nl) (w : World) (h : okH f nx = true) (hg : FamSizes w) (hr : FamRds w) (hv : NlsAt w v R) (hwf : ∀ n ∈ R, NlWf n) (hlen : R.length ≤ 30000) :
    Calls Tryd.prog 15 #[.int .i64 f, .string ⟨nx.toArray⟩, v, .bool add] w fun e w' => e = putAns (headL f nx) f add R ∧ Below w.heap.size w w' := by
  obtain ⟨hf, hn⟩ : isF f = true ∧ (nx.length : Int) = szOf f := by unfold okH at h; simpa using h
  have hz16 := (sz_fam hf).2
  have ha8 := ah_le f
  have hnl : nx.length ≤ 16 := by omega
  have HK : Hid (_ : Prop) := familyOf_yes f hf w hg
  have HHL : Hid ((headL f nx).length ≤ 1000) := by unfold Hid headL; simp [laid_length, pairL_len]; omega
  have HL : Hid (∀ W, Below w.heap.size w W → Calls Tryd.prog 33 #[.string ⟨(headL f nx).toArray⟩, .int .i64 f, v, .bool add] W fun e w' => e = putAns (headL f nx) f add R ∧ Below W.heap.size W w') := fun W hW => putList_any (headL f nx) HHL.out f add v R W (hg.below hW) (hr.below hW) (sz_fam hf).1 (hv.below hW) hwf hlen
  obtain ⟨H, hH⟩ : ∃ H, H = ahL f ++ nx := ⟨_, rfl⟩
  have hHl : H.length ≤ 24 := by rw [hH]; simp; omega
  have a1 := add_lb (ahL f) nx (by omega)
  rw [← hH] at a1
  have hd1 : headL f nx = (pairL f ++ laid H.length 1) ++ H ++ [0] := by unfold headL; rw [hH]
  have a2 := add_lb (pairL f ++ laid H.length 1) H (by simp [laid_length, pairL_len]; omega)
  have a3 := add_lb ((pairL f ++ laid H.length 1) ++ H) [0] (by simp [laid_length, pairL_len]; omega)
  rw [← hd1] at a3
  obtain ⟨P2, hP2⟩ : ∃ P2, P2 = (pairL f ++ laid H.length 1) ++ H := ⟨_, rfl⟩
  rw [← hP2] at a2 a3
  clear hP2
  have HA : Hid (_ ∧ _ ∧ _) := ⟨a1, a2, a3⟩
  have HHS : Hid (H.length ≤ 24) := hHl
  unfold fam5 ahB at HK
  rw [← hn] at HK
  clear h hg hr hv hwf hlen hn hz16 ha8 hf hd1 a1 a2 a3 hHl hH
  go_enter Tryd.func15, Tryd.ntmps15
  go_wp2_with fail
  refine Calls.mono HK.out ?_
  rintro e w1 ⟨rfl, hb1⟩
  have HB1 : Hid (Below w.heap.size w (w1.alloc (.cells #[.int .u16 (afN f), .int .u8 (sfN f), .int .i64 nx.length, .string ⟨(ahL f).toArray⟩, .bool (twB f)] 55))) := hb1.alloc hb1.size _
  have a1 := HA.out.1
  clear hb1
  go_wp2_with fail
  refine (pair_any (afN f) (sfN f) nx.length ⟨(ahL f).toArray⟩ (twB f) (af_lt f) (sf_lt f) _).mono ?_
  rintro e w2 ⟨rfl, hb2⟩
  have HB2 : Hid (Below w.heap.size w w2) := HB1.out.trans (hb2.mono HB1.out.size)
  have hHl := HHS.out
  clear hb2 HB1 a1
  go_wp2_with fail
  refine (put_yes ⟨(pairL f).toArray⟩ H.length 1 _ (by omega) (by omega) (by omega) (by rw [list_size, pairL_len]; decide)).mono ?_
  rintro e w3 ⟨rfl, hb3⟩
  rw [app_l]
  have HB3 : Hid (Below w.heap.size w w3) := HB2.out.trans (hb3.mono HB2.out.size)
  have a2 := HA.out.2.1
  have a3 := HA.out.2.2
  clear hb3 HB2 hHl
  go_wp2_with fail
  refine Calls.mono (HL.out _ HB3.out) ?_
  rintro e w4 ⟨rfl, hb4⟩
  have HB4 : Hid (Below w.heap.size w w4) := HB3.out.trans (hb4.mono HB3.out.size)
  clear hb4 HL a2 a3
  unfold putAns
  go_wp2
  go_ret2
  exact ⟨rfl, HB4.out⟩
end Go.Proofs.YtjliopclpjeieaaDoor
