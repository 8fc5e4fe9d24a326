/-
  NlriReads: the walk.
-/
import Derived.Test.YtfhbgpepkplbaaaGreatDoorQ4
import Derived.Test.YtfhbgpepkplbaaaGreatDoorH5
import Derived.Test.YtfhbgpepkplbaaaGreatDoorF1
namespace Go.Proofs.YtfhbgpepkplbaaaGreatDoor
open Go.RowKit
theorem sameL_self7 (A : List Nl) : sameL A A = true := sameL_yes rfl fun _ _ _ => (eqN_iff _ _).2 rfl
theorem rdecode_arg (f : Int) (add : Bool) (s : ByteArray) (w : World) (hz : szOf f = 0) :
    Calls Tryz.prog 21 #[.string s, .int .i64 f, .bool add] w fun e w' => e = .returned (.tuple #[.slice none 0 0, .int .i64 2]) ∧ w' = w := by
  have K : Hid (Calls Tryz.prog 37 #[.int .i64 f] w fun e w' => e = .returned (.int .i64 0) ∧ w' = w) := by unfold Hid; rw [← hz]; exact refsize_any f w
  clear hz
  go_enter Tryz.func21, Tryz.ntmps21
  go_wp2_with fail
  refine Calls.mono K.out ?_
  rintro e w1 ⟨rfl, rfl⟩
  go_wp2
  go_ret2
  exact ⟨rfl, rfl⟩
/-- What both Decodes answer, as one form. -/
def rX (x : Option (List Nl)) : List Nl := match x with | none => [] | some R => R
def eX (x : Option (List Nl)) : Int := match x with | none => 4 | some _ => 0
def rD (f : Int) (add : Bool) (l : List UInt8) : List Nl := if szOf f = 0 then [] else rX (decI f add l.length l)
def eD (f : Int) (add : Bool) (l : List UInt8) : Int := if szOf f = 0 then 2 else eX (decI f add l.length l)
theorem dec_one {x : Option (List Nl)} {w : World} {e : Ending} {w' : World} (h : DecOk x w e w') : ∃ ad c, e = .returned (.tuple #[.slice ad (rX x).length c, .int .i64 (eX x)]) ∧ OwnN w' w.heap.size (.slice ad (rX x).length c) (rX x) ∧ Below w.heap.size w w' := by
  obtain ⟨hb, h⟩ := h
  cases x with
  | none => exact ⟨none, 0, h, World.ownsRow_nil _ _ _ _, hb⟩
  | some R =>
    obtain ⟨v, rfl, ho⟩ := h
    obtain ⟨ad, c, rfl⟩ := slice_of_owns ho
    exact ⟨ad, c, rfl, ho, hb⟩
theorem dec_len (f : Int) (add : Bool) : ∀ (n : Nat) (l : List UInt8) (R : List Nl), decI f add n l = some R → R.length ≤ n := by
  intro n
  induction n with
  | zero =>
    intro l R h
    unfold decI at h
    split at h
    · injection h with h; subst h; simp
    · cases h
  | succ n ih =>
    intro l R h
    unfold decI at h
    split at h
    · injection h with h; subst h; simp
    · split at h
      · cases hd : decI f add n (restI f add l) with
        | none => rw [hd] at h; cases h
        | some R' =>
          rw [hd] at h
          simp only [Option.map_some, Option.some.injEq] at h
          subst h
          have := ih _ _ hd
          simp; omega
      · cases h
theorem rD_len (f : Int) (add : Bool) (l : List UInt8) : (rD f add l).length ≤ l.length := by
  unfold rD
  split
  · simp
  · cases h : decI f add l.length l with
    | none => simp [rX]
    | some R => exact dec_len _ _ _ _ _ h
theorem both (k : Nat) (f : Int) (add : Bool) (l : List UInt8) (w : World) (h0 : szOf f = 0 → Calls Tryz.prog k #[.string ⟨l.toArray⟩, .int .i64 f, .bool add] w fun e w' => e = .returned (.tuple #[.slice none 0 0, .int .i64 2]) ∧ w' = w) (h1 : szOf f ≠ 0 → Calls Tryz.prog k #[.string ⟨l.toArray⟩, .int .i64 f, .bool add] w fun e w' => DecOk (decI f add l.length l) w e w') :
    Calls Tryz.prog k #[.string ⟨l.toArray⟩, .int .i64 f, .bool add] w fun e w' => ∃ ad c, e = .returned (.tuple #[.slice ad (rD f add l).length c, .int .i64 (eD f add l)]) ∧ OwnN w' w.heap.size (.slice ad (rD f add l).length c) (rD f add l) ∧ Below w.heap.size w w' := by
  by_cases hz : szOf f = 0
  · refine (h0 hz).mono ?_
    rintro e w' ⟨rfl, rfl⟩
    unfold rD eD
    rw [if_pos hz, if_pos hz]
    exact ⟨none, 0, rfl, World.ownsRow_nil _ _ _ _, Below.refl _ _⟩
  · refine (h1 hz).mono ?_
    intro e w' h
    unfold rD eD
    rw [if_neg hz, if_neg hz]
    exact dec_one h
theorem ext_take7 (c : List UInt8) (n : Nat) : (⟨c.toArray⟩ : ByteArray).extract 0 n = ⟨(c.take n).toArray⟩ := by
  apply ByteArray.ext
  rw [ByteArray.data_extract]
  apply Array.toList_inj.1
  simp
theorem hp_new7 {W : World} {o : Obj} {n : Nat} (hn : n = W.heap.size) : (W.alloc o).heap[n]? = some o := by
  subst hn
  show (W.heap.push o)[W.heap.size]? = some o
  simp
theorem cl_row7 {w : World} {k i : Nat} {cs : Array Value} {t : TypeId} {v : Value} (hk : w.heap[k]? = some (.cells cs t (0, 0))) (hi : cs[i]? = some v) : w.cell? ⟨k, i, none⟩ = some v := by
  rw [World.cell?, hk]
  exact hi
set_option maxRecDepth 100000 in
set_option maxHeartbeats 1600000 in
theorem reads_walk (s : ByteArray) (f : Int) (add : Bool) (w : World) (hT : Tabs w) (hs : s.size ≤ maxLen) : Calls Tryz.prog 5 #[.string s, .agg #[.int .i64 f, .bool add]] w fun e w' => e = .returned (.bool true) ∧ Below w.heap.size w w' := by
  unfold maxLen at hs
  have hmin : min (s.size : Int) 3000 = ((min s.size 3000 : Nat) : Int) := by omega
  have hm1 : min s.size 3000 ≤ s.size := by omega
  have hm1' : ((min s.size 3000 : Nat) : Int) ≤ s.size := by omega
  have hex : s.extract 0 (min s.size 3000) = ⟨(s.data.toList.take (min s.size 3000)).toArray⟩ := ext_take7 s.data.toList _
  have hck : (s.data.toList.take (min s.size 3000)).length ≤ 3000 := by rw [List.length_take]; omega
  generalize min s.size 3000 = mm at *
  generalize s.data.toList.take mm = l at *
  have HT : Hid (Tabs w) := hT
  have hr := rD_len f add l
  have hr1 : (rD f add l).length ≤ 3000 := by omega
  have KD : Hid (∀ W, Below w.heap.size w W → Calls Tryz.prog 20 #[.string ⟨l.toArray⟩, .int .i64 f, .bool add] W fun e w' => ∃ ad c, e = .returned (.tuple #[.slice ad (rD f add l).length c, .int .i64 (eD f add l)]) ∧ OwnN w' W.heap.size (.slice ad (rD f add l).length c) (rD f add l) ∧ Below W.heap.size W w') := fun W hW => both 20 f add l W (fun hz => decode_arg f add _ W (HT.out.below hW).sizes hz) (fun hz => decode_any f add l W (HT.out.below hW).sizes hz (by omega))
  have KR : Hid (∀ W, Below w.heap.size w W → Calls Tryz.prog 21 #[.string ⟨l.toArray⟩, .int .i64 f, .bool add] W fun e w' => ∃ ad c, e = .returned (.tuple #[.slice ad (rD f add l).length c, .int .i64 (eD f add l)]) ∧ OwnN w' W.heap.size (.slice ad (rD f add l).length c) (rD f add l) ∧ Below W.heap.size W w') := fun W hW => both 21 f add l W (fun hz => rdecode_arg f add _ W hz) (fun hz => rdecode_any f add l W hz (by omega))
  generalize rD f add l = R at *
  generalize eD f add l = er at *
  have hb0 : Below w.heap.size w (w.alloc (.cells #[.int .i64 f, .bool add] 37)) := (Below.refl _ _).alloc (Nat.le_refl _) _
  have hrow : (w.alloc (.cells #[.int .i64 f, .bool add] 37)).heap[w.heap.size]? = some (.cells #[.int .i64 f, .bool add] 37 (0, 0)) := hp_new7 rfl
  have HB0 : Hid (Below w.heap.size w (w.alloc (.cells #[.int .i64 f, .bool add] 37))) := hb0
  have HR0 : Hid ((w.alloc (.cells #[.int .i64 f, .bool add] 37)).heap[w.heap.size]? = some (.cells #[.int .i64 f, .bool add] 37 (0, 0))) := hrow
  clear hr hb0 hrow hT
  go_enter Tryz.func5, Tryz.ntmps5
  go_wp2_with fail
  generalize w.alloc (.cells #[.int .i64 f, .bool add] 37) = w0 at *
  refine Calls.mono (KD.out w0 HB0.out) ?_
  rintro e w1 ⟨ad1, c1, rfl, ho1, hb1⟩
  have HO1 : Hid (OwnN w1 w0.heap.size (.slice ad1 R.length c1) R) := ho1
  have HB1 : Hid (Below w.heap.size w w1) := HB0.out.trans (hb1.mono HB0.out.size)
  have HR1 : Hid (w1.heap[w.heap.size]? = some (.cells #[.int .i64 f, .bool add] 37 (0, 0))) := (hb1.block _ (Array.getElem?_eq_some_iff.mp HR0.out).1).trans HR0.out
  have y0 : w1.cell? ⟨w.heap.size, 0, none⟩ = some (.int .i64 f) := cl_row7 HR1.out rfl
  have y1 : w1.cell? ⟨w.heap.size, 1, none⟩ = some (.bool add) := cl_row7 HR1.out rfl
  clear ho1 hb1 HR0 KD
  go_wp2_with fail
  refine Calls.mono (KR.out w1 HB1.out) ?_
  rintro e w2 ⟨ad2, c2, rfl, ho2, hb2⟩
  have HO2 : Hid (OwnN w2 w1.heap.size (.slice ad2 R.length c2) R) := ho2
  have HO12 : Hid (OwnN w2 w0.heap.size (.slice ad1 R.length c1) R) := owns_below HO1.out hb2
  have HB2 : Hid (Below w.heap.size w w2) := HB1.out.trans (hb2.mono HB1.out.size)
  have KS : Hid (Calls Tryz.prog 17 #[.slice ad1 R.length c1, .slice ad2 R.length c2] w2 fun e w' => e = .returned (.bool true) ∧ Below w2.heap.size w2 w') := by
    have k := rsame_any _ _ R R w2 (OwnN.at HO12.out) (OwnN.at HO2.out) (by omega)
    rw [sameL_self7] at k
    exact k
  clear ho2 hb2 HO1 HR1 y0 y1 KR
  go_wp2_with fail
  refine Calls.mono KS.out ?_
  rintro e w3 ⟨rfl, hb3⟩
  have HB3 : Hid (Below w.heap.size w w3) := HB2.out.trans (hb3.mono HB2.out.size)
  clear hb3 KS HO12 HO2
  go_wp2_with fail
  refine (works_any w3 (HT.out.below HB3.out)).mono ?_
  rintro e w4 ⟨rfl, hb4⟩
  go_wp2
  go_ret
  exact ⟨rfl, HB3.out.trans (hb4.mono HB3.out.size)⟩
end Go.Proofs.YtfhbgpepkplbaaaGreatDoor
