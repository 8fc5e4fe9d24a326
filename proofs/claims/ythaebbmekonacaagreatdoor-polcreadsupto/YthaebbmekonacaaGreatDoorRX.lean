/-
  Texts that are no community, no address.
-/
import Derived.Test.YthaebbmekonacaaGreatDoorRTM
import Derived.Test.YthaebbmekonacaaGreatDoorRAz
import Derived.Test.YthaebbmekonacaaGreatDoorAD
set_option linter.unusedVariables false
set_option linter.unusedSimpArgs false
set_option maxRecDepth 100000
namespace Go.Proofs.YthaebbmekonacaaGreatDoor
open Go.RowKit
def pidx : List (List UInt8) → List UInt8 → Nat → Option Nat
  | [], _, _ => none
  | z :: zs, x, i => if z = x then some i else pidx zs x (i + 1)
/-- Where a word stands in a table. -/
def plc (xs : List (List UInt8)) (x : List UInt8) : Option Nat := if x = [] then none else pidx xs x 0
def pInt : Option Nat → Int
  | some k => (k : Int)
  | none => -1
theorem ba_inj {a b : List UInt8} : (⟨a.toArray⟩ : ByteArray) = ⟨b.toArray⟩ ↔ a = b := by
  constructor
  · intro h
    injection h with h
    have := congrArg Array.toList h
    simpa using this
  · intro h; rw [h]
theorem pidx_is : ∀ (xs : List (List UInt8)) (x : List UInt8) (i : Nat), Lib.idxFromS (xs.map fun l => (⟨l.toArray⟩ : ByteArray)) ⟨x.toArray⟩ i = pInt (pidx xs x i)
  | [], _, _ => rfl
  | z :: zs, x, i => by
    rw [List.map_cons]
    unfold Lib.idxFromS pidx
    by_cases h : z = x
    · rw [if_pos (ba_inj.2 h), if_pos h]; rfl
    · rw [if_neg (fun e => h (ba_inj.1 e)), if_neg h]
      exact pidx_is zs x (i + 1)
theorem pidx_some : ∀ (xs : List (List UInt8)) (x : List UInt8) (i k : Nat), pidx xs x i = some k → i ≤ k ∧ k - i < xs.length ∧ xs.getD (k - i) [] = x
  | [], _, _, _, h => by cases h
  | z :: zs, x, i, k, h => by
    unfold pidx at h
    split at h
    · next e =>
      obtain rfl := Option.some.inj h
      exact ⟨Nat.le_refl _, by simp, by simpa using e⟩
    · obtain ⟨h1, h2, h3⟩ := pidx_some zs x (i + 1) k h
      have e : k - i = (k - (i + 1)) + 1 := by omega
      exact ⟨by omega, by rw [e, List.length_cons]; omega, by rw [e]; simpa using h3⟩
theorem plc_some {xs : List (List UInt8)} {x : List UInt8} {k : Nat} (h : plc xs x = some k) : k < xs.length ∧ xs.getD k [] = x ∧ x ≠ [] := by
  unfold plc at h
  split at h
  · cases h
  · next hx =>
    obtain ⟨_, h2, h3⟩ := pidx_some _ _ _ _ h
    exact ⟨h2, h3, hx⟩
theorem place_any (b n : Nat) (xs : List (List UInt8)) (x : List UInt8) (w : World) (hn : xs.length = n) (hn8 : n ≤ 100)
    (hc : ∀ j, j < xs.length → w.cell? ⟨b, j, none⟩ = some (.string ⟨(xs.getD j []).toArray⟩)) : Calls Tryz.prog 132 #[.slice (some ⟨b, 0, none⟩) n n, .string ⟨x.toArray⟩] w fun e w' => (match plc xs x with | some k => e = .returned (.int .i64 (k : Int)) | none => e = .panicked PAN) ∧ w' = w := by
  have HI : Hid (Calls Tryz.prog 167 #[.slice (some ⟨b, 0, none⟩) n n, .string ⟨x.toArray⟩] w fun e w' => e = .returned (.int .i64 (pInt (pidx xs x 0))) ∧ w' = w) := by
    have := Tryz.slices_Index_string b 0 n n (xs.map fun l => (⟨l.toArray⟩ : ByteArray)) ⟨x.toArray⟩ w (by rw [List.length_map]; omega) (by omega) (fun j hj => by
      rw [Nat.zero_add]
      rw [List.length_map] at hj
      rw [hc j hj, List.getD_eq_getElem?_getD, List.getD_eq_getElem?_getD, List.getElem?_map, List.getElem?_eq_getElem hj]
      rfl)
    rw [List.take_of_length_le (by rw [List.length_map]; omega), show Lib.idxOfS (xs.map fun l => (⟨l.toArray⟩ : ByteArray)) ⟨x.toArray⟩ = pInt (pidx xs x 0) from pidx_is xs x 0] at this
    exact this
  cases hp : pidx xs x 0 with
  | none =>
    have HR : Hid (plc xs x = none) := by unfold Hid plc; rw [hp]; split <;> rfl
    rw [hp] at HI
    have HI2 : Hid (Calls Tryz.prog 167 #[.slice (some ⟨b, 0, none⟩) n n, .string ⟨x.toArray⟩] w fun e w' => e = .returned (.int .i64 (-1)) ∧ w' = w) := HI
    clear HI hc hp hn hn8
    rw [HR.out]
    go_enter Tryz.func132, Tryz.ntmps132
    go_wp2_with (first | (go_at_call 167; refine Calls.mono HI2.out ?_; rintro e w2 ⟨rfl, rfl⟩) | (go_at_call 89; refine Calls.mono (need_no _) ?_; rintro e w3 ⟨rfl, rfl⟩))
    exact ⟨rfl, rfl, rfl⟩
  | some k =>
    rw [hp] at HI
    have HI2 : Hid (Calls Tryz.prog 167 #[.slice (some ⟨b, 0, none⟩) n n, .string ⟨x.toArray⟩] w fun e w' => e = .returned (.int .i64 (k : Int)) ∧ w' = w) := HI
    have k0 : (0 : Int) ≤ (k : Int) := by omega
    by_cases hx : x = []
    · have HR : Hid (plc xs x = none) := by unfold Hid plc; rw [if_pos hx]
      subst hx
      clear HI hc hp hn hn8
      rw [HR.out]
      go_enter Tryz.func132, Tryz.ntmps132
      go_wp2_with (first | (go_at_call 167; refine Calls.mono HI2.out ?_; rintro e w2 ⟨rfl, rfl⟩) | (go_at_call 89; refine Calls.mono (need_no _) ?_; rintro e w3 ⟨rfl, rfl⟩))
      exact ⟨rfl, rfl, rfl⟩
    · have HR : Hid (plc xs x = some k) := by unfold Hid plc; rw [if_neg hx, hp]
      have hne : ((⟨x.toArray⟩ : ByteArray).toList == ([] : List UInt8)) = false := by rw [ByteArray.toList_eq]; simpa using hx
      have hne2 : ¬ (⟨x.toArray⟩ : ByteArray).toList = ([] : List UInt8) := by rw [ByteArray.toList_eq]; simpa using hx
      have hve : x.isEmpty = false := by cases x with
        | nil => exact absurd rfl hx
        | cons a b => rfl
      clear HI hc hp hn hn8 hx
      rw [HR.out]
      go_enter Tryz.func132, Tryz.ntmps132
      go_wp2_with (first | (go_at_call 167; refine Calls.mono HI2.out ?_; rintro e w2 ⟨rfl, rfl⟩) | (go_at_call 89; refine Calls.mono (need_yes _) ?_; rintro e w3 ⟨rfl, rfl⟩))
      go_ret
      exact ⟨rfl, rfl⟩
/-- A number's word. -/
def nmO (x : List UInt8) : Option Nat := Ad.rdN Lib.decDigits (Ad.o10 32 x) x
theorem pu10_32 (s : ByteArray) (hs : s.size ≤ 281474976710656) (w : World) (hE : ErrsAt w) :
    Calls Tryz.prog 168 #[.string s, .int .i64 10, .int .i64 32] w fun e w' => Ad.PuOk (Ad.o10 32 s.data.toList) e ∧ Below w.heap.size w w' := by
  obtain ⟨⟨t1, p1, ty1, fr1, h1⟩, ⟨t2, p2, ty2, fr2, h2⟩⟩ := hE
  unfold Ad.o10
  cases hp : Lib.parseUintB 32 s.data.toList
  · exact (show Calls Tryz.prog 168 _ _ _ from Any.strconv_ParseUint_10_at32_ok Tryz.laysPu14 s (by omega) _ hp w).mono fun _ _ ⟨h3, h4⟩ => ⟨h3, by rcases h4 with rfl | rfl; exact Below.refl _ _; exact Ad.below_bw w s⟩
  · exact (show Calls Tryz.prog 168 _ _ _ from Any.strconv_ParseUint_10_at32_syntax_var Tryz.laysPu14 s hs hp t1 p1 w (var_at (by kernel_rfl) h1)).mono fun _ _ ⟨N, h3, _, _, h4⟩ => ⟨⟨_, _, _, h3⟩, h4⟩
  · exact (show Calls Tryz.prog 168 _ _ _ from Any.strconv_ParseUint_10_at32_range_var Tryz.laysPu14 s hs hp t2 p2 w (var_at (by kernel_rfl) h2)).mono fun _ _ ⟨N, h3, _, _, h4⟩ => ⟨⟨_, _, _, h3⟩, h4⟩
set_option maxHeartbeats 2000000 in
theorem number_any (x : List UInt8) (hs : x.length ≤ 281474976710656) (w : World) (hE : ErrsAt w) (hP : PowAt w) :
    Calls Tryz.prog 133 #[.string ⟨x.toArray⟩] w fun e w' => (match nmO x with | some n => e = .returned (.int .u32 (n : Int)) | none => e = .panicked PAN) ∧ Below w.heap.size w w' := by
  have HL : Hid (∀ u, Ad.o10 32 x = some u → u < 4294967296) := fun u h => Nat.lt_of_le_of_lt (Ad.o10_le 32 _ u h) (by decide)
  have HPu : Hid (_ : Prop) := pu10_32 ⟨x.toArray⟩ (by rw [show (⟨x.toArray⟩ : ByteArray).size = x.length from List.size_toArray ..]; exact hs) w hE
  have HF : Hid (∀ (u : Nat) (hu : u < 4294967296) W, PowAt W → _) := fun u hu W hp => digits_any u hu W hp
  have HP : Hid (PowAt w) := hP
  rw [show (⟨x.toArray⟩ : ByteArray).data.toList = x by simp] at HPu
  unfold nmO
  clear hE hP hs
  generalize ho : Ad.o10 32 x = o at *
  clear ho
  cases o with
  | none =>
    have HR : Hid (Ad.rdN Lib.decDigits none x = none) := rfl
    rw [HR.out]
    go_enter Tryz.func133, Tryz.ntmps133
    go_wp2_with fail
    refine Calls.mono HPu.out ?_
    rintro e w1 ⟨⟨v, t, p, rfl⟩, hb1⟩
    have HB : Hid (Below w.heap.size w w1) := hb1
    clear hb1
    go_wp2_with fail
    refine Calls.mono (need_no _) ?_
    rintro e Wq ⟨rfl, rfl⟩
    go_wp2_with fail
    exact ⟨rfl, rfl, HB.out⟩
  | some u =>
    have hu := HL.out u rfl
    have HF2 : Hid (∀ W, _) := HF.out u hu
    have hw : IntKind.u32.wrap (u : Int) = u := by rw [IntKind.wrap_u32]; omega
    by_cases hq : Lib.decDigits u = x
    · have HR : Hid (Ad.rdN Lib.decDigits (some u) x = some u) := by unfold Hid Ad.rdN; simp only []; rw [if_pos hq]
      have hq1 : ((⟨(Lib.decDigits u).toArray⟩ : ByteArray).toList == (⟨x.toArray⟩ : ByteArray).toList) = true := Ad.toL_eq _ _ (by simpa using hq)
      rw [HR.out]
      clear HF HL hq hu
      generalize (⟨(Lib.decDigits u).toArray⟩ : ByteArray) = dt at *
      generalize (⟨x.toArray⟩ : ByteArray) = xt at *
      go_enter Tryz.func133, Tryz.ntmps133
      go_wp2_with fail
      refine Calls.mono HPu.out ?_
      rintro e w1 ⟨he, hb1⟩
      obtain rfl := he
      have HB : Hid (Below w.heap.size w w1) := hb1
      have HP1 : Hid (PowAt w1) := HP.out.below hb1
      clear hb1
      go_wp2_with fail
      refine Calls.mono (HF2.out _ HP1.out) ?_
      rintro e w2 ⟨rfl, hb2⟩
      have HB2 : Hid (Below w.heap.size w w2) := HB.out.trans (hb2.mono HB.out.size)
      clear hb2
      go_wp2_with fail
      refine Calls.mono (need_yes _) ?_
      rintro e Wq ⟨rfl, rfl⟩
      go_wp2
      go_ret
      exact ⟨rfl, HB2.out⟩
    · have HR : Hid (Ad.rdN Lib.decDigits (some u) x = none) := by unfold Hid Ad.rdN; simp only []; rw [if_neg hq]
      have hq1 : ((⟨(Lib.decDigits u).toArray⟩ : ByteArray).toList == (⟨x.toArray⟩ : ByteArray).toList) = false := Ad.toL_ne _ _ (by simpa using hq)
      rw [HR.out]
      clear HF HL hq hu
      generalize (⟨(Lib.decDigits u).toArray⟩ : ByteArray) = dt at *
      generalize (⟨x.toArray⟩ : ByteArray) = xt at *
      go_enter Tryz.func133, Tryz.ntmps133
      go_wp2_with fail
      refine Calls.mono HPu.out ?_
      rintro e w1 ⟨he, hb1⟩
      obtain rfl := he
      have HB : Hid (Below w.heap.size w w1) := hb1
      have HP1 : Hid (PowAt w1) := HP.out.below hb1
      clear hb1
      go_wp2_with fail
      refine Calls.mono (HF2.out _ HP1.out) ?_
      rintro e w2 ⟨rfl, hb2⟩
      have HB2 : Hid (Below w.heap.size w w2) := HB.out.trans (hb2.mono HB.out.size)
      clear hb2
      go_wp2_with fail
      refine Calls.mono (need_no _) ?_
      rintro e Wq ⟨rfl, rfl⟩
      go_wp2_with fail
      exact ⟨rfl, rfl, HB2.out⟩
theorem nmO_some {x : List UInt8} {n : Nat} (h : nmO x = some n) : n < 4294967296 ∧ x = Lib.decDigits n := by
  have := (Ad.RdP.one (D := Lib.decDigits) (M := 4294967295) (o := Ad.o10 32 x) (l := x) (fun u h => Ad.o10_le 32 x u h) (fun u h e => Ad.o10_full 32 (by decide) x u h e)).sound n h
  exact ⟨by have := this.2; omega, this.1⟩
theorem takenU_no (n m : Int) (hm : (m == 0) = false) (w : World) : Calls Tryz.prog 134 #[.int .u32 n, .int .i64 m] w fun e w' => e = .panicked PAN ∧ w' = w := by
  go_enter Tryz.func134, Tryz.ntmps134
  go_wp2_with (go_at_call 89; refine Calls.mono (need_no _) ?_; rintro e w3 ⟨rfl, rfl⟩)
  exact ⟨rfl, rfl, rfl⟩
theorem takenS_no (b : ByteArray) (m : Int) (hm : (m == 0) = false) (w : World) : Calls Tryz.prog 136 #[.string b, .int .i64 m] w fun e w' => e = .panicked PAN ∧ w' = w := by
  go_enter Tryz.func136, Tryz.ntmps136
  go_wp2_with (go_at_call 89; refine Calls.mono (need_no _) ?_; rintro e w3 ⟨rfl, rfl⟩)
  exact ⟨rfl, rfl, rfl⟩
theorem place_some (b n : Nat) (xs : List (List UInt8)) (x : List UInt8) (k : Nat) (w : World) (hn : xs.length = n) (hn8 : n ≤ 100) (hk : plc xs x = some k)
    (hc : ∀ j, j < xs.length → w.cell? ⟨b, j, none⟩ = some (.string ⟨(xs.getD j []).toArray⟩)) : Calls Tryz.prog 132 #[.slice (some ⟨b, 0, none⟩) n n, .string ⟨x.toArray⟩] w fun e w' => e = .returned (.int .i64 (k : Int)) ∧ w' = w :=
  (place_any b n xs x w hn hn8 hc).mono fun e w' h => by rw [hk] at h; exact h
theorem place_none (b n : Nat) (xs : List (List UInt8)) (x : List UInt8) (w : World) (hn : xs.length = n) (hn8 : n ≤ 100) (hk : plc xs x = none)
    (hc : ∀ j, j < xs.length → w.cell? ⟨b, j, none⟩ = some (.string ⟨(xs.getD j []).toArray⟩)) : Calls Tryz.prog 132 #[.slice (some ⟨b, 0, none⟩) n n, .string ⟨x.toArray⟩] w fun e w' => e = .panicked PAN ∧ w' = w :=
  (place_any b n xs x w hn hn8 hc).mono fun e w' h => by rw [hk] at h; exact h
theorem number_some (x : List UInt8) (n : Nat) (hk : nmO x = some n) (hs : x.length ≤ 281474976710656) (w : World) (hE : ErrsAt w) (hP : PowAt w) :
    Calls Tryz.prog 133 #[.string ⟨x.toArray⟩] w fun e w' => e = .returned (.int .u32 (n : Int)) ∧ Below w.heap.size w w' :=
  (number_any x hs w hE hP).mono fun e w' h => by rw [hk] at h; exact h
theorem number_none (x : List UInt8) (hk : nmO x = none) (hs : x.length ≤ 281474976710656) (w : World) (hE : ErrsAt w) (hP : PowAt w) :
    Calls Tryz.prog 133 #[.string ⟨x.toArray⟩] w fun e w' => e = .panicked PAN ∧ Below w.heap.size w w' :=
  (number_any x hs w hE hP).mono fun e w' h => by rw [hk] at h; exact h
/-- The next word, whichever it is. -/
theorem next_gen (pl ps : Nat) (x : List UInt8) (r t : List (List UInt8)) (hx : t.headD [32] = x) (hr : t.tail = r) (w : World) (h : Rd w pl ps t) (hm : MaxAt w) : Calls Tryz.prog 92 #[.pointer (some ⟨pl, 0, none⟩), .pointer (some ⟨ps, 0, none⟩)] w fun e w' => e = .returned (.string ⟨x.toArray⟩) ∧ Rd w' pl ps r ∧ Bs2 pl ps w w' := by
  subst hx hr
  exact (next_any pl ps t w h hm).mono fun e w' ⟨h1, h2⟩ => ⟨h1, h2.rd, h2.bs⟩
end Go.Proofs.YthaebbmekonacaaGreatDoor
set_option linter.unusedVariables false
set_option linter.unusedSimpArgs false
set_option maxRecDepth 100000
namespace Go.Proofs.YthaebbmekonacaaGreatDoor
open Go.RowKit
theorem pb_le (l : List UInt8) (u : Nat) (h : Lib.parseUintB 16 l = .ok u) : u < 65536 := by
  unfold Lib.parseUintB at h
  split at h
  · cases h
  · have := pm_le _ 0 l u (by omega) h
    simp at this
    omega
theorem pu_any (s : ByteArray) (hs : s.size ≤ 281474976710656) (w : World) (he : ErrsAt w) :
    Calls Tryz.prog 168 #[.string s, .int .i64 10, .int .i64 16] w fun e w' => ∃ (u : Nat) (v : Value), u < 65536 ∧ e = .returned (.tuple #[.int .u64 (u : Int), v]) ∧ Below w.heap.size w w' := by
  obtain ⟨⟨t1, p1, ty1, fr1, h1⟩, ⟨t2, p2, ty2, fr2, h2⟩⟩ := he
  cases hp : Lib.parseUintB 16 s.data.toList
  · rename_i u
    exact ((show Calls Tryz.prog 168 _ _ _ from Any.strconv_ParseUint_10_at16_ok Tryz.laysPu14 s (by omega) u hp w)).mono fun _ _ ⟨h3, h4⟩ => ⟨u, _, pb_le _ u hp, h3, pu_below h4⟩
  · exact (show Calls Tryz.prog 168 _ _ _ from Any.strconv_ParseUint_10_at16_syntax_var Tryz.laysPu14 s hs hp t1 p1 w (var_at (by kernel_rfl) h1)).mono fun _ _ ⟨N, h3, _, _, h4⟩ => ⟨0, _, by omega, h3, h4⟩
  · exact (show Calls Tryz.prog 168 _ _ _ from Any.strconv_ParseUint_10_at16_range Tryz.laysPu14 s hs hp _ w (cell_row h2 0 _ rfl) (Or.inr ⟨_, _, rfl⟩)).mono fun _ _ ⟨N, h3, _, _, h4⟩ => ⟨65535, _, by omega, h3, h4⟩
theorem cut_le (l sep : List UInt8) : (Lib.cut l sep).1.length ≤ l.length ∧ (Lib.cut l sep).2.1.length ≤ l.length := by
  unfold Lib.cut
  split
  · simp; omega
  · simp
set_option maxRecDepth 100000 in
set_option maxHeartbeats 800000 in
theorem parse_no (s : ByteArray) (w : World) (hs : s.size < 140737488351233) (hno : ∀ c, c < 4294967296 → ¬ (textC c = s)) (ht : ComAt w) (hp : PowAt w) (hm : MaxAt w) (herr : ErrsAt w) :
    Calls Tryz.prog 135 #[.string s] w fun e w' => e = .returned (.tuple #[.int .u32 0, .int .i64 4]) ∧ Below w.heap.size w w' := by
  have d1' : (nmE.toList == s.toList) = false := ne_list (hno 4294967041 (by omega))
  have d2' : (nmA.toList == s.toList) = false := ne_list (hno 4294967042 (by omega))
  have d3' : (nmC.toList == s.toList) = false := ne_list (hno 4294967043 (by omega))
  have HNo : Hid (∀ c, c < 4294967296 → (( textC c).toList == s.toList) = false) := fun c hc => ne_list (hno c hc)
  obtain ⟨a, b, f, hca, hcb, hcf⟩ : ∃ (a b : ByteArray) (f : Bool), a = ⟨(Lib.cut s.data.toList [58]).1.toArray⟩ ∧ b = ⟨(Lib.cut s.data.toList [58]).2.1.toArray⟩ ∧ f = (Lib.cut s.data.toList [58]).2.2 := ⟨_, _, _, rfl, rfl, rfl⟩
  have hla : a.size ≤ s.size := by rw [hca]; exact (cut_le _ _).1
  have hlb : b.size ≤ s.size := by rw [hcb]; exact (cut_le _ _).2
  have HCut : Hid (∀ W, MaxAt W → Calls Tryz.prog 93 #[.string s, .string ⟨#[58]⟩] W fun e w' => e = .returned (.tuple #[.string a, .string b, .bool f]) ∧ Below W.heap.size W w') := fun W hM => by
    obtain ⟨m, hM⟩ := hM
    have h := Ad.scut_c s 58 (by omega) W
    rw [← hca, ← hcb, ← hcf] at h
    exact h.mono fun _ _ ⟨h1, n, h2⟩ => ⟨h1, by rw [h2]; exact below_drewN' (Below.refl _ _) n⟩
  have n0 : w.cell? ⟨2, 0, none⟩ = some (.int .u32 4294967041) := ht.names 0 _ rfl
  have n1 : w.cell? ⟨2, 1, none⟩ = some (.string nmE) := ht.names 1 _ rfl
  have n2 : w.cell? ⟨2, 2, none⟩ = some (.int .u32 4294967042) := ht.names 2 _ rfl
  have n3 : w.cell? ⟨2, 3, none⟩ = some (.string nmA) := ht.names 3 _ rfl
  have n4 : w.cell? ⟨2, 4, none⟩ = some (.int .u32 4294967043) := ht.names 4 _ rfl
  have n5 : w.cell? ⟨2, 5, none⟩ = some (.string nmC) := ht.names 5 _ rfl
  have HT : Hid (ComAt w) := ht
  have HMx : Hid (MaxAt w) := hm
  have HEr : Hid (ErrsAt w) := herr
  have HP : Hid (PowAt w) := hp
  clear ht hm herr hp hno hca hcb hcf
  go_enter Tryz.func135, Tryz.ntmps135
  go_wp2
  clear n0 n1 n2 n3 n4 n5
  go_loopw [15] (fun i wr => ∃ k : Nat, k ≤ 3 ∧ i = .int .i64 k ∧ Below w.heap.size w wr) (fun i _ => 3 - (intOf i).toNat)
  case atStart => exact ⟨0, by omega, rfl, Below.refl _ _⟩
  case round =>
    obtain ⟨k, hk, rfl, hb⟩ := hrel
    by_cases hlt : k < 3
    · have HB : Hid (∀ o, Below w.heap.size w (wr.alloc o)) := fun o => hb.alloc hb.size _
      rcases (show k = 0 ∨ k = 1 ∨ k = 2 by omega) with rfl | rfl | rfl
      · have hix : ∀ W, (Instr.index 217 (.agg #[.int .u32 4294967041, .string nmE, .int .u32 4294967042, .string nmA, .int .u32 4294967043, .string nmC]) (.int .i64 0)).run Tryz.prog W = .ok (.agg #[.int .u32 4294967041, .string nmE]) W := fun W => by kernel_rfl
        go_wp2
        go_roundw
        case rel => exact ⟨1, by omega, by go_num, HB.out _⟩
        case measure => simp [intOf]
      · have hix : ∀ W, (Instr.index 217 (.agg #[.int .u32 4294967041, .string nmE, .int .u32 4294967042, .string nmA, .int .u32 4294967043, .string nmC]) (.int .i64 1)).run Tryz.prog W = .ok (.agg #[.int .u32 4294967042, .string nmA]) W := fun W => by kernel_rfl
        go_wp2
        go_roundw
        case rel => exact ⟨2, by omega, by go_num, HB.out _⟩
        case measure => simp [intOf]
      · have hix : ∀ W, (Instr.index 217 (.agg #[.int .u32 4294967041, .string nmE, .int .u32 4294967042, .string nmA, .int .u32 4294967043, .string nmC]) (.int .i64 2)).run Tryz.prog W = .ok (.agg #[.int .u32 4294967043, .string nmC]) W := fun W => by kernel_rfl
        go_wp2
        go_roundw
        case rel => exact ⟨3, by omega, by go_num, HB.out _⟩
        case measure => simp [intOf]
    · obtain rfl : k = 3 := by omega
      have HB : Hid (Below w.heap.size w wr) := hb
      clear hb d1' d2' d3'
      go_wp2_with fail
      refine (HCut.out wr (HMx.out.below HB.out)).mono ?_
      rintro e w1 ⟨rfl, hb1'⟩
      have HB1 : Hid (Below w.heap.size w w1) := HB.out.trans (hb1'.mono HB.out.size)
      clear hb1'
      go_wp2_with fail
      refine (pu_any a (by omega) w1 (HEr.out.below HB1.out)).mono ?_
      rintro e w2 ⟨q1, v1, hq1, rfl, hw2⟩
      have HB2 : Hid (Below w.heap.size w w2) := HB1.out.trans (hw2.mono HB1.out.size)
      clear hw2
      go_wp2_with fail
      refine (pu_any b (by omega) w2 (HEr.out.below HB2.out)).mono ?_
      rintro e w3 ⟨q2, v2, hq2, rfl, hw3⟩
      have HB3 : Hid (Below w.heap.size w w3) := HB2.out.trans (hw3.mono HB2.out.size)
      clear hw3
      have hor := or16 q1 q2 hq1 hq2
      obtain ⟨c, hc⟩ : ∃ c, c = q1 * 65536 + q2 := ⟨_, rfl⟩
      have hc32 : c < 4294967296 := by omega
      rw [← hc] at hor
      clear hc
      go_wp2_with fail
      refine (comText_any c w3 hc32 (HT.out.below HB3.out) (HP.out.below HB3.out)).mono ?_
      rintro e w4 ⟨rfl, hb4⟩
      have hne := HNo.out c hc32
      unfold textC at hne
      generalize (⟨(comT c).toArray⟩ : ByteArray) = tx at *
      go_wp2
      go_ret2
      exact ⟨rfl, HB3.out.trans (hb4.mono HB3.out.size)⟩
theorem comParse_no (x : List UInt8) (hk : ∀ c, c < 4294967296 → ¬ (comT c = x)) (hxl : x.length < 140737488351233) (w : World) (he : EnvX w) (hE : ErrsAt w) : Calls Tryz.prog 135 #[.string ⟨x.toArray⟩] w fun e w' => e = .returned (.tuple #[.int .u32 0, .int .i64 4]) ∧ Below w.heap.size w w' :=
  parse_no ⟨x.toArray⟩ w (by rw [show (⟨x.toArray⟩ : ByteArray).size = x.length from List.size_toArray ..]; exact hxl) (fun c hc e => hk c hc (ba_inj.1 e)) he.c he.e.p he.e.t.max hE
theorem adrParse_no (x : List UInt8) (hk : ∀ b : ByteArray, (b.size = 4 ∨ b.size = 16) → ¬ (x = adT b)) (hxl : x.length < 140737488351233) (w : World) (he : EnvX w) (hE : ErrsAt w) : Calls Tryz.prog 137 #[.string ⟨x.toArray⟩] w fun e w' => e = .returned (.tuple #[.string ⟨#[]⟩, .int .i64 4]) ∧ Below w.heap.size w w' := by
  refine (Ad.addr_any ⟨x.toArray⟩ (by rw [show (⟨x.toArray⟩ : ByteArray).size = x.length from List.size_toArray ..]; omega) w ⟨he.e, hE⟩).mono ?_
  rintro e w' ⟨⟨o, ho, rfl⟩, hb⟩
  cases o with
  | none => exact ⟨rfl, hb⟩
  | some b => exact absurd (by simpa using (ho.sound b rfl).2) (hk b (ho.sound b rfl).1)
end Go.Proofs.YthaebbmekonacaaGreatDoor
