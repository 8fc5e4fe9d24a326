/-
  Split.
-/
import Derived.Test.YtpahnebhcfpplabGreatDoorB2
namespace Go.Proofs.YtpahnebhcfpplabGreatDoor
open Go.RowKit
/-- The raw attributes of bytes. -/
def splitI : Nat → List UInt8 → Option (List Rw)
  | 0, l => if l = [] then some [] else none
  | n + 1, l => if l = [] then some [] else match rawI l with
    | none => none
    | some (r, rest) => (splitI n rest).map (r :: ·)
theorem splitI_nil (n : Nat) : splitI n [] = some [] := by cases n <;> simp [splitI]
theorem splitI_bad (n : Nat) (l : List UInt8) (hl : l ≠ []) (h : rawI l = none) : splitI n l = none := by cases n <;> simp [splitI, hl, h]
theorem splitI_step (n : Nat) (l rest : List UInt8) (r : Rw) (hl : l ≠ []) (h : rawI l = some (r, rest)) : splitI (n + 1) l = (splitI n rest).map (r :: ·) := by simp [splitI, hl, h]
theorem rawI_len {l rest : List UInt8} {r : Rw} (hl : l ≠ []) (h : rawI l = some (r, rest)) : rest.length + 3 ≤ l.length := by
  rw [rawI_eq] at h
  split at h
  · rename_i hc
    obtain ⟨h1, h2⟩ := hc
    simp only [Option.some.injEq, Prod.mk.injEq] at h
    obtain ⟨_, rfl⟩ := h
    have hz : 1 ≤ zOf (gotN 1 l) := by unfold zOf; split <;> omega
    generalize zOf (gotN 1 l) = z at *
    have hl1 : 1 ≤ l.length := by cases l with | nil => exact absurd rfl hl | cons => simp
    have e1 : restN 1 l = l.drop 1 := by simp [restN]; intro h; exact absurd h hl
    rw [e1] at h1 h2 ⊢
    by_cases h3 : 1 ≤ (l.drop 1).length
    · have e2 : restN 1 (l.drop 1) = (l.drop 1).drop 1 := by unfold restN; rw [if_pos h3]
      rw [e2] at h1 h2 ⊢
      have e3 : restN z ((l.drop 1).drop 1) = ((l.drop 1).drop 1).drop z := by unfold restN; rw [if_pos h1]
      rw [e3]
      simp only [List.length_drop] at *
      omega
    · have e2 : restN 1 (l.drop 1) = l.drop 1 := by unfold restN; rw [if_neg h3]
      rw [e2] at h1
      omega
  · exact absurd h (by simp)
def leftAt (w : World) (p : Nat) : Nat := match w.cell? ⟨p, 1, none⟩ with | some (.string s) => s.size | _ => 0
theorem RdrAt.left {w : World} {p : Nat} {s : ByteArray} (h : RdrAt w p s) : leftAt w p = s.size := by unfold leftAt; rw [h.c1]
theorem inBytes49 (p : Nat) (l : List UInt8) (w : World) (h : RdrAt w p ⟨l.toArray⟩) :
    Calls Tryz.prog 22 #[.pointer (some ⟨p, 0, none⟩)] w fun e w' => e = .returned (.func (.func 32) #[] #[.pointer (some ⟨w.heap.size, 0, none⟩)]) ∧ CRAt w' p w.heap.size ∧ RdrAt w' p ⟨l.toArray⟩ ∧ Below w.heap.size w w' := by
  have hp := h.lt
  go_enter Tryz.func22, Tryz.ntmps22
  go_wp2
  go_ret
  have hb : ∀ o, Below w.heap.size w (w.alloc o) := fun o => (Below.refl _ _).alloc (Nat.le_refl _) o
  refine ⟨by simp, ⟨by simp, by omega⟩, h.kept (hb _) hp, hb _⟩
/-- What Split leaves. -/
def SplitOk (x : Option (List Rw)) (w : World) (e : Ending) (w' : World) : Prop :=
  Below w.heap.size w w' ∧ match x with
  | some R => ∃ v, e = .returned (.tuple #[v, .bool true]) ∧ OwnR w' w.heap.size v R
  | none => e = .returned (.tuple #[.slice none 0 0, .bool false])
theorem OwnR.beside {w w' : World} {base p : Nat} {v : Value} {R : List Rw} (h : OwnR w base v R) (hb : Beside p w w') (hp : p < base) : OwnR w' base v R :=
  owns_heap' h (fun g hg => hb.block g (h.lt g hg).2 (by have := (h.lt g hg).1; omega))
set_option maxRecDepth 100000 in
set_option maxHeartbeats 3200000 in
theorem split_any (l : List UInt8) (w : World) (hl : l.length ≤ 1000000000000) :
    Calls Tryz.prog 9 #[.string ⟨l.toArray⟩] w fun e w' => SplitOk (splitI l.length l) w e w' := by
  obtain ⟨i0, hi, hz0, hz1, hz2⟩ := info_parts info46
  obtain ⟨X, hX⟩ : ∃ X, X = splitI l.length l := ⟨_, rfl⟩
  have HX : Hid (_ = _) := hX
  rw [← hX]
  clear hX
  go_enter Tryz.func9, Tryz.ntmps9
  go_wp2_with fail
  refine (new_any ⟨l.toArray⟩ w).mono ?_
  rintro e w1 ⟨rfl, hr1, hb1, hsz1⟩
  have HSZ : Hid (_ = _) := hsz1
  have HB1 : Hid (Below _ _ _) := hb1
  have HR1 : Hid (RdrAt _ _ _) := hr1
  clear hr1 hb1 hsz1
  go_wp2_with fail
  refine (inBytes49 w.heap.size l w1 HR1.out).mono ?_
  rintro e w2 ⟨rfl, hc2, hr2, hb2⟩
  have HB2 : Hid (Below w.heap.size w w2) := HB1.out.trans (hb2.mono HB1.out.size)
  have HC2 : Hid (CRAt _ _ _) := hc2
  have HR2 : Hid (RdrAt _ _ _) := hr2
  have hp2 : w.heap.size < w2.heap.size := by have := hb2.size; have := HSZ.out; omega
  clear hc2 hr2 hb2 HB1 HR1 HSZ
  generalize hpp : w.heap.size = p at *
  generalize w1.heap.size = q at *
  have HPP : Hid (_ = _) := hpp
  clear hpp
  go_wp2
  go_loopw [4] (fun t wr => ∃ (R : List Rw) (rest : List UInt8), OwnR wr w2.heap.size t R ∧ RdrAt wr p ⟨rest.toArray⟩ ∧ Beside p w2 wr ∧ R.length * 3 + rest.length ≤ l.length ∧ X = (splitI (l.length - R.length) rest).map (R ++ ·)) (fun _ wr => leftAt wr p)
  case atStart => exact ⟨[], l, World.ownsRow_nil _ _ _ _, HR2.out, Beside.of_below (Below.refl _ _) (Nat.le_refl _), by simp, by rw [HX.out]; simp⟩
  case round =>
    obtain ⟨R, rest, ho, hrd, hbs, hlen, hx⟩ := hrel
    obtain ⟨ad, c, rfl⟩ := slice_of_owns ho
    have HO : Hid (OwnR wr w2.heap.size _ R) := ho
    have HRD : Hid (RdrAt _ _ _) := hrd
    have HBS : Hid (Beside _ _ _) := hbs
    have HC : Hid (CRAt wr p q) := HC2.out.beside hbs
    have HXX : Hid (X = _) := hx
    have HLF : Hid (leftAt wr p = rest.length) := by unfold Hid; rw [hrd.left, list_size]
    clear ho hrd hbs hx
    have hlen2 : R.length ≤ 1000000000000 := by omega
    have HLEN : Hid (_ ≤ _) := hlen
    clear hlen
    go_wp2_with fail
    refine (nextR_any p q rest wr HC.out HRD.out).mono ?_
    rintro e w4 ⟨hb4, ⟨hnil, rfl⟩ | ⟨hne, hno, rfl⟩ | ⟨r, rest', hne, hsome, rfl, hrd4⟩⟩
    · have HO4 : Hid (OwnR w4 w2.heap.size _ R) := HO.out.beside hb4 hp2
      have HB4 : Hid (Beside p w2 w4) := HBS.out.trans hb4
      have HXN : Hid (X = some R) := by unfold Hid; rw [HXX.out, hnil, splitI_nil]; simp
      clear hb4 hnil
      unfold zeroR
      go_wp2
      go_ret2
      rw [HXN.out]
      have hbw : Below w.heap.size w w4 := by rw [HPP.out]; exact HB2.out.trans (HB4.out.below (Nat.le_refl _) (Nat.le_of_lt hp2))
      exact ⟨hbw.alloc hbw.size _, .slice ad R.length c, rfl, (owns_mono HO4.out (by rw [HPP.out]; exact Nat.le_of_lt hp2)).alloc _⟩
    · have HB4 : Hid (Beside p w2 w4) := HBS.out.trans hb4
      have HXN : Hid (X = none) := by unfold Hid; rw [HXX.out, splitI_bad _ _ hne hno]; rfl
      clear hb4 hne hno
      unfold zeroR
      go_wp2
      go_ret2
      rw [HXN.out]
      have hbw : Below w.heap.size w w4 := by rw [HPP.out]; exact HB2.out.trans (HB4.out.below (Nat.le_refl _) (Nat.le_of_lt hp2))
      exact ⟨hbw.alloc hbw.size _, rfl⟩
    · have HO4 : Hid (OwnR w4 w2.heap.size _ R) := HO.out.beside hb4 hp2
      have HB4 : Hid (Beside p w2 w4) := HBS.out.trans hb4
      have HR4 : Hid (RdrAt w4 p _) := hrd4
      have hle := rawI_len hne hsome
      have HLE : Hid (rest'.length + 3 ≤ rest.length) := hle
      have HXN : Hid (X = (splitI (l.length - (R.length + 1)) rest').map ((R ++ [r]) ++ ·)) := by
        unfold Hid
        have h1 := HLEN.out
        rw [HXX.out, show l.length - R.length = (l.length - (R.length + 1)) + 1 by omega, splitI_step _ _ _ _ hne hsome]
        cases splitI (l.length - (R.length + 1)) rest' <;> simp
      have h4 := HB4.out.size
      clear hb4 hne hsome hrd4 hle
      obtain ⟨rf, rt, rv⟩ := r
      simp only
      have hba : Below w4.heap.size w4 (w4.alloc (.cells #[.int .u8 (rf : Int), .int .u8 (rt : Int), .string rv] 30)) := (Below.refl _ _).alloc (Nat.le_refl _) _
      have c0 : (w4.alloc (.cells #[.int .u8 (rf : Int), .int .u8 (rt : Int), .string rv] 30)).cell? ⟨w4.heap.size, 0, none⟩ = some (.int .u8 (rf : Int)) := by simp
      have c1 : (w4.alloc (.cells #[.int .u8 (rf : Int), .int .u8 (rt : Int), .string rv] 30)).cell? ⟨w4.heap.size, 1, none⟩ = some (.int .u8 (rt : Int)) := by simp
      have c2 : (w4.alloc (.cells #[.int .u8 (rf : Int), .int .u8 (rt : Int), .string rv] 30)).cell? ⟨w4.heap.size, 2, none⟩ = some (.string rv) := by simp
      have HO5 : Hid (OwnR (w4.alloc (.cells #[.int .u8 (rf : Int), .int .u8 (rt : Int), .string rv] 30)) w2.heap.size _ R) := HO4.out.below hba
      have HB5 : Hid (Beside p w2 (w4.alloc (.cells #[.int .u8 (rf : Int), .int .u8 (rt : Int), .string rv] 30))) := HB4.out.then (hba.mono h4)
      have HR5 : Hid (RdrAt (w4.alloc (.cells #[.int .u8 (rf : Int), .int .u8 (rt : Int), .string rv] 30)) p ⟨rest'.toArray⟩) := HR4.out.kept hba HR4.out.lt
      have HNW : Hid (∀ (j : Nat) (u : Value), [Value.int .u8 (rf : Int), .int .u8 (rt : Int), .string rv][j]? = some u → ((w4.alloc (.cells #[.int .u8 (rf : Int), .int .u8 (rt : Int), .string rv] 30)).alloc (.cells #[.int .u8 (rf : Int), .int .u8 (rt : Int), .string rv] 30)).cell? (Addr.add ⟨w4.heap.size + 1, 0, none⟩ j) = some u) := by
        have h := news3 (w4.alloc (.cells #[.int .u8 (rf : Int), .int .u8 (rt : Int), .string rv] 30)) (.int .u8 (rf : Int)) (.int .u8 (rt : Int)) (.string rv) 30
        rw [show (w4.alloc (.cells #[.int .u8 (rf : Int), .int .u8 (rt : Int), .string rv] 30)).heap.size = w4.heap.size + 1 by simp] at h
        exact h
      clear hba HO4 HB4 HR4
      go_wp2_with (at_builtin; refine wpList_append_own _ rfl _ _ 22 rfl w2.heap.size 30 i0 (.agg #[.int .u8 0, .int .u8 0, .string ⟨#[]⟩]) 3 24 Tryz.underlying22 hi hz0 hz1 hz2 rfl (by decide) _ _ _ rfl (HO5.out.alloc _) ⟨w4.heap.size + 1, 0, none⟩ 1 1 [.int .u8 (rf : Int), .int .u8 (rt : Int), .string rv] rfl rfl HNW.out (three_raw _ _ _) (by unfold maxLen; omega) (by omega) (Nat.le_trans HB5.out.size (by simp)) ?_; intro v6 w6 hown6 hgrow6 _)
      have hos : OwnR w6 w2.heap.size v6 (R ++ [(rf, rt, rv)]) := by
        unfold OwnR; rw [cellsR_snoc, List.length_append]; exact hown6
      obtain ⟨ad6, c6, rfl⟩ := slice_of_owns hown6
      have hbw : Below w2.heap.size (w4.alloc (.cells #[.int .u8 (rf : Int), .int .u8 (rt : Int), .string rv] 30)) w6 := ((Below.refl _ _).alloc HB5.out.size _).grown hgrow6 (Nat.le_trans HB5.out.size (by simp)) (fun k e => (HO5.out.lt k e).1)
      have HB6 : Hid (Beside p w2 w6) := HB5.out.then hbw
      have HR6 : Hid (RdrAt w6 p ⟨rest'.toArray⟩) := HR5.out.kept hbw hp2
      clear hown6 hgrow6 hbw c0 c1 c2
      go_roundw
      case rel => exact ⟨_, rest', hos, HR6.out, HB6.out, by have h1 := HLEN.out; have h2 := HLE.out; simp; omega, by rw [List.length_append]; exact HXN.out⟩
      case measure => rw [HLF.out, HR6.out.left, list_size]; have h2 := HLE.out; omega
end Go.Proofs.YtpahnebhcfpplabGreatDoor
