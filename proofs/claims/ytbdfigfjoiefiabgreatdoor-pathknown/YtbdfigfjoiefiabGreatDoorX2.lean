/-
  parseNumbers, whatever the text is.
-/
import Derived.Test.YtbdfigfjoiefiabGreatDoorX1
set_option linter.unusedVariables false
set_option linter.unusedSimpArgs false
set_option maxRecDepth 100000
namespace Go.Proofs.YtbdfigfjoiefiabGreatDoor
open Go.RowKit
theorem first_split (c : UInt8) : ∀ m : List UInt8, c ∈ m → ∃ x r, c ∉ x ∧ m = x ++ c :: r
  | [], h => by simp at h
  | a :: m, h => by
    by_cases e : c = a
    · exact ⟨[], m, by simp, by rw [e]; rfl⟩
    · have h2 : c ∈ m := by simpa [e] using h
      obtain ⟨x, r, hx, hm⟩ := first_split c m h2
      exact ⟨a :: x, r, by simp [e, hx], by rw [hm]; rfl⟩
/-- What a cut at a byte is. -/
theorem cut_is (c : UInt8) (m : List UInt8) : ∃ x r b, Lib.cut m [c] = (x, r, b) ∧ c ∉ x ∧ (b = true ∧ m = x ++ c :: r ∨ b = false ∧ m = x ∧ r = []) := by
  by_cases h : c ∈ m
  · obtain ⟨x, r, hx, e⟩ := first_split c m h
    exact ⟨x, r, true, by rw [e]; exact cut_in c x r hx, hx, Or.inl ⟨rfl, e⟩⟩
  · exact ⟨m, [], false, cut_no c m h, h, Or.inr ⟨rfl, rfl, rfl⟩⟩
/-- Numbers, a blank behind each. -/
def pre : List Nat → List UInt8
  | [] => []
  | a :: r => Lib.decDigits a ++ 32 :: pre r
theorem pre_snoc (a : Nat) : ∀ d : List Nat, pre (d ++ [a]) = pre d ++ (Lib.decDigits a ++ [32])
  | [] => by simp [pre]
  | b :: d => by simp [pre, pre_snoc a d]
theorem wd_snoc (a : Nat) : ∀ d : List Nat, wd (d ++ [a]) = pre d ++ Lib.decDigits a
  | [] => by simp [pre, wd, Lib.join_one]
  | [b] => by
    show wd (b :: a :: []) = _
    rw [wd_cons]
    simp [pre, wd, Lib.join_one]
  | b :: c :: d => by
    show wd (b :: c :: (d ++ [a])) = _
    rw [wd_cons, show c :: (d ++ [a]) = (c :: d) ++ [a] from rfl, wd_snoc a (c :: d)]
    simp [pre]
/-- What parseNumbers answers. -/
def NumsR (l : List UInt8) (w w' : World) (e : Ending) : Prop :=
  (∃ ad c d, e = .returned (.tuple #[.slice ad d.length c, .bool true]) ∧ OwnU w' w.heap.size (.slice ad d.length c) d ∧ (l = wd d ∨ d.length = 256)) ∨ e = .returned (.tuple #[.slice none 0 0, .bool false])
/-- Where its loop stands. -/
def NumsI (l m : List UInt8) (d : List Nat) (b : Bool) : Prop := d.length ≤ 256 ∧ m.length ≤ l.length ∧ (b = true ∧ l = pre d ++ m ∨ b = false ∧ l = wd d)
theorem NumsI.next {l m x r : List UInt8} {d : List Nat} {b : Bool} {n : Nat} (h : NumsI l m d true) (hd : d.length ≤ 255) (hx : Lib.decDigits n = x) (hc : b = true ∧ m = x ++ 32 :: r ∨ b = false ∧ m = x ∧ r = []) : NumsI l r (d ++ [n]) b := by
  obtain ⟨h1, h2, h3⟩ := h
  have h4 : l = pre d ++ m := by
    rcases h3 with ⟨_, h⟩ | ⟨h, _⟩
    · exact h
    · cases h
  refine ⟨by simp; omega, ?_, ?_⟩
  · rcases hc with ⟨_, e⟩ | ⟨_, _, e⟩
    · have : m.length = x.length + (r.length + 1) := by rw [e]; simp
      omega
    · rw [e]; simp
  · rcases hc with ⟨hb, e⟩ | ⟨hb, e, _⟩
    · exact Or.inl ⟨hb, by rw [h4, e, pre_snoc, hx]; simp⟩
    · exact Or.inr ⟨hb, by rw [h4, e, wd_snoc, hx]⟩
set_option maxHeartbeats 2000000 in
theorem nums_any (l : List UInt8) (w : World) (hl : l.length < 140737488351233) (ht : Tabs w) (hE : ErrsAt w) :
    Calls Tryz.prog 57 #[.string ⟨l.toArray⟩] w fun e w' => NumsR l w w' e ∧ Below w.heap.size w w' := by
  obtain ⟨j0, hj0, hy0, hy1, hy2⟩ := info_parts info23
  have HT : Hid (Tabs w) := ht
  have HE : Hid (ErrsAt w) := hE
  have HL : Hid (l.length < 140737488351233) := hl
  clear ht hE hl
  go_enter Tryz.func57, Tryz.ntmps57
  go_wp2
  go_loopw [0, 4, 5] (fun s t b wr => ∃ (d : List Nat) (m : List UInt8) (q : Bool), NumsI l m d q ∧ s = .string ⟨m.toArray⟩ ∧ b = .bool q ∧ OwnU wr w.heap.size t d ∧ Below w.heap.size w wr) (fun _ t _ _ => 257 - slen t)
  case atStart => exact ⟨[], l, true, ⟨by simp, Nat.le_refl _, Or.inl ⟨rfl, rfl⟩⟩, rfl, rfl, ⟨World.ownsRow_nil _ _ _ _, by simp, by simp⟩, Below.refl _ _⟩
  case round =>
    obtain ⟨d, m, q, hi, rfl, rfl, ho, hb⟩ := hrel
    obtain ⟨ad, c, rfl⟩ := slice_of_owns ho.1
    have HO : Hid (OwnU _ _ _ _) := ho
    have HB : Hid (Below _ _ _) := hb
    have HI : Hid (NumsI l m d q) := hi
    clear ho hb hi
    cases q with
    | false =>
      go_wp2
      go_ret2
      exact ⟨Or.inl ⟨_, _, d, rfl, HO.out, by
        obtain ⟨_, _, ⟨h, _⟩ | ⟨_, h⟩⟩ := HI.out
        · cases h
        · exact Or.inl h⟩, HB.out⟩
    | true =>
      by_cases hd : d.length = 256
      · have hd1 : ¬ ((d.length : Int) ≤ 255) := by omega
        have HD : Hid (d.length = 256) := hd
        clear hd
        go_wp2
        go_ret2
        exact ⟨Or.inl ⟨_, _, d, rfl, HO.out, Or.inr HD.out⟩, HB.out⟩
      · have hd0 : d.length ≤ 255 := by have := HI.out.1; omega
        have hd1 : (d.length : Int) ≤ 255 := by omega
        have HD : Hid (d.length ≤ 255) := hd0
        obtain ⟨x, r, b2, hcut, hnx, hcs⟩ := cut_is 32 m
        have hml := HI.out.2.1
        have hsz : m.length < 140737488351233 := by have := HL.out; omega
        have HX : Hid (x.length ≤ 281474976710656) := by
          unfold Hid
          rcases hcs with ⟨_, e⟩ | ⟨_, e, _⟩
          · have : m.length = x.length + (r.length + 1) := by rw [e]; simp
            omega
          · rw [← e]; omega
        have HCUT : Hid (_ : Prop) := scut_c ⟨m.toArray⟩ 32 (by rw [list_size]; exact hsz) wr
        rw [show (⟨m.toArray⟩ : ByteArray).data.toList = m by simp, hcut] at HCUT
        have HCS : Hid (_ ∨ _) := hcs
        clear hcut hnx hcs hml hsz hd hd0
        go_wp2_with fail
        refine Calls.mono HCUT.out ?_
        rintro e w4 ⟨rfl, nn, rfl⟩
        have HB4 : Hid (Below w.heap.size w (wr.drewN nn)) := below_drewN HB.out nn
        have HO4 : Hid (OwnU (wr.drewN nn) w.heap.size (.slice ad d.length c) d) := HO.out
        clear HCUT HB HO
        generalize wr.drewN nn = w4 at *
        have HP : Hid (_ : Prop) := pnum_any x HX.out w4 (HE.out.below HB4.out) (HT.out.below HB4.out)
        go_wp2_with fail
        refine Calls.mono HP.out ?_
        rintro e w5 ⟨he, hb5⟩
        have HB5 : Hid (Below w.heap.size w w5) := HB4.out.trans (hb5.mono HB4.out.size)
        have HO5 : Hid (OwnU w5 w.heap.size (.slice ad d.length c) d) := HO4.out.below hb5
        have h5 := HB5.out.size
        clear hb5 HB4 HO4 HP HX
        cases hn : nmO x with
        | none =>
          rw [hn] at he
          obtain rfl := (show e = .returned (.tuple #[.int .u32 0, .bool false]) from he)
          clear hn
          go_wp2
          go_ret2
          exact ⟨Or.inr rfl, HB5.out⟩
        | some n =>
          rw [hn] at he
          obtain rfl := (show e = .returned (.tuple #[.int .u32 (n : Int), .bool true]) from he)
          have HN : Hid (n < 4294967296 ∧ Lib.decDigits n = x) := nmO_some hn
          clear hn
          go_wp2_with (at_builtin; refine wpList_append_own _ rfl _ _ 22 rfl w.heap.size 26 j0 (.int .u32 0) 1 4 Tryz.underlying22 hj0 hy0 hy1 hy2 rfl (by decide) _ _ _ rfl (HO5.out.1.alloc _) ⟨w5.heap.size, 0, none⟩ 1 1 [.int .u32 (n : Int)] rfl rfl (news1 w5 _ 26) (one_u32 _) (by unfold maxLen; omega) (by omega) (Nat.le_trans h5 (by simp)) ?_; intro v6 w6 hown6 hgrow6 _)
          have hos : OwnU w6 w.heap.size v6 (d ++ [n]) := by
            refine ⟨by rw [cellsU_snoc, List.length_append]; exact hown6, ?_, by simp; omega⟩
            intro y hy
            rcases List.mem_append.mp hy with hy | hy
            · exact HO5.out.2.1 y hy
            · rw [List.mem_singleton.mp hy]; exact HN.out.1
          obtain ⟨ad6, c6, rfl⟩ := slice_of_owns hown6
          have hbw : Below w.heap.size w5 w6 := ((Below.refl _ _).alloc h5 _).grown hgrow6 (Nat.le_trans h5 (by simp)) (fun k e => (HO5.out.1.lt k e).1)
          have HB6 : Hid (Below w.heap.size w w6) := HB5.out.trans hbw
          have HI2 : Hid (NumsI l r (d ++ [n]) b2) := HI.out.next HD.out HN.out.2 HCS.out
          clear hown6 hgrow6 hbw
          go_roundw
          case rel => exact ⟨d ++ [n], r, b2, HI2.out, rfl, rfl, hos, HB6.out⟩
          case measure => simp [slen]; omega
end Go.Proofs.YtbdfigfjoiefiabGreatDoor
