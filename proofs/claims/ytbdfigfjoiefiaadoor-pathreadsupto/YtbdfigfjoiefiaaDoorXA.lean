/-
  parseNumbers, whatever the text is.
-/
import Derived.Test.YtbdfigfjoiefiaaDoorX1
import Derived.Test.YtbdfigfjoiefiaaDoorU4
import Derived.Test.YtbdfigfjoiefiaaDoorU7
set_option linter.unusedVariables false
set_option linter.unusedSimpArgs false
set_option maxRecDepth 100000
namespace Go.Proofs.YtbdfigfjoiefiaaDoor
open Go.RowKit
theorem first_split (c : UInt8) : ∀ m : List UInt8, c ∈ m → ∃ x r, c ∉ x ∧ m = x ++ c :: r
  | [], h => by simp at h
  | a :: m, h => by
    by_cases e : c = a
    · exact ⟨[], m, by simp, by rw [e]; rfl⟩
    · have h2 : c ∈ m := by simpa [e] using h
      obtain ⟨x, r, hx, hm⟩ := first_split c m h2
      exact ⟨a :: x, r, by simp [e, hx], by rw [hm]; rfl⟩
/-- What a cut at a byte is. -/
theorem cut_is (c : UInt8) (m : List UInt8) : ∃ x r b, Lib.cut m [c] = (x, r, b) ∧ c ∉ x ∧ (b = true ∧ m = x ++ c :: r ∨ b = false ∧ m = x ∧ r = []) := by
  by_cases h : c ∈ m
  · obtain ⟨x, r, hx, e⟩ := first_split c m h
    exact ⟨x, r, true, by rw [e]; exact cut_in c x r hx, hx, Or.inl ⟨rfl, e⟩⟩
  · exact ⟨m, [], false, cut_no c m h, h, Or.inr ⟨rfl, rfl, rfl⟩⟩
/-- Numbers, a blank behind each. -/
def pre : List Nat → List UInt8
  | [] => []
  | a :: r => Lib.decDigits a ++ 32 :: pre r
theorem pre_snoc (a : Nat) : ∀ d : List Nat, pre (d ++ [a]) = pre d ++ (Lib.decDigits a ++ [32])
  | [] => by simp [pre]
  | b :: d => by simp [pre, pre_snoc a d]
theorem wd_snoc (a : Nat) : ∀ d : List Nat, wd (d ++ [a]) = pre d ++ Lib.decDigits a
  | [] => by simp [pre, wd, Lib.join_one]
  | [b] => by
    show wd (b :: a :: []) = _
    rw [wd_cons]
    simp [pre, wd, Lib.join_one]
  | b :: c :: d => by
    show wd (b :: c :: (d ++ [a])) = _
    rw [wd_cons, show c :: (d ++ [a]) = (c :: d) ++ [a] from rfl, wd_snoc a (c :: d)]
    simp [pre]
/-- What parseNumbers answers. -/
def NumsR (l : List UInt8) (w w' : World) (e : Ending) : Prop :=
  (∃ ad c d, e = .returned (.tuple #[.slice ad d.length c, .bool true]) ∧ OwnU w' w.heap.size (.slice ad d.length c) d ∧ (l = wd d ∨ d.length = 256)) ∨ e = .returned (.tuple #[.slice none 0 0, .bool false])
/-- Where its loop stands. -/
def NumsI (l m : List UInt8) (d : List Nat) (b : Bool) : Prop := d.length ≤ 256 ∧ m.length ≤ l.length ∧ (b = true ∧ l = pre d ++ m ∨ b = false ∧ l = wd d)
theorem NumsI.next {l m x r : List UInt8} {d : List Nat} {b : Bool} {n : Nat} (h : NumsI l m d true) (hd : d.length ≤ 255) (hx : Lib.decDigits n = x) (hc : b = true ∧ m = x ++ 32 :: r ∨ b = false ∧ m = x ∧ r = []) : NumsI l r (d ++ [n]) b := by
  obtain ⟨h1, h2, h3⟩ := h
  have h4 : l = pre d ++ m := by
    rcases h3 with ⟨_, h⟩ | ⟨h, _⟩
    · exact h
    · cases h
  refine ⟨by simp; omega, ?_, ?_⟩
  · rcases hc with ⟨_, e⟩ | ⟨_, _, e⟩
    · have : m.length = x.length + (r.length + 1) := by rw [e]; simp
      omega
    · rw [e]; simp
  · rcases hc with ⟨hb, e⟩ | ⟨hb, e, _⟩
    · exact Or.inl ⟨hb, by rw [h4, e, pre_snoc, hx]; simp⟩
    · exact Or.inr ⟨hb, by rw [h4, e, wd_snoc, hx]⟩
set_option maxHeartbeats 2000000 in
theorem nums_any (l : List UInt8) (w : World) (hl : l.length < 140737488351233) (ht : Tabs w) (hE : ErrsAt w) :
    Calls Tryd.prog 91 #[.string ⟨l.toArray⟩] w fun e w' => NumsR l w w' e ∧ Below w.heap.size w w' := by
  obtain ⟨j0, hj0, hy0, hy1, hy2⟩ := info_parts info23
  have HT : Hid (Tabs w) := ht
  have HE : Hid (ErrsAt w) := hE
  have HL : Hid (l.length < 140737488351233) := hl
  clear ht hE hl
  go_enter Tryd.func91, Tryd.ntmps91
  go_wp2
  go_loopw [0, 4, 5] (fun s t b wr => ∃ (d : List Nat) (m : List UInt8) (q : Bool), NumsI l m d q ∧ s = .string ⟨m.toArray⟩ ∧ b = .bool q ∧ OwnU wr w.heap.size t d ∧ Below w.heap.size w wr) (fun _ t _ _ => 257 - slen t)
  case atStart => exact ⟨[], l, true, ⟨by simp, Nat.le_refl _, Or.inl ⟨rfl, rfl⟩⟩, rfl, rfl, ⟨World.ownsRow_nil _ _ _ _, by simp, by simp⟩, Below.refl _ _⟩
  case round =>
    obtain ⟨d, m, q, hi, rfl, rfl, ho, hb⟩ := hrel
    obtain ⟨ad, c, rfl⟩ := slice_of_owns ho.1
    have HO : Hid (OwnU _ _ _ _) := ho
    have HB : Hid (Below _ _ _) := hb
    have HI : Hid (NumsI l m d q) := hi
    clear ho hb hi
    cases q with
    | false =>
      go_wp2
      go_ret2
      exact ⟨Or.inl ⟨_, _, d, rfl, HO.out, by
        obtain ⟨_, _, ⟨h, _⟩ | ⟨_, h⟩⟩ := HI.out
        · cases h
        · exact Or.inl h⟩, HB.out⟩
    | true =>
      by_cases hd : d.length = 256
      · have hd1 : ¬ ((d.length : Int) ≤ 255) := by omega
        have HD : Hid (d.length = 256) := hd
        clear hd
        go_wp2
        go_ret2
        exact ⟨Or.inl ⟨_, _, d, rfl, HO.out, Or.inr HD.out⟩, HB.out⟩
      · have hd0 : d.length ≤ 255 := by have := HI.out.1; omega
        have hd1 : (d.length : Int) ≤ 255 := by omega
        have HD : Hid (d.length ≤ 255) := hd0
        obtain ⟨x, r, b2, hcut, hnx, hcs⟩ := cut_is 32 m
        have hml := HI.out.2.1
        have hsz : m.length < 140737488351233 := by have := HL.out; omega
        have HX : Hid (x.length ≤ 281474976710656) := by
          unfold Hid
          rcases hcs with ⟨_, e⟩ | ⟨_, e, _⟩
          · have : m.length = x.length + (r.length + 1) := by rw [e]; simp
            omega
          · rw [← e]; omega
        have HCUT : Hid (_ : Prop) := scut_c ⟨m.toArray⟩ 32 (by rw [list_size]; exact hsz) wr
        rw [show (⟨m.toArray⟩ : ByteArray).data.toList = m by simp, hcut] at HCUT
        have HCS : Hid (_ ∨ _) := hcs
        clear hcut hnx hcs hml hsz hd hd0
        go_wp2_with fail
        refine Calls.mono HCUT.out ?_
        rintro e w4 ⟨rfl, nn, rfl⟩
        have HB4 : Hid (Below w.heap.size w (wr.drewN nn)) := below_drewN HB.out nn
        have HO4 : Hid (OwnU (wr.drewN nn) w.heap.size (.slice ad d.length c) d) := HO.out
        clear HCUT HB HO
        generalize wr.drewN nn = w4 at *
        have HP : Hid (_ : Prop) := pnum_any x HX.out w4 (HE.out.below HB4.out) (HT.out.below HB4.out)
        go_wp2_with fail
        refine Calls.mono HP.out ?_
        rintro e w5 ⟨he, hb5⟩
        have HB5 : Hid (Below w.heap.size w w5) := HB4.out.trans (hb5.mono HB4.out.size)
        have HO5 : Hid (OwnU w5 w.heap.size (.slice ad d.length c) d) := HO4.out.below hb5
        have h5 := HB5.out.size
        clear hb5 HB4 HO4 HP HX
        cases hn : nmO x with
        | none =>
          rw [hn] at he
          obtain rfl := (show e = .returned (.tuple #[.int .u32 0, .bool false]) from he)
          clear hn
          go_wp2
          go_ret2
          exact ⟨Or.inr rfl, HB5.out⟩
        | some n =>
          rw [hn] at he
          obtain rfl := (show e = .returned (.tuple #[.int .u32 (n : Int), .bool true]) from he)
          have HN : Hid (n < 4294967296 ∧ Lib.decDigits n = x) := nmO_some hn
          clear hn
          go_wp2_with (at_builtin; refine wpList_append_own _ rfl _ _ 31 rfl w.heap.size 23 j0 (.int .u32 0) 1 4 Tryd.underlying31 hj0 hy0 hy1 hy2 rfl (by decide) _ _ _ rfl (HO5.out.1.alloc _) ⟨w5.heap.size, 0, none⟩ 1 1 [.int .u32 (n : Int)] rfl rfl (news1 w5 _ 23) (one_u32 _) (by unfold maxLen; omega) (by omega) (Nat.le_trans h5 (by simp)) ?_; intro v6 w6 hown6 hgrow6 _)
          have hos : OwnU w6 w.heap.size v6 (d ++ [n]) := by
            refine ⟨by rw [cellsU_snoc, List.length_append]; exact hown6, ?_, by simp; omega⟩
            intro y hy
            rcases List.mem_append.mp hy with hy | hy
            · exact HO5.out.2.1 y hy
            · rw [List.mem_singleton.mp hy]; exact HN.out.1
          obtain ⟨ad6, c6, rfl⟩ := slice_of_owns hown6
          have hbw : Below w.heap.size w5 w6 := ((Below.refl _ _).alloc h5 _).grown hgrow6 (Nat.le_trans h5 (by simp)) (fun k e => (HO5.out.1.lt k e).1)
          have HB6 : Hid (Below w.heap.size w w6) := HB5.out.trans hbw
          have HI2 : Hid (NumsI l r (d ++ [n]) b2) := HI.out.next HD.out HN.out.2 HCS.out
          clear hown6 hgrow6 hbw
          go_roundw
          case rel => exact ⟨d ++ [n], r, b2, HI2.out, rfl, rfl, hos, HB6.out⟩
          case measure => simp [slen]; omega
end Go.Proofs.YtbdfigfjoiefiaaDoor

set_option linter.unusedVariables false
set_option linter.unusedSimpArgs false
set_option maxRecDepth 100000
namespace Go.Proofs.YtbdfigfjoiefiaaDoor
open Go.RowKit
theorem opn_lit : opn 1 = 123 ∧ opn 2 = 60 ∧ opn 3 = 40 ∧ opn 4 = 91 := ⟨rfl, rfl, rfl, rfl⟩
theorem hp_nil (c : UInt8) : Lib.hasPrefix [] [c] = false := rfl
theorem hp_cons (a c : UInt8) (X : List UInt8) : Lib.hasPrefix (a :: X) [c] = (c == a) := by simp [Lib.hasPrefix, List.isPrefixOf]
/-- With which bracket a text begins. -/
theorem head_kind (l : List UInt8) : ∃ K, 1 ≤ K ∧ K ≤ 5 ∧ (∀ j, 1 ≤ j → j ≤ 4 → Lib.hasPrefix l [opn j] = decide (j = K)) ∧ (K ≤ 4 → ∃ X, l = opn K :: X) := by
  cases l with
  | nil => exact ⟨5, by omega, by omega, fun j h1 h2 => by rw [hp_nil]; simp; omega, fun h => by omega⟩
  | cons a X =>
    have key : ∀ j k : Nat, 1 ≤ j → j ≤ 4 → 1 ≤ k → k ≤ 4 → (opn j == opn k) = decide (j = k) := by
      intro j k a b c d
      rcases (show j = 1 ∨ j = 2 ∨ j = 3 ∨ j = 4 by omega) with rfl | rfl | rfl | rfl <;> rcases (show k = 1 ∨ k = 2 ∨ k = 3 ∨ k = 4 by omega) with rfl | rfl | rfl | rfl <;> rfl
    by_cases h1 : a = opn 1
    · exact ⟨1, by omega, by omega, fun j p q => by rw [hp_cons, h1]; exact key j 1 p q (by omega) (by omega), fun _ => ⟨X, by rw [h1]⟩⟩
    · by_cases h2 : a = opn 2
      · exact ⟨2, by omega, by omega, fun j p q => by rw [hp_cons, h2]; exact key j 2 p q (by omega) (by omega), fun _ => ⟨X, by rw [h2]⟩⟩
      · by_cases h3 : a = opn 3
        · exact ⟨3, by omega, by omega, fun j p q => by rw [hp_cons, h3]; exact key j 3 p q (by omega) (by omega), fun _ => ⟨X, by rw [h3]⟩⟩
        · by_cases h4 : a = opn 4
          · exact ⟨4, by omega, by omega, fun j p q => by rw [hp_cons, h4]; exact key j 4 p q (by omega) (by omega), fun _ => ⟨X, by rw [h4]⟩⟩
          · refine ⟨5, by omega, by omega, fun j p q => ?_, fun h => by omega⟩
            rw [hp_cons, show decide (j = 5) = false by simp; omega]
            have : j = 1 ∨ j = 2 ∨ j = 3 ∨ j = 4 := by omega
            rcases this with rfl | rfl | rfl | rfl <;> simp <;> intro e <;> first | exact h1 e.symm | exact h2 e.symm | exact h3 e.symm | exact h4 e.symm
/-- What parseSeg answers. -/
def SegR (l : List UInt8) (w w' : World) (e : Ending) : Prop :=
  (∃ (k : Nat) (ad : Option Addr) (c : Nat) (d : List Nat) (rest X : List UInt8), 1 ≤ k ∧ k ≤ 4 ∧ e = .returned (.tuple #[.agg #[.int .i64 (k : Int), .slice ad d.length c], .string ⟨rest.toArray⟩, .bool true]) ∧ OwnU w' w.heap.size (.slice ad d.length c) d ∧ l = opn k :: (X ++ shut k :: rest) ∧ (X = wd d ∨ d.length = 256)) ∨
  (∃ (k : Nat) (t : ByteArray), e = .returned (.tuple #[.agg #[.int .i64 (k : Int), .slice none 0 0], .string t, .bool false]))
set_option maxHeartbeats 4000000 in
theorem pseg_any (l : List UInt8) (w : World) (hl : l.length < 140737488351233) (ht : Tabs w) (hE : ErrsAt w) :
    Calls Tryd.prog 79 #[.string ⟨l.toArray⟩] w fun e w' => SegR l w w' e ∧ Below w.heap.size w w' := by
  have HB : Hid (Below w.heap.size w (w.alloc (.cells #[.int .i64 0, .slice none 0 0] 48))) := (Below.refl _ _).alloc (Nat.le_refl _) _
  have HT : Hid (Tabs (w.alloc (.cells #[.int .i64 0, .slice none 0 0] 48))) := ht.below HB.out
  have HE : Hid (ErrsAt (w.alloc (.cells #[.int .i64 0, .slice none 0 0] 48))) := hE.below HB.out
  have HL : Hid (l.length < 140737488351233) := hl
  obtain ⟨c0, c1, c2, c3, c4⟩ := HT.out.brs
  obtain ⟨K, hK1, hK5, hKp, hKx⟩ := head_kind l
  have HK : Hid (1 ≤ K ∧ K ≤ 5) := ⟨hK1, hK5⟩
  have HP : Hid (∀ j, 1 ≤ j → j ≤ 4 → Lib.hasPrefix l [opn j] = decide (j = K)) := hKp
  have HX : Hid (K ≤ 4 → ∃ X, l = opn K :: X) := hKx
  clear ht hE hl hK1 hK5 hKp hKx
  go_enter Tryd.func79, Tryd.ntmps79
  go_wp2
  clear c0 c1 c2 c3 c4
  have HZ : Hid (ZAt w (w.alloc (.cells #[.int .i64 0, .slice none 0 0] 48))) := ZAt.start w
  generalize w.alloc (.cells #[.int .i64 0, .slice none 0 0] 48) = W0 at *
  go_loopw [13] (fun i wr => ∃ j : Nat, j ≤ K ∧ i = .int .i64 j ∧ wr = W0) (fun i _ => 6 - (intOf i).toNat)
  case atStart => exact ⟨0, Nat.zero_le _, rfl, rfl⟩
  case round =>
    obtain ⟨j, hj, rfl, rfl⟩ := hrel
    have hjs : j = 0 ∨ j = 1 ∨ j = 2 ∨ j = 3 ∨ j = 4 ∨ j = 5 := by have := HK.out; omega
    have HJ : Hid (j ≤ K) := hj
    clear hj
    rcases hjs with rfl | rfl | rfl | rfl | rfl | rfl
    · rw [show ((0 : Nat) : Int) = 0 from rfl]
      have hix := ix0
      go_wp2
      go_roundw
      case rel => exact ⟨1, HK.out.1, by go_num, trivial⟩
      case measure => simp [intOf]
    · rw [show ((1 : Nat) : Int) = 1 from rfl]
      have hix := ix1
      go_wp2_with fail
      refine (Tryd.strings_HasPrefix _ _ _).mono ?_
      rintro e w1 ⟨rfl, hw⟩
      obtain rfl : wr = w1 := hw.symm
      clear hw
      rw [show Lib.hasPrefix (⟨l.toArray⟩ : ByteArray).data.toList ((⟨#[123, 125]⟩ : ByteArray).extract 0 1).data.toList = decide (1 = K) by
        rw [show ((⟨#[123, 125]⟩ : ByteArray).extract 0 1).data.toList = [opn 1] from rfl, show (⟨l.toArray⟩ : ByteArray).data.toList = l by simp]
        exact HP.out 1 (by omega) (by omega)]
      by_cases hk : 1 = K
      · subst hk
        rw [show decide (1 = 1) = true from rfl]
        obtain ⟨X, hX⟩ := HX.out (by omega)
        have HLX : Hid (l = opn 1 :: X) := hX
        have hXl : X.length < 140737488351233 := by have := HL.out; rw [hX, List.length_cons] at this; omega
        obtain ⟨inner, rest, b, hcut, hnx, hcs⟩ := cut_is 125 X
        have s1 := sl_tail (opn 1) X
        rw [← hX] at s1
        have s2 : ∀ W, (Instr.slice 9 (.string ⟨#[123, 125]⟩) (some (.int .i64 1)) none none).run Tryd.prog W = .ok (.string ⟨#[125]⟩) W := sl_tail 123 [125]
        have hcc := scut_c ⟨X.toArray⟩ 125 (by rw [list_size]; exact hXl) wr.drew
        rw [show (⟨X.toArray⟩ : ByteArray).data.toList = X by simp, hcut] at hcc
        have HCC : Hid (Calls _ _ _ wr.drew _) := hcc
        have HCS : Hid (_ ∨ _) := hcs
        have HIL : Hid (inner.length < 140737488351233) := by
          unfold Hid
          rcases hcs with ⟨_, h⟩ | ⟨_, h, _⟩
          · rw [h] at hXl; simp at hXl; omega
          · rw [← h]; exact hXl
        clear hix hcc hcs hcut hnx hX hXl HP HX HJ HL
        go_wp2
        go_region_held (fun _ => True) (trivial)
          (first | (go_at_call 90; refine HCC.out.mono ?_; rintro e w5 ⟨rfl, nn, rfl⟩))
        have HB5 : Hid (Below w.heap.size w (wr.drewN (1 + nn))) := below_drewN HB.out (1 + nn)
        have HT5 : Hid (Tabs (wr.drewN (1 + nn))) := HT.out.below (below_drewN (Below.refl _ wr) (1 + nn))
        have HE5 : Hid (ErrsAt (wr.drewN (1 + nn))) := HE.out.below (below_drewN (Below.refl _ wr) (1 + nn))
        have HZ5 : Hid (ZAt w (wr.drewN (1 + nn))) := HZ.out.below (below_drewN (Below.refl _ wr) (1 + nn))
        clear HB HT HE HZ HCC s1 s2
        cases b with
        | false =>
          obtain ⟨z0, z1, g0, g1, _⟩ := HZ5.out
          generalize wr.drewN (1 + nn) = w5 at *
          go_wp2
          have hg := HZ5.out.got (.int .i64 0) (.slice none 0 0)
          refine bodyPost_ret (v := .tuple #[.agg #[.int .i64 0, .slice none 0 0], .string ⟨#[]⟩, .bool false]) (by simp [results, Tryd.results79, go_sem, hg.1, hg.2]) rfl ?_
          exact ⟨Or.inr ⟨0, _, rfl⟩, (HB5.out.setCell (Nat.le_refl _) _).setCell (Nat.le_refl _) _⟩
        | true =>
          have HXe : Hid (l = opn 1 :: (inner ++ shut 1 :: rest)) := by
            unfold Hid
            rcases HCS.out with ⟨_, h⟩ | ⟨h, _⟩
            · rw [HLX.out, h]; rfl
            · cases h
          clear HLX HCS
          go_wp2_with fail
          generalize wr.drewN (1 + nn) = w5 at *
          refine Calls.mono (nums_any inner w5 HIL.out HT5.out HE5.out) ?_
          rintro e w6 ⟨hr, hb6⟩
          have HZ6 : Hid (ZAt w w6) := HZ5.out.below hb6
          have HB6 : Hid (Below w.heap.size w w6) := HB5.out.trans (hb6.mono HB5.out.size)
          obtain ⟨z0, z1, g0, g1, _⟩ := HZ6.out
          rcases hr with ⟨ad, c, d, rfl, hou, hd⟩ | rfl
          · have HU6 : Hid (OwnU w6 (w.heap.size + 1) (.slice ad d.length c) d) := hou.mono HZ5.out.hs
            have HD : Hid (inner = wd d ∨ d.length = 256) := hd
            clear hou hd hb6 HZ5 HT5 HE5 HB5
            go_wp2
            have hg := HZ6.out.got (.int .i64 1) (.slice ad d.length c)
            refine bodyPost_ret (v := .tuple #[.agg #[.int .i64 1, .slice ad d.length c], .string ⟨rest.toArray⟩, .bool true]) (by simp [results, Tryd.results79, go_sem, hg.1, hg.2]) rfl ?_
            refine ⟨Or.inl ⟨1, ad, c, d, rest, inner, by omega, by omega, rfl, ⟨owns_mono (owns_set (owns_set HU6.out.1 (b := w.heap.size) (fun g e => by have := (HU6.out.1.lt g e).1; omega) 0 _) (b := w.heap.size) (fun g e => by have := (HU6.out.1.lt g e).1; omega) 1 _) (by omega), HU6.out.2⟩, HXe.out, HD.out⟩, (HB6.out.setCell (Nat.le_refl _) _).setCell (Nat.le_refl _) _⟩
          · clear hb6 HZ5 HT5 HE5 HB5
            go_wp2
            have hg := HZ6.out.got (.int .i64 1) (.slice none 0 0)
            refine bodyPost_ret (v := .tuple #[.agg #[.int .i64 1, .slice none 0 0], .string ⟨rest.toArray⟩, .bool false]) (by simp [results, Tryd.results79, go_sem, hg.1, hg.2]) rfl ?_
            exact ⟨Or.inr ⟨1, _, rfl⟩, (HB6.out.setCell (Nat.le_refl _) _).setCell (Nat.le_refl _) _⟩
      · rw [show decide (1 = K) = false by simpa using hk]
        have HJ2 : Hid (2 ≤ K) := by have := HJ.out; unfold Hid; omega
        clear hk HJ
        go_wp2
        go_roundw
        case rel => exact ⟨2, HJ2.out, by go_num, trivial⟩
        case measure => simp [intOf]
    · rw [show ((2 : Nat) : Int) = 2 from rfl]
      have hix := ix2
      go_wp2_with fail
      refine (Tryd.strings_HasPrefix _ _ _).mono ?_
      rintro e w1 ⟨rfl, hw⟩
      obtain rfl : wr = w1 := hw.symm
      clear hw
      rw [show Lib.hasPrefix (⟨l.toArray⟩ : ByteArray).data.toList ((⟨#[60, 62]⟩ : ByteArray).extract 0 1).data.toList = decide (2 = K) by
        rw [show ((⟨#[60, 62]⟩ : ByteArray).extract 0 1).data.toList = [opn 2] from rfl, show (⟨l.toArray⟩ : ByteArray).data.toList = l by simp]
        exact HP.out 2 (by omega) (by omega)]
      by_cases hk : 2 = K
      · subst hk
        rw [show decide (2 = 2) = true from rfl]
        obtain ⟨X, hX⟩ := HX.out (by omega)
        have HLX : Hid (l = opn 2 :: X) := hX
        have hXl : X.length < 140737488351233 := by have := HL.out; rw [hX, List.length_cons] at this; omega
        obtain ⟨inner, rest, b, hcut, hnx, hcs⟩ := cut_is 62 X
        have s1 := sl_tail (opn 2) X
        rw [← hX] at s1
        have s2 : ∀ W, (Instr.slice 9 (.string ⟨#[60, 62]⟩) (some (.int .i64 1)) none none).run Tryd.prog W = .ok (.string ⟨#[62]⟩) W := sl_tail 60 [62]
        have hcc := scut_c ⟨X.toArray⟩ 62 (by rw [list_size]; exact hXl) wr.drew
        rw [show (⟨X.toArray⟩ : ByteArray).data.toList = X by simp, hcut] at hcc
        have HCC : Hid (Calls _ _ _ wr.drew _) := hcc
        have HCS : Hid (_ ∨ _) := hcs
        have HIL : Hid (inner.length < 140737488351233) := by
          unfold Hid
          rcases hcs with ⟨_, h⟩ | ⟨_, h, _⟩
          · rw [h] at hXl; simp at hXl; omega
          · rw [← h]; exact hXl
        clear hix hcc hcs hcut hnx hX hXl HP HX HJ HL
        go_wp2
        go_region_held (fun _ => True) (trivial)
          (first | (go_at_call 90; refine HCC.out.mono ?_; rintro e w5 ⟨rfl, nn, rfl⟩))
        have HB5 : Hid (Below w.heap.size w (wr.drewN (1 + nn))) := below_drewN HB.out (1 + nn)
        have HT5 : Hid (Tabs (wr.drewN (1 + nn))) := HT.out.below (below_drewN (Below.refl _ wr) (1 + nn))
        have HE5 : Hid (ErrsAt (wr.drewN (1 + nn))) := HE.out.below (below_drewN (Below.refl _ wr) (1 + nn))
        have HZ5 : Hid (ZAt w (wr.drewN (1 + nn))) := HZ.out.below (below_drewN (Below.refl _ wr) (1 + nn))
        clear HB HT HE HZ HCC s1 s2
        cases b with
        | false =>
          obtain ⟨z0, z1, g0, g1, _⟩ := HZ5.out
          generalize wr.drewN (1 + nn) = w5 at *
          go_wp2
          have hg := HZ5.out.got (.int .i64 0) (.slice none 0 0)
          refine bodyPost_ret (v := .tuple #[.agg #[.int .i64 0, .slice none 0 0], .string ⟨#[]⟩, .bool false]) (by simp [results, Tryd.results79, go_sem, hg.1, hg.2]) rfl ?_
          exact ⟨Or.inr ⟨0, _, rfl⟩, (HB5.out.setCell (Nat.le_refl _) _).setCell (Nat.le_refl _) _⟩
        | true =>
          have HXe : Hid (l = opn 2 :: (inner ++ shut 2 :: rest)) := by
            unfold Hid
            rcases HCS.out with ⟨_, h⟩ | ⟨h, _⟩
            · rw [HLX.out, h]; rfl
            · cases h
          clear HLX HCS
          go_wp2_with fail
          generalize wr.drewN (1 + nn) = w5 at *
          refine Calls.mono (nums_any inner w5 HIL.out HT5.out HE5.out) ?_
          rintro e w6 ⟨hr, hb6⟩
          have HZ6 : Hid (ZAt w w6) := HZ5.out.below hb6
          have HB6 : Hid (Below w.heap.size w w6) := HB5.out.trans (hb6.mono HB5.out.size)
          obtain ⟨z0, z1, g0, g1, _⟩ := HZ6.out
          rcases hr with ⟨ad, c, d, rfl, hou, hd⟩ | rfl
          · have HU6 : Hid (OwnU w6 (w.heap.size + 1) (.slice ad d.length c) d) := hou.mono HZ5.out.hs
            have HD : Hid (inner = wd d ∨ d.length = 256) := hd
            clear hou hd hb6 HZ5 HT5 HE5 HB5
            go_wp2
            have hg := HZ6.out.got (.int .i64 2) (.slice ad d.length c)
            refine bodyPost_ret (v := .tuple #[.agg #[.int .i64 2, .slice ad d.length c], .string ⟨rest.toArray⟩, .bool true]) (by simp [results, Tryd.results79, go_sem, hg.1, hg.2]) rfl ?_
            refine ⟨Or.inl ⟨2, ad, c, d, rest, inner, by omega, by omega, rfl, ⟨owns_mono (owns_set (owns_set HU6.out.1 (b := w.heap.size) (fun g e => by have := (HU6.out.1.lt g e).1; omega) 0 _) (b := w.heap.size) (fun g e => by have := (HU6.out.1.lt g e).1; omega) 1 _) (by omega), HU6.out.2⟩, HXe.out, HD.out⟩, (HB6.out.setCell (Nat.le_refl _) _).setCell (Nat.le_refl _) _⟩
          · clear hb6 HZ5 HT5 HE5 HB5
            go_wp2
            have hg := HZ6.out.got (.int .i64 2) (.slice none 0 0)
            refine bodyPost_ret (v := .tuple #[.agg #[.int .i64 2, .slice none 0 0], .string ⟨rest.toArray⟩, .bool false]) (by simp [results, Tryd.results79, go_sem, hg.1, hg.2]) rfl ?_
            exact ⟨Or.inr ⟨2, _, rfl⟩, (HB6.out.setCell (Nat.le_refl _) _).setCell (Nat.le_refl _) _⟩
      · rw [show decide (2 = K) = false by simpa using hk]
        have HJ2 : Hid (3 ≤ K) := by have := HJ.out; unfold Hid; omega
        clear hk HJ
        go_wp2
        go_roundw
        case rel => exact ⟨3, HJ2.out, by go_num, trivial⟩
        case measure => simp [intOf]
    · rw [show ((3 : Nat) : Int) = 3 from rfl]
      have hix := ix3
      go_wp2_with fail
      refine (Tryd.strings_HasPrefix _ _ _).mono ?_
      rintro e w1 ⟨rfl, hw⟩
      obtain rfl : wr = w1 := hw.symm
      clear hw
      rw [show Lib.hasPrefix (⟨l.toArray⟩ : ByteArray).data.toList ((⟨#[40, 41]⟩ : ByteArray).extract 0 1).data.toList = decide (3 = K) by
        rw [show ((⟨#[40, 41]⟩ : ByteArray).extract 0 1).data.toList = [opn 3] from rfl, show (⟨l.toArray⟩ : ByteArray).data.toList = l by simp]
        exact HP.out 3 (by omega) (by omega)]
      by_cases hk : 3 = K
      · subst hk
        rw [show decide (3 = 3) = true from rfl]
        obtain ⟨X, hX⟩ := HX.out (by omega)
        have HLX : Hid (l = opn 3 :: X) := hX
        have hXl : X.length < 140737488351233 := by have := HL.out; rw [hX, List.length_cons] at this; omega
        obtain ⟨inner, rest, b, hcut, hnx, hcs⟩ := cut_is 41 X
        have s1 := sl_tail (opn 3) X
        rw [← hX] at s1
        have s2 : ∀ W, (Instr.slice 9 (.string ⟨#[40, 41]⟩) (some (.int .i64 1)) none none).run Tryd.prog W = .ok (.string ⟨#[41]⟩) W := sl_tail 40 [41]
        have hcc := scut_c ⟨X.toArray⟩ 41 (by rw [list_size]; exact hXl) wr.drew
        rw [show (⟨X.toArray⟩ : ByteArray).data.toList = X by simp, hcut] at hcc
        have HCC : Hid (Calls _ _ _ wr.drew _) := hcc
        have HCS : Hid (_ ∨ _) := hcs
        have HIL : Hid (inner.length < 140737488351233) := by
          unfold Hid
          rcases hcs with ⟨_, h⟩ | ⟨_, h, _⟩
          · rw [h] at hXl; simp at hXl; omega
          · rw [← h]; exact hXl
        clear hix hcc hcs hcut hnx hX hXl HP HX HJ HL
        go_wp2
        go_region_held (fun _ => True) (trivial)
          (first | (go_at_call 90; refine HCC.out.mono ?_; rintro e w5 ⟨rfl, nn, rfl⟩))
        have HB5 : Hid (Below w.heap.size w (wr.drewN (1 + nn))) := below_drewN HB.out (1 + nn)
        have HT5 : Hid (Tabs (wr.drewN (1 + nn))) := HT.out.below (below_drewN (Below.refl _ wr) (1 + nn))
        have HE5 : Hid (ErrsAt (wr.drewN (1 + nn))) := HE.out.below (below_drewN (Below.refl _ wr) (1 + nn))
        have HZ5 : Hid (ZAt w (wr.drewN (1 + nn))) := HZ.out.below (below_drewN (Below.refl _ wr) (1 + nn))
        clear HB HT HE HZ HCC s1 s2
        cases b with
        | false =>
          obtain ⟨z0, z1, g0, g1, _⟩ := HZ5.out
          generalize wr.drewN (1 + nn) = w5 at *
          go_wp2
          have hg := HZ5.out.got (.int .i64 0) (.slice none 0 0)
          refine bodyPost_ret (v := .tuple #[.agg #[.int .i64 0, .slice none 0 0], .string ⟨#[]⟩, .bool false]) (by simp [results, Tryd.results79, go_sem, hg.1, hg.2]) rfl ?_
          exact ⟨Or.inr ⟨0, _, rfl⟩, (HB5.out.setCell (Nat.le_refl _) _).setCell (Nat.le_refl _) _⟩
        | true =>
          have HXe : Hid (l = opn 3 :: (inner ++ shut 3 :: rest)) := by
            unfold Hid
            rcases HCS.out with ⟨_, h⟩ | ⟨h, _⟩
            · rw [HLX.out, h]; rfl
            · cases h
          clear HLX HCS
          go_wp2_with fail
          generalize wr.drewN (1 + nn) = w5 at *
          refine Calls.mono (nums_any inner w5 HIL.out HT5.out HE5.out) ?_
          rintro e w6 ⟨hr, hb6⟩
          have HZ6 : Hid (ZAt w w6) := HZ5.out.below hb6
          have HB6 : Hid (Below w.heap.size w w6) := HB5.out.trans (hb6.mono HB5.out.size)
          obtain ⟨z0, z1, g0, g1, _⟩ := HZ6.out
          rcases hr with ⟨ad, c, d, rfl, hou, hd⟩ | rfl
          · have HU6 : Hid (OwnU w6 (w.heap.size + 1) (.slice ad d.length c) d) := hou.mono HZ5.out.hs
            have HD : Hid (inner = wd d ∨ d.length = 256) := hd
            clear hou hd hb6 HZ5 HT5 HE5 HB5
            go_wp2
            have hg := HZ6.out.got (.int .i64 3) (.slice ad d.length c)
            refine bodyPost_ret (v := .tuple #[.agg #[.int .i64 3, .slice ad d.length c], .string ⟨rest.toArray⟩, .bool true]) (by simp [results, Tryd.results79, go_sem, hg.1, hg.2]) rfl ?_
            refine ⟨Or.inl ⟨3, ad, c, d, rest, inner, by omega, by omega, rfl, ⟨owns_mono (owns_set (owns_set HU6.out.1 (b := w.heap.size) (fun g e => by have := (HU6.out.1.lt g e).1; omega) 0 _) (b := w.heap.size) (fun g e => by have := (HU6.out.1.lt g e).1; omega) 1 _) (by omega), HU6.out.2⟩, HXe.out, HD.out⟩, (HB6.out.setCell (Nat.le_refl _) _).setCell (Nat.le_refl _) _⟩
          · clear hb6 HZ5 HT5 HE5 HB5
            go_wp2
            have hg := HZ6.out.got (.int .i64 3) (.slice none 0 0)
            refine bodyPost_ret (v := .tuple #[.agg #[.int .i64 3, .slice none 0 0], .string ⟨rest.toArray⟩, .bool false]) (by simp [results, Tryd.results79, go_sem, hg.1, hg.2]) rfl ?_
            exact ⟨Or.inr ⟨3, _, rfl⟩, (HB6.out.setCell (Nat.le_refl _) _).setCell (Nat.le_refl _) _⟩
      · rw [show decide (3 = K) = false by simpa using hk]
        have HJ2 : Hid (4 ≤ K) := by have := HJ.out; unfold Hid; omega
        clear hk HJ
        go_wp2
        go_roundw
        case rel => exact ⟨4, HJ2.out, by go_num, trivial⟩
        case measure => simp [intOf]
    · rw [show ((4 : Nat) : Int) = 4 from rfl]
      have hix := ix4
      go_wp2_with fail
      refine (Tryd.strings_HasPrefix _ _ _).mono ?_
      rintro e w1 ⟨rfl, hw⟩
      obtain rfl : wr = w1 := hw.symm
      clear hw
      rw [show Lib.hasPrefix (⟨l.toArray⟩ : ByteArray).data.toList ((⟨#[91, 93]⟩ : ByteArray).extract 0 1).data.toList = decide (4 = K) by
        rw [show ((⟨#[91, 93]⟩ : ByteArray).extract 0 1).data.toList = [opn 4] from rfl, show (⟨l.toArray⟩ : ByteArray).data.toList = l by simp]
        exact HP.out 4 (by omega) (by omega)]
      by_cases hk : 4 = K
      · subst hk
        rw [show decide (4 = 4) = true from rfl]
        obtain ⟨X, hX⟩ := HX.out (by omega)
        have HLX : Hid (l = opn 4 :: X) := hX
        have hXl : X.length < 140737488351233 := by have := HL.out; rw [hX, List.length_cons] at this; omega
        obtain ⟨inner, rest, b, hcut, hnx, hcs⟩ := cut_is 93 X
        have s1 := sl_tail (opn 4) X
        rw [← hX] at s1
        have s2 : ∀ W, (Instr.slice 9 (.string ⟨#[91, 93]⟩) (some (.int .i64 1)) none none).run Tryd.prog W = .ok (.string ⟨#[93]⟩) W := sl_tail 91 [93]
        have hcc := scut_c ⟨X.toArray⟩ 93 (by rw [list_size]; exact hXl) wr.drew
        rw [show (⟨X.toArray⟩ : ByteArray).data.toList = X by simp, hcut] at hcc
        have HCC : Hid (Calls _ _ _ wr.drew _) := hcc
        have HCS : Hid (_ ∨ _) := hcs
        have HIL : Hid (inner.length < 140737488351233) := by
          unfold Hid
          rcases hcs with ⟨_, h⟩ | ⟨_, h, _⟩
          · rw [h] at hXl; simp at hXl; omega
          · rw [← h]; exact hXl
        clear hix hcc hcs hcut hnx hX hXl HP HX HJ HL
        go_wp2
        go_region_held (fun _ => True) (trivial)
          (first | (go_at_call 90; refine HCC.out.mono ?_; rintro e w5 ⟨rfl, nn, rfl⟩))
        have HB5 : Hid (Below w.heap.size w (wr.drewN (1 + nn))) := below_drewN HB.out (1 + nn)
        have HT5 : Hid (Tabs (wr.drewN (1 + nn))) := HT.out.below (below_drewN (Below.refl _ wr) (1 + nn))
        have HE5 : Hid (ErrsAt (wr.drewN (1 + nn))) := HE.out.below (below_drewN (Below.refl _ wr) (1 + nn))
        have HZ5 : Hid (ZAt w (wr.drewN (1 + nn))) := HZ.out.below (below_drewN (Below.refl _ wr) (1 + nn))
        clear HB HT HE HZ HCC s1 s2
        cases b with
        | false =>
          obtain ⟨z0, z1, g0, g1, _⟩ := HZ5.out
          generalize wr.drewN (1 + nn) = w5 at *
          go_wp2
          have hg := HZ5.out.got (.int .i64 0) (.slice none 0 0)
          refine bodyPost_ret (v := .tuple #[.agg #[.int .i64 0, .slice none 0 0], .string ⟨#[]⟩, .bool false]) (by simp [results, Tryd.results79, go_sem, hg.1, hg.2]) rfl ?_
          exact ⟨Or.inr ⟨0, _, rfl⟩, (HB5.out.setCell (Nat.le_refl _) _).setCell (Nat.le_refl _) _⟩
        | true =>
          have HXe : Hid (l = opn 4 :: (inner ++ shut 4 :: rest)) := by
            unfold Hid
            rcases HCS.out with ⟨_, h⟩ | ⟨h, _⟩
            · rw [HLX.out, h]; rfl
            · cases h
          clear HLX HCS
          go_wp2_with fail
          generalize wr.drewN (1 + nn) = w5 at *
          refine Calls.mono (nums_any inner w5 HIL.out HT5.out HE5.out) ?_
          rintro e w6 ⟨hr, hb6⟩
          have HZ6 : Hid (ZAt w w6) := HZ5.out.below hb6
          have HB6 : Hid (Below w.heap.size w w6) := HB5.out.trans (hb6.mono HB5.out.size)
          obtain ⟨z0, z1, g0, g1, _⟩ := HZ6.out
          rcases hr with ⟨ad, c, d, rfl, hou, hd⟩ | rfl
          · have HU6 : Hid (OwnU w6 (w.heap.size + 1) (.slice ad d.length c) d) := hou.mono HZ5.out.hs
            have HD : Hid (inner = wd d ∨ d.length = 256) := hd
            clear hou hd hb6 HZ5 HT5 HE5 HB5
            go_wp2
            have hg := HZ6.out.got (.int .i64 4) (.slice ad d.length c)
            refine bodyPost_ret (v := .tuple #[.agg #[.int .i64 4, .slice ad d.length c], .string ⟨rest.toArray⟩, .bool true]) (by simp [results, Tryd.results79, go_sem, hg.1, hg.2]) rfl ?_
            refine ⟨Or.inl ⟨4, ad, c, d, rest, inner, by omega, by omega, rfl, ⟨owns_mono (owns_set (owns_set HU6.out.1 (b := w.heap.size) (fun g e => by have := (HU6.out.1.lt g e).1; omega) 0 _) (b := w.heap.size) (fun g e => by have := (HU6.out.1.lt g e).1; omega) 1 _) (by omega), HU6.out.2⟩, HXe.out, HD.out⟩, (HB6.out.setCell (Nat.le_refl _) _).setCell (Nat.le_refl _) _⟩
          · clear hb6 HZ5 HT5 HE5 HB5
            go_wp2
            have hg := HZ6.out.got (.int .i64 4) (.slice none 0 0)
            refine bodyPost_ret (v := .tuple #[.agg #[.int .i64 4, .slice none 0 0], .string ⟨rest.toArray⟩, .bool false]) (by simp [results, Tryd.results79, go_sem, hg.1, hg.2]) rfl ?_
            exact ⟨Or.inr ⟨4, _, rfl⟩, (HB6.out.setCell (Nat.le_refl _) _).setCell (Nat.le_refl _) _⟩
      · rw [show decide (4 = K) = false by simpa using hk]
        have HJ2 : Hid (5 ≤ K) := by have := HJ.out; unfold Hid; omega
        clear hk HJ
        go_wp2
        go_roundw
        case rel => exact ⟨5, HJ2.out, by go_num, trivial⟩
        case measure => simp [intOf]
    · rw [show ((5 : Nat) : Int) = 5 from rfl]
      obtain ⟨z0, z1, g0, g1, _⟩ := HZ.out
      go_wp2
      have hg := HZ.out.got (.int .i64 0) (.slice none 0 0)
      refine bodyPost_ret (v := .tuple #[.agg #[.int .i64 0, .slice none 0 0], .string ⟨#[]⟩, .bool false]) (by simp [results, Tryd.results79, go_sem, hg.1, hg.2]) rfl ?_
      exact ⟨Or.inr ⟨0, _, rfl⟩, (HB.out.setCell (Nat.le_refl _) _).setCell (Nat.le_refl _) _⟩
end Go.Proofs.YtbdfigfjoiefiaaDoor

set_option linter.unusedVariables false
set_option linter.unusedSimpArgs false
set_option maxRecDepth 100000
namespace Go.Proofs.YtbdfigfjoiefiaaDoor
open Go.RowKit
/-- What the two boxes of a text's reader hold. -/
structure TmAt (w : World) (pm ps : Nat) (q : Bool) (t : List UInt8) : Prop where
  m : w.cell? ⟨pm, 0, none⟩ = some (.bool q)
  s : w.cell? ⟨ps, 0, none⟩ = some (.string ⟨t.toArray⟩)
  fm : w.frozen? ⟨pm, 0, none⟩ = false
  fs : w.frozen? ⟨ps, 0, none⟩ = false
  ne : pm ≠ ps
theorem TmAt.below {w w' : World} {pm ps : Nat} {q : Bool} {m : List UInt8} (h : TmAt w pm ps q m) (hb : Below w.heap.size w w') : TmAt w' pm ps q m :=
  ⟨below_cell hb h.m, below_cell hb h.s, (hb.frozen (p := ⟨pm, 0, none⟩) (lt_of_cell h.m)).trans h.fm, (hb.frozen (p := ⟨ps, 0, none⟩) (lt_of_cell h.s)).trans h.fs, h.ne⟩
theorem TmAt.lt {w : World} {pm ps : Nat} {q : Bool} {m : List UInt8} (h : TmAt w pm ps q m) : pm < w.heap.size ∧ ps < w.heap.size := ⟨lt_of_cell h.m, lt_of_cell h.s⟩
/-- The world behind a call that has read a segment. -/
abbrev turnM (W : World) (pm ps q : Nat) (b : Bool) (m : List UInt8) (u v : Value) : World :=
  (((W.setCell ⟨ps, 0, none⟩ (.string ⟨m.toArray⟩)).setCell ⟨pm, 0, none⟩ (.bool b)).setCell ⟨q, 0, none⟩ u).setCell ⟨q, 1, none⟩ v
theorem TmAt.turn {W : World} {pm ps q : Nat} {b0 : Bool} {m0 : List UInt8} (h : TmAt W pm ps b0 m0) (h1 : q ≠ pm) (h2 : q ≠ ps) (b : Bool) (m : List UInt8) (u v : Value) : TmAt (turnM W pm ps q b m u v) pm ps b m := by
  have hne := h.ne
  refine ⟨?_, ?_, ?_, ?_, h.ne⟩
  · rw [World.cell?_setCell_other _ _ _ _ (by simp <;> omega), World.cell?_setCell_other _ _ _ _ (by simp <;> omega)]
    exact World.cell?_setCell_same _ _ _ (by rw [World.cell?_setCell_other _ _ _ _ (by simp <;> omega)]; exact h.m)
  · rw [World.cell?_setCell_other _ _ _ _ (by simp <;> omega), World.cell?_setCell_other _ _ _ _ (by simp <;> omega), World.cell?_setCell_other _ _ _ _ (by simp <;> omega)]
    exact World.cell?_setCell_same _ _ _ h.s
  · simp only [World.frozen?_setCell]
    exact h.fm
  · simp only [World.frozen?_setCell]
    exact h.fs
theorem Bes.turnM {w W : World} {pm ps : Nat} (h : Bes pm ps w W) (b : Bool) (m : List UInt8) (u v : Value) : Bes pm ps w (turnM W pm ps w.heap.size b m u v) := by
  have s1 := (Below.refl 0 W).setCell (p := ⟨ps, 0, none⟩) (by simp) (.string ⟨m.toArray⟩)
  have s2 := s1.setCell (p := ⟨pm, 0, none⟩) (by simp) (.bool b)
  have s3 := s2.setCell (p := ⟨w.heap.size, 0, none⟩) (by simp) u
  have s4 := s3.setCell (p := ⟨w.heap.size, 1, none⟩) (by simp) v
  refine ⟨s4.os.trans h.os, s4.tape.trans h.tape, s4.output.trans h.output, Nat.le_trans h.size s4.size, fun k hk h1 h2 => ?_⟩
  rw [Below.heap_setCell _ _ _ k (by simp <;> omega), Below.heap_setCell _ _ _ k (by simp <;> omega), Below.heap_setCell _ _ _ k (by simpa using h1), Below.heap_setCell _ _ _ k (by simpa using h2)]
  exact h.block k hk h1 h2
theorem OwnU.turnM {W : World} {pm ps q B : Nat} {x : Value} {l : List Nat} (h : OwnU W B x l) (h1 : pm < B) (h2 : ps < B) (h3 : q < B) (b : Bool) (m : List UInt8) (u v : Value) : OwnU (turnM W pm ps q b m u v) B x l :=
  ⟨owns_heap' h.1 fun g e => by
    have := (h.1.lt g e).1
    rw [Below.heap_setCell _ _ _ g (by simp <;> omega), Below.heap_setCell _ _ _ g (by simp <;> omega), Below.heap_setCell _ _ _ g (by simp <;> omega), Below.heap_setCell _ _ _ g (by simp <;> omega)], h.2⟩
theorem turnM_got {w W : World} {pm ps : Nat} (h : ZAt w W) (h1 : w.heap.size ≠ pm) (h2 : w.heap.size ≠ ps) (b : Bool) (m : List UInt8) (u v : Value) : (turnM W pm ps w.heap.size b m u v).cell? ⟨w.heap.size, 0, none⟩ = some u ∧ (turnM W pm ps w.heap.size b m u v).cell? ⟨w.heap.size, 1, none⟩ = some v := by
  constructor
  · rw [World.cell?_setCell_other _ _ _ _ (by simp)]
    exact World.cell?_setCell_same _ _ _ (by rw [World.cell?_setCell_other _ _ _ _ (by simp <;> omega), World.cell?_setCell_other _ _ _ _ (by simp <;> omega)]; exact h.z0)
  · exact World.cell?_setCell_same _ _ _ (by rw [World.cell?_setCell_other _ _ _ _ (by simp), World.cell?_setCell_other _ _ _ _ (by simp <;> omega), World.cell?_setCell_other _ _ _ _ (by simp <;> omega)]; exact h.z1)
/-- What CutPrefix leaves of a text: a blank or none. -/
theorem cutB (rest : List UInt8) : ∃ (b : Bool) (m : List UInt8), (b = true ∧ rest = 32 :: m ∨ b = false ∧ rest = m) ∧ ∀ X, Calls Tryd.prog 80 #[.string ⟨rest.toArray⟩, .string ⟨#[32]⟩] X fun e w' => e = .returned (.tuple #[.string ⟨m.toArray⟩, .bool b]) ∧ w' = X := by
  cases rest with
  | nil =>
    refine ⟨false, [], Or.inr ⟨rfl, rfl⟩, fun X => ?_⟩
    exact (Tryd.strings_CutPrefix ⟨([] : List UInt8).toArray⟩ ⟨#[32]⟩ X)
  | cons a r =>
    by_cases h : a = 32
    · subst h
      refine ⟨true, r, Or.inl ⟨rfl, rfl⟩, fun X => ?_⟩
      have h := Tryd.strings_CutPrefix ⟨((32 : UInt8) :: r).toArray⟩ ⟨#[32]⟩ X
      have e1 : Lib.hasPrefix (⟨((32 : UInt8) :: r).toArray⟩ : ByteArray).data.toList (⟨#[32]⟩ : ByteArray).data.toList = true := by simp [Lib.hasPrefix, List.isPrefixOf]
      have e2 : Lib.trimPrefix (⟨((32 : UInt8) :: r).toArray⟩ : ByteArray).data.toList (⟨#[32]⟩ : ByteArray).data.toList = r := by simp [Lib.trimPrefix, Lib.hasPrefix, List.isPrefixOf]
      rw [e1, e2] at h
      exact h
    · refine ⟨false, a :: r, Or.inr ⟨rfl, rfl⟩, fun X => ?_⟩
      have h2 := Tryd.strings_CutPrefix ⟨(a :: r).toArray⟩ ⟨#[32]⟩ X
      have hn : ¬ (32 : UInt8) = a := fun e => h e.symm
      have e1 : Lib.hasPrefix (⟨(a :: r).toArray⟩ : ByteArray).data.toList (⟨#[32]⟩ : ByteArray).data.toList = false := by simp [Lib.hasPrefix, List.isPrefixOf, hn]
      have e2 : Lib.trimPrefix (⟨(a :: r).toArray⟩ : ByteArray).data.toList (⟨#[32]⟩ : ByteArray).data.toList = a :: r := by simp [Lib.trimPrefix, Lib.hasPrefix, List.isPrefixOf, hn]
      rw [e1, e2] at h2
      exact h2
/-- What a call of the reader answers: no segment any more, none that is right, or one. -/
def NxR (q : Bool) (m : List UInt8) (pm ps : Nat) (w w' : World) (e : Ending) : Prop :=
  (q = false ∧ m = [] ∧ e = .returned (.tuple #[.agg #[.int .i64 0, .slice none 0 0], .int .i64 5])) ∨
  (e = .returned (.tuple #[.agg #[.int .i64 0, .slice none 0 0], .int .i64 4])) ∨
  (∃ (k : Nat) (ad : Option Addr) (c : Nat) (d : List Nat) (X : List UInt8) (q2 : Bool) (m2 : List UInt8), q = true ∧ 1 ≤ k ∧ k ≤ 4 ∧ e = .returned (.tuple #[.agg #[.int .i64 (k : Int), .slice ad d.length c], .int .i64 0]) ∧ OwnU w' w.heap.size (.slice ad d.length c) d ∧ TmAt w' pm ps q2 m2 ∧ (X = wd d ∨ d.length = 256) ∧ m = opn k :: (X ++ shut k :: (if q2 then 32 :: m2 else m2)))
set_option maxHeartbeats 2000000 in
theorem nextM_f (pm ps : Nat) (a : UInt8) (r : List UInt8) (w : World) (h : TmAt w pm ps false (a :: r)) (hm : (a :: r).length < 140737488351233) (ht : Tabs w) (hE : ErrsAt w) :
    Calls Tryd.prog 78 #[.pointer (some ⟨pm, 0, none⟩), .pointer (some ⟨ps, 0, none⟩)] w fun e w' => NxR false (a :: r) pm ps w w' e ∧ Bes pm ps w w' := by
  have hba : Below w.heap.size w (w.alloc (.cells #[.int .i64 0, .slice none 0 0] 48)) := (Below.refl _ _).alloc (Nat.le_refl _) _
  have HT : Hid (TmAt (w.alloc (.cells #[.int .i64 0, .slice none 0 0] 48)) pm ps false (a :: r)) := h.below hba
  have HB : Hid (Below w.heap.size w (w.alloc (.cells #[.int .i64 0, .slice none 0 0] 48))) := hba
  have HZ : Hid (ZAt w (w.alloc (.cells #[.int .i64 0, .slice none 0 0] 48))) := ZAt.start w
  have hlt := h.lt
  have KP : Hid (_ : Prop) := pseg_any (a :: r) (w.alloc (.cells #[.int .i64 0, .slice none 0 0] 48)) hm (ht.below hba) (hE.below hba)
  have m := HT.out.m
  have s := HT.out.s
  clear hba h hm ht hE hlt
  go_enter Tryd.func78, Tryd.ntmps78
  go_wp2_with fail
  generalize w.alloc (.cells #[.int .i64 0, .slice none 0 0] 48) = W0 at *
  refine Calls.mono KP.out ?_
  rintro e w1 ⟨⟨k, ad, c, d, rest, X, h1, h4, rfl, hou, hl, hx⟩ | ⟨k, t, rfl⟩, hb1⟩
  · clear h1 h4 hou hl hx
    have hba1 : Below w1.heap.size w1 (w1.alloc (.cells #[.int .i64 (k : Int), .slice ad d.length c] 48)) := (Below.refl _ _).alloc (Nat.le_refl _) _
    have HT1 : Hid (TmAt (w1.alloc (.cells #[.int .i64 (k : Int), .slice ad d.length c] 48)) pm ps false _) := (HT.out.below hb1).below hba1
    have HZ1 : Hid (ZAt w (w1.alloc (.cells #[.int .i64 (k : Int), .slice ad d.length c] 48))) := (HZ.out.below hb1).below hba1
    have HB1 : Hid (Below w.heap.size w (w1.alloc (.cells #[.int .i64 (k : Int), .slice ad d.length c] 48))) := (HB.out.trans (hb1.mono HB.out.size)).trans (hba1.mono (Nat.le_trans HB.out.size hb1.size))
    have m1 := HT1.out.m
    have s1 := HT1.out.s
    obtain ⟨z0, z1, g0, g1, _⟩ := HZ1.out
    clear m s hb1 hba1 HT HZ HB KP
    go_wp2
    have hg := HZ1.out.got (.int .i64 0) (.slice none 0 0)
    refine bodyPost_ret (v := .tuple #[.agg #[.int .i64 0, .slice none 0 0], .int .i64 4]) (by simp [results, Tryd.results78, go_sem, hg.1, hg.2]) rfl ⟨Or.inr (Or.inl rfl), ?_⟩
    exact Bes.of_below ((HB1.out.setCell (p := ⟨w.heap.size, 0, none⟩) (Nat.le_refl _) _).setCell (p := ⟨w.heap.size, 1, none⟩) (Nat.le_refl _) _)
  · have hba1 : Below w1.heap.size w1 (w1.alloc (.cells #[.int .i64 (k : Int), .slice none 0 0] 48)) := (Below.refl _ _).alloc (Nat.le_refl _) _
    have HT1 : Hid (TmAt (w1.alloc (.cells #[.int .i64 (k : Int), .slice none 0 0] 48)) pm ps false _) := (HT.out.below hb1).below hba1
    have HZ1 : Hid (ZAt w (w1.alloc (.cells #[.int .i64 (k : Int), .slice none 0 0] 48))) := (HZ.out.below hb1).below hba1
    have HB1 : Hid (Below w.heap.size w (w1.alloc (.cells #[.int .i64 (k : Int), .slice none 0 0] 48))) := (HB.out.trans (hb1.mono HB.out.size)).trans (hba1.mono (Nat.le_trans HB.out.size hb1.size))
    have m1 := HT1.out.m
    have s1 := HT1.out.s
    obtain ⟨z0, z1, g0, g1, _⟩ := HZ1.out
    clear m s hb1 hba1 HT HZ HB KP
    go_wp2
    have hg := HZ1.out.got (.int .i64 0) (.slice none 0 0)
    refine bodyPost_ret (v := .tuple #[.agg #[.int .i64 0, .slice none 0 0], .int .i64 4]) (by simp [results, Tryd.results78, go_sem, hg.1, hg.2]) rfl ⟨Or.inr (Or.inl rfl), ?_⟩
    exact Bes.of_below ((HB1.out.setCell (p := ⟨w.heap.size, 0, none⟩) (Nat.le_refl _) _).setCell (p := ⟨w.heap.size, 1, none⟩) (Nat.le_refl _) _)
set_option maxHeartbeats 2000000 in
theorem nextM_t (pm ps : Nat) (l : List UInt8) (w : World) (h : TmAt w pm ps true l) (hm : l.length < 140737488351233) (ht : Tabs w) (hE : ErrsAt w) :
    Calls Tryd.prog 78 #[.pointer (some ⟨pm, 0, none⟩), .pointer (some ⟨ps, 0, none⟩)] w fun e w' => NxR true l pm ps w w' e ∧ Bes pm ps w w' := by
  have hba : Below w.heap.size w (w.alloc (.cells #[.int .i64 0, .slice none 0 0] 48)) := (Below.refl _ _).alloc (Nat.le_refl _) _
  have HT : Hid (TmAt (w.alloc (.cells #[.int .i64 0, .slice none 0 0] 48)) pm ps true l) := h.below hba
  have HB : Hid (Below w.heap.size w (w.alloc (.cells #[.int .i64 0, .slice none 0 0] 48))) := hba
  have HZ : Hid (ZAt w (w.alloc (.cells #[.int .i64 0, .slice none 0 0] 48))) := ZAt.start w
  have hlt := h.lt
  have KP : Hid (_ : Prop) := pseg_any l (w.alloc (.cells #[.int .i64 0, .slice none 0 0] 48)) hm (ht.below hba) (hE.below hba)
  have m := HT.out.m
  have s := HT.out.s
  have HP : Hid (pm < w.heap.size ∧ ps < w.heap.size) := hlt
  clear hba h hm ht hE hlt
  go_enter Tryd.func78, Tryd.ntmps78
  go_wp2_with fail
  generalize w.alloc (.cells #[.int .i64 0, .slice none 0 0] 48) = W0 at *
  refine Calls.mono KP.out ?_
  rintro e w1 ⟨⟨k, ad, c, d, rest, X, h1, h4, rfl, hou, hl, hx⟩ | ⟨k, t, rfl⟩, hb1⟩
  · have HK : Hid (1 ≤ k ∧ k ≤ 4) := ⟨h1, h4⟩
    obtain ⟨q2, m2, hq2, hcut⟩ := cutB rest
    have KC : Hid (∀ X, _) := hcut
    have HL : Hid (l = opn k :: (X ++ shut k :: (if q2 then 32 :: m2 else m2))) := by
      unfold Hid
      rw [hl]
      rcases hq2 with ⟨rfl, e⟩ | ⟨rfl, e⟩
      · rw [e]; rfl
      · rw [e]; rfl
    have HD : Hid (X = wd d ∨ d.length = 256) := hx
    have hba1 : Below w1.heap.size w1 (w1.alloc (.cells #[.int .i64 (k : Int), .slice ad d.length c] 48)) := (Below.refl _ _).alloc (Nat.le_refl _) _
    have HT1 : Hid (TmAt (w1.alloc (.cells #[.int .i64 (k : Int), .slice ad d.length c] 48)) pm ps true l) := (HT.out.below hb1).below hba1
    have HZ1 : Hid (ZAt w (w1.alloc (.cells #[.int .i64 (k : Int), .slice ad d.length c] 48))) := (HZ.out.below hb1).below hba1
    have HU1 : Hid (OwnU (w1.alloc (.cells #[.int .i64 (k : Int), .slice ad d.length c] 48)) W0.heap.size (.slice ad d.length c) d) := hou.below hba1
    have HB1 : Hid (Below w.heap.size w (w1.alloc (.cells #[.int .i64 (k : Int), .slice ad d.length c] 48))) := (HB.out.trans (hb1.mono HB.out.size)).trans (hba1.mono (Nat.le_trans HB.out.size hb1.size))
    have q0 : (w1.alloc (.cells #[.int .i64 (k : Int), .slice ad d.length c] 48)).cell? ⟨w1.heap.size, 0, none⟩ = some (.int .i64 (k : Int)) := by simp
    have q1 : (w1.alloc (.cells #[.int .i64 (k : Int), .slice ad d.length c] 48)).cell? ⟨w1.heap.size, 1, none⟩ = some (.slice ad d.length c) := by simp
    have hsz1 : W0.heap.size ≤ w1.heap.size := hb1.size
    have hW0 := HZ.out.hs
    have m1 := HT1.out.m
    have s1 := HT1.out.s
    have f1 := HT1.out.fm
    have f2 := HT1.out.fs
    have hne := HT1.out.ne
    obtain ⟨z0, z1, g0, g1, _⟩ := HZ1.out
    have hp := HP.out
    clear m s hb1 hba1 hou HT HZ HB KP h1 h4 hl hx hcut hq2
    have hq1 : w.heap.size ≠ pm := by omega
    have hq2 : w.heap.size ≠ ps := by omega
    have hw1 : w1.heap.size ≠ pm := by omega
    have hw2 : w1.heap.size ≠ ps := by omega
    clear hp
    go_wp2_with fail
    refine Calls.mono (KC.out _) ?_
    rintro e w2 ⟨rfl, rfl⟩
    have far : ∀ (b i : Nat) (x y : Value), b ≠ pm → b ≠ ps → (((w1.alloc (.cells #[.int .i64 (k : Int), .slice ad d.length c] 48)).setCell ⟨ps, 0, none⟩ x).setCell ⟨pm, 0, none⟩ y).cell? ⟨b, i, none⟩ = (w1.alloc (.cells #[.int .i64 (k : Int), .slice ad d.length c] 48)).cell? ⟨b, i, none⟩ := fun b i x y h1 h2 => by
      rw [World.cell?_setCell_other _ _ _ _ (by simp <;> omega), World.cell?_setCell_other _ _ _ _ (by simp <;> omega)]
    have q0' := fun x y => (far w1.heap.size 0 x y hw1 hw2).trans q0
    have q1' := fun x y => (far w1.heap.size 1 x y hw1 hw2).trans q1
    have z0' := fun x y => (far w.heap.size 0 x y hq1 hq2).trans z0
    have z1' := fun x y => (far w.heap.size 1 x y hq1 hq2).trans z1
    have m2' : ∀ x, ((w1.alloc (.cells #[.int .i64 (k : Int), .slice ad d.length c] 48)).setCell ⟨ps, 0, none⟩ x).cell? ⟨pm, 0, none⟩ = some (.bool true) := fun x => by
      rw [World.cell?_setCell_other _ _ _ _ (by simp <;> omega)]
      exact m1
    clear far q0 q1 z0 z1
    have HG : Hid (_ ∧ _) := turnM_got HZ1.out hq1 hq2 q2 m2 (.int .i64 (k : Int)) (.slice ad d.length c)
    have HTN : Hid (TmAt _ pm ps q2 m2) := HT1.out.turn hq1 hq2 q2 m2 (.int .i64 (k : Int)) (.slice ad d.length c)
    have HBN : Hid (Bes pm ps w _) := (Bes.of_below HB1.out).turnM q2 m2 (.int .i64 (k : Int)) (.slice ad d.length c)
    have HUN : Hid (OwnU _ W0.heap.size (.slice ad d.length c) d) := HU1.out.turnM (pm := pm) (ps := ps) (q := w.heap.size) (by have := HP.out; omega) (by have := HP.out; omega) (by omega) q2 m2 (.int .i64 (k : Int)) (.slice ad d.length c)
    go_wp2
    dsimp only [turnM] at HG HTN HBN HUN
    generalize ((((w1.alloc (.cells #[.int .i64 (k : Int), .slice ad d.length c] 48)).setCell ⟨ps, 0, none⟩ (.string ⟨m2.toArray⟩)).setCell ⟨pm, 0, none⟩ (.bool q2)).setCell ⟨w.heap.size, 0, none⟩ (.int .i64 (k : Int))).setCell ⟨w.heap.size, 1, none⟩ (.slice ad d.length c) = X9 at *
    obtain ⟨x0, x1⟩ := HG.out
    clear HG KC HT1 HZ1 HU1 HB1 q0' q1' z0' z1' m2' m1 s1 f1 f2 g0 g1
    refine bodyPost_ret (v := .tuple #[.agg #[.int .i64 (k : Int), .slice ad d.length c], .int .i64 0]) (by simp [results, Tryd.results78, go_sem, x0, x1]) rfl ⟨Or.inr (Or.inr ⟨k, ad, c, d, X, q2, m2, rfl, HK.out.1, HK.out.2, rfl, HUN.out.mono (by omega), HTN.out, HD.out, HL.out⟩), HBN.out⟩
  · have hba1 : Below w1.heap.size w1 (w1.alloc (.cells #[.int .i64 (k : Int), .slice none 0 0] 48)) := (Below.refl _ _).alloc (Nat.le_refl _) _
    have HT1 : Hid (TmAt (w1.alloc (.cells #[.int .i64 (k : Int), .slice none 0 0] 48)) pm ps true _) := (HT.out.below hb1).below hba1
    have HZ1 : Hid (ZAt w (w1.alloc (.cells #[.int .i64 (k : Int), .slice none 0 0] 48))) := (HZ.out.below hb1).below hba1
    have HB1 : Hid (Below w.heap.size w (w1.alloc (.cells #[.int .i64 (k : Int), .slice none 0 0] 48))) := (HB.out.trans (hb1.mono HB.out.size)).trans (hba1.mono (Nat.le_trans HB.out.size hb1.size))
    have m1 := HT1.out.m
    have s1 := HT1.out.s
    obtain ⟨z0, z1, g0, g1, _⟩ := HZ1.out
    clear m s hb1 hba1 HT HZ HB KP
    go_wp2
    have hg := HZ1.out.got (.int .i64 0) (.slice none 0 0)
    refine bodyPost_ret (v := .tuple #[.agg #[.int .i64 0, .slice none 0 0], .int .i64 4]) (by simp [results, Tryd.results78, go_sem, hg.1, hg.2]) rfl ⟨Or.inr (Or.inl rfl), ?_⟩
    exact Bes.of_below ((HB1.out.setCell (p := ⟨w.heap.size, 0, none⟩) (Nat.le_refl _) _).setCell (p := ⟨w.heap.size, 1, none⟩) (Nat.le_refl _) _)
theorem nextM_any (pm ps : Nat) (q : Bool) (m : List UInt8) (w : World) (h : TmAt w pm ps q m) (hm : m.length < 140737488351233) (ht : Tabs w) (hE : ErrsAt w) :
    Calls Tryd.prog 78 #[.pointer (some ⟨pm, 0, none⟩), .pointer (some ⟨ps, 0, none⟩)] w fun e w' => NxR q m pm ps w w' e ∧ Bes pm ps w w' := by
  cases q with
  | true => exact nextM_t pm ps m w h hm ht hE
  | false =>
    cases m with
    | nil => exact (nextT_end pm ps w ⟨h.m, h.s, h.fm, h.fs, h.ne⟩).mono fun e w' ⟨he, hb⟩ => ⟨Or.inl ⟨rfl, rfl, he⟩, Bes.of_below hb⟩
    | cons a r => exact nextM_f pm ps a r w h hm ht hE
end Go.Proofs.YtbdfigfjoiefiaaDoor

set_option linter.unusedVariables false
set_option linter.unusedSimpArgs false
set_option maxRecDepth 100000
namespace Go.Proofs.YtbdfigfjoiefiaaDoor
open Go.RowKit
/-- Segments, a blank behind each. -/
def prT : List Sg → List UInt8
  | [] => []
  | s :: L => segT s ++ 32 :: prT L
theorem prT_snoc (s : Sg) : ∀ L : List Sg, prT (L ++ [s]) = prT L ++ (segT s ++ [32])
  | [] => by simp [prT]
  | t :: L => by simp [prT, prT_snoc s L]
theorem tx_snoc (s : Sg) : ∀ L : List Sg, tx (L ++ [s]) = prT L ++ segT s
  | [] => by simp [prT, tx]
  | t :: L => by
    have := tx_snoc s L
    simp [prT, tx, this]
theorem seg_text (k : Nat) (d : List Nat) (r : List UInt8) : segT ((k : Int), d) ++ r = opn k :: (wd d ++ shut k :: r) := by simp [segT, wd]
/-- Where gather stands. -/
def GaI (l : List UInt8) (R : List Sv) (q : Bool) (m : List UInt8) : Prop :=
  R.length ≤ 16 ∧ (∀ s ∈ sgs R, okSeg s = true) ∧ m.length ≤ l.length ∧ (q = true ∧ l = prT (sgs R) ++ m ∨ q = false ∧ R ≠ [] ∧ l = tx (sgs R) ++ m)
theorem GaI.next {l m X m2 : List UInt8} {R : List Sv} {q2 : Bool} {k : Nat} {d : List Nat} {v : Value} (h : GaI l R true m) (hm : m = opn k :: (X ++ shut k :: (if q2 then 32 :: m2 else m2))) (hX : X = wd d ∨ d.length = 256) (hok : okSeg ((k : Int), d) = true) (h16 : R.length ≠ 16) : GaI l (R ++ [((k : Int), v, d)]) q2 m2 := by
  obtain ⟨h1, h2, h3, h4⟩ := h
  have hd := (okSeg_iff _).1 hok
  have hXe : X = wd d := by
    rcases hX with h | h
    · exact h
    · have := hd.2.2.2.1
      simp only at this
      omega
  have h5 : l = prT (sgs R) ++ m := by
    rcases h4 with ⟨_, h⟩ | ⟨h, _⟩
    · exact h
    · cases h
  subst hXe
  rw [← seg_text] at hm
  refine ⟨by simp; omega, ?_, ?_, ?_⟩
  · intro s hs
    rw [sgs_snoc'] at hs
    rcases List.mem_append.1 hs with hs | hs
    · exact h2 s hs
    · rw [List.mem_singleton.1 hs]; exact hok
  · refine Nat.le_trans ?_ h3
    rw [hm]
    cases q2 <;> simp <;> omega
  · cases q2 with
    | true => exact Or.inl ⟨rfl, by rw [h5, hm, sgs_snoc', prT_snoc]; simp⟩
    | false => exact Or.inr ⟨rfl, by simp, by rw [h5, hm, sgs_snoc', tx_snoc]; simp⟩
theorem GaI.done {l : List UInt8} {R : List Sv} (h : GaI l R false []) : okPath (sgs R) = true ∧ R ≠ [] ∧ tx (sgs R) = l := by
  obtain ⟨h1, h2, h3, ⟨h, _⟩ | ⟨_, h4, h5⟩⟩ := h
  · cases h
  · refine ⟨?_, h4, by rw [h5]; simp⟩
    unfold okPath
    simp only [Bool.and_eq_true, decide_eq_true_eq, List.all_eq_true]
    exact ⟨by simp [sgs]; omega, h2⟩
theorem ErrsAt.bes {w w' : World} {p q : Nat} (h : ErrsAt w) (hb : Bes p q w w') (hp : 7 ≤ p) (hq : 7 ≤ q) : ErrsAt w' := by
  have hz := h.lt
  obtain ⟨⟨a, b, t, fr, h1⟩, ⟨c, d, t', fr', h2⟩⟩ := h
  exact ⟨⟨a, b, t, fr, (hb.block 5 (by omega) (by omega) (by omega)).trans h1⟩, ⟨c, d, t', fr', (hb.block 6 (by omega) (by omega) (by omega)).trans h2⟩⟩
/-- What gather answers. -/
def GaR (l : List UInt8) (w w' : World) (e : Ending) : Prop :=
  (∃ v R, e = .returned (.tuple #[v, .int .i64 0]) ∧ OwnS w' w.heap.size v R ∧ okPath (sgs R) = true ∧ R ≠ [] ∧ tx (sgs R) = l) ∨ e = .returned (.tuple #[.slice none 0 0, .int .i64 4])
set_option maxHeartbeats 4000000 in
theorem gatherM (pm ps : Nat) (l : List UInt8) (w : World) (h : TmAt w pm ps true l) (hl : l.length < 140737488351233) (ht : Tabs w) (hE : ErrsAt w) (hp7 : 7 ≤ pm) (hq7 : 7 ≤ ps) :
    Calls Tryd.prog 58 #[.func (.func 78) #[] #[.pointer (some ⟨pm, 0, none⟩), .pointer (some ⟨ps, 0, none⟩)]] w fun e w' => GaR l w w' e ∧ Bes pm ps w w' := by
  obtain ⟨i0, hi, hq0, hq1, hq2⟩ := info_parts info48
  obtain ⟨hp, hq⟩ := h.lt
  have HT : Hid (TmAt w pm ps true l) := h
  have HL : Hid (l.length < 140737488351233) := hl
  have HTB : Hid (Tabs w) := ht
  have HEB : Hid (ErrsAt w) := hE
  clear h hl ht hE
  go_enter Tryd.func58, Tryd.ntmps58
  go_wp2
  go_loopw [4] (fun t wr => ∃ (R : List Sv) (q : Bool) (m : List UInt8), GaI l R q m ∧ OwnS wr w.heap.size t R ∧ TmAt wr pm ps q m ∧ Bes pm ps w wr) (fun t _ => 17 - slen t)
  case atStart => exact ⟨[], true, l, ⟨by simp, by simp [sgs], Nat.le_refl _, Or.inl ⟨rfl, rfl⟩⟩, ⟨World.ownsRow_nil _ _ _ _, fun r hr => by simp at hr, by simp⟩, HT.out, Bes.refl _ _ _⟩
  case round =>
    obtain ⟨R, q, m, hi2, ho, htt, hb⟩ := hrel
    obtain ⟨adq, cq, rfl⟩ := slice_of_owns ho.1
    have HO : Hid (OwnS _ _ _ _) := ho
    have HB : Hid (Bes pm ps w wr) := hb
    have HI : Hid (GaI l R q m) := hi2
    have hml : m.length < 140737488351233 := by have := hi2.2.2.1; have := HL.out; omega
    have KN : Hid (_ : Prop) := nextM_any pm ps q m wr htt hml (HTB.out.bes hb (by omega) (by omega)) (HEB.out.bes hb hp7 hq7)
    clear ho hb htt hml
    have hlen := hi2.1
    clear hi2
    go_wp2_with fail
    refine Calls.mono KN.out ?_
    rintro e w4 ⟨⟨hq, hm, rfl⟩ | rfl | ⟨k, ad, c, d, X, q2, m2, hqt, h1, h4, rfl, hou, htm, hX, hmm⟩, hb4⟩
    · have HO4 : Hid (OwnS _ _ _ _) := HO.out.bes hb4 hp (by omega)
      have HB4 : Hid (Bes pm ps w w4) := HB.out.trans hb4
      have HD : Hid (okPath (sgs R) = true ∧ R ≠ [] ∧ tx (sgs R) = l) := by
        have := HI.out
        rw [hq, hm] at this
        exact this.done
      clear hb4 hq hm KN
      go_wp2
      go_ret2
      exact ⟨Or.inl ⟨_, R, rfl, HO4.out.alloc _, HD.out⟩, HB4.out.then ((Below.refl _ _).alloc HB4.out.size _)⟩
    · have HB4 : Hid (Bes pm ps w w4) := HB.out.trans hb4
      clear hb4 KN
      go_wp2
      go_ret2
      exact ⟨Or.inr rfl, HB4.out.then ((Below.refl _ _).alloc HB4.out.size _)⟩
    · have HO4 : Hid (OwnS _ _ _ _) := HO.out.bes hb4 hp (by omega)
      have HB4 : Hid (Bes pm ps w w4) := HB.out.trans hb4
      have HT4 : Hid (TmAt _ _ _ _ _) := htm
      have HU4 : Hid (OwnU _ _ _ _) := hou
      have HX : Hid (X = wd d ∨ d.length = 256) := hX
      have HM : Hid (m = opn k :: (X ++ shut k :: (if q2 then 32 :: m2 else m2))) := hmm
      have HQ : Hid (q = true) := hqt
      have h4s := hb4.size
      clear hb4 htm hou hX hmm hqt KN HO h1 h4
      by_cases h16 : R.length = 16
      · have h16' : (R.length : Int) = 16 := by omega
        clear h16
        go_wp2
        go_ret2
        exact ⟨Or.inr rfl, HB4.out.then ((Below.refl _ _).alloc HB4.out.size _)⟩
      · have h16' : ¬ ((R.length : Int) = 16) := by omega
        have h16'' : ((R.length : Int) == 16) = false := by simpa using h16'
        have HN16 : Hid (R.length ≠ 16) := h16
        clear h16
        go_wp2_with fail
        refine (maySeg_any (k : Int) _ d _ (HU4.out.alloc _).at).mono ?_
        rintro e w5 ⟨rfl, hb5⟩
        have c0 : w5.cell? ⟨w4.heap.size, 0, none⟩ = some (.int .i64 (k : Int)) := below_cell hb5 (by simp)
        have c1 : w5.cell? ⟨w4.heap.size, 1, none⟩ = some (.slice ad d.length c) := below_cell hb5 (by simp)
        have HO5 : Hid (OwnS _ _ _ _) := (HO4.out.alloc _).below hb5
        have HU5 : Hid (OwnU _ _ _ _) := (HU4.out.alloc _).below hb5
        have HB5 : Hid (Bes pm ps w w5) := (HB4.out.then ((Below.refl _ _).alloc HB4.out.size _)).then (hb5.mono (Nat.le_trans HB4.out.size (by simp)))
        have HT5 : Hid (TmAt w5 pm ps q2 m2) := (HT4.out.below ((Below.refl _ _).alloc (Nat.le_refl _) _)).below hb5
        have h5 := HB5.out.size
        have hwr := HB.out.size
        clear hb5 HO4 HU4 HB4 HT4
        by_cases hok : okSeg ((k : Int), d) = true
        · rw [hok]
          have HI6 : Hid (GaI l (R ++ [((k : Int), .slice ad d.length c, d)]) q2 m2) := by
            have := HI.out
            rw [HQ.out] at this
            exact this.next HM.out HX.out hok HN16.out
          have HUW : Hid (OwnU w5 w.heap.size _ _) := HU5.out.mono hwr
          clear hok
          go_wp2_with (at_builtin; refine wpList_append_own _ rfl _ _ 22 rfl w.heap.size 48 i0 (.agg #[.int .i64 0, .slice none 0 0]) 2 32 Tryd.underlying22 hi hq0 hq1 hq2 rfl (by decide) _ _ _ rfl (HO5.out.1.alloc _) ⟨w5.heap.size, 0, none⟩ 1 1 [.int .i64 (k : Int), .slice ad d.length c] rfl rfl (news2 w5 _ _ 48) (two_seg _ _ _ _) (by unfold maxLen; omega) (by omega) (Nat.le_trans h5 (by simp)) ?_; intro v6 w6 hown6 hgrow6 _)
          have hos : OwnS w6 w.heap.size v6 (R ++ [((k : Int), .slice ad d.length c, d)]) := OwnS.snoc (HO5.out.alloc _) (HUW.out.alloc _) (by omega) hown6 hgrow6
          obtain ⟨ad6, c6, rfl⟩ := slice_of_owns hown6
          have hbw : Below w.heap.size w5 w6 := ((Below.refl _ _).alloc h5 _).grown hgrow6 (Nat.le_trans h5 (by simp)) (fun k e => (HO5.out.1.lt k e).1)
          have HB6 : Hid (Bes pm ps w w6) := HB5.out.then hbw
          have HT6 : Hid (TmAt w6 pm ps q2 m2) := ⟨(hbw.cell (p := ⟨pm, 0, none⟩) hp).trans HT5.out.m, (hbw.cell (p := ⟨ps, 0, none⟩) (by omega)).trans HT5.out.s, (hbw.frozen (p := ⟨pm, 0, none⟩) hp).trans HT5.out.fm, (hbw.frozen (p := ⟨ps, 0, none⟩) (by omega)).trans HT5.out.fs, HT5.out.ne⟩
          clear hown6 hgrow6 hbw
          go_roundw
          case rel => exact ⟨_, q2, m2, HI6.out, hos, HT6.out, HB6.out⟩
          case measure => simp [slen]; omega
        · have hok' : okSeg ((k : Int), d) = false := by simpa using hok
          rw [hok']
          clear hok hok'
          go_wp2
          go_ret2
          exact ⟨Or.inr rfl, HB5.out⟩
/-- What Parse answers. -/
def PaR (l : List UInt8) (w w' : World) (e : Ending) : Prop :=
  (∃ v R, e = .returned (.tuple #[v, .int .i64 0]) ∧ OwnS w' w.heap.size v R ∧ okPath (sgs R) = true ∧ textOf (sgs R) = l) ∨ e = .returned (.tuple #[.slice none 0 0, .int .i64 4])
set_option maxHeartbeats 2000000 in
theorem parse_any (l : List UInt8) (hl : l.length < 140737488351233) (w : World) (ht : Tabs w) (hE : ErrsAt w) :
    Calls Tryd.prog 35 #[.string ⟨l.toArray⟩] w fun e w' => PaR l w w' e ∧ Below w.heap.size w w' := by
  by_cases h45 : l = [45]
  · subst h45
    go_enter Tryd.func35, Tryd.ntmps35
    go_wp2
    go_ret2
    exact ⟨Or.inl ⟨_, [], rfl, ⟨World.ownsRow_nil _ _ _ _, fun r hr => by simp at hr, by simp⟩, rfl, rfl⟩, Below.refl _ _⟩
  · have hne : (l.toArray.toList == #[(45 : UInt8)].toList) = false := by simpa using h45
    have hz := hE.lt
    have KI : Hid (_ : Prop) := inText_any l w
    have HT : Hid (Tabs w) := ht
    have HE : Hid (ErrsAt w) := hE
    have HL : Hid (l.length < 140737488351233) := hl
    clear hl ht hE h45
    go_enter Tryd.func35, Tryd.ntmps35
    go_wp2_with fail
    refine Calls.mono KI.out ?_
    rintro e w1 ⟨pm, ps, rfl, c1, c2, f1, f2, hn, h1, h2, hb1⟩
    have HB1 : Hid (Below w.heap.size w w1) := hb1
    have KG : Hid (_ : Prop) := gatherM pm ps l w1 ⟨c1, c2, f1, f2, hn⟩ HL.out (HT.out.below hb1) (HE.out.below hb1) (by omega) (by omega)
    clear c1 c2 f1 f2 hn hb1
    go_wp2_with fail
    refine Calls.mono KG.out ?_
    rintro e w2 ⟨⟨v, R, rfl, hO, hk, hne2, htx⟩ | rfl, hb2⟩
    · have HB2 : Hid (Below w.heap.size w w2) := HB1.out.trans (hb2.below h1 h2 HB1.out.size)
      have HO : Hid (OwnS w2 w.heap.size v R) := hO.mono HB1.out.size
      have HR : Hid (okPath (sgs R) = true ∧ textOf (sgs R) = l) := ⟨hk, by
        unfold textOf
        rw [if_neg (by intro e; exact hne2 (by simpa [sgs] using e)), ← tx_join]
        exact htx⟩
      clear hb2 hO hk hne2 htx KG
      go_wp2
      go_ret2
      exact ⟨Or.inl ⟨_, R, rfl, HO.out, HR.out⟩, HB2.out⟩
    · have HB2 : Hid (Below w.heap.size w w2) := HB1.out.trans (hb2.below h1 h2 HB1.out.size)
      clear hb2 KG
      go_wp2
      go_ret2
      exact ⟨Or.inr rfl, HB2.out⟩
end Go.Proofs.YtbdfigfjoiefiaaDoor
