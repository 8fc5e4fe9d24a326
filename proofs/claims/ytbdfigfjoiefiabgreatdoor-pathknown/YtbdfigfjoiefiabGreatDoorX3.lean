/-
  parseSeg, whatever the text is.
-/
import Derived.Test.YtbdfigfjoiefiabGreatDoorX2
import Derived.Test.YtbdfigfjoiefiabGreatDoorU4
set_option linter.unusedVariables false
set_option linter.unusedSimpArgs false
set_option maxRecDepth 100000
namespace Go.Proofs.YtbdfigfjoiefiabGreatDoor
open Go.RowKit
theorem opn_lit : opn 1 = 123 ∧ opn 2 = 60 ∧ opn 3 = 40 ∧ opn 4 = 91 := ⟨rfl, rfl, rfl, rfl⟩
theorem hp_nil (c : UInt8) : Lib.hasPrefix [] [c] = false := rfl
theorem hp_cons (a c : UInt8) (X : List UInt8) : Lib.hasPrefix (a :: X) [c] = (c == a) := by simp [Lib.hasPrefix, List.isPrefixOf]
/-- With which bracket a text begins. -/
theorem head_kind (l : List UInt8) : ∃ K, 1 ≤ K ∧ K ≤ 5 ∧ (∀ j, 1 ≤ j → j ≤ 4 → Lib.hasPrefix l [opn j] = decide (j = K)) ∧ (K ≤ 4 → ∃ X, l = opn K :: X) := by
  cases l with
  | nil => exact ⟨5, by omega, by omega, fun j h1 h2 => by rw [hp_nil]; simp; omega, fun h => by omega⟩
  | cons a X =>
    have key : ∀ j k : Nat, 1 ≤ j → j ≤ 4 → 1 ≤ k → k ≤ 4 → (opn j == opn k) = decide (j = k) := by
      intro j k a b c d
      rcases (show j = 1 ∨ j = 2 ∨ j = 3 ∨ j = 4 by omega) with rfl | rfl | rfl | rfl <;> rcases (show k = 1 ∨ k = 2 ∨ k = 3 ∨ k = 4 by omega) with rfl | rfl | rfl | rfl <;> rfl
    by_cases h1 : a = opn 1
    · exact ⟨1, by omega, by omega, fun j p q => by rw [hp_cons, h1]; exact key j 1 p q (by omega) (by omega), fun _ => ⟨X, by rw [h1]⟩⟩
    · by_cases h2 : a = opn 2
      · exact ⟨2, by omega, by omega, fun j p q => by rw [hp_cons, h2]; exact key j 2 p q (by omega) (by omega), fun _ => ⟨X, by rw [h2]⟩⟩
      · by_cases h3 : a = opn 3
        · exact ⟨3, by omega, by omega, fun j p q => by rw [hp_cons, h3]; exact key j 3 p q (by omega) (by omega), fun _ => ⟨X, by rw [h3]⟩⟩
        · by_cases h4 : a = opn 4
          · exact ⟨4, by omega, by omega, fun j p q => by rw [hp_cons, h4]; exact key j 4 p q (by omega) (by omega), fun _ => ⟨X, by rw [h4]⟩⟩
          · refine ⟨5, by omega, by omega, fun j p q => ?_, fun h => by omega⟩
            rw [hp_cons, show decide (j = 5) = false by simp; omega]
            have : j = 1 ∨ j = 2 ∨ j = 3 ∨ j = 4 := by omega
            rcases this with rfl | rfl | rfl | rfl <;> simp <;> intro e <;> first | exact h1 e.symm | exact h2 e.symm | exact h3 e.symm | exact h4 e.symm
/-- What parseSeg answers. -/
def SegR (l : List UInt8) (w w' : World) (e : Ending) : Prop :=
  (∃ (k : Nat) (ad : Option Addr) (c : Nat) (d : List Nat) (rest X : List UInt8), 1 ≤ k ∧ k ≤ 4 ∧ e = .returned (.tuple #[.agg #[.int .i64 (k : Int), .slice ad d.length c], .string ⟨rest.toArray⟩, .bool true]) ∧ OwnU w' w.heap.size (.slice ad d.length c) d ∧ l = opn k :: (X ++ shut k :: rest) ∧ (X = wd d ∨ d.length = 256)) ∨
  (∃ (k : Nat) (t : ByteArray), e = .returned (.tuple #[.agg #[.int .i64 (k : Int), .slice none 0 0], .string t, .bool false]))
set_option maxHeartbeats 4000000 in
theorem pseg_any (l : List UInt8) (w : World) (hl : l.length < 140737488351233) (ht : Tabs w) (hE : ErrsAt w) :
    Calls Tryz.prog 46 #[.string ⟨l.toArray⟩] w fun e w' => SegR l w w' e ∧ Below w.heap.size w w' := by
  have HB : Hid (Below w.heap.size w (w.alloc (.cells #[.int .i64 0, .slice none 0 0] 24))) := (Below.refl _ _).alloc (Nat.le_refl _) _
  have HT : Hid (Tabs (w.alloc (.cells #[.int .i64 0, .slice none 0 0] 24))) := ht.below HB.out
  have HE : Hid (ErrsAt (w.alloc (.cells #[.int .i64 0, .slice none 0 0] 24))) := hE.below HB.out
  have HL : Hid (l.length < 140737488351233) := hl
  obtain ⟨c0, c1, c2, c3, c4⟩ := HT.out.brs
  obtain ⟨K, hK1, hK5, hKp, hKx⟩ := head_kind l
  have HK : Hid (1 ≤ K ∧ K ≤ 5) := ⟨hK1, hK5⟩
  have HP : Hid (∀ j, 1 ≤ j → j ≤ 4 → Lib.hasPrefix l [opn j] = decide (j = K)) := hKp
  have HX : Hid (K ≤ 4 → ∃ X, l = opn K :: X) := hKx
  clear ht hE hl hK1 hK5 hKp hKx
  go_enter Tryz.func46, Tryz.ntmps46
  go_wp2
  clear c0 c1 c2 c3 c4
  have HZ : Hid (ZAt w (w.alloc (.cells #[.int .i64 0, .slice none 0 0] 24))) := ZAt.start w
  generalize w.alloc (.cells #[.int .i64 0, .slice none 0 0] 24) = W0 at *
  go_loopw [13] (fun i wr => ∃ j : Nat, j ≤ K ∧ i = .int .i64 j ∧ wr = W0) (fun i _ => 6 - (intOf i).toNat)
  case atStart => exact ⟨0, Nat.zero_le _, rfl, rfl⟩
  case round =>
    obtain ⟨j, hj, rfl, rfl⟩ := hrel
    have hjs : j = 0 ∨ j = 1 ∨ j = 2 ∨ j = 3 ∨ j = 4 ∨ j = 5 := by have := HK.out; omega
    have HJ : Hid (j ≤ K) := hj
    clear hj
    rcases hjs with rfl | rfl | rfl | rfl | rfl | rfl
    · rw [show ((0 : Nat) : Int) = 0 from rfl]
      have hix := ix0
      go_wp2
      go_roundw
      case rel => exact ⟨1, HK.out.1, by go_num, trivial⟩
      case measure => simp [intOf]
    · rw [show ((1 : Nat) : Int) = 1 from rfl]
      have hix := ix1
      go_wp2_with fail
      refine (Tryz.strings_HasPrefix _ _ _).mono ?_
      rintro e w1 ⟨rfl, hw⟩
      obtain rfl : wr = w1 := hw.symm
      clear hw
      rw [show Lib.hasPrefix (⟨l.toArray⟩ : ByteArray).data.toList ((⟨#[123, 125]⟩ : ByteArray).extract 0 1).data.toList = decide (1 = K) by
        rw [show ((⟨#[123, 125]⟩ : ByteArray).extract 0 1).data.toList = [opn 1] from rfl, show (⟨l.toArray⟩ : ByteArray).data.toList = l by simp]
        exact HP.out 1 (by omega) (by omega)]
      by_cases hk : 1 = K
      · subst hk
        rw [show decide (1 = 1) = true from rfl]
        obtain ⟨X, hX⟩ := HX.out (by omega)
        have HLX : Hid (l = opn 1 :: X) := hX
        have hXl : X.length < 140737488351233 := by have := HL.out; rw [hX, List.length_cons] at this; omega
        obtain ⟨inner, rest, b, hcut, hnx, hcs⟩ := cut_is 125 X
        have s1 := sl_tail (opn 1) X
        rw [← hX] at s1
        have s2 : ∀ W, (Instr.slice 9 (.string ⟨#[123, 125]⟩) (some (.int .i64 1)) none none).run Tryz.prog W = .ok (.string ⟨#[125]⟩) W := sl_tail 123 [125]
        have hcc := scut_c ⟨X.toArray⟩ 125 (by rw [list_size]; exact hXl) wr.drew
        rw [show (⟨X.toArray⟩ : ByteArray).data.toList = X by simp, hcut] at hcc
        have HCC : Hid (Calls _ _ _ wr.drew _) := hcc
        have HCS : Hid (_ ∨ _) := hcs
        have HIL : Hid (inner.length < 140737488351233) := by
          unfold Hid
          rcases hcs with ⟨_, h⟩ | ⟨_, h, _⟩
          · rw [h] at hXl; simp at hXl; omega
          · rw [← h]; exact hXl
        clear hix hcc hcs hcut hnx hX hXl HP HX HJ HL
        go_wp2
        go_region_held (fun _ => True) (trivial)
          (first | (go_at_call 56; refine HCC.out.mono ?_; rintro e w5 ⟨rfl, nn, rfl⟩))
        have HB5 : Hid (Below w.heap.size w (wr.drewN (1 + nn))) := below_drewN HB.out (1 + nn)
        have HT5 : Hid (Tabs (wr.drewN (1 + nn))) := HT.out.below (below_drewN (Below.refl _ wr) (1 + nn))
        have HE5 : Hid (ErrsAt (wr.drewN (1 + nn))) := HE.out.below (below_drewN (Below.refl _ wr) (1 + nn))
        have HZ5 : Hid (ZAt w (wr.drewN (1 + nn))) := HZ.out.below (below_drewN (Below.refl _ wr) (1 + nn))
        clear HB HT HE HZ HCC s1 s2
        cases b with
        | false =>
          obtain ⟨z0, z1, g0, g1, _⟩ := HZ5.out
          generalize wr.drewN (1 + nn) = w5 at *
          go_wp2
          have hg := HZ5.out.got (.int .i64 0) (.slice none 0 0)
          refine bodyPost_ret (v := .tuple #[.agg #[.int .i64 0, .slice none 0 0], .string ⟨#[]⟩, .bool false]) (by simp [results, Tryz.results46, go_sem, hg.1, hg.2]) rfl ?_
          exact ⟨Or.inr ⟨0, _, rfl⟩, (HB5.out.setCell (Nat.le_refl _) _).setCell (Nat.le_refl _) _⟩
        | true =>
          have HXe : Hid (l = opn 1 :: (inner ++ shut 1 :: rest)) := by
            unfold Hid
            rcases HCS.out with ⟨_, h⟩ | ⟨h, _⟩
            · rw [HLX.out, h]; rfl
            · cases h
          clear HLX HCS
          go_wp2_with fail
          generalize wr.drewN (1 + nn) = w5 at *
          refine Calls.mono (nums_any inner w5 HIL.out HT5.out HE5.out) ?_
          rintro e w6 ⟨hr, hb6⟩
          have HZ6 : Hid (ZAt w w6) := HZ5.out.below hb6
          have HB6 : Hid (Below w.heap.size w w6) := HB5.out.trans (hb6.mono HB5.out.size)
          obtain ⟨z0, z1, g0, g1, _⟩ := HZ6.out
          rcases hr with ⟨ad, c, d, rfl, hou, hd⟩ | rfl
          · have HU6 : Hid (OwnU w6 (w.heap.size + 1) (.slice ad d.length c) d) := hou.mono HZ5.out.hs
            have HD : Hid (inner = wd d ∨ d.length = 256) := hd
            clear hou hd hb6 HZ5 HT5 HE5 HB5
            go_wp2
            have hg := HZ6.out.got (.int .i64 1) (.slice ad d.length c)
            refine bodyPost_ret (v := .tuple #[.agg #[.int .i64 1, .slice ad d.length c], .string ⟨rest.toArray⟩, .bool true]) (by simp [results, Tryz.results46, go_sem, hg.1, hg.2]) rfl ?_
            refine ⟨Or.inl ⟨1, ad, c, d, rest, inner, by omega, by omega, rfl, ⟨owns_mono (owns_set (owns_set HU6.out.1 (b := w.heap.size) (fun g e => by have := (HU6.out.1.lt g e).1; omega) 0 _) (b := w.heap.size) (fun g e => by have := (HU6.out.1.lt g e).1; omega) 1 _) (by omega), HU6.out.2⟩, HXe.out, HD.out⟩, (HB6.out.setCell (Nat.le_refl _) _).setCell (Nat.le_refl _) _⟩
          · clear hb6 HZ5 HT5 HE5 HB5
            go_wp2
            have hg := HZ6.out.got (.int .i64 1) (.slice none 0 0)
            refine bodyPost_ret (v := .tuple #[.agg #[.int .i64 1, .slice none 0 0], .string ⟨rest.toArray⟩, .bool false]) (by simp [results, Tryz.results46, go_sem, hg.1, hg.2]) rfl ?_
            exact ⟨Or.inr ⟨1, _, rfl⟩, (HB6.out.setCell (Nat.le_refl _) _).setCell (Nat.le_refl _) _⟩
      · rw [show decide (1 = K) = false by simpa using hk]
        have HJ2 : Hid (2 ≤ K) := by have := HJ.out; unfold Hid; omega
        clear hk HJ
        go_wp2
        go_roundw
        case rel => exact ⟨2, HJ2.out, by go_num, trivial⟩
        case measure => simp [intOf]
    · rw [show ((2 : Nat) : Int) = 2 from rfl]
      have hix := ix2
      go_wp2_with fail
      refine (Tryz.strings_HasPrefix _ _ _).mono ?_
      rintro e w1 ⟨rfl, hw⟩
      obtain rfl : wr = w1 := hw.symm
      clear hw
      rw [show Lib.hasPrefix (⟨l.toArray⟩ : ByteArray).data.toList ((⟨#[60, 62]⟩ : ByteArray).extract 0 1).data.toList = decide (2 = K) by
        rw [show ((⟨#[60, 62]⟩ : ByteArray).extract 0 1).data.toList = [opn 2] from rfl, show (⟨l.toArray⟩ : ByteArray).data.toList = l by simp]
        exact HP.out 2 (by omega) (by omega)]
      by_cases hk : 2 = K
      · subst hk
        rw [show decide (2 = 2) = true from rfl]
        obtain ⟨X, hX⟩ := HX.out (by omega)
        have HLX : Hid (l = opn 2 :: X) := hX
        have hXl : X.length < 140737488351233 := by have := HL.out; rw [hX, List.length_cons] at this; omega
        obtain ⟨inner, rest, b, hcut, hnx, hcs⟩ := cut_is 62 X
        have s1 := sl_tail (opn 2) X
        rw [← hX] at s1
        have s2 : ∀ W, (Instr.slice 9 (.string ⟨#[60, 62]⟩) (some (.int .i64 1)) none none).run Tryz.prog W = .ok (.string ⟨#[62]⟩) W := sl_tail 60 [62]
        have hcc := scut_c ⟨X.toArray⟩ 62 (by rw [list_size]; exact hXl) wr.drew
        rw [show (⟨X.toArray⟩ : ByteArray).data.toList = X by simp, hcut] at hcc
        have HCC : Hid (Calls _ _ _ wr.drew _) := hcc
        have HCS : Hid (_ ∨ _) := hcs
        have HIL : Hid (inner.length < 140737488351233) := by
          unfold Hid
          rcases hcs with ⟨_, h⟩ | ⟨_, h, _⟩
          · rw [h] at hXl; simp at hXl; omega
          · rw [← h]; exact hXl
        clear hix hcc hcs hcut hnx hX hXl HP HX HJ HL
        go_wp2
        go_region_held (fun _ => True) (trivial)
          (first | (go_at_call 56; refine HCC.out.mono ?_; rintro e w5 ⟨rfl, nn, rfl⟩))
        have HB5 : Hid (Below w.heap.size w (wr.drewN (1 + nn))) := below_drewN HB.out (1 + nn)
        have HT5 : Hid (Tabs (wr.drewN (1 + nn))) := HT.out.below (below_drewN (Below.refl _ wr) (1 + nn))
        have HE5 : Hid (ErrsAt (wr.drewN (1 + nn))) := HE.out.below (below_drewN (Below.refl _ wr) (1 + nn))
        have HZ5 : Hid (ZAt w (wr.drewN (1 + nn))) := HZ.out.below (below_drewN (Below.refl _ wr) (1 + nn))
        clear HB HT HE HZ HCC s1 s2
        cases b with
        | false =>
          obtain ⟨z0, z1, g0, g1, _⟩ := HZ5.out
          generalize wr.drewN (1 + nn) = w5 at *
          go_wp2
          have hg := HZ5.out.got (.int .i64 0) (.slice none 0 0)
          refine bodyPost_ret (v := .tuple #[.agg #[.int .i64 0, .slice none 0 0], .string ⟨#[]⟩, .bool false]) (by simp [results, Tryz.results46, go_sem, hg.1, hg.2]) rfl ?_
          exact ⟨Or.inr ⟨0, _, rfl⟩, (HB5.out.setCell (Nat.le_refl _) _).setCell (Nat.le_refl _) _⟩
        | true =>
          have HXe : Hid (l = opn 2 :: (inner ++ shut 2 :: rest)) := by
            unfold Hid
            rcases HCS.out with ⟨_, h⟩ | ⟨h, _⟩
            · rw [HLX.out, h]; rfl
            · cases h
          clear HLX HCS
          go_wp2_with fail
          generalize wr.drewN (1 + nn) = w5 at *
          refine Calls.mono (nums_any inner w5 HIL.out HT5.out HE5.out) ?_
          rintro e w6 ⟨hr, hb6⟩
          have HZ6 : Hid (ZAt w w6) := HZ5.out.below hb6
          have HB6 : Hid (Below w.heap.size w w6) := HB5.out.trans (hb6.mono HB5.out.size)
          obtain ⟨z0, z1, g0, g1, _⟩ := HZ6.out
          rcases hr with ⟨ad, c, d, rfl, hou, hd⟩ | rfl
          · have HU6 : Hid (OwnU w6 (w.heap.size + 1) (.slice ad d.length c) d) := hou.mono HZ5.out.hs
            have HD : Hid (inner = wd d ∨ d.length = 256) := hd
            clear hou hd hb6 HZ5 HT5 HE5 HB5
            go_wp2
            have hg := HZ6.out.got (.int .i64 2) (.slice ad d.length c)
            refine bodyPost_ret (v := .tuple #[.agg #[.int .i64 2, .slice ad d.length c], .string ⟨rest.toArray⟩, .bool true]) (by simp [results, Tryz.results46, go_sem, hg.1, hg.2]) rfl ?_
            refine ⟨Or.inl ⟨2, ad, c, d, rest, inner, by omega, by omega, rfl, ⟨owns_mono (owns_set (owns_set HU6.out.1 (b := w.heap.size) (fun g e => by have := (HU6.out.1.lt g e).1; omega) 0 _) (b := w.heap.size) (fun g e => by have := (HU6.out.1.lt g e).1; omega) 1 _) (by omega), HU6.out.2⟩, HXe.out, HD.out⟩, (HB6.out.setCell (Nat.le_refl _) _).setCell (Nat.le_refl _) _⟩
          · clear hb6 HZ5 HT5 HE5 HB5
            go_wp2
            have hg := HZ6.out.got (.int .i64 2) (.slice none 0 0)
            refine bodyPost_ret (v := .tuple #[.agg #[.int .i64 2, .slice none 0 0], .string ⟨rest.toArray⟩, .bool false]) (by simp [results, Tryz.results46, go_sem, hg.1, hg.2]) rfl ?_
            exact ⟨Or.inr ⟨2, _, rfl⟩, (HB6.out.setCell (Nat.le_refl _) _).setCell (Nat.le_refl _) _⟩
      · rw [show decide (2 = K) = false by simpa using hk]
        have HJ2 : Hid (3 ≤ K) := by have := HJ.out; unfold Hid; omega
        clear hk HJ
        go_wp2
        go_roundw
        case rel => exact ⟨3, HJ2.out, by go_num, trivial⟩
        case measure => simp [intOf]
    · rw [show ((3 : Nat) : Int) = 3 from rfl]
      have hix := ix3
      go_wp2_with fail
      refine (Tryz.strings_HasPrefix _ _ _).mono ?_
      rintro e w1 ⟨rfl, hw⟩
      obtain rfl : wr = w1 := hw.symm
      clear hw
      rw [show Lib.hasPrefix (⟨l.toArray⟩ : ByteArray).data.toList ((⟨#[40, 41]⟩ : ByteArray).extract 0 1).data.toList = decide (3 = K) by
        rw [show ((⟨#[40, 41]⟩ : ByteArray).extract 0 1).data.toList = [opn 3] from rfl, show (⟨l.toArray⟩ : ByteArray).data.toList = l by simp]
        exact HP.out 3 (by omega) (by omega)]
      by_cases hk : 3 = K
      · subst hk
        rw [show decide (3 = 3) = true from rfl]
        obtain ⟨X, hX⟩ := HX.out (by omega)
        have HLX : Hid (l = opn 3 :: X) := hX
        have hXl : X.length < 140737488351233 := by have := HL.out; rw [hX, List.length_cons] at this; omega
        obtain ⟨inner, rest, b, hcut, hnx, hcs⟩ := cut_is 41 X
        have s1 := sl_tail (opn 3) X
        rw [← hX] at s1
        have s2 : ∀ W, (Instr.slice 9 (.string ⟨#[40, 41]⟩) (some (.int .i64 1)) none none).run Tryz.prog W = .ok (.string ⟨#[41]⟩) W := sl_tail 40 [41]
        have hcc := scut_c ⟨X.toArray⟩ 41 (by rw [list_size]; exact hXl) wr.drew
        rw [show (⟨X.toArray⟩ : ByteArray).data.toList = X by simp, hcut] at hcc
        have HCC : Hid (Calls _ _ _ wr.drew _) := hcc
        have HCS : Hid (_ ∨ _) := hcs
        have HIL : Hid (inner.length < 140737488351233) := by
          unfold Hid
          rcases hcs with ⟨_, h⟩ | ⟨_, h, _⟩
          · rw [h] at hXl; simp at hXl; omega
          · rw [← h]; exact hXl
        clear hix hcc hcs hcut hnx hX hXl HP HX HJ HL
        go_wp2
        go_region_held (fun _ => True) (trivial)
          (first | (go_at_call 56; refine HCC.out.mono ?_; rintro e w5 ⟨rfl, nn, rfl⟩))
        have HB5 : Hid (Below w.heap.size w (wr.drewN (1 + nn))) := below_drewN HB.out (1 + nn)
        have HT5 : Hid (Tabs (wr.drewN (1 + nn))) := HT.out.below (below_drewN (Below.refl _ wr) (1 + nn))
        have HE5 : Hid (ErrsAt (wr.drewN (1 + nn))) := HE.out.below (below_drewN (Below.refl _ wr) (1 + nn))
        have HZ5 : Hid (ZAt w (wr.drewN (1 + nn))) := HZ.out.below (below_drewN (Below.refl _ wr) (1 + nn))
        clear HB HT HE HZ HCC s1 s2
        cases b with
        | false =>
          obtain ⟨z0, z1, g0, g1, _⟩ := HZ5.out
          generalize wr.drewN (1 + nn) = w5 at *
          go_wp2
          have hg := HZ5.out.got (.int .i64 0) (.slice none 0 0)
          refine bodyPost_ret (v := .tuple #[.agg #[.int .i64 0, .slice none 0 0], .string ⟨#[]⟩, .bool false]) (by simp [results, Tryz.results46, go_sem, hg.1, hg.2]) rfl ?_
          exact ⟨Or.inr ⟨0, _, rfl⟩, (HB5.out.setCell (Nat.le_refl _) _).setCell (Nat.le_refl _) _⟩
        | true =>
          have HXe : Hid (l = opn 3 :: (inner ++ shut 3 :: rest)) := by
            unfold Hid
            rcases HCS.out with ⟨_, h⟩ | ⟨h, _⟩
            · rw [HLX.out, h]; rfl
            · cases h
          clear HLX HCS
          go_wp2_with fail
          generalize wr.drewN (1 + nn) = w5 at *
          refine Calls.mono (nums_any inner w5 HIL.out HT5.out HE5.out) ?_
          rintro e w6 ⟨hr, hb6⟩
          have HZ6 : Hid (ZAt w w6) := HZ5.out.below hb6
          have HB6 : Hid (Below w.heap.size w w6) := HB5.out.trans (hb6.mono HB5.out.size)
          obtain ⟨z0, z1, g0, g1, _⟩ := HZ6.out
          rcases hr with ⟨ad, c, d, rfl, hou, hd⟩ | rfl
          · have HU6 : Hid (OwnU w6 (w.heap.size + 1) (.slice ad d.length c) d) := hou.mono HZ5.out.hs
            have HD : Hid (inner = wd d ∨ d.length = 256) := hd
            clear hou hd hb6 HZ5 HT5 HE5 HB5
            go_wp2
            have hg := HZ6.out.got (.int .i64 3) (.slice ad d.length c)
            refine bodyPost_ret (v := .tuple #[.agg #[.int .i64 3, .slice ad d.length c], .string ⟨rest.toArray⟩, .bool true]) (by simp [results, Tryz.results46, go_sem, hg.1, hg.2]) rfl ?_
            refine ⟨Or.inl ⟨3, ad, c, d, rest, inner, by omega, by omega, rfl, ⟨owns_mono (owns_set (owns_set HU6.out.1 (b := w.heap.size) (fun g e => by have := (HU6.out.1.lt g e).1; omega) 0 _) (b := w.heap.size) (fun g e => by have := (HU6.out.1.lt g e).1; omega) 1 _) (by omega), HU6.out.2⟩, HXe.out, HD.out⟩, (HB6.out.setCell (Nat.le_refl _) _).setCell (Nat.le_refl _) _⟩
          · clear hb6 HZ5 HT5 HE5 HB5
            go_wp2
            have hg := HZ6.out.got (.int .i64 3) (.slice none 0 0)
            refine bodyPost_ret (v := .tuple #[.agg #[.int .i64 3, .slice none 0 0], .string ⟨rest.toArray⟩, .bool false]) (by simp [results, Tryz.results46, go_sem, hg.1, hg.2]) rfl ?_
            exact ⟨Or.inr ⟨3, _, rfl⟩, (HB6.out.setCell (Nat.le_refl _) _).setCell (Nat.le_refl _) _⟩
      · rw [show decide (3 = K) = false by simpa using hk]
        have HJ2 : Hid (4 ≤ K) := by have := HJ.out; unfold Hid; omega
        clear hk HJ
        go_wp2
        go_roundw
        case rel => exact ⟨4, HJ2.out, by go_num, trivial⟩
        case measure => simp [intOf]
    · rw [show ((4 : Nat) : Int) = 4 from rfl]
      have hix := ix4
      go_wp2_with fail
      refine (Tryz.strings_HasPrefix _ _ _).mono ?_
      rintro e w1 ⟨rfl, hw⟩
      obtain rfl : wr = w1 := hw.symm
      clear hw
      rw [show Lib.hasPrefix (⟨l.toArray⟩ : ByteArray).data.toList ((⟨#[91, 93]⟩ : ByteArray).extract 0 1).data.toList = decide (4 = K) by
        rw [show ((⟨#[91, 93]⟩ : ByteArray).extract 0 1).data.toList = [opn 4] from rfl, show (⟨l.toArray⟩ : ByteArray).data.toList = l by simp]
        exact HP.out 4 (by omega) (by omega)]
      by_cases hk : 4 = K
      · subst hk
        rw [show decide (4 = 4) = true from rfl]
        obtain ⟨X, hX⟩ := HX.out (by omega)
        have HLX : Hid (l = opn 4 :: X) := hX
        have hXl : X.length < 140737488351233 := by have := HL.out; rw [hX, List.length_cons] at this; omega
        obtain ⟨inner, rest, b, hcut, hnx, hcs⟩ := cut_is 93 X
        have s1 := sl_tail (opn 4) X
        rw [← hX] at s1
        have s2 : ∀ W, (Instr.slice 9 (.string ⟨#[91, 93]⟩) (some (.int .i64 1)) none none).run Tryz.prog W = .ok (.string ⟨#[93]⟩) W := sl_tail 91 [93]
        have hcc := scut_c ⟨X.toArray⟩ 93 (by rw [list_size]; exact hXl) wr.drew
        rw [show (⟨X.toArray⟩ : ByteArray).data.toList = X by simp, hcut] at hcc
        have HCC : Hid (Calls _ _ _ wr.drew _) := hcc
        have HCS : Hid (_ ∨ _) := hcs
        have HIL : Hid (inner.length < 140737488351233) := by
          unfold Hid
          rcases hcs with ⟨_, h⟩ | ⟨_, h, _⟩
          · rw [h] at hXl; simp at hXl; omega
          · rw [← h]; exact hXl
        clear hix hcc hcs hcut hnx hX hXl HP HX HJ HL
        go_wp2
        go_region_held (fun _ => True) (trivial)
          (first | (go_at_call 56; refine HCC.out.mono ?_; rintro e w5 ⟨rfl, nn, rfl⟩))
        have HB5 : Hid (Below w.heap.size w (wr.drewN (1 + nn))) := below_drewN HB.out (1 + nn)
        have HT5 : Hid (Tabs (wr.drewN (1 + nn))) := HT.out.below (below_drewN (Below.refl _ wr) (1 + nn))
        have HE5 : Hid (ErrsAt (wr.drewN (1 + nn))) := HE.out.below (below_drewN (Below.refl _ wr) (1 + nn))
        have HZ5 : Hid (ZAt w (wr.drewN (1 + nn))) := HZ.out.below (below_drewN (Below.refl _ wr) (1 + nn))
        clear HB HT HE HZ HCC s1 s2
        cases b with
        | false =>
          obtain ⟨z0, z1, g0, g1, _⟩ := HZ5.out
          generalize wr.drewN (1 + nn) = w5 at *
          go_wp2
          have hg := HZ5.out.got (.int .i64 0) (.slice none 0 0)
          refine bodyPost_ret (v := .tuple #[.agg #[.int .i64 0, .slice none 0 0], .string ⟨#[]⟩, .bool false]) (by simp [results, Tryz.results46, go_sem, hg.1, hg.2]) rfl ?_
          exact ⟨Or.inr ⟨0, _, rfl⟩, (HB5.out.setCell (Nat.le_refl _) _).setCell (Nat.le_refl _) _⟩
        | true =>
          have HXe : Hid (l = opn 4 :: (inner ++ shut 4 :: rest)) := by
            unfold Hid
            rcases HCS.out with ⟨_, h⟩ | ⟨h, _⟩
            · rw [HLX.out, h]; rfl
            · cases h
          clear HLX HCS
          go_wp2_with fail
          generalize wr.drewN (1 + nn) = w5 at *
          refine Calls.mono (nums_any inner w5 HIL.out HT5.out HE5.out) ?_
          rintro e w6 ⟨hr, hb6⟩
          have HZ6 : Hid (ZAt w w6) := HZ5.out.below hb6
          have HB6 : Hid (Below w.heap.size w w6) := HB5.out.trans (hb6.mono HB5.out.size)
          obtain ⟨z0, z1, g0, g1, _⟩ := HZ6.out
          rcases hr with ⟨ad, c, d, rfl, hou, hd⟩ | rfl
          · have HU6 : Hid (OwnU w6 (w.heap.size + 1) (.slice ad d.length c) d) := hou.mono HZ5.out.hs
            have HD : Hid (inner = wd d ∨ d.length = 256) := hd
            clear hou hd hb6 HZ5 HT5 HE5 HB5
            go_wp2
            have hg := HZ6.out.got (.int .i64 4) (.slice ad d.length c)
            refine bodyPost_ret (v := .tuple #[.agg #[.int .i64 4, .slice ad d.length c], .string ⟨rest.toArray⟩, .bool true]) (by simp [results, Tryz.results46, go_sem, hg.1, hg.2]) rfl ?_
            refine ⟨Or.inl ⟨4, ad, c, d, rest, inner, by omega, by omega, rfl, ⟨owns_mono (owns_set (owns_set HU6.out.1 (b := w.heap.size) (fun g e => by have := (HU6.out.1.lt g e).1; omega) 0 _) (b := w.heap.size) (fun g e => by have := (HU6.out.1.lt g e).1; omega) 1 _) (by omega), HU6.out.2⟩, HXe.out, HD.out⟩, (HB6.out.setCell (Nat.le_refl _) _).setCell (Nat.le_refl _) _⟩
          · clear hb6 HZ5 HT5 HE5 HB5
            go_wp2
            have hg := HZ6.out.got (.int .i64 4) (.slice none 0 0)
            refine bodyPost_ret (v := .tuple #[.agg #[.int .i64 4, .slice none 0 0], .string ⟨rest.toArray⟩, .bool false]) (by simp [results, Tryz.results46, go_sem, hg.1, hg.2]) rfl ?_
            exact ⟨Or.inr ⟨4, _, rfl⟩, (HB6.out.setCell (Nat.le_refl _) _).setCell (Nat.le_refl _) _⟩
      · rw [show decide (4 = K) = false by simpa using hk]
        have HJ2 : Hid (5 ≤ K) := by have := HJ.out; unfold Hid; omega
        clear hk HJ
        go_wp2
        go_roundw
        case rel => exact ⟨5, HJ2.out, by go_num, trivial⟩
        case measure => simp [intOf]
    · rw [show ((5 : Nat) : Int) = 5 from rfl]
      obtain ⟨z0, z1, g0, g1, _⟩ := HZ.out
      go_wp2
      have hg := HZ.out.got (.int .i64 0) (.slice none 0 0)
      refine bodyPost_ret (v := .tuple #[.agg #[.int .i64 0, .slice none 0 0], .string ⟨#[]⟩, .bool false]) (by simp [results, Tryz.results46, go_sem, hg.1, hg.2]) rfl ?_
      exact ⟨Or.inr ⟨0, _, rfl⟩, (HB.out.setCell (Nat.le_refl _) _).setCell (Nat.le_refl _) _⟩
end Go.Proofs.YtbdfigfjoiefiabGreatDoor
