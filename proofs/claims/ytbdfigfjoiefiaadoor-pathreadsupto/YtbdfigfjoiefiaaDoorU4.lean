/-
  parseSeg over a segment's text.
-/
import Derived.Test.YtbdfigfjoiefiaaDoorU3
import Derived.Test.YtbdfigfjoiefiaaDoorF2
namespace Go.Proofs.YtbdfigfjoiefiaaDoor
open Go.RowKit
theorem Tabs.brs {w : World} (h : Tabs w) : w.cell? ⟨0, 0, none⟩ = some (.string ⟨#[]⟩) ∧ w.cell? ⟨0, 1, none⟩ = some (.string ⟨#[123, 125]⟩) ∧ w.cell? ⟨0, 2, none⟩ = some (.string ⟨#[60, 62]⟩) ∧ w.cell? ⟨0, 3, none⟩ = some (.string ⟨#[40, 41]⟩) ∧ w.cell? ⟨0, 4, none⟩ = some (.string ⟨#[91, 93]⟩) := by
  obtain ⟨⟨t, fz, h⟩, _⟩ := h
  exact ⟨cell_row h _ _ rfl, cell_row h _ _ rfl, cell_row h _ _ rfl, cell_row h _ _ rfl, cell_row h _ _ rfl⟩
theorem ix0 (W : World) : (Instr.index 91 (.agg #[.string ⟨#[]⟩, .string ⟨#[123, 125]⟩, .string ⟨#[60, 62]⟩, .string ⟨#[40, 41]⟩, .string ⟨#[91, 93]⟩]) (.int .i64 0)).run Tryd.prog W = .ok (.string ⟨#[]⟩) W := by kernel_rfl
theorem ix1 (W : World) : (Instr.index 91 (.agg #[.string ⟨#[]⟩, .string ⟨#[123, 125]⟩, .string ⟨#[60, 62]⟩, .string ⟨#[40, 41]⟩, .string ⟨#[91, 93]⟩]) (.int .i64 1)).run Tryd.prog W = .ok (.string ⟨#[123, 125]⟩) W := by kernel_rfl
theorem ix2 (W : World) : (Instr.index 91 (.agg #[.string ⟨#[]⟩, .string ⟨#[123, 125]⟩, .string ⟨#[60, 62]⟩, .string ⟨#[40, 41]⟩, .string ⟨#[91, 93]⟩]) (.int .i64 2)).run Tryd.prog W = .ok (.string ⟨#[60, 62]⟩) W := by kernel_rfl
theorem ix3 (W : World) : (Instr.index 91 (.agg #[.string ⟨#[]⟩, .string ⟨#[123, 125]⟩, .string ⟨#[60, 62]⟩, .string ⟨#[40, 41]⟩, .string ⟨#[91, 93]⟩]) (.int .i64 3)).run Tryd.prog W = .ok (.string ⟨#[40, 41]⟩) W := by kernel_rfl
theorem ix4 (W : World) : (Instr.index 91 (.agg #[.string ⟨#[]⟩, .string ⟨#[123, 125]⟩, .string ⟨#[60, 62]⟩, .string ⟨#[40, 41]⟩, .string ⟨#[91, 93]⟩]) (.int .i64 4)).run Tryd.prog W = .ok (.string ⟨#[91, 93]⟩) W := by kernel_rfl
theorem sl_tail (c : UInt8) (X : List UInt8) (W : World) : (Instr.slice 9 (.string ⟨(c :: X).toArray⟩) (some (.int .i64 1)) none none).run Tryd.prog W = .ok (.string ⟨X.toArray⟩) W := by
  rw [run_slice_string_l W 9 _ Tryd.underlying9 .i64 1 (by decide) (by simp [ByteArray.size]; omega)]
  have h := drop_list (c :: X) 1
  rw [show (1 : Int).toNat = 1 from rfl, h]
  rfl
theorem cut_seg (l : List Nat) (rest X : List UInt8) (c : UInt8) (W : World) (hm : MaxAt W) (hl : X.length ≤ 2000000) (hc : Lib.cut X [c] = (wd l, rest, true)) :
    Calls Tryd.prog 90 #[.string ⟨X.toArray⟩, .string ⟨#[c]⟩] W fun e w' => e = .returned (.tuple #[.string ⟨(wd l).toArray⟩, .string ⟨rest.toArray⟩, .bool true]) ∧ ∃ n, w' = W.drewN n := by
  obtain ⟨m, hm⟩ := hm
  have h := Tryd.strings_Cut ⟨X.toArray⟩ ⟨#[c]⟩ m W (by rw [list_size]; omega) hm
  simp only [hc] at h
  exact h
theorem ZAt.below {w w1 w2 : World} (h : ZAt w w1) (hb : Below w1.heap.size w1 w2) : ZAt w w2 :=
  ⟨below_cell hb h.z0, below_cell hb h.z1, (hb.frozen (p := ⟨w.heap.size, 0, none⟩) h.hs).trans h.g0, (hb.frozen (p := ⟨w.heap.size, 1, none⟩) h.hs).trans h.g1, Nat.lt_of_lt_of_le h.hs hb.size⟩
theorem shut_no (k : Nat) (l : List Nat) : shut k ∉ wd l := by
  intro h
  have key : ∀ (m : List Nat), ∀ c ∈ wd m, c = 32 ∨ (48 ≤ c.toNat ∧ c.toNat ≤ 57) := by
    intro m
    induction m with
    | nil => intro c hc; simp [wd, Lib.join_nil] at hc
    | cons a r ih =>
      intro c hc
      cases r with
      | nil =>
        rw [show wd [a] = Lib.decDigits a by simp [wd, Lib.join_one]] at hc
        exact Or.inr (digits_are a c hc)
      | cons b r =>
        rw [wd_cons] at hc
        rcases List.mem_append.mp hc with hc | hc
        · exact Or.inr (digits_are a c hc)
        · rcases List.mem_cons.mp hc with hc | hc
          · exact Or.inl hc
          · exact ih c hc
  have hk := key l _ h
  unfold shut at hk
  split at hk
  · revert hk; decide
  · split at hk
    · revert hk; decide
    · split at hk <;> (revert hk; decide)
set_option maxRecDepth 100000 in
set_option maxHeartbeats 1600000 in
theorem pseg_yes (k : Nat) (l : List Nat) (rest : List UInt8) (w : World) (h1 : 1 ≤ k) (h4 : k ≤ 4) (h0 : l ≠ []) (h255 : l.length ≤ 255) (hx : ∀ x ∈ l, x < 4294967296) (hrest : rest.length ≤ 1000000) (ht : Tabs w) (hm : MaxAt w) :
    Calls Tryd.prog 79 #[.string ⟨(opn k :: (wd l ++ shut k :: rest)).toArray⟩] w fun e w' => ∃ ad c, e = .returned (.tuple #[.agg #[.int .i64 k, .slice ad l.length c], .string ⟨rest.toArray⟩, .bool true]) ∧ OwnU w' w.heap.size (.slice ad l.length c) l ∧ Below w.heap.size w w' := by
  have HB : Hid (Below w.heap.size w (w.alloc (.cells #[.int .i64 0, .slice none 0 0] 48))) := (Below.refl _ _).alloc (Nat.le_refl _) _
  have HT : Hid (Tabs (w.alloc (.cells #[.int .i64 0, .slice none 0 0] 48))) := ht.below HB.out
  have HM : Hid (MaxAt (w.alloc (.cells #[.int .i64 0, .slice none 0 0] 48))) := hm.below HB.out
  obtain ⟨c0, c1, c2, c3, c4⟩ := HT.out.brs
  clear ht hm
  go_enter Tryd.func79, Tryd.ntmps79
  go_wp2
  clear c0 c1 c2 c3 c4
  have HZ : Hid (ZAt w (w.alloc (.cells #[.int .i64 0, .slice none 0 0] 48))) := ZAt.start w
  generalize w.alloc (.cells #[.int .i64 0, .slice none 0 0] 48) = W0 at *
  have HCU : Hid (Lib.cut (wd l ++ shut k :: rest) [shut k] = (wd l, rest, true)) := cut_in _ _ _ (shut_no k l)
  have hXl : (wd l ++ shut k :: rest).length ≤ 2000000 := by
    have h1 := digs_le l hx h255
    have h2 : (wd l).length = (Lib.join (l.map Lib.decDigits) [32]).length := rfl
    simp; omega
  have HX : Hid (∀ x ∈ l, x < 4294967296) := hx
  clear hx hrest
  generalize wd l ++ shut k :: rest = X at *
  go_loopw [13] (fun i wr => ∃ j : Nat, j ≤ k ∧ i = .int .i64 j ∧ wr = W0) (fun i _ => 5 - (intOf i).toNat)
  case atStart => exact ⟨0, Nat.zero_le _, rfl, rfl⟩
  case round =>
    obtain ⟨j, hj, rfl, rfl⟩ := hrel
    have hjs : j = 0 ∨ j = 1 ∨ j = 2 ∨ j = 3 ∨ j = 4 := by omega
    rcases hjs with rfl | rfl | rfl | rfl | rfl
    · rw [show ((0 : Nat) : Int) = 0 from rfl]
      have hix := ix0
      go_wp2
      go_roundw
      case rel => exact ⟨1, by omega, by go_num, trivial⟩
      case measure => simp [intOf]
    · rw [show ((1 : Nat) : Int) = 1 from rfl]
      have hix := ix1
      go_wp2_with fail
      refine (Tryd.strings_HasPrefix _ _ _).mono ?_
      rintro e w1 ⟨rfl, hw⟩
      obtain rfl : wr = w1 := hw.symm
      clear hw
      by_cases hk : k = 1
      · subst hk
        rw [show Lib.hasPrefix (⟨(opn 1 :: X).toArray⟩ : ByteArray).data.toList ((⟨#[123, 125]⟩ : ByteArray).extract 0 1).data.toList = true by simp [Lib.hasPrefix, opn, List.isPrefixOf]]
        have s1 := sl_tail (opn 1) X
        have s2 : ∀ W, (Instr.slice 9 (.string ⟨#[123, 125]⟩) (some (.int .i64 1)) none none).run Tryd.prog W = .ok (.string ⟨#[125]⟩) W := sl_tail 123 [125]
        have HCC : Hid (Calls _ _ _ wr.drew _) := cut_seg l rest X 125 wr.drew HM.out hXl HCU.out
        have HE : Hid (opn 1 = opn 1) := rfl
        generalize opn 1 = o1 at *
        clear hix HE
        go_wp2
        go_region_held (fun _ => True) (trivial)
          (first | (go_at_call 90; refine HCC.out.mono ?_; rintro e w5 ⟨rfl, nn, rfl⟩))
        have HB5 : Hid (Below w.heap.size w (wr.drewN (1 + nn))) := below_drewN HB.out (1 + nn)
        have HT5 : Hid (Tabs (wr.drewN (1 + nn))) := HT.out.below (below_drewN (Below.refl _ wr) (1 + nn))
        have HM5 : Hid (MaxAt (wr.drewN (1 + nn))) := HM.out.below (below_drewN (Below.refl _ wr) (1 + nn))
        have HZ5 : Hid (ZAt w (wr.drewN (1 + nn))) := HZ.out.below (below_drewN (Below.refl _ wr) (1 + nn))
        clear HB HT HM HZ HCC s1 s2
        go_wp2_with fail
        generalize wr.drewN (1 + nn) = w5 at *
        refine (nums_yes l w5 h0 h255 HX.out HT5.out HM5.out).mono ?_
        rintro e w6 ⟨ad, c, rfl, hou, hb6⟩
        have HZ6 : Hid (ZAt w w6) := HZ5.out.below hb6
        have HU6 : Hid (OwnU w6 (w.heap.size + 1) (.slice ad l.length c) l) := hou.mono HZ5.out.hs
        have HB6 : Hid (Below w.heap.size w w6) := HB5.out.trans (hb6.mono HB5.out.size)
        obtain ⟨z0, z1, g0, g1, _⟩ := HZ6.out
        clear hou hb6 HZ5 HT5 HM5 HB5
        go_wp2
        have hg := HZ6.out.got (.int .i64 1) (.slice ad l.length c)
        refine bodyPost_ret (v := .tuple #[.agg #[.int .i64 1, .slice ad l.length c], .string ⟨rest.toArray⟩, .bool true]) (by simp [results, Tryd.results79, go_sem, hg.1, hg.2]) rfl ?_
        refine ⟨ad, c, rfl, ⟨owns_mono (owns_set (owns_set HU6.out.1 (b := w.heap.size) (fun g e => by have := (HU6.out.1.lt g e).1; omega) 0 _) (b := w.heap.size) (fun g e => by have := (HU6.out.1.lt g e).1; omega) 1 _) (by omega), HU6.out.2⟩, (HB6.out.setCell (Nat.le_refl _) _).setCell (Nat.le_refl _) _⟩
      · rw [show Lib.hasPrefix (⟨(opn k :: X).toArray⟩ : ByteArray).data.toList ((⟨#[123, 125]⟩ : ByteArray).extract 0 1).data.toList = false by
          have : k = 1 ∨ k = 2 ∨ k = 3 ∨ k = 4 := by omega
          rcases this with rfl | rfl | rfl | rfl <;> first | exact absurd rfl hk | simp [Lib.hasPrefix, opn, List.isPrefixOf]]
        go_wp2
        go_roundw
        case rel => exact ⟨2, by omega, by go_num, trivial⟩
        case measure => simp [intOf]
    · rw [show ((2 : Nat) : Int) = 2 from rfl]
      have hix := ix2
      go_wp2_with fail
      refine (Tryd.strings_HasPrefix _ _ _).mono ?_
      rintro e w1 ⟨rfl, hw⟩
      obtain rfl : wr = w1 := hw.symm
      clear hw
      by_cases hk : k = 2
      · subst hk
        rw [show Lib.hasPrefix (⟨(opn 2 :: X).toArray⟩ : ByteArray).data.toList ((⟨#[60, 62]⟩ : ByteArray).extract 0 1).data.toList = true by simp [Lib.hasPrefix, opn, List.isPrefixOf]]
        have s1 := sl_tail (opn 2) X
        have s2 : ∀ W, (Instr.slice 9 (.string ⟨#[60, 62]⟩) (some (.int .i64 1)) none none).run Tryd.prog W = .ok (.string ⟨#[62]⟩) W := sl_tail 60 [62]
        have HCC : Hid (Calls _ _ _ wr.drew _) := cut_seg l rest X 62 wr.drew HM.out hXl HCU.out
        have HE : Hid (opn 2 = opn 2) := rfl
        generalize opn 2 = o1 at *
        clear hix HE
        go_wp2
        go_region_held (fun _ => True) (trivial)
          (first | (go_at_call 90; refine HCC.out.mono ?_; rintro e w5 ⟨rfl, nn, rfl⟩))
        have HB5 : Hid (Below w.heap.size w (wr.drewN (1 + nn))) := below_drewN HB.out (1 + nn)
        have HT5 : Hid (Tabs (wr.drewN (1 + nn))) := HT.out.below (below_drewN (Below.refl _ wr) (1 + nn))
        have HM5 : Hid (MaxAt (wr.drewN (1 + nn))) := HM.out.below (below_drewN (Below.refl _ wr) (1 + nn))
        have HZ5 : Hid (ZAt w (wr.drewN (1 + nn))) := HZ.out.below (below_drewN (Below.refl _ wr) (1 + nn))
        clear HB HT HM HZ HCC s1 s2
        go_wp2_with fail
        generalize wr.drewN (1 + nn) = w5 at *
        refine (nums_yes l w5 h0 h255 HX.out HT5.out HM5.out).mono ?_
        rintro e w6 ⟨ad, c, rfl, hou, hb6⟩
        have HZ6 : Hid (ZAt w w6) := HZ5.out.below hb6
        have HU6 : Hid (OwnU w6 (w.heap.size + 1) (.slice ad l.length c) l) := hou.mono HZ5.out.hs
        have HB6 : Hid (Below w.heap.size w w6) := HB5.out.trans (hb6.mono HB5.out.size)
        obtain ⟨z0, z1, g0, g1, _⟩ := HZ6.out
        clear hou hb6 HZ5 HT5 HM5 HB5
        go_wp2
        have hg := HZ6.out.got (.int .i64 2) (.slice ad l.length c)
        refine bodyPost_ret (v := .tuple #[.agg #[.int .i64 2, .slice ad l.length c], .string ⟨rest.toArray⟩, .bool true]) (by simp [results, Tryd.results79, go_sem, hg.1, hg.2]) rfl ?_
        refine ⟨ad, c, rfl, ⟨owns_mono (owns_set (owns_set HU6.out.1 (b := w.heap.size) (fun g e => by have := (HU6.out.1.lt g e).1; omega) 0 _) (b := w.heap.size) (fun g e => by have := (HU6.out.1.lt g e).1; omega) 1 _) (by omega), HU6.out.2⟩, (HB6.out.setCell (Nat.le_refl _) _).setCell (Nat.le_refl _) _⟩
      · rw [show Lib.hasPrefix (⟨(opn k :: X).toArray⟩ : ByteArray).data.toList ((⟨#[60, 62]⟩ : ByteArray).extract 0 1).data.toList = false by
          have : k = 1 ∨ k = 2 ∨ k = 3 ∨ k = 4 := by omega
          rcases this with rfl | rfl | rfl | rfl <;> first | exact absurd rfl hk | simp [Lib.hasPrefix, opn, List.isPrefixOf]]
        go_wp2
        go_roundw
        case rel => exact ⟨3, by omega, by go_num, trivial⟩
        case measure => simp [intOf]
    · rw [show ((3 : Nat) : Int) = 3 from rfl]
      have hix := ix3
      go_wp2_with fail
      refine (Tryd.strings_HasPrefix _ _ _).mono ?_
      rintro e w1 ⟨rfl, hw⟩
      obtain rfl : wr = w1 := hw.symm
      clear hw
      by_cases hk : k = 3
      · subst hk
        rw [show Lib.hasPrefix (⟨(opn 3 :: X).toArray⟩ : ByteArray).data.toList ((⟨#[40, 41]⟩ : ByteArray).extract 0 1).data.toList = true by simp [Lib.hasPrefix, opn, List.isPrefixOf]]
        have s1 := sl_tail (opn 3) X
        have s2 : ∀ W, (Instr.slice 9 (.string ⟨#[40, 41]⟩) (some (.int .i64 1)) none none).run Tryd.prog W = .ok (.string ⟨#[41]⟩) W := sl_tail 40 [41]
        have HCC : Hid (Calls _ _ _ wr.drew _) := cut_seg l rest X 41 wr.drew HM.out hXl HCU.out
        have HE : Hid (opn 3 = opn 3) := rfl
        generalize opn 3 = o1 at *
        clear hix HE
        go_wp2
        go_region_held (fun _ => True) (trivial)
          (first | (go_at_call 90; refine HCC.out.mono ?_; rintro e w5 ⟨rfl, nn, rfl⟩))
        have HB5 : Hid (Below w.heap.size w (wr.drewN (1 + nn))) := below_drewN HB.out (1 + nn)
        have HT5 : Hid (Tabs (wr.drewN (1 + nn))) := HT.out.below (below_drewN (Below.refl _ wr) (1 + nn))
        have HM5 : Hid (MaxAt (wr.drewN (1 + nn))) := HM.out.below (below_drewN (Below.refl _ wr) (1 + nn))
        have HZ5 : Hid (ZAt w (wr.drewN (1 + nn))) := HZ.out.below (below_drewN (Below.refl _ wr) (1 + nn))
        clear HB HT HM HZ HCC s1 s2
        go_wp2_with fail
        generalize wr.drewN (1 + nn) = w5 at *
        refine (nums_yes l w5 h0 h255 HX.out HT5.out HM5.out).mono ?_
        rintro e w6 ⟨ad, c, rfl, hou, hb6⟩
        have HZ6 : Hid (ZAt w w6) := HZ5.out.below hb6
        have HU6 : Hid (OwnU w6 (w.heap.size + 1) (.slice ad l.length c) l) := hou.mono HZ5.out.hs
        have HB6 : Hid (Below w.heap.size w w6) := HB5.out.trans (hb6.mono HB5.out.size)
        obtain ⟨z0, z1, g0, g1, _⟩ := HZ6.out
        clear hou hb6 HZ5 HT5 HM5 HB5
        go_wp2
        have hg := HZ6.out.got (.int .i64 3) (.slice ad l.length c)
        refine bodyPost_ret (v := .tuple #[.agg #[.int .i64 3, .slice ad l.length c], .string ⟨rest.toArray⟩, .bool true]) (by simp [results, Tryd.results79, go_sem, hg.1, hg.2]) rfl ?_
        refine ⟨ad, c, rfl, ⟨owns_mono (owns_set (owns_set HU6.out.1 (b := w.heap.size) (fun g e => by have := (HU6.out.1.lt g e).1; omega) 0 _) (b := w.heap.size) (fun g e => by have := (HU6.out.1.lt g e).1; omega) 1 _) (by omega), HU6.out.2⟩, (HB6.out.setCell (Nat.le_refl _) _).setCell (Nat.le_refl _) _⟩
      · rw [show Lib.hasPrefix (⟨(opn k :: X).toArray⟩ : ByteArray).data.toList ((⟨#[40, 41]⟩ : ByteArray).extract 0 1).data.toList = false by
          have : k = 1 ∨ k = 2 ∨ k = 3 ∨ k = 4 := by omega
          rcases this with rfl | rfl | rfl | rfl <;> first | exact absurd rfl hk | simp [Lib.hasPrefix, opn, List.isPrefixOf]]
        go_wp2
        go_roundw
        case rel => exact ⟨4, by omega, by go_num, trivial⟩
        case measure => simp [intOf]
    · rw [show ((4 : Nat) : Int) = 4 from rfl]
      have hix := ix4
      go_wp2_with fail
      refine (Tryd.strings_HasPrefix _ _ _).mono ?_
      rintro e w1 ⟨rfl, hw⟩
      obtain rfl : wr = w1 := hw.symm
      clear hw
      by_cases hk : k = 4
      · subst hk
        rw [show Lib.hasPrefix (⟨(opn 4 :: X).toArray⟩ : ByteArray).data.toList ((⟨#[91, 93]⟩ : ByteArray).extract 0 1).data.toList = true by simp [Lib.hasPrefix, opn, List.isPrefixOf]]
        have s1 := sl_tail (opn 4) X
        have s2 : ∀ W, (Instr.slice 9 (.string ⟨#[91, 93]⟩) (some (.int .i64 1)) none none).run Tryd.prog W = .ok (.string ⟨#[93]⟩) W := sl_tail 91 [93]
        have HCC : Hid (Calls _ _ _ wr.drew _) := cut_seg l rest X 93 wr.drew HM.out hXl HCU.out
        have HE : Hid (opn 4 = opn 4) := rfl
        generalize opn 4 = o1 at *
        clear hix HE
        go_wp2
        go_region_held (fun _ => True) (trivial)
          (first | (go_at_call 90; refine HCC.out.mono ?_; rintro e w5 ⟨rfl, nn, rfl⟩))
        have HB5 : Hid (Below w.heap.size w (wr.drewN (1 + nn))) := below_drewN HB.out (1 + nn)
        have HT5 : Hid (Tabs (wr.drewN (1 + nn))) := HT.out.below (below_drewN (Below.refl _ wr) (1 + nn))
        have HM5 : Hid (MaxAt (wr.drewN (1 + nn))) := HM.out.below (below_drewN (Below.refl _ wr) (1 + nn))
        have HZ5 : Hid (ZAt w (wr.drewN (1 + nn))) := HZ.out.below (below_drewN (Below.refl _ wr) (1 + nn))
        clear HB HT HM HZ HCC s1 s2
        go_wp2_with fail
        generalize wr.drewN (1 + nn) = w5 at *
        refine (nums_yes l w5 h0 h255 HX.out HT5.out HM5.out).mono ?_
        rintro e w6 ⟨ad, c, rfl, hou, hb6⟩
        have HZ6 : Hid (ZAt w w6) := HZ5.out.below hb6
        have HU6 : Hid (OwnU w6 (w.heap.size + 1) (.slice ad l.length c) l) := hou.mono HZ5.out.hs
        have HB6 : Hid (Below w.heap.size w w6) := HB5.out.trans (hb6.mono HB5.out.size)
        obtain ⟨z0, z1, g0, g1, _⟩ := HZ6.out
        clear hou hb6 HZ5 HT5 HM5 HB5
        go_wp2
        have hg := HZ6.out.got (.int .i64 4) (.slice ad l.length c)
        refine bodyPost_ret (v := .tuple #[.agg #[.int .i64 4, .slice ad l.length c], .string ⟨rest.toArray⟩, .bool true]) (by simp [results, Tryd.results79, go_sem, hg.1, hg.2]) rfl ?_
        refine ⟨ad, c, rfl, ⟨owns_mono (owns_set (owns_set HU6.out.1 (b := w.heap.size) (fun g e => by have := (HU6.out.1.lt g e).1; omega) 0 _) (b := w.heap.size) (fun g e => by have := (HU6.out.1.lt g e).1; omega) 1 _) (by omega), HU6.out.2⟩, (HB6.out.setCell (Nat.le_refl _) _).setCell (Nat.le_refl _) _⟩
      · rw [show Lib.hasPrefix (⟨(opn k :: X).toArray⟩ : ByteArray).data.toList ((⟨#[91, 93]⟩ : ByteArray).extract 0 1).data.toList = false by
          have : k = 1 ∨ k = 2 ∨ k = 3 ∨ k = 4 := by omega
          rcases this with rfl | rfl | rfl | rfl <;> first | exact absurd rfl hk | simp [Lib.hasPrefix, opn, List.isPrefixOf]]
        go_wp2
        go_roundw
        case rel => exact ⟨5, by omega, by go_num, trivial⟩
        case measure => simp [intOf]
end Go.Proofs.YtbdfigfjoiefiaaDoor
