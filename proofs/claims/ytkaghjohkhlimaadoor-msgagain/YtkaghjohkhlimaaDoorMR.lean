/-
  MsgAgain.
-/
import Derived.Test.YtkaghjohkhlimaaDoorMP
import Derived.BigQuiet
namespace Go.Proofs.YtkaghjohkhlimaaDoor
open Go.RowKit
theorem sh_l (l : List UInt8) (i : Nat) (h : i ≤ l.length) (W : World) : (Instr.slice 9 (.string ⟨l.toArray⟩) none (some (.int .i64 (i : Int))) none).run Tryd.prog W = .ok (.string ⟨(l.take i).toArray⟩) W := by
  rw [run_slice_string_h W 9 _ Tryd.underlying9 .i64 (i : Int) (by omega) (by rw [list_size]; omega), Int.toNat_natCast]
  congr 2
  apply ByteArray.ext
  simp
theorem rd_cases (l : List UInt8) : (∃ e : Int, (e = 3 ∨ e = 4) ∧ rdA l = .tuple #[.agg (ntC 0 0 []), .int .i64 e]) ∨ (∃ (c s : UInt8) (d : List UInt8), l = c :: s :: d ∧ c.toNat ≠ 0 ∧ d.length ≤ 4075 ∧ rdA l = .tuple #[.agg (ntC c.toNat s.toNat d), .int .i64 0]) := by
  by_cases hl : 4077 < l.length
  · exact Or.inl ⟨3, Or.inl rfl, by unfold rdA; rw [if_pos hl]⟩
  · cases l with
    | nil => exact Or.inl ⟨4, Or.inr rfl, rfl⟩
    | cons c m =>
      cases m with
      | nil => exact Or.inl ⟨4, Or.inr rfl, rfl⟩
      | cons s d =>
        by_cases hz : c.toNat = 0
        · exact Or.inl ⟨4, Or.inr rfl, by unfold rdA; rw [if_neg hl]; exact if_pos hz⟩
        · exact Or.inr ⟨c, s, d, rfl, hz, by simp at hl; omega, by unfold rdA; rw [if_neg hl]; exact if_neg hz⟩
theorem fmN_is {x y : Int} (h : fmN x y ≠ 0) : isF (fmN x y) = true := by
  unfold fmN at h ⊢
  split
  · rfl
  · split
    · rfl
    · split
      · rfl
      · split
        · rfl
        · split
          · rfl
          · simp_all
theorem rr_cases (l : List UInt8) : (∃ e : Int, (e = 4 ∨ e = 5) ∧ rrA l = .tuple #[.int .i64 0, .int .i64 e]) ∨ (∃ (a b c s : UInt8) (f : Int), l = [a, b, c, s] ∧ isF f = true ∧ rfL f = [a, b, 0, s] ∧ rrA l = .tuple #[.int .i64 f, .int .i64 0]) := by
  by_cases hl : l.length = 4
  · obtain ⟨a, b, c, s, rfl⟩ := four_of hl
    by_cases hz : fmN ((a.toNat * 256 + b.toNat : Nat) : Int) (s.toNat : Int) = 0
    · exact Or.inl ⟨5, Or.inr rfl, if_pos hz⟩
    · refine Or.inr ⟨a, b, c, s, _, rfl, fmN_is hz, ?_, if_neg hz⟩
      obtain ⟨h1, h2⟩ := fm_pair hz
      have h3 := afN_lt (fmN ((a.toNat * 256 + b.toNat : Nat) : Int) (s.toNat : Int))
      rw [rf_four]
      have hb := b.toNat_lt
      have ha0 : a.toNat = 0 := by omega
      have hb0 : afN (fmN ((a.toNat * 256 + b.toNat : Nat) : Int) (s.toNat : Int)) = b.toNat := by omega
      have hs0 : sfN (fmN ((a.toNat * 256 + b.toNat : Nat) : Int) (s.toNat : Int)) = s.toNat := by omega
      rw [hb0, hs0, UInt8.ofNat_toNat, UInt8.ofNat_toNat, show a = 0 from UInt8.toNat_inj.1 ha0]
  · exact Or.inl ⟨4, Or.inl rfl, rrA_no hl⟩
set_option maxHeartbeats 3200000 in
theorem again_ee (l : List UInt8) (e1 : Int) (he1 : e1 = 3 ∨ e1 = 4) (hr : rdA l = .tuple #[.agg (ntC 0 0 []), .int .i64 e1]) (e2 : Int) (he2 : e2 = 4 ∨ e2 = 5) (hq : rrA l = .tuple #[.int .i64 0, .int .i64 e2]) (w : World) (hg : FamSizes w) :
    Calls Tryd.prog 7 #[.string ⟨l.toArray⟩] w fun e w' => e = .returned (.bool true) ∧ Below w.heap.size w w' := by
  have HG : Hid (FamSizes w) := hg
  have KW : Hid (_ : Prop) := works_any w hg
  have K2 : Hid (∀ X, _) := fun X => read_any l X
  rw [hr] at K2
  have K6 : Hid (∀ X, FamSizes X → _) := fun X h => rr_any l X h
  rw [hq] at K6
  have g1 : (e1 == 0) = false := beq_eq_false_iff_ne.2 (by omega)
  clear he1
  have g2 : (e2 != 0) = true := by simp; omega
  clear he2
  unfold ntC at *
  generalize (⟨l.toArray⟩ : ByteArray) = S at *
  clear hg hr hq
  go_enter Tryd.func7, Tryd.ntmps7
  go_wp2_with fail
  refine Calls.mono KW.out ?_
  rintro e w1 ⟨rfl, hb1⟩
  have HB1 : Hid (Below w.heap.size w w1) := hb1
  clear hb1 KW
  go_wp2_with fail
  refine Calls.mono (K2.out _) ?_
  rintro e w2 ⟨rfl, hb2⟩
  have HB2 : Hid (Below w.heap.size w w2) := HB1.out.trans (hb2.mono HB1.out.size)
  clear hb2 HB1 K2
  have HA2 : Hid (Below w.heap.size w (w2.alloc (.cells #[.int .u8 0, .int .u8 0, .string ⟨#[]⟩] 30))) := HB2.out.alloc HB2.out.size _
  go_wp2_with fail
  refine Calls.mono (K6.out _ (HG.out.below HA2.out)) ?_
  rintro e w4 ⟨rfl, hb4⟩
  have HB4 : Hid (Below w.heap.size w w4) := HA2.out.trans (hb4.mono HA2.out.size)
  clear hb4 K6 HA2
  go_wp2
  go_ret
  exact ⟨rfl, HB4.out⟩
set_option maxHeartbeats 3200000 in
theorem again_ef (l : List UInt8) (e1 : Int) (he1 : e1 = 3 ∨ e1 = 4) (hr : rdA l = .tuple #[.agg (ntC 0 0 []), .int .i64 e1]) (x1 x2 x3 x4 : UInt8) (f : Int) (hx : l = [x1, x2, x3, x4]) (hf : isF f = true) (hfl : rfL f = [x1, x2, 0, x4]) (hq : rrA l = .tuple #[.int .i64 f, .int .i64 0]) (w : World) (hg : FamSizes w) :
    Calls Tryd.prog 7 #[.string ⟨l.toArray⟩] w fun e w' => e = .returned (.bool true) ∧ Below w.heap.size w w' := by
  have HG : Hid (FamSizes w) := hg
  have KW : Hid (_ : Prop) := works_any w hg
  have K2 : Hid (∀ X, _) := fun X => read_any l X
  rw [hr] at K2
  have K6 : Hid (∀ X, FamSizes X → _) := fun X h => rr_any l X h
  rw [hq] at K6
  have g1 : (e1 == 0) = false := beq_eq_false_iff_ne.2 (by omega)
  clear he1
  have K5 : Hid (∀ X, FamSizes X → _) := fun X h => refresh_any f X h
  rw [show rfA f = .tuple #[.string ⟨(rfL f).toArray⟩, .int .i64 0] by unfold rfA; rw [hf]; rfl] at K5
  have hs4 := rf_size f
  have q1 : ∀ W, (Instr.slice 9 (.string ⟨(rfL f).toArray⟩) none (some (.int .i64 2)) none).run Tryd.prog W = .ok (.string ⟨[x1, x2].toArray⟩) W := fun W => by rw [hfl]; exact sh_l [x1, x2, 0, x4] 2 (by simp) W
  have q2 : ∀ W, (Instr.slice 9 (.string ⟨l.toArray⟩) none (some (.int .i64 2)) none).run Tryd.prog W = .ok (.string ⟨[x1, x2].toArray⟩) W := fun W => by rw [hx]; exact sh_l [x1, x2, x3, x4] 2 (by simp) W
  have q3 : ∀ W, (Instr.index 9 (.string ⟨(rfL f).toArray⟩) (.int .i64 3)).run Tryd.prog W = .ok (.int .u8 (x4.toNat : Int)) W := fun W => by rw [hfl]; exact idx_l [x1, x2, 0, x4] 3 (by simp) W
  have q4 : ∀ W, (Instr.index 9 (.string ⟨l.toArray⟩) (.int .i64 3)).run Tryd.prog W = .ok (.int .u8 (x4.toNat : Int)) W := fun W => by rw [hx]; exact idx_l [x1, x2, x3, x4] 3 (by simp) W
  have hs5 : (⟨l.toArray⟩ : ByteArray).size = 4 := by rw [hx]; rfl
  generalize (⟨(rfL f).toArray⟩ : ByteArray) = R at *
  generalize (⟨[x1, x2].toArray⟩ : ByteArray) = R2 at *
  generalize x4.toNat = x at *
  unfold ntC at *
  generalize (⟨l.toArray⟩ : ByteArray) = S at *
  clear hx hf hfl
  clear hg hr hq
  go_enter Tryd.func7, Tryd.ntmps7
  go_wp2_with fail
  refine Calls.mono KW.out ?_
  rintro e w1 ⟨rfl, hb1⟩
  have HB1 : Hid (Below w.heap.size w w1) := hb1
  clear hb1 KW
  go_wp2_with fail
  refine Calls.mono (K2.out _) ?_
  rintro e w2 ⟨rfl, hb2⟩
  have HB2 : Hid (Below w.heap.size w w2) := HB1.out.trans (hb2.mono HB1.out.size)
  clear hb2 HB1 K2
  have HA2 : Hid (Below w.heap.size w (w2.alloc (.cells #[.int .u8 0, .int .u8 0, .string ⟨#[]⟩] 30))) := HB2.out.alloc HB2.out.size _
  go_wp2_with fail
  refine Calls.mono (K6.out _ (HG.out.below HA2.out)) ?_
  rintro e w4 ⟨rfl, hb4⟩
  have HB4 : Hid (Below w.heap.size w w4) := HA2.out.trans (hb4.mono HA2.out.size)
  clear hb4 K6 HA2
  go_wp2_with fail
  refine Calls.mono (K5.out _ (HG.out.below HB4.out)) ?_
  rintro e w5 ⟨rfl, hb5⟩
  have HB5 : Hid (Below w.heap.size w w5) := HB4.out.trans (hb5.mono HB4.out.size)
  clear hb5 K5 HB4
  go_wp2
  go_quiet (fail)
  go_wp2
  go_ret
  exact ⟨rfl, below_drewN HB5.out _⟩
set_option maxHeartbeats 3200000 in
theorem again_fe (l : List UInt8) (c s : UInt8) (d : List UInt8) (hl : l = c :: s :: d) (hz : c.toNat ≠ 0) (hd : d.length ≤ 4075) (hr : rdA l = .tuple #[.agg (ntC c.toNat s.toNat d), .int .i64 0]) (e2 : Int) (he2 : e2 = 4 ∨ e2 = 5) (hq : rrA l = .tuple #[.int .i64 0, .int .i64 e2]) (w : World) (hg : FamSizes w) :
    Calls Tryd.prog 7 #[.string ⟨l.toArray⟩] w fun e w' => e = .returned (.bool true) ∧ Below w.heap.size w w' := by
  have HG : Hid (FamSizes w) := hg
  have KW : Hid (_ : Prop) := works_any w hg
  have K2 : Hid (∀ X, _) := fun X => read_any l X
  rw [hr] at K2
  have K6 : Hid (∀ X, FamSizes X → _) := fun X h => rr_any l X h
  rw [hq] at K6
  have K1 : Hid (∀ X, _) := fun X => note_any c.toNat s.toNat d c.toNat_lt s.toNat_lt (by omega) X
  rw [show ntA c.toNat s.toNat d = .tuple #[.string ⟨l.toArray⟩, .int .i64 0] by unfold ntA; rw [if_neg hz, if_neg (by omega), nt_two, UInt8.ofNat_toNat, UInt8.ofNat_toNat, ← hl]] at K1
  have g0 : ((c.toNat : Int) == 0) = false := beq_eq_false_iff_ne.2 (by omega)
  have g2 : (e2 != 0) = true := by simp; omega
  clear he2
  unfold ntC at *
  generalize (⟨l.toArray⟩ : ByteArray) = S at *
  generalize (⟨d.toArray⟩ : ByteArray) = D at *
  generalize c.toNat = cn at *
  generalize s.toNat = sn at *
  clear hl hz hd
  clear hg hr hq
  go_enter Tryd.func7, Tryd.ntmps7
  go_wp2_with fail
  refine Calls.mono KW.out ?_
  rintro e w1 ⟨rfl, hb1⟩
  have HB1 : Hid (Below w.heap.size w w1) := hb1
  clear hb1 KW
  go_wp2_with fail
  refine Calls.mono (K2.out _) ?_
  rintro e w2 ⟨rfl, hb2⟩
  have HB2 : Hid (Below w.heap.size w w2) := HB1.out.trans (hb2.mono HB1.out.size)
  clear hb2 HB1 K2
  have HA2 : Hid (Below w.heap.size w (w2.alloc (.cells #[.int .u8 (cn : Int), .int .u8 (sn : Int), .string D] 30))) := HB2.out.alloc HB2.out.size _
  go_wp2_with fail
  refine Calls.mono (K1.out _) ?_
  rintro e w3 ⟨rfl, hb3⟩
  have HB3 : Hid (Below w.heap.size w w3) := HA2.out.trans (hb3.mono HA2.out.size)
  have HX3 := blk hb3 (hp_new (W := w2) (o := .cells #[.int .u8 (cn : Int), .int .u8 (sn : Int), .string D] 30) rfl)
  have x0 := cl_row (i := 0) HX3 rfl
  clear HX3 hb3 K1 HA2 HB2
  go_wp2_with fail
  refine Calls.mono (K6.out _ (HG.out.below HB3.out)) ?_
  rintro e w4 ⟨rfl, hb4⟩
  have HB4 : Hid (Below w.heap.size w w4) := HB3.out.trans (hb4.mono HB3.out.size)
  clear hb4 K6 HB3
  go_wp2
  go_ret
  exact ⟨rfl, HB4.out⟩
set_option maxHeartbeats 3200000 in
theorem again_ff (l : List UInt8) (c s : UInt8) (d : List UInt8) (hl : l = c :: s :: d) (hz : c.toNat ≠ 0) (hd : d.length ≤ 4075) (hr : rdA l = .tuple #[.agg (ntC c.toNat s.toNat d), .int .i64 0]) (x1 x2 x3 x4 : UInt8) (f : Int) (hx : l = [x1, x2, x3, x4]) (hf : isF f = true) (hfl : rfL f = [x1, x2, 0, x4]) (hq : rrA l = .tuple #[.int .i64 f, .int .i64 0]) (w : World) (hg : FamSizes w) :
    Calls Tryd.prog 7 #[.string ⟨l.toArray⟩] w fun e w' => e = .returned (.bool true) ∧ Below w.heap.size w w' := by
  have HG : Hid (FamSizes w) := hg
  have KW : Hid (_ : Prop) := works_any w hg
  have K2 : Hid (∀ X, _) := fun X => read_any l X
  rw [hr] at K2
  have K6 : Hid (∀ X, FamSizes X → _) := fun X h => rr_any l X h
  rw [hq] at K6
  have K1 : Hid (∀ X, _) := fun X => note_any c.toNat s.toNat d c.toNat_lt s.toNat_lt (by omega) X
  rw [show ntA c.toNat s.toNat d = .tuple #[.string ⟨l.toArray⟩, .int .i64 0] by unfold ntA; rw [if_neg hz, if_neg (by omega), nt_two, UInt8.ofNat_toNat, UInt8.ofNat_toNat, ← hl]] at K1
  have g0 : ((c.toNat : Int) == 0) = false := beq_eq_false_iff_ne.2 (by omega)
  have K5 : Hid (∀ X, FamSizes X → _) := fun X h => refresh_any f X h
  rw [show rfA f = .tuple #[.string ⟨(rfL f).toArray⟩, .int .i64 0] by unfold rfA; rw [hf]; rfl] at K5
  have hs4 := rf_size f
  have q1 : ∀ W, (Instr.slice 9 (.string ⟨(rfL f).toArray⟩) none (some (.int .i64 2)) none).run Tryd.prog W = .ok (.string ⟨[x1, x2].toArray⟩) W := fun W => by rw [hfl]; exact sh_l [x1, x2, 0, x4] 2 (by simp) W
  have q2 : ∀ W, (Instr.slice 9 (.string ⟨l.toArray⟩) none (some (.int .i64 2)) none).run Tryd.prog W = .ok (.string ⟨[x1, x2].toArray⟩) W := fun W => by rw [hx]; exact sh_l [x1, x2, x3, x4] 2 (by simp) W
  have q3 : ∀ W, (Instr.index 9 (.string ⟨(rfL f).toArray⟩) (.int .i64 3)).run Tryd.prog W = .ok (.int .u8 (x4.toNat : Int)) W := fun W => by rw [hfl]; exact idx_l [x1, x2, 0, x4] 3 (by simp) W
  have q4 : ∀ W, (Instr.index 9 (.string ⟨l.toArray⟩) (.int .i64 3)).run Tryd.prog W = .ok (.int .u8 (x4.toNat : Int)) W := fun W => by rw [hx]; exact idx_l [x1, x2, x3, x4] 3 (by simp) W
  have hs5 : (⟨l.toArray⟩ : ByteArray).size = 4 := by rw [hx]; rfl
  generalize (⟨(rfL f).toArray⟩ : ByteArray) = R at *
  generalize (⟨[x1, x2].toArray⟩ : ByteArray) = R2 at *
  generalize x4.toNat = x at *
  unfold ntC at *
  generalize (⟨l.toArray⟩ : ByteArray) = S at *
  generalize (⟨d.toArray⟩ : ByteArray) = D at *
  generalize c.toNat = cn at *
  generalize s.toNat = sn at *
  clear hl hz hd
  clear hx hf hfl
  clear hg hr hq
  go_enter Tryd.func7, Tryd.ntmps7
  go_wp2_with fail
  refine Calls.mono KW.out ?_
  rintro e w1 ⟨rfl, hb1⟩
  have HB1 : Hid (Below w.heap.size w w1) := hb1
  clear hb1 KW
  go_wp2_with fail
  refine Calls.mono (K2.out _) ?_
  rintro e w2 ⟨rfl, hb2⟩
  have HB2 : Hid (Below w.heap.size w w2) := HB1.out.trans (hb2.mono HB1.out.size)
  clear hb2 HB1 K2
  have HA2 : Hid (Below w.heap.size w (w2.alloc (.cells #[.int .u8 (cn : Int), .int .u8 (sn : Int), .string D] 30))) := HB2.out.alloc HB2.out.size _
  go_wp2_with fail
  refine Calls.mono (K1.out _) ?_
  rintro e w3 ⟨rfl, hb3⟩
  have HB3 : Hid (Below w.heap.size w w3) := HA2.out.trans (hb3.mono HA2.out.size)
  have HX3 := blk hb3 (hp_new (W := w2) (o := .cells #[.int .u8 (cn : Int), .int .u8 (sn : Int), .string D] 30) rfl)
  have x0 := cl_row (i := 0) HX3 rfl
  clear HX3 hb3 K1 HA2 HB2
  go_wp2_with fail
  refine Calls.mono (K6.out _ (HG.out.below HB3.out)) ?_
  rintro e w4 ⟨rfl, hb4⟩
  have HB4 : Hid (Below w.heap.size w w4) := HB3.out.trans (hb4.mono HB3.out.size)
  clear hb4 K6 HB3
  go_wp2_with fail
  refine Calls.mono (K5.out _ (HG.out.below HB4.out)) ?_
  rintro e w5 ⟨rfl, hb5⟩
  have HB5 : Hid (Below w.heap.size w w5) := HB4.out.trans (hb5.mono HB4.out.size)
  clear hb5 K5 HB4
  go_wp2
  go_quiet (fail)
  go_wp2
  go_ret
  exact ⟨rfl, below_drewN HB5.out _⟩
theorem again_walk (l : List UInt8) (w : World) (hg : FamSizes w) :
    Calls Tryd.prog 7 #[.string ⟨l.toArray⟩] w fun e w' => e = .returned (.bool true) ∧ Below w.heap.size w w' := by
  rcases rd_cases l with ⟨e1, he1, hr⟩ | ⟨c, s, d, hl, hz, hd, hr⟩
  · rcases rr_cases l with ⟨e2, he2, hq⟩ | ⟨x1, x2, x3, x4, f, hx, hf, hfl, hq⟩
    · exact again_ee l e1 he1 hr e2 he2 hq w hg
    · exact again_ef l e1 he1 hr x1 x2 x3 x4 f hx hf hfl hq w hg
  · rcases rr_cases l with ⟨e2, he2, hq⟩ | ⟨x1, x2, x3, x4, f, hx, hf, hfl, hq⟩
    · exact again_fe l c s d hl hz hd hr e2 he2 hq w hg
    · exact again_ff l c s d hl hz hd hr x1 x2 x3 x4 f hx hf hfl hq w hg
end Go.Proofs.YtkaghjohkhlimaaDoor
