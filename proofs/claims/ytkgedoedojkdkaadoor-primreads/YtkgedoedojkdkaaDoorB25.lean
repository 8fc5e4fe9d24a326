/-
  The closing words of every statement: works answers true wherever the tables lie as they are laid.
-/
import Derived.Test.YtkgedoedojkdkaaDoorB23
import Derived.Test.YtkgedoedojkdkaaDoorB24
import Derived.Test.YtkgedoedojkdkaaDoorB9
namespace Go.Proofs.YtkgedoedojkdkaaDoor
open Go.RowKit
set_option maxRecDepth 100000 in
set_option maxHeartbeats 1600000 in
theorem works_any (w : World) (h : Tabs w) :
    Calls Tryd.prog 19 #[] w fun e w' => e = .returned (.bool true) ∧ Below w.heap.size w w' := by
  have hc : chk 4 7 ⟨#[10, 1, 0, 0]⟩ 16 = 0 := by decide +kernel
  have HC : Hid (chk 4 7 ⟨#[10, 1, 0, 0]⟩ 16 = 0) := hc
  have K1 : Hid (covB 4 7 ⟨#[10, 0, 0, 0]⟩ 8 4 7 ⟨#[10, 1, 0, 0]⟩ 16 = true) := (by decide +kernel : covB 4 7 ⟨#[10, 0, 0, 0]⟩ 8 4 7 ⟨#[10, 1, 0, 0]⟩ 16 = true)
  have K2 : Hid (covB 4 7 ⟨#[10, 1, 0, 0]⟩ 16 4 7 ⟨#[10, 0, 0, 0]⟩ 8 = false) := (by decide +kernel : covB 4 7 ⟨#[10, 1, 0, 0]⟩ 16 4 7 ⟨#[10, 0, 0, 0]⟩ 8 = false)
  have K3 : Hid (pcmp 4 7 ⟨#[10, 0, 0, 0]⟩ 8 4 7 ⟨#[10, 1, 0, 0]⟩ 16 = -1) := (by decide +kernel : pcmp 4 7 ⟨#[10, 0, 0, 0]⟩ 8 4 7 ⟨#[10, 1, 0, 0]⟩ 16 = -1)
  have K4 : Hid (msk [10, 1, 0, 0] 8 = [10, 0, 0, 0]) := (by decide +kernel : msk [10, 1, 0, 0] 8 = [10, 0, 0, 0])
  clear hc
  go_enter Tryd.func19, Tryd.ntmps19
  go_wp2_with fail
  refine (parse_w _ h).mono ?_
  rintro e w1 ⟨rfl, hb1⟩
  have h1 := h.below hb1
  go_wp2_with fail
  refine (text_w _ (h1.below ((Below.refl _ _).alloc (Nat.le_refl _) _))).mono ?_
  rintro e w2 ⟨rfl, hb2⟩
  have hbb : Below w1.heap.size w1 w2 := ((Below.refl _ _).alloc (Nat.le_refl _) _).trans (hb2.mono (by simp))
  have h2 := h1.below hbb
  have p2 := (PfxAt.of_alloc w1 _ 4 7 ⟨#[10, 1, 0, 0]⟩ 16 rfl).kept hb2 (by simp)
  have hs2 : w1.heap.size < w2.heap.size := by have := hb2.size; simp at this; omega
  have hB2 := hb1.trans (hbb.mono hb1.size)
  clear h1 hb2 hbb
  have c0 := p2.c0
  have c1 := p2.c1
  have c2 := p2.c2
  have c3 := p2.c3
  go_wp2_with fail
  refine (cut_yes 4 7 ⟨#[10, 1, 0, 0]⟩ 16 8 _ h2.sizes h2.rds HC.out (by decide) (by decide)).mono ?_
  rintro e w3 ⟨rfl, hb3⟩
  rw [show msk (⟨#[10, 1, 0, 0]⟩ : ByteArray).data.toList 8 = [10, 0, 0, 0] from K4.out]
  have h3 := h2.below hb3
  have p3 := p2.kept hb3 hs2
  have hs3 := Nat.lt_of_lt_of_le hs2 hb3.size
  have hB3 := hB2.trans (hb3.mono hB2.size)
  clear c0 c1 c2 c3 h2 p2 hb3 hs2 hB2
  have c0 := p3.c0
  have c1 := p3.c1
  have c2 := p3.c2
  have c3 := p3.c3
  go_wp2_with fail
  have h4 := h3.below ((Below.refl w3.heap.size w3).alloc (Nat.le_refl _) (.cells #[.int .i64 4, .int .u64 7, .string ⟨#[10, 0, 0, 0]⟩, .int .i64 8] 24))
  refine (covers_any 4 7 ⟨#[10, 0, 0, 0]⟩ 8 4 7 ⟨#[10, 1, 0, 0]⟩ 16 _ h4.sizes h4.rds).mono ?_
  rintro e w4 ⟨rfl, hb4⟩
  rw [K1.out]
  have q4 := (PfxAt.of_alloc w3 _ 4 7 ⟨#[10, 0, 0, 0]⟩ 8 rfl).kept hb4 (by simp)
  have hb5 : Below w3.heap.size w3 w4 := ((Below.refl _ _).alloc (Nat.le_refl _) _).trans (hb4.mono (by simp))
  have p4 := p3.kept hb5 hs3
  have h5 := h3.below hb5
  have hs4 := Nat.lt_of_lt_of_le hs3 hb5.size
  have hs5 : w3.heap.size < w4.heap.size := by have := hb4.size; simp at this; omega
  have hB4 := hB3.trans (hb5.mono hB3.size)
  clear c0 c1 c2 c3 h3 h4 p3 hb4 hb5 hB3
  have c0 := p4.c0
  have c1 := p4.c1
  have c2 := p4.c2
  have c3 := p4.c3
  have e0 := q4.c0
  have e1 := q4.c1
  have e2 := q4.c2
  have e3 := q4.c3
  go_wp2_with fail
  refine (covers_any 4 7 ⟨#[10, 1, 0, 0]⟩ 16 4 7 ⟨#[10, 0, 0, 0]⟩ 8 _ h5.sizes h5.rds).mono ?_
  rintro e w5 ⟨rfl, hb5⟩
  rw [K2.out]
  have q5 := q4.kept hb5 hs5
  have p5 := p4.kept hb5 hs4
  have hB5 := hB4.trans (hb5.mono hB4.size)
  clear c0 c1 c2 c3 e0 e1 e2 e3 h5 q4 p4 hb5 hB4
  have c0 := p5.c0
  have c1 := p5.c1
  have c2 := p5.c2
  have c3 := p5.c3
  have e0 := q5.c0
  have e1 := q5.c1
  have e2 := q5.c2
  have e3 := q5.c3
  go_wp2_with fail
  refine (cmp_any 4 7 ⟨#[10, 0, 0, 0]⟩ 8 4 7 ⟨#[10, 1, 0, 0]⟩ 16 _).mono ?_
  rintro e w6 ⟨rfl, hb6⟩
  rw [K3.out]
  have hB6 := hB5.trans (hb6.mono hB5.size)
  clear c0 c1 c2 c3 e0 e1 e2 e3 p5 q5
  go_wp2
  go_ret
  exact ⟨rfl, hB6⟩
end Go.Proofs.YtkgedoedojkdkaaDoor
