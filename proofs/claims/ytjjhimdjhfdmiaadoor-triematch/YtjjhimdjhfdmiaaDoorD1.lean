/-
  A trie in memory; the contracts of top and Match.
-/
import Derived.Test.YtjjhimdjhfdmiaaDoorC7
import Derived.Test.YtjjhimdjhfdmiaaDoorB16
namespace Go.Proofs.YtjjhimdjhfdmiaaDoor
open Go.Deep (BT)
open Go.RowKit
/-- The key of a prefix that may be. -/
def Can (row : ByteArray) (len : Nat) : Prop := ∃ (f r : Nat) (s : ByteArray) (l : Nat), chk f r s l = 0 ∧ r < 18446744073709551616 ∧ row = keyRow f r s ∧ len = 72 + l
theorem chk_bd {f r : Nat} {s : ByteArray} {l : Nat} (h : chk f r s l = 0) : f ≤ 5 ∧ 1 ≤ f ∧ (s.size = 4 ∨ s.size = 16) ∧ l ≤ 128 ∧ l ≤ 8 * s.size ∧ s.size ≤ 16 := by
  obtain ⟨h1, h2, h3, h4, h5, h6⟩ := chk_zero h
  rcases szOf_pos f h1 with ⟨h7, h8⟩ | ⟨h7, h8⟩ <;> omega
theorem key_bd {f r : Nat} {s : ByteArray} {l : Nat} (h : chk f r s l = 0) : 72 + l ≤ 8 * (keyRow f r s).size ∧ (keyRow f r s).size ≤ 25 := by
  have := chk_bd h
  rw [keyRow_size]; omega
/-- The head of a trie. -/
structure HeadAt (w : World) (tb : Nat) (p : Option Addr) (c : Int) : Prop where
  c0 : w.cell? ⟨tb, 0, none⟩ = some (.bool true)
  c1 : w.cell? ⟨tb, 1, none⟩ = some (.pointer p)
  c2 : w.cell? ⟨tb, 2, none⟩ = some (.int .i64 c)
  f1 : w.frozen? ⟨tb, 1, none⟩ = false
  f2 : w.frozen? ⟨tb, 2, none⟩ = false
theorem HeadAt.kept {w w' : World} {tb B : Nat} {p : Option Addr} {c : Int} (h : HeadAt w tb p c) (hb : Below B w w') (hB : tb < B) : HeadAt w' tb p c :=
  ⟨(hb.cell (p := ⟨tb, 0, none⟩) hB).trans h.c0, (hb.cell (p := ⟨tb, 1, none⟩) hB).trans h.c1, (hb.cell (p := ⟨tb, 2, none⟩) hB).trans h.c2, (hb.frozen (p := ⟨tb, 1, none⟩) hB).trans h.f1, (hb.frozen (p := ⟨tb, 2, none⟩) hB).trans h.f2⟩
theorem HeadAt.drew {w : World} {tb : Nat} {p : Option Addr} {c : Int} (h : HeadAt w tb p c) : HeadAt w.drew tb p c := ⟨h.c0, h.c1, h.c2, h.f1, h.f2⟩
/-- A trie with the values of the tree t lies at block tb. -/
structure TrAt (w : World) (tb : Nat) (t : T) (c : Int) : Prop where
  lt : tb < w.heap.size
  wf : t.WF Can
  rep : ∃ p, HeadAt w tb p c ∧ Rep (fun j => j ≠ tb) w t p
theorem TrAt.below {w w' : World} {tb : Nat} {t : T} {c : Int} (h : TrAt w tb t c) (hb : Below w.heap.size w w') : TrAt w' tb t c := by
  obtain ⟨h1, h2, p, h3, h4⟩ := h
  exact ⟨Nat.lt_of_lt_of_le h1 hb.size, h2, p, h3.kept hb h1, h4.below hb⟩
theorem top_any (tb : Nat) (p : Option Addr) (w : World) (h : w.cell? ⟨tb, 1, none⟩ = some (.pointer p)) :
    Calls Tryd.prog 36 #[.pointer (some ⟨tb, 0, none⟩)] w fun e w' => e = .returned (.pointer p) ∧ w' = w := by
  go_enter Tryd.func36, Tryd.ntmps36
  go_wp2
  go_ret
  exact ⟨rfl, rfl⟩
/-- What Match answers. -/
def MRes : Option Ent → Value → Prop
  | none, v => v = .tuple #[.agg #[.int .i64 0, .int .u64 0, .string ⟨#[]⟩, .int .i64 0], .int .i64 0, .bool false]
  | some e, v => ∃ (f r : Nat) (s : ByteArray) (l : Nat), chk f r s l = 0 ∧ r < 18446744073709551616 ∧ e.row = keyRow f r s ∧ e.len = 72 + l ∧ v = .tuple #[.agg #[.int .i64 f, .int .u64 r, .string s, .int .i64 l], .int .i64 e.val, .bool true]
set_option maxRecDepth 100000 in
set_option maxHeartbeats 800000 in
theorem matchT_any (tb : Nat) (t : T) (c : Int) (f r : Nat) (s : ByteArray) (l : Nat) (w : World) (ht : TrAt w tb t c) (hT : Tabs w) (hc : chk f r s l = 0) (hr : r < 18446744073709551616) :
    Calls Tryd.prog 15 #[.pointer (some ⟨tb, 0, none⟩), .agg #[.int .i64 f, .int .u64 r, .string s, .int .i64 l]] w fun e w' => ∃ v, e = .returned v ∧ MRes (t.mt (keyRow f r s) (72 + l) none) v ∧ Below w.heap.size w w' := by
  have bd := chk_bd hc
  have kb := key_bd hc
  have HC : Hid (chk f r s l = 0) := hc
  clear hc
  go_enter Tryd.func15, Tryd.ntmps15
  go_wp2_with fail
  have hB1 : Below w.heap.size w ((w.alloc (.cells #[.int .i64 f, .int .u64 r, .string s, .int .i64 l] 29)).alloc (.cells #[.int .i64 0, .int .u64 0, .string ⟨#[]⟩, .int .i64 0] 29)) := ((Below.refl _ _).alloc (Nat.le_refl _) _).alloc (by simp) _
  have pa : PfxAt ((w.alloc (.cells #[.int .i64 f, .int .u64 r, .string s, .int .i64 l] 29)).alloc (.cells #[.int .i64 0, .int .u64 0, .string ⟨#[]⟩, .int .i64 0] 29)) w.heap.size f r s l := (PfxAt.of_alloc w _ f r s l rfl).kept (B := w.heap.size + 1) ((Below.refl _ _).alloc (by simp) _) (by simp)
  have pz : PfxAt ((w.alloc (.cells #[.int .i64 f, .int .u64 r, .string s, .int .i64 l] 29)).alloc (.cells #[.int .i64 0, .int .u64 0, .string ⟨#[]⟩, .int .i64 0] 29)) (w.heap.size + 1) 0 0 ⟨#[]⟩ 0 := PfxAt.of_alloc _ _ 0 0 ⟨#[]⟩ 0 (by simp)
  have hz : w.heap.size + 1 < ((w.alloc (.cells #[.int .i64 f, .int .u64 r, .string s, .int .i64 l] 29)).alloc (.cells #[.int .i64 0, .int .u64 0, .string ⟨#[]⟩, .int .i64 0] 29)).heap.size := by simp
  obtain ⟨lt0, wf2, p, hd0, hr0⟩ := ht
  have hd1 := hd0.kept hB1 lt0
  have hr1 : Rep (fun j => j ≠ tb ∧ j < w.heap.size) _ t p := (Rep.lt t p hr0).below hB1
  have T1 := hT.below hB1
  clear hd0 hr0
  refine (check_any f r s l _ T1.sizes T1.rds).mono ?_
  generalize (w.alloc (.cells #[.int .i64 f, .int .u64 r, .string s, .int .i64 l] 29)).alloc (.cells #[.int .i64 0, .int .u64 0, .string ⟨#[]⟩, .int .i64 0] 29) = w1 at *
  rintro e w2 ⟨rfl, hb2⟩
  rw [HC.out]
  have hB2 := hB1.trans (hb2.mono hB1.size)
  have pa2 := pa.kept hb2 (by omega)
  have pz2 := pz.kept hb2 hz
  have hz2 := Nat.lt_of_lt_of_le hz hb2.size
  have lt2 : tb < w2.heap.size := by omega
  have hd := hd1.kept hb2 (by omega)
  have hrep := hr1.below hb2
  clear pa pz hd1 hr1 T1 hb2 hB1 hz hT
  obtain ⟨a0, a1, a2, a3, _, _, _, _⟩ := id pa2
  have h1 := hd.c1
  go_wp2
  go_region_held (fun w' => w'.cell? ⟨tb, 1, none⟩ = some (.pointer p) ∧ w'.cell? ⟨w.heap.size, 0, none⟩ = some (.int .i64 f) ∧ w'.cell? ⟨w.heap.size, 1, none⟩ = some (.int .u64 r) ∧ w'.cell? ⟨w.heap.size, 2, none⟩ = some (.string s) ∧ w'.cell? ⟨w.heap.size, 3, none⟩ = some (.int .i64 l)) (go_keep)
    (first
      | (go_at_call 36; refine (top_any tb p _ (by simp [*])).mono ?_; rintro e w' ⟨rfl, rfl⟩)
      | (go_at_call 24; refine (keyOf_any f r s l _ bd.2.2.1 bd.1 bd.2.2.2.1 hr).mono ?_; rintro e w3 ⟨rfl, hb3⟩; obtain ⟨x0, x1, x2, x3, _, _, _, _⟩ := pa2.drew.kept hb3 (by simp; omega); have x4 := (hd.drew.kept hb3 lt2).c1)
      | (go_at_call 37; refine (match_any (keyRow f r s) (72 + l) t p _ kb.1 kb.2 wf2 (hrep.drew.below hb3)).mono ?_; rintro e w4 ⟨q, rfl, hq, hb4⟩; obtain ⟨x0, x1, x2, x3, _, _, _, _⟩ := (pa2.drew.kept hb3 (by simp; omega)).kept hb4 (by have := hb3.size; simp at this; omega); have x4 := ((hd.drew.kept hb3 lt2).kept hb4 (Nat.lt_of_lt_of_le lt2 hb3.size)).c1))
  have hB4 : Below w.heap.size w w4 := hB2.drew.trans ((hb3.mono hB2.size).trans (hb4.mono (Nat.le_trans hB2.size hb3.size)))
  have hz3 : w.heap.size + 1 < w3.heap.size := Nat.lt_of_lt_of_le hz2 hb3.size
  have hz4 := Nat.lt_of_lt_of_le hz3 hb4.size
  have pz4 := (pz2.drew.kept hb3 hz2).kept hb4 hz3
  have hmem : ∀ e, t.mt (keyRow f r s) (72 + l) none = some e → Can e.row e.len := fun e he => by
    rcases mt_spec (C := Can) (keyRow f r s) (72 + l) t none wf2 with ⟨e', h1, h2, _⟩ | ⟨h1, _⟩
    · rw [he] at h2; cases h2; exact BT.WF.ent t wf2 _ h1
    · rw [he] at h1; cases h1
  obtain ⟨o, HO⟩ : ∃ o, Hid (t.mt (keyRow f r s) (72 + l) none = o) := ⟨_, rfl⟩
  rw [HO.out] at hq
  obtain ⟨d0, d1, d2, d3, g0, g1, g2, g3⟩ := id pz4
  clear a0 a1 a2 a3 h1 x0 x1 x2 x3 x4 hb3 hb4 hd hrep pa2 pz2 HC
  cases o with
  | none =>
    obtain rfl : q = none := hq
    go_wp2
    refine bodyPost_ret (v := .tuple #[.agg #[.int .i64 0, .int .u64 0, .string ⟨#[]⟩, .int .i64 0], .int .i64 0, .bool false]) (by simp [results, Tryd.results15, go_sem, d0, d1, d2, d3]) rfl ⟨_, rfl, by rw [HO.out]; rfl, ?_⟩
    exact (((hB4.setCell (by simp) _).setCell (by simp) _).setCell (by simp) _).setCell (by simp) _
  | some e =>
    obtain ⟨b, p0, p1, rfl, hSb, hb, hnd⟩ := hq
    have neb : b ≠ w.heap.size + 1 := by have := hSb.2; omega
    have neb' : w.heap.size + 1 ≠ b := fun h => neb h.symm
    obtain ⟨f', r', s', l', hc', hr', he1, he2⟩ := hmem e HO.out
    have bd' := chk_bd hc'
    rw [he1, he2] at hnd
    obtain ⟨n0, n1, n2, n3, n4, n5⟩ := id hnd
    have HE : Hid (MRes (some e) (.tuple #[.agg #[.int .i64 f', .int .u64 r', .string s', .int .i64 l'], .int .i64 e.val, .bool true])) := ⟨f', r', s', l', hc', hr', he1, he2, rfl⟩
    clear hc' he1 he2 hmem
    go_wp2
    go_region_held (fun w' => w'.cell? ⟨b, 0, none⟩ = some (.string (keyRow f' r' s')) ∧ w'.cell? ⟨b, 1, none⟩ = some (.int .i64 ((72 + l' : Nat) : Int)) ∧ w'.cell? ⟨b, 3, none⟩ = some (.int .i64 e.val)) (go_keep)
      (first | (go_at_call 38; refine (prefix_any f' r' s' l' _ bd'.2.2.2.2.2 bd'.1 bd'.2.2.2.1 hr').mono ?_; rintro e w5 ⟨rfl, hb5⟩; obtain ⟨y0, y1, y2, y3, y4, y5⟩ := hnd.drew.kept hb5 hb; obtain ⟨z0, z1, z2, z3, u0, u1, u2, u3⟩ := pz4.drew.kept hb5 hz4))
    have hB5 := hB4.drew.trans (hb5.mono hB4.size)
    go_wp2
    refine bodyPost_ret (v := .tuple #[.agg #[.int .i64 f', .int .u64 r', .string s', .int .i64 l'], .int .i64 e.val, .bool true]) (by simp [results, Tryd.results15, go_sem, z0, z1, z2, z3]) rfl ⟨_, rfl, by rw [HO.out]; exact HE.out, ?_⟩
    exact (((hB5.setCell (by simp) _).setCell (by simp) _).setCell (by simp) _).setCell (by simp) _
end Go.Proofs.YtjjhimdjhfdmiaaDoor
