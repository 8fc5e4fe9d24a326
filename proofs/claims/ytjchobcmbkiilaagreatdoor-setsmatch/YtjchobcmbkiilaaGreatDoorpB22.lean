/-
  The reading of the one text of an address on which every statement's closing words lean.
-/
import Derived.Test.YtjchobcmbkiilaaGreatDoorpB20
import Derived.Test.YtjchobcmbkiilaaGreatDoorpB16
import Derived.LoopN
namespace Go.Proofs.YtjchobcmbkiilaaGreatDoor.Pr
open Go.RowKit
/-- "10.1.0.0" -/
def txt : ByteArray := ⟨#[49, 48, 46, 49, 46, 48, 46, 48]⟩
theorem split_w (w : World) (m : Int) (hm : w.cell? ⟨1, 0, none⟩ = some (.int .i64 m)) :
    Calls Tryz.prog 141 #[.string ⟨#[49, 48, 46, 49, 46, 48, 46, 48]⟩, .string ⟨#[46]⟩, .int .i64 5] w fun e w' => e = .returned (.slice (some ⟨w.heap.size, 0, none⟩) 4 5) ∧
      w' = w.alloc (.cells #[.string ⟨#[49, 48]⟩, .string ⟨#[49]⟩, .string ⟨#[48]⟩, .string ⟨#[48]⟩, .string ⟨#[]⟩] 9) := by
  have h := Tryz.strings_SplitN ⟨#[49, 48, 46, 49, 46, 48, 46, 48]⟩ ⟨#[46]⟩ 5 m w (by decide) hm (by decide) (by decide) (by decide)
  have e1 : Lib.splitB ⟨#[46]⟩ 0 (min 5 ((⟨#[49, 48, 46, 49, 46, 48, 46, 48]⟩ : ByteArray).size + 1) - 1) ⟨#[49, 48, 46, 49, 46, 48, 46, 48]⟩ = [⟨#[49, 48]⟩, ⟨#[49]⟩, ⟨#[48]⟩, ⟨#[48]⟩] := by decide +kernel
  rw [e1] at h
  exact h
theorem info5 : (Tryz.prog.info? 5).map (fun i => (i.zero, i.size, i.bytes)) = some (some (.int .u8 0), 1, 1) := by kernel_rfl
/-- What the loop over the words finds in memory. -/
structure RdAt (w wr : World) : Prop where
  s0 : wr.cell? ⟨w.heap.size, 0, none⟩ = some (.string ⟨#[46]⟩)
  s1 : wr.cell? ⟨w.heap.size, 1, none⟩ = some (.int .i64 4)
  s2 : wr.cell? ⟨w.heap.size, 2, none⟩ = some (.int .i64 1)
  s3 : wr.cell? ⟨w.heap.size, 3, none⟩ = some (.int .i64 10)
  w0 : wr.cell? ⟨w.heap.size + 1, 0, none⟩ = some (.string ⟨#[49, 48]⟩)
  w1 : wr.cell? ⟨w.heap.size + 1, 1, none⟩ = some (.string ⟨#[49]⟩)
  w2 : wr.cell? ⟨w.heap.size + 1, 2, none⟩ = some (.string ⟨#[48]⟩)
  w3 : wr.cell? ⟨w.heap.size + 1, 3, none⟩ = some (.string ⟨#[48]⟩)
  bel : Below w.heap.size w wr
  sz : w.heap.size + 1 + 1 ≤ wr.heap.size
theorem RdAt.kept {w wr w' : World} (h : RdAt w wr) (hb : Below (w.heap.size + 1 + 1) wr w') : RdAt w w' := by
  have a : w.heap.size < w.heap.size + 1 + 1 := by omega
  have b : w.heap.size + 1 < w.heap.size + 1 + 1 := by omega
  exact ⟨(hb.cell (p := ⟨_, _, none⟩) a).trans h.s0, (hb.cell (p := ⟨_, _, none⟩) a).trans h.s1, (hb.cell (p := ⟨_, _, none⟩) a).trans h.s2, (hb.cell (p := ⟨_, _, none⟩) a).trans h.s3,
    (hb.cell (p := ⟨_, _, none⟩) b).trans h.w0, (hb.cell (p := ⟨_, _, none⟩) b).trans h.w1, (hb.cell (p := ⟨_, _, none⟩) b).trans h.w2, (hb.cell (p := ⟨_, _, none⟩) b).trans h.w3,
    h.bel.trans (hb.mono (by omega)), Nat.le_trans h.sz hb.size⟩
theorem ownsRow_below {w w' : World} {base : Nat} {e : TypeId} {size : Nat} {v : Value} {n : Nat} {xs : List Value} (h : w.ownsRow base e size v n xs) (hb : Below w.heap.size w w') : w'.ownsRow base e size v n xs := by
  obtain ⟨h1, h2⟩ := h
  refine ⟨h1, ?_⟩
  rcases h2 with h2 | ⟨g, cap, cur, hv, hg, hh, r⟩
  · exact Or.inl h2
  · exact Or.inr ⟨g, cap, cur, hv, hg, (hb.block g (lt_of_heap hh)).trans hh, r⟩
theorem cell_new1 (w : World) (v : Value) (t : TypeId) : ∀ j u, [v][j]? = some u → (w.alloc (.cells #[v] t)).cell? (Addr.add ⟨w.heap.size, 0, none⟩ j) = some u := by
  intro j u hj
  match j, hj with
  | 0, hj => simp at hj; subst hj; simp [Addr.add]
theorem one_u8 (n : Int) : ∀ u ∈ [Value.int .u8 n], u.oneCell' = true := by
  intro u hu; simp at hu; subst hu; rfl
theorem owned_bytes {w : World} {base : Nat} {v : Value} (l : List UInt8) (h0 : l.length ≠ 0) (h : w.ownsRow base 5 1 v l.length (l.map fun b => Value.int .u8 (b.toNat : Int))) :
    ∃ g cap, v = .slice (some ⟨g, 0, none⟩) l.length cap ∧ ∀ j (hj : j < l.length), w.cell? (Addr.add ⟨g, 0, none⟩ j) = some (.int .u8 (l[j].toNat : Int)) := by
  have h' := h
  obtain ⟨h1, h2⟩ := h
  rcases h2 with ⟨_, h2⟩ | ⟨g, cap, cur, hv, hg, hh, r⟩
  · exact absurd h2 h0
  · refine ⟨g, cap, hv, fun j hj => h'.cells (g := g) (by rw [hv]; rfl) j _ ?_⟩
    rw [List.getElem?_map, List.getElem?_eq_getElem hj]; rfl
set_option maxRecDepth 100000 in
set_option maxHeartbeats 1600000 in
theorem read_w (w : World) (h : Tabs w) :
    Calls Tryz.prog 130 #[.agg #[.string ⟨#[46]⟩, .int .i64 4, .int .i64 1, .int .i64 10], .string ⟨#[49, 48, 46, 49, 46, 48, 46, 48]⟩] w fun e w' => e = .returned (.tuple #[.string ⟨#[10, 1, 0, 0]⟩, .bool true]) ∧ Below w.heap.size w w' := by
  obtain ⟨_, _, ⟨m, hm⟩⟩ := h
  have l3 : 1 < w.heap.size := lt_of_cell hm
  obtain ⟨i0, hi, hz0, hz1, hz2⟩ := info_parts info5
  go_enter Tryz.func130, Tryz.ntmps130
  go_wp2_with (go_at_call 141; refine (split_w _ m ?_).mono ?_; (rw [World.cell?_alloc_past _ _ _ l3]; exact hm); rintro e w' ⟨rfl, rfl⟩)
  refine with_world (fun wx => RdAt w wx) ?_ ?_
  · have hb : Below w.heap.size w ((w.alloc (.cells #[.string ⟨#[46]⟩, .int .i64 4, .int .i64 1, .int .i64 10] 161)).alloc (.cells #[.string ⟨#[49, 48]⟩, .string ⟨#[49]⟩, .string ⟨#[48]⟩, .string ⟨#[48]⟩, .string ⟨#[]⟩] 9)) := ((Below.refl _ _).alloc (Nat.le_refl _) _).alloc (by simp) _
    refine ⟨?_, ?_, ?_, ?_, ?_, ?_, ?_, ?_, hb, by simp⟩
    all_goals first | (rw [World.cell?_alloc_past _ _ _ (by simp), World.cell?_alloc_at _ _ _ _ rfl]; rfl) | (rw [World.cell?_alloc_at _ _ _ _ (by simp)]; rfl)
  intro wx hx
  clear hm l3
  go_loopw [7, 27] (fun v i wr => ∃ k : Nat, k ≤ 4 ∧ i = .int .i64 k ∧ RdAt w wr ∧ wr.ownsRow (w.heap.size + 1 + 1) 5 1 v k (([10, 1, 0, 0] : List UInt8).take k |>.map (fun b => Value.int .u8 (b.toNat : Int)))) (fun _ i _ => 4 - (intOf i).toNat)
  case atStart => exact ⟨0, by omega, rfl, hx, World.ownsRow_nil _ _ _ _⟩
  case round =>
    obtain ⟨k, hk, rfl, hr, hown⟩ := hrel
    have hk' : k = 0 ∨ k = 1 ∨ k = 2 ∨ k = 3 ∨ k = 4 := by omega
    clear hk hx
    have s0 := hr.s0
    have s1 := hr.s1
    have s2 := hr.s2
    have s3 := hr.s3
    rcases hk' with rfl | rfl | rfl | rfl | rfl
    · have wk := hr.w0
      go_wp2_with fail
      refine (rn8_ok ⟨#[49, 48]⟩ 10 (by decide) (by decide +kernel) (by decide) (by decide +kernel) _).mono ?_
      rintro e w1 ⟨rfl, hb1⟩
      have hr1 := hr.kept (hb1.mono hr.sz)
      have hown1 := ownsRow_below hown hb1
      have t2 := hr1.s2
      clear hown hr wk s0 s1 s2 s3 hb1
      have hsz1 := hr1.sz
      go_wp2_with fail
      refine wp_loop_rounds 2 ?_
      rw [rounds_succ]
      go_wp2_with (at_builtin; refine wpList_append_own _ rfl _ _ 62 rfl (w.heap.size + 1 + 1) 5 i0 (.int .u8 0) 1 1 Tryz.underlying62 hi hz0 hz1 hz2 rfl (by decide) _ _ _ rfl (hown1.alloc _) ⟨w1.heap.size, 0, none⟩ 1 1 [.int .u8 10] rfl rfl (cell_new1 _ _ _) (one_u8 _) (by decide) (by decide) (by simp; omega) ?_; intro v' w2 hown2 hgrow _)
      have hr2 : RdAt w w2 := hr1.kept (((Below.refl _ _).alloc hsz1 _).grown hgrow (by simp; omega) (fun k e => (hown1.lt k e).1))
      clear hgrow hown1 hr1 t2
      rw [rounds_succ]
      go_wp2
      go_roundw
      case rel => exact ⟨1, by omega, by go_num, hr2, by simpa using hown2⟩
      case measure => simp [intOf]
    · have wk := hr.w1
      go_wp2_with fail
      refine (rn8_ok ⟨#[49]⟩ 1 (by decide) (by decide +kernel) (by decide) (by decide +kernel) _).mono ?_
      rintro e w1 ⟨rfl, hb1⟩
      have hr1 := hr.kept (hb1.mono hr.sz)
      have hown1 := ownsRow_below hown hb1
      have t2 := hr1.s2
      clear hown hr wk s0 s1 s2 s3 hb1
      have hsz1 := hr1.sz
      go_wp2_with fail
      refine wp_loop_rounds 2 ?_
      rw [rounds_succ]
      go_wp2_with (at_builtin; refine wpList_append_own _ rfl _ _ 62 rfl (w.heap.size + 1 + 1) 5 i0 (.int .u8 0) 1 1 Tryz.underlying62 hi hz0 hz1 hz2 rfl (by decide) _ _ _ rfl (hown1.alloc _) ⟨w1.heap.size, 0, none⟩ 1 1 [.int .u8 1] rfl rfl (cell_new1 _ _ _) (one_u8 _) (by decide) (by decide) (by simp; omega) ?_; intro v' w2 hown2 hgrow _)
      have hr2 : RdAt w w2 := hr1.kept (((Below.refl _ _).alloc hsz1 _).grown hgrow (by simp; omega) (fun k e => (hown1.lt k e).1))
      clear hgrow hown1 hr1 t2
      rw [rounds_succ]
      go_wp2
      go_roundw
      case rel => exact ⟨2, by omega, by go_num, hr2, by simpa using hown2⟩
      case measure => simp [intOf]
    · have wk := hr.w2
      go_wp2_with fail
      refine (rn8_ok ⟨#[48]⟩ 0 (by decide) (by decide +kernel) (by decide) (by decide +kernel) _).mono ?_
      rintro e w1 ⟨rfl, hb1⟩
      have hr1 := hr.kept (hb1.mono hr.sz)
      have hown1 := ownsRow_below hown hb1
      have t2 := hr1.s2
      clear hown hr wk s0 s1 s2 s3 hb1
      have hsz1 := hr1.sz
      go_wp2_with fail
      refine wp_loop_rounds 2 ?_
      rw [rounds_succ]
      go_wp2_with (at_builtin; refine wpList_append_own _ rfl _ _ 62 rfl (w.heap.size + 1 + 1) 5 i0 (.int .u8 0) 1 1 Tryz.underlying62 hi hz0 hz1 hz2 rfl (by decide) _ _ _ rfl (hown1.alloc _) ⟨w1.heap.size, 0, none⟩ 1 1 [.int .u8 0] rfl rfl (cell_new1 _ _ _) (one_u8 _) (by decide) (by decide) (by simp; omega) ?_; intro v' w2 hown2 hgrow _)
      have hr2 : RdAt w w2 := hr1.kept (((Below.refl _ _).alloc hsz1 _).grown hgrow (by simp; omega) (fun k e => (hown1.lt k e).1))
      clear hgrow hown1 hr1 t2
      rw [rounds_succ]
      go_wp2
      go_roundw
      case rel => exact ⟨3, by omega, by go_num, hr2, by simpa using hown2⟩
      case measure => simp [intOf]
    · have wk := hr.w3
      go_wp2_with fail
      refine (rn8_ok ⟨#[48]⟩ 0 (by decide) (by decide +kernel) (by decide) (by decide +kernel) _).mono ?_
      rintro e w1 ⟨rfl, hb1⟩
      have hr1 := hr.kept (hb1.mono hr.sz)
      have hown1 := ownsRow_below hown hb1
      have t2 := hr1.s2
      clear hown hr wk s0 s1 s2 s3 hb1
      have hsz1 := hr1.sz
      go_wp2_with fail
      refine wp_loop_rounds 2 ?_
      rw [rounds_succ]
      go_wp2_with (at_builtin; refine wpList_append_own _ rfl _ _ 62 rfl (w.heap.size + 1 + 1) 5 i0 (.int .u8 0) 1 1 Tryz.underlying62 hi hz0 hz1 hz2 rfl (by decide) _ _ _ rfl (hown1.alloc _) ⟨w1.heap.size, 0, none⟩ 1 1 [.int .u8 0] rfl rfl (cell_new1 _ _ _) (one_u8 _) (by decide) (by decide) (by simp; omega) ?_; intro v' w2 hown2 hgrow _)
      have hr2 : RdAt w w2 := hr1.kept (((Below.refl _ _).alloc hsz1 _).grown hgrow (by simp; omega) (fun k e => (hown1.lt k e).1))
      clear hgrow hown1 hr1 t2
      rw [rounds_succ]
      go_wp2
      go_roundw
      case rel => exact ⟨4, by omega, by go_num, hr2, by simpa using hown2⟩
      case measure => simp [intOf]
    · have hv := owned_bytes [10, 1, 0, 0] (by decide) hown
      obtain ⟨g, cap, rfl, hcs⟩ := hv
      have hback := run_convert_bytes_back (P := Tryz.prog) wr 62 9 5 ⟨g, 0, none⟩ cap [10, 1, 0, 0] Tryz.underlying62 Tryz.underlying5 Tryz.underlying9 hcs
      simp only [List.length_cons, List.length_nil] at hback
      clear hcs hown
      go_wp2
      go_ret2
      exact ⟨rfl, hr.bel⟩
end Go.Proofs.YtjchobcmbkiilaaGreatDoor.Pr
