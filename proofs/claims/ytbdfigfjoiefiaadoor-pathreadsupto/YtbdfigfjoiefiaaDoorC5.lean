/-
  Copies: Own, OwnAll; and cut.
-/
import Derived.Test.YtbdfigfjoiefiaaDoorC1
import Derived.Laws.AppendOwn
namespace Go.Proofs.YtbdfigfjoiefiaaDoor
open Go.RowKit
/-- The cells of ASs. -/
def cellsU (l : List Nat) : List Value := l.map fun (x : Nat) => .int .u32 (x : Int)
/-- ASs that lie in a row of their own, not below base. -/
def OwnU (w : World) (base : Nat) (v : Value) (l : List Nat) : Prop := w.ownsRow base 23 1 v l.length (cellsU l) ∧ (∀ x ∈ l, x < 4294967296) ∧ l.length ≤ 35184372088832
theorem cell_of_row {w : World} {g : Nat} {cur : Array Value} {t : TypeId} {fz : Nat × Nat} (h : w.heap[g]? = some (.cells cur t fz)) (j : Nat) (v : Value) (hj : cur.toList[j]? = some v) : w.cell? ⟨g, j, none⟩ = some v := by
  simp [World.cell?, h] at *
  exact hj
theorem OwnU.at {w : World} {base : Nat} {v : Value} {l : List Nat} (h : OwnU w base v l) : ASAt w v l := by
  obtain ⟨⟨hn, hv⟩, hx, hl⟩ := h
  rcases hv with ⟨rfl, h0⟩ | ⟨g, cap, cur, rfl, hg, hh, hc, hm, hs, ht⟩
  · obtain rfl : l = [] := List.length_eq_zero_iff.mp h0
    exact ⟨none, 0, 0, 0, rfl, Or.inr rfl, by simp, fun j hj => by simp at hj⟩
  · refine ⟨some ⟨g, 0, none⟩, g, 0, cap, rfl, Or.inl rfl, ⟨hc, hl⟩, fun j hj => ⟨?_, hx _ (List.getElem_mem hj)⟩⟩
    refine cell_of_row hh _ _ ?_
    have : (cur.toList.take (l.length * 1))[j]? = (cellsU l)[j]? := by rw [ht]
    rw [List.getElem?_take, if_pos (by omega)] at this
    rw [Nat.zero_add, this]
    simp [cellsU, hj]
theorem info23 : (Tryd.prog.info? 23).map (fun i => (i.zero, i.size, i.bytes)) = some (some (.int .u32 0), 1, 4) := by kernel_rfl
theorem info48 : (Tryd.prog.info? 48).map (fun i => (i.zero, i.size, i.bytes)) = some (some (.agg #[.int .i64 0, .slice none 0 0]), 2, 32) := by kernel_rfl
theorem news1 (w : World) (v : Value) (t : TypeId) : ∀ (j : Nat) (u : Value), [v][j]? = some u → (w.alloc (.cells #[v] t)).cell? (Addr.add ⟨w.heap.size, 0, none⟩ j) = some u := by
  intro j u h
  cases j with
  | zero => simp at h; subst h; simp [Addr.add]
  | succ j => simp at h
theorem news2 (w : World) (a b : Value) (t : TypeId) : ∀ (j : Nat) (u : Value), [a, b][j]? = some u → (w.alloc (.cells #[a, b] t)).cell? (Addr.add ⟨w.heap.size, 0, none⟩ j) = some u := by
  intro j u h
  match j with
  | 0 => simp at h; subst h; simp [Addr.add]
  | 1 => simp at h; subst h; simp [Addr.add]
  | j + 2 => simp at h
theorem one_u32 (n : Int) : ∀ u ∈ [Value.int .u32 n], u.oneCell' = true := by
  intro u h; simp at h; subst h; rfl
theorem two_seg (n : Int) (ad : Option Addr) (m c : Nat) : ∀ u ∈ [Value.int .i64 n, .slice ad m c], u.oneCell' = true := by
  intro u h; simp at h; rcases h with h | h <;> subst h <;> rfl
theorem cellsU_snoc (l : List Nat) (x : Nat) : cellsU (l ++ [x]) = cellsU l ++ [.int .u32 (x : Int)] := by simp [cellsU]
theorem slice_of_owns {w : World} {base : Nat} {e : TypeId} {size : Nat} {v : Value} {n : Nat} {xs : List Value} (h : w.ownsRow base e size v n xs) : ∃ ad c, v = .slice ad n c := by
  obtain ⟨_, h | ⟨g, cap, cur, h, _⟩⟩ := h
  · exact ⟨none, 0, by rw [h.1, h.2]⟩
  · exact ⟨_, _, h⟩
theorem owns_mono {w : World} {base base' : Nat} {e : TypeId} {size : Nat} {v : Value} {n : Nat} {xs : List Value} (h : w.ownsRow base e size v n xs) (hb : base' ≤ base) : w.ownsRow base' e size v n xs := by
  obtain ⟨h0, h | ⟨g, cap, cur, h, hg, k⟩⟩ := h
  · exact ⟨h0, Or.inl h⟩
  · exact ⟨h0, Or.inr ⟨g, cap, cur, h, Nat.le_trans hb hg, k⟩⟩
theorem grownBy_set (w : World) (b i : Nat) (v : Value) : w.grownBy (w.setCell ⟨b, i, none⟩ v) (some b) := by
  have h := (Below.refl 0 w).setCell (p := ⟨b, i, none⟩) (by simp) v
  exact ⟨h.os, h.tape, h.output, h.size, fun k _ hk => Below.heap_setCell w ⟨b, i, none⟩ v k (fun e => hk (by rw [e]))⟩
theorem owns_set {w : World} {base : Nat} {e : TypeId} {size : Nat} {v : Value} {n : Nat} {xs : List Value} (h : w.ownsRow base e size v n xs) {b : Nat} (hb : ∀ g, v.ownBlock = some g → g ≠ b) (i : Nat) (u : Value) : (w.setCell ⟨b, i, none⟩ u).ownsRow base e size v n xs :=
  h.kept (grownBy_set w b i u) (by
    cases hv : v.ownBlock with
    | none => exact Or.inl rfl
    | some g => exact Or.inr (by have := hb g hv; intro h; injection h; omega))
set_option maxRecDepth 100000 in
theorem own_any (k : Int) (v : Value) (l : List Nat) (w : World) (h : ASAt w v l) :
    Calls Tryd.prog 39 #[.agg #[.int .i64 k, v]] w fun e w' => ∃ v', e = .returned (.agg #[.int .i64 k, v']) ∧ OwnU w' w.heap.size v' l ∧ Below w.heap.size w w' := by
  obtain ⟨i0, hi, hz0, hz1, hz2⟩ := info_parts info23
  obtain ⟨ad, b, off, cap, rfl, had, ⟨_, hl⟩, hr⟩ := h
  have HR : Hid (RowU _ _ _ _) := hr
  clear hr
  have hb0 : Below w.heap.size w ((w.alloc (.cells #[.int .i64 k, .slice ad l.length cap] 48)).alloc (.cells #[.int .i64 0, .slice none 0 0] 48)) := ((Below.refl _ _).alloc (by simp) _).alloc (by simp) _
  have c0 : ((w.alloc (.cells #[.int .i64 k, .slice ad l.length cap] 48)).alloc (.cells #[.int .i64 0, .slice none 0 0] 48)).cell? ⟨w.heap.size, 0, none⟩ = some (.int .i64 k) := by
    rw [World.cell?_alloc_past _ _ _ (by simp), World.cell?_alloc_at _ _ _ _ rfl]; rfl
  have c1 : ((w.alloc (.cells #[.int .i64 k, .slice ad l.length cap] 48)).alloc (.cells #[.int .i64 0, .slice none 0 0] 48)).cell? ⟨w.heap.size, 1, none⟩ = some (.slice ad l.length cap) := by
    rw [World.cell?_alloc_past _ _ _ (by simp), World.cell?_alloc_at _ _ _ _ rfl]; rfl
  have d0 : ((w.alloc (.cells #[.int .i64 k, .slice ad l.length cap] 48)).alloc (.cells #[.int .i64 0, .slice none 0 0] 48)).cell? ⟨w.heap.size + 1, 0, none⟩ = some (.int .i64 0) := by
    rw [World.cell?_alloc_at _ _ _ _ (by simp)]; rfl
  have d1 : ((w.alloc (.cells #[.int .i64 k, .slice ad l.length cap] 48)).alloc (.cells #[.int .i64 0, .slice none 0 0] 48)).cell? ⟨w.heap.size + 1, 1, none⟩ = some (.slice none 0 0) := by
    rw [World.cell?_alloc_at _ _ _ _ (by simp)]; rfl
  have f0 : ((w.alloc (.cells #[.int .i64 k, .slice ad l.length cap] 48)).alloc (.cells #[.int .i64 0, .slice none 0 0] 48)).frozen? ⟨w.heap.size + 1, 0, none⟩ = false := by simp
  have f1 : ((w.alloc (.cells #[.int .i64 k, .slice ad l.length cap] 48)).alloc (.cells #[.int .i64 0, .slice none 0 0] 48)).frozen? ⟨w.heap.size + 1, 1, none⟩ = false := by simp
  have hz : ((w.alloc (.cells #[.int .i64 k, .slice ad l.length cap] 48)).alloc (.cells #[.int .i64 0, .slice none 0 0] 48)).heap.size = w.heap.size + 2 := by simp
  have HR0 : Hid (RowU _ b off l) := HR.out.below hb0
  go_enter Tryd.func39, Tryd.ntmps39
  go_wp2
  generalize (w.alloc (.cells #[.int .i64 k, .slice ad l.length cap] 48)).alloc (.cells #[.int .i64 0, .slice none 0 0] 48) = W at *
  go_loopw [3, 4] (fun t i wr => ∃ n : Nat, n ≤ l.length ∧ i = .int .i64 n ∧ wr.ownsRow (w.heap.size + 2) 23 1 t n (cellsU (l.take n)) ∧ Below (w.heap.size + 2) W wr) (fun _ i _ => l.length - (intOf i).toNat)
  case atStart => exact ⟨0, Nat.zero_le _, rfl, World.ownsRow_nil _ _ _ _, Below.refl _ _⟩
  case round =>
    obtain ⟨n, hn, rfl, hown, hb⟩ := hrel
    rw [← hz] at hb
    have e0 := below_cell hb c0
    have e1 := below_cell hb c1
    have HB : Hid (Below _ _ _) := hb
    have HO : Hid (wr.ownsRow _ _ _ _ _ _) := hown
    clear hown
    by_cases hlt : n < l.length
    · obtain rfl : ad = some ⟨b, off, none⟩ := by rcases had with h | h; exact h; omega
      have hc := ((HR0.out.below hb) n hlt).1
      have HX : Hid (cellsU (l.take (n + 1)) = cellsU (l.take n) ++ [.int .u32 (l[n] : Int)]) := by unfold Hid; rw [take_snoc l n hlt, cellsU_snoc]
      clear hb c0 c1 d0 d1 f0 f1 had
      generalize l[n] = x at *
      have hsz : w.heap.size + 2 ≤ wr.heap.size := hz ▸ HB.out.size
      go_wp2_with (at_builtin; refine wpList_append_own _ rfl _ _ 31 rfl (w.heap.size + 2) 23 i0 (.int .u32 0) 1 4 Tryd.underlying31 hi hz0 hz1 hz2 rfl (by decide) _ _ _ rfl (HO.out.alloc _) ⟨wr.heap.size, 0, none⟩ 1 1 [.int .u32 (x : Int)] rfl rfl (news1 wr _ 23) (one_u32 _) (by unfold maxLen; omega) (by omega) (Nat.le_trans hsz (by simp)) ?_; intro v3 w3 hown3 hgrow3 _)
      have hown4 : w3.ownsRow (w.heap.size + 2) 23 1 v3 (n + 1) (cellsU (l.take (n + 1))) := by rw [HX.out]; exact hown3
      have hb3 : Below (w.heap.size + 2) W w3 := ((hz ▸ HB.out : Below (w.heap.size + 2) W wr).alloc hsz _).grown hgrow3 (Nat.le_trans hsz (by simp)) (fun j e => (HO.out.lt j e).1)
      clear hown3 hgrow3 HX HO
      go_roundw
      case rel => exact ⟨n + 1, by omega, by go_num, hown4, hb3⟩
      case measure => simp [intOf]; omega
    · obtain rfl : n = l.length := by omega
      have g0 := (hb.frozen (p := ⟨w.heap.size + 1, 0, none⟩) (by simp; omega)).trans f0
      have g1 := (hb.frozen (p := ⟨w.heap.size + 1, 1, none⟩) (by simp; omega)).trans f1
      have q0 := below_cell hb d0
      have q1 := below_cell hb d1
      have HL : Hid (∀ x ∈ l, x < 4294967296) := fun x hx => by
        obtain ⟨j, hj, e⟩ := List.getElem_of_mem hx
        rw [← e]; exact (HR0.out j hj).2
      clear hb c0 c1 d0 d1 f0 f1
      obtain ⟨ad3, c3, rfl⟩ := slice_of_owns HO.out
      have hx : l.take l.length = l := List.take_length
      rw [hx] at HO
      go_wp2
      refine bodyPost_ret (v := .agg #[.int .i64 k, .slice ad3 l.length c3]) (by simp [results, Tryd.results39, go_sem, q0, q1]) rfl ⟨_, rfl, ⟨?_, HL.out, hl⟩, ?_⟩
      · refine owns_set (owns_set (owns_mono HO.out (Nat.le_add_right _ 2)) (b := w.heap.size + 1) ?_ _ _) ?_ _ _
        · intro g hg; have := (HO.out.lt g hg).1; omega
        · intro g hg; have := (HO.out.lt g hg).1; omega
      · exact ((hb0.trans ((hz ▸ HB.out : Below (w.heap.size + 2) W wr).mono (by omega))).setCell (by simp) _).setCell (by simp) _
end Go.Proofs.YtbdfigfjoiefiaaDoor
