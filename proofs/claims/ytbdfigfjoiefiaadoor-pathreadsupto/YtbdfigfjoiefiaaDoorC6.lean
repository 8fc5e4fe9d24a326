/-
  OwnAll: a path in memory of its own; and cut.
-/
import Derived.Test.YtbdfigfjoiefiaaDoorC5
namespace Go.Proofs.YtbdfigfjoiefiaaDoor
open Go.RowKit
/-- Segments with the slices by which they lie in memory. -/
abbrev Sv := Int × Value × List Nat
def cellsS (R : List Sv) : List Value := R.flatMap fun r => [.int .i64 r.1, r.2.1]
def sgs (R : List Sv) : List Sg := R.map fun r => (r.1, r.2.2)
/-- A path that lies in rows of its own, not below base. -/
def OwnS (w : World) (base : Nat) (v : Value) (R : List Sv) : Prop := w.ownsRow base 48 2 v R.length (cellsS R) ∧ (∀ r ∈ R, OwnU w base r.2.1 r.2.2) ∧ R.length ≤ 4398046511104
theorem cellsS_length (R : List Sv) : (cellsS R).length = R.length * 2 := by
  induction R with
  | nil => rfl
  | cons r R ih => simp [cellsS] at *; omega
theorem cellsS_at (R : List Sv) (i : Nat) (h : i < R.length) : (cellsS R)[i * 2]? = some (.int .i64 R[i].1) ∧ (cellsS R)[i * 2 + 1]? = some R[i].2.1 := by
  induction R generalizing i with
  | nil => simp at h
  | cons r R ih =>
    cases i with
    | zero => simp [cellsS]
    | succ i =>
      have := ih i (by simpa using h)
      simp only [cellsS, List.flatMap_cons, List.getElem_cons_succ] at *
      rw [show (i + 1) * 2 = i * 2 + 2 by omega, show i * 2 + 2 + 1 = i * 2 + 1 + 2 by omega]
      simpa using this
theorem cellsS_snoc (R : List Sv) (r : Sv) : cellsS (R ++ [r]) = cellsS R ++ [.int .i64 r.1, r.2.1] := by simp [cellsS]
theorem sgs_snoc (R : List Sv) (r : Sv) : sgs (R ++ [r]) = sgs R ++ [(r.1, r.2.2)] := by simp [sgs]
theorem sgs_length (R : List Sv) : (sgs R).length = R.length := by simp [sgs]
theorem OwnS.at {w : World} {base : Nat} {v : Value} {R : List Sv} (h : OwnS w base v R) : PathAt w v (sgs R) := by
  obtain ⟨⟨hn, hv⟩, hx, hl⟩ := h
  rcases hv with ⟨rfl, h0⟩ | ⟨g, cap, cur, rfl, hg, hh, hc, hm, hs, ht⟩
  · obtain rfl : R = [] := List.length_eq_zero_iff.mp h0
    exact ⟨none, 0, 0, 0, rfl, Or.inr rfl, by simp [sgs], fun j hj => by simp [sgs] at hj⟩
  · refine ⟨some ⟨g, 0, none⟩, g, 0, cap, by rw [sgs_length], Or.inl rfl, by rw [sgs_length]; exact ⟨hc, hl⟩, fun j hj => ?_⟩
    have hj' : j < R.length := by rwa [sgs_length] at hj
    have e : ∀ i, i < R.length * 2 → cur.toList[i]? = (cellsS R)[i]? := fun i hi => by
      have : (cur.toList.take (R.length * 2))[i]? = (cellsS R)[i]? := by rw [ht]
      rwa [List.getElem?_take, if_pos hi] at this
    have hk := cellsS_at R j hj'
    have hs' : (sgs R)[j] = (R[j].1, R[j].2.2) := by simp [sgs]
    rw [hs', Nat.zero_add]
    exact ⟨cell_of_row hh _ _ (by rw [e _ (by omega)]; exact hk.1), R[j].2.1, cell_of_row hh _ _ (by rw [e _ (by omega)]; exact hk.2), (hx _ (List.getElem_mem hj')).at⟩
theorem grown_of_below {w w' : World} (h : Below w.heap.size w w') (row : Option Nat) : w.grownBy w' row := ⟨h.os, h.tape, h.output, h.size, fun k hk _ => h.block k hk⟩
theorem owns_below {w w' : World} {base : Nat} {e : TypeId} {size : Nat} {v : Value} {n : Nat} {xs : List Value} (h : w.ownsRow base e size v n xs) (hb : Below w.heap.size w w') : w'.ownsRow base e size v n xs :=
  h.kept (grown_of_below hb none) (by cases hv : v.ownBlock with | none => exact Or.inl rfl | some g => exact Or.inr (by simp))
theorem OwnU.below {w w' : World} {base : Nat} {v : Value} {l : List Nat} (h : OwnU w base v l) (hb : Below w.heap.size w w') : OwnU w' base v l := ⟨owns_below h.1 hb, h.2⟩
theorem OwnU.mono {w : World} {base base' : Nat} {v : Value} {l : List Nat} (h : OwnU w base v l) (hb : base' ≤ base) : OwnU w base' v l := ⟨owns_mono h.1 hb, h.2⟩
theorem OwnS.below {w w' : World} {base : Nat} {v : Value} {R : List Sv} (h : OwnS w base v R) (hb : Below w.heap.size w w') : OwnS w' base v R := ⟨owns_below h.1 hb, fun r hr => (h.2.1 r hr).below hb, h.2.2⟩
theorem OwnS.mono {w : World} {base base' : Nat} {v : Value} {R : List Sv} (h : OwnS w base v R) (hb : base' ≤ base) : OwnS w base' v R := ⟨owns_mono h.1 hb, fun r hr => (h.2.1 r hr).mono hb, h.2.2⟩
/-- Rows of unlike types lie in unlike blocks. -/
theorem owns_apart {w : World} {b1 b2 : Nat} {e1 e2 : TypeId} {s1 s2 : Nat} {v1 v2 : Value} {n1 n2 : Nat} {x1 x2 : List Value} (h1 : w.ownsRow b1 e1 s1 v1 n1 x1) (h2 : w.ownsRow b2 e2 s2 v2 n2 x2) (ne : e1 ≠ e2) : v1.ownBlock = none ∨ v1.ownBlock ≠ v2.ownBlock := by
  obtain ⟨_, ⟨rfl, _⟩ | ⟨g, cap, cur, rfl, _, hh, _⟩⟩ := h1
  · exact Or.inl rfl
  · obtain ⟨_, ⟨rfl, _⟩ | ⟨g', cap', cur', rfl, _, hh', _⟩⟩ := h2
    · exact Or.inr (by simp [Value.ownBlock])
    · right
      intro he
      simp only [Value.ownBlock, Option.some.injEq] at he
      subst he
      rw [hh] at hh'
      simp at hh'
      exact ne hh'.2
theorem OwnU.grown {w w' : World} {base base' : Nat} {v t : Value} {l : List Nat} {n : Nat} {xs : List Value} (h : OwnU w base v l) (ht : w.ownsRow base' 48 2 t n xs) (hg : w.grownBy w' t.ownBlock) : OwnU w' base v l :=
  ⟨h.1.kept hg (owns_apart h.1 ht (by decide)), h.2⟩
theorem OwnU.alloc {w : World} {base : Nat} {v : Value} {l : List Nat} (h : OwnU w base v l) (o : Obj) : OwnU (w.alloc o) base v l := ⟨h.1.alloc o, h.2⟩
set_option maxRecDepth 100000 in
theorem ownAll_any (v : Value) (L : List Sg) (w : World) (h : PathAt w v L) :
    Calls Tryd.prog 10 #[v] w fun e w' => ∃ v' R, e = .returned v' ∧ sgs R = L ∧ OwnS w' w.heap.size v' R ∧ Below w.heap.size w w' := by
  obtain ⟨i0, hi, hz0, hz1, hz2⟩ := info_parts info48
  obtain ⟨ad, b, off, cap, rfl, had, ⟨_, hl⟩, hr⟩ := h
  have HR : Hid (RowS _ _ _ _) := hr
  clear hr
  go_enter Tryd.func10, Tryd.ntmps10
  go_wp2
  go_loopw [3, 4] (fun t i wr => ∃ (n : Nat) (R : List Sv), n ≤ L.length ∧ i = .int .i64 n ∧ R.length = n ∧ sgs R = L.take n ∧ OwnS wr w.heap.size t R ∧ Below w.heap.size w wr) (fun _ i _ => L.length - (intOf i).toNat)
  case atStart => exact ⟨0, [], Nat.zero_le _, rfl, rfl, by simp [sgs], ⟨World.ownsRow_nil _ _ _ _, fun r hr => by simp at hr, by simp⟩, Below.refl _ _⟩
  case round =>
    obtain ⟨n, R, hn, rfl, hRl, hR, hown, hb⟩ := hrel
    have HB : Hid (Below _ _ _) := hb
    have HO : Hid (OwnS _ _ _ _) := hown
    have HL : Hid (sgs R = L.take n) := hR
    clear hown hR
    by_cases hlt : n < L.length
    · obtain rfl : ad = some ⟨b, off, none⟩ := by rcases had with h | h; exact h; omega
      obtain ⟨c0, va, c1, hva⟩ := (HR.out.below hb) n hlt
      have HX : Hid (L.take (n + 1) = L.take n ++ [L[n]]) := take_snoc L n hlt
      have hsz := hb.size
      clear hb had
      generalize L[n] = s at *
      obtain ⟨kd, av⟩ := s
      obtain ⟨ad2, b2, off2, cap2, rfl, h2⟩ := id hva
      have HV : Hid (ASAt _ _ _) := hva
      clear h2 hva
      simp only at c0
      go_wp2_with fail
      refine (own_any kd _ av wr HV.out).mono ?_
      rintro e w1 ⟨v1, rfl, ho1, hb1⟩
      obtain ⟨ad3, c3, rfl⟩ := slice_of_owns ho1.1
      have HO1 : Hid (OwnU _ _ _ _) := ho1
      have HB1 : Hid (Below _ _ _) := hb1
      have hs1 := hb1.size
      clear ho1 hb1 c0 c1
      have hRw : w1.ownsRow w.heap.size 48 2 u3 R.length (cellsS R) := owns_below HO.out.1 HB1.out
      subst hRl
      go_wp2_with (at_builtin; refine wpList_append_own _ rfl _ _ 22 rfl w.heap.size 48 i0 (.agg #[.int .i64 0, .slice none 0 0]) 2 32 Tryd.underlying22 hi hz0 hz1 hz2 rfl (by decide) _ _ _ rfl (hRw.alloc _) ⟨w1.heap.size, 0, none⟩ 1 1 [.int .i64 kd, .slice ad3 av.length c3] rfl rfl (news2 w1 _ _ 48) (two_seg _ _ _ _) (by unfold maxLen; omega) (by omega) (Nat.le_trans hsz (Nat.le_trans hs1 (by simp))) ?_; intro v3 w3 hown3 hgrow3 _)
      have hb1 := HB.out.trans (HB1.out.mono hsz)
      have hb3 : Below w.heap.size w w3 := (hb1.alloc hb1.size _).grown hgrow3 (Nat.le_trans hb1.size (by simp)) (fun j e => (hRw.lt j e).1)
      have hos : OwnS w3 w.heap.size v3 (R ++ [(kd, .slice ad3 av.length c3, av)]) := by
        refine ⟨by rw [cellsS_snoc, List.length_append]; exact hown3, fun r hr => ?_, by simp; omega⟩
        rcases List.mem_append.mp hr with h | h
        · exact (((HO.out.2.1 r h).below HB1.out).alloc _).grown (hRw.alloc _) hgrow3
        · obtain rfl := List.mem_singleton.mp h
          exact ((HO1.out.mono hsz).alloc _).grown (hRw.alloc _) hgrow3
      have HS : Hid (sgs (R ++ [(kd, .slice ad3 av.length c3, av)]) = L.take (R.length + 1)) := by unfold Hid; rw [sgs_snoc, HL.out, HX.out]
      clear hown3 hgrow3 hRw hb1
      go_roundw
      case rel => exact ⟨R.length + 1, _, by omega, by go_num, by simp, HS.out, hos, hb3⟩
      case measure => simp [intOf]; omega
    · obtain rfl : n = L.length := by omega
      go_wp2
      go_ret
      exact ⟨_, R, rfl, by rw [HL.out, List.take_length], HO.out, HB.out⟩
theorem cut_any (ad : Option Addr) (n cap : Nat) (L : List Sg) (w : World) (h : PathAt w (.slice ad n cap) L) :
    Calls Tryd.prog 9 #[.slice ad n cap] w fun e w' => (∃ v, e = .returned v ∧ PathAt w v (L.take 20) ∧ (L.take 20).length ≤ 20) ∧ w' = w := by
  have H : Hid (PathAt _ _ _) := h
  obtain ⟨ad', b, off, cap', h1, h2, ⟨h3, h3'⟩, h4⟩ := h
  simp only [Value.slice.injEq] at h1
  obtain ⟨rfl, rfl, rfl⟩ := h1
  clear h4 h2
  by_cases h20 : L.length ≤ 20
  · have e20 : L.take 20 = L := List.take_of_length_le h20
    rw [e20]
    have hm : min (L.length : Int) 20 = L.length := by omega
    have hn : ¬ (20 < (L.length : Int)) := by omega
    have HL : Hid (L.length ≤ 20) := h20
    clear h20 e20
    go_enter Tryd.func9, Tryd.ntmps9
    go_wp2
    go_ret
    exact ⟨⟨_, rfl, H.out, HL.out⟩, rfl⟩
  · have h21 : 20 < (L.length : Int) := by omega
    have HF : Hid (PathAt w (.slice ad 20 cap) (L.take 20)) := H.out.first 20 (by omega)
    have HL : Hid ((L.take 20).length ≤ 20) := by unfold Hid; simp; omega
    generalize L.take 20 = M at *
    clear h20
    go_enter Tryd.func9, Tryd.ntmps9
    go_wp2
    go_ret
    exact ⟨⟨_, rfl, HF.out, HL.out⟩, rfl⟩
end Go.Proofs.YtbdfigfjoiefiaaDoor
