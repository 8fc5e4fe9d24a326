/-
  A map of timers: looked up, written, struck, counted.
-/
import Derived.Test.YtgplhdhnailpfaaA0
set_option linter.unusedSimpArgs false
set_option maxRecDepth 100000
namespace Go.Proofs.Ytgplhdhnailpfaa
open Go.RowKit Go.Maps
/-- A tick, as it reads. -/
def tl (t : Nat) : DataW Unit := .lit (.int .u64 (t : Int))
/-- What a map reads as are these timers. -/
structure Reads (D : DataW Unit) (L : List Fd) : Prop where
  yes : ∀ x ∈ L, ∀ z, D.atKey (klit x.key) z = tl x.at'
  no : ∀ k, (∀ x ∈ L, x.key ≠ k) → ∀ z, D.atKey (klit k) z = z
  size : Maps.size D = L.length
theorem Reads.has {D : DataW Unit} {L : List Fd} (h : Reads D L) (k : Ky) : Maps.has D (klit k) = (lookF L k).isSome := by
  cases e : lookF L k with
  | some t => exact Maps.has_true_of_atKey (y := tl t) (fun z => h.yes _ (lookF_some e) z)
  | none => exact Maps.has_false_of_atKey (h.no k (lookF_none e))
theorem Reads.at {D : DataW Unit} {L : List Fd} (h : Reads D L) (k : Ky) : D.atKey (klit k) (.lit (.int .u64 0)) = tl ((lookF L k).getD 0) := by
  cases e : lookF L k with
  | some t => exact h.yes _ (lookF_some e) _
  | none => exact h.no k (lookF_none e) _
theorem klit_ne {a b : Ky} (h : a ≠ b) : klit a ≠ klit b := fun e => h (klit_inj e)
theorem Reads.put {D : DataW Unit} {L : List Fd} (h : Reads D L) (hw : Whl L) (hT : Tidy D) (k : Ky) (t : Nat) : Reads (D.put (klit k) (tl t)) (armed L k t) := by
  refine ⟨fun x hx z => ?_, fun k' hk' z => ?_, ?_⟩
  · rcases mem_armed.1 hx with rfl | ⟨hx, hne⟩
    · exact atKey_put_same hT.isMap (klit_key k) _ _
    · rw [atKey_put_other (klit_ne hne)]; exact h.yes x hx z
  · have hne : k' ≠ k := fun e => hk' ⟨t, k⟩ (mem_armed.2 (Or.inl rfl)) e.symm
    rw [atKey_put_other (klit_ne hne)]
    exact h.no k' (fun x hx e => hk' x (mem_armed.2 (Or.inr ⟨hx, fun e' => hne (by rw [← e, e'])⟩)) e) z
  · rw [size_put hT, h.has k, len_armed hw.once, h.size]
theorem Reads.del {D : DataW Unit} {L : List Fd} (h : Reads D L) (hw : Whl L) (hT : Tidy D) (k : Ky) : Reads (D.del (klit k)) (without L k) := by
  refine ⟨fun x hx z => ?_, fun k' hk' z => ?_, ?_⟩
  · obtain ⟨hx, hne⟩ := mem_without.1 hx
    rw [atKey_del_other (klit_ne hne)]; exact h.yes x hx z
  · by_cases e : k' = k
    · rw [e]; exact atKey_del_same z
    · rw [atKey_del_other (klit_ne e)]
      exact h.no k' (fun x hx ek => hk' x (mem_without.2 ⟨hx, fun e' => e (by rw [← ek, e'])⟩) ek) z
  · have h1 := size_del (k := klit k) hT
    have h2 := len_without hw.once k
    rw [h.has k, h.size] at h1
    omega
/-- The map of timers in block b. -/
structure MpAt (w : World) (b : Nat) (L : List Fd) : Prop where
  whl : Whl L
  own : ∃ D : DataW Unit, w.ownsMap Try.prog 27 (plainElem Try.prog 28) b L.length D ∧ Reads D L
theorem owns_tight {w : World} {b n : Nat} {D : DataW Unit} (h : w.ownsMap Try.prog 27 (plainElem Try.prog 28) b n D) : w.ownsMap Try.prog 27 (plainElem Try.prog 28) b (Maps.size D) D := by
  obtain ⟨es, clock, hb, F, hs, rfl⟩ := h
  exact ⟨es, clock, hb, F, by simp [Maps.size, length_sorted], rfl⟩
theorem MpAt.mk' {w : World} {b n : Nat} {D : DataW Unit} {L : List Fd} (hw : Whl L) (h : w.ownsMap Try.prog 27 (plainElem Try.prog 28) b n D) (hr : Reads D L) : MpAt w b L :=
  ⟨hw, D, hr.size ▸ owns_tight h, hr⟩
theorem MpAt.lt {w : World} {b : Nat} {L : List Fd} (h : MpAt w b L) : b < w.heap.size := by obtain ⟨D, h, _⟩ := h.own; exact h.lt
theorem MpAt.isMap {w : World} {b : Nat} {L : List Fd} (h : MpAt w b L) : ∃ es c, w.heap[b]? = some (.map es c) := by obtain ⟨D, ⟨es, c, h, _⟩, _⟩ := h.own; exact ⟨es, c, h⟩
theorem MpAt.nocell {w : World} {b : Nat} {L : List Fd} (h : MpAt w b L) (o : Nat) : w.cell? ⟨b, o, none⟩ = none := by
  obtain ⟨es, c, h⟩ := h.isMap
  simp [World.cell?, h]
theorem MpAt.kept {w w' : World} {b : Nat} {L : List Fd} {row : Option Nat} (h : MpAt w b L) (hg : w.grownBy w' row) (hne : some b ≠ row) : MpAt w' b L := by
  obtain ⟨hw, D, h, hr⟩ := h
  exact ⟨hw, D, h.kept hg hne, hr⟩
theorem grown_of_below {w w' : World} (h : Below w.heap.size w w') (row : Option Nat) : w.grownBy w' row := ⟨h.os, h.tape, h.output, h.size, fun k hk _ => h.block k hk⟩
theorem MpAt.below {w w' : World} {b : Nat} {L : List Fd} (h : MpAt w b L) (hb : Below w.heap.size w w') : MpAt w' b L := h.kept (grown_of_below hb none) (by simp)
theorem MpAt.alloc {w : World} {b : Nat} {L : List Fd} (h : MpAt w b L) (o : Obj) : MpAt (w.alloc o) b L := h.kept (World.grownBy_alloc w o none) (by simp)
theorem MpAt.drewN {w : World} {b : Nat} {L : List Fd} (h : MpAt w b L) (n : Nat) : MpAt (w.drewN n) b L := by
  obtain ⟨hw, D, h, hr⟩ := h
  exact ⟨hw, D, h, hr⟩
theorem MpAt.made (w : World) : MpAt (w.alloc (.map #[] 0)) w.heap.size [] :=
  ⟨Whl.nil, .map [], World.ownsMap_made _ _ _ _, ⟨by simp, fun _ _ _ => rfl, rfl⟩⟩
theorem zero28 (w : World) : (zeroValue 28).run Try.prog w = .ok (.int .u64 0) w := by kernel_rfl
theorem wf_u64 {t : Nat} (h : t ≤ 1099511627776) : (Lit.int .u64 (t : Int)).wf = true := WalkArith.wf_u64 (by omega)
theorem plain_tick {v : Value} {t : Nat} {ps : List MemPlace} (h : plainElem Try.prog 28 v = some (tl t, ps)) : v = .int .u64 (t : Int) := by
  obtain ⟨a, rfl, e, _⟩ := plainElem_int_inv Try.underlying28 h
  injection e with e _
  unfold tl at e
  injection e with e
  injection e with _ e
  rw [e]
/-- A tick is asked for, and whether there is one. -/
theorem MpAt.look {w : World} {b : Nat} {L : List Fd} (h : MpAt w b L) (k : Ky) :
    (Instr.lookup 60 (.map (some b)) (.agg #[.int .i64 k.kind, .string k.peer, .int .i64 k.fam]) true).run Try.prog w = .ok (.tuple #[.int .u64 (((lookF L k).getD 0 : Nat) : Int), .bool (lookF L k).isSome]) w := by
  obtain ⟨hw, D, h, hr⟩ := h
  obtain ⟨v, ps, hrun, hv⟩ := h.look_ok law Try.underlying60 (zero28 w) (zd := .lit (.int .u64 0)) (zp := []) (plainElem_int Try.underlying28 (by decide)) (keyOf_mk k)
  rw [hr.at] at hv
  rw [hrun, plain_tick hv, hr.has]
theorem MpAt.look1 {w : World} {b : Nat} {L : List Fd} (h : MpAt w b L) (k : Ky) :
    (Instr.lookup 60 (.map (some b)) (.agg #[.int .i64 k.kind, .string k.peer, .int .i64 k.fam]) false).run Try.prog w = .ok (.int .u64 (((lookF L k).getD 0 : Nat) : Int)) w := by
  obtain ⟨hw, D, h, hr⟩ := h
  obtain ⟨v, ps, hrun, hv⟩ := h.lookup law Try.underlying60 (zero28 w) (zd := .lit (.int .u64 0)) (zp := []) (plainElem_int Try.underlying28 (by decide)) (keyOf_mk k)
  rw [hr.at] at hv
  rw [hrun, plain_tick hv]
theorem MpAt.len {w : World} {b : Nat} {L : List Fd} (h : MpAt w b L) (ty : TypeId) : (Builtin.len_ #[60] ty #[.map (some b)]).run Try.prog w = .ok (.int .i64 (L.length : Int)) w := by
  obtain ⟨hw, D, h, hr⟩ := h
  rw [h.len Try.underlying60, hr.size]
theorem MpAt.put {w : World} {b : Nat} {L : List Fd} (h : MpAt w b L) (k : Ky) (t : Nat) (ht : t ≤ 1099511627776) (hl : L.length ≤ 100000) :
    ∃ w', (Instr.mapUpdate 60 (.map (some b)) (.agg #[.int .i64 k.kind, .string k.peer, .int .i64 k.fam]) (.int .u64 (t : Int))).run Try.prog w = .ok () w' ∧ MpAt w' b (armed L k t) ∧ w.grownBy w' (some b) := by
  obtain ⟨hw, D, h, hr⟩ := h
  obtain ⟨w', hrun, h', hg⟩ := h.update law Try.underlying60 (by unfold maxLen; omega) (keyOf_mk k) (plainElem_int (H := Unit) Try.underlying28 (wf_u64 ht))
  exact ⟨w', hrun, MpAt.mk' (hw.armed k t ht) h' (hr.put hw (h.tidy law) k t), hg⟩
theorem MpAt.del {w : World} {b : Nat} {L : List Fd} (h : MpAt w b L) (k : Ky) (ty : TypeId) :
    ∃ w', (Builtin.delete_ #[60, 27] ty #[.map (some b), .agg #[.int .i64 k.kind, .string k.peer, .int .i64 k.fam]]).run Try.prog w = .ok (.tuple #[]) w' ∧ MpAt w' b (without L k) ∧ w.grownBy w' (some b) ∧ w'.heap.size = w.heap.size := by
  obtain ⟨hw, D, h, hr⟩ := h
  obtain ⟨w', hrun, h', ht⟩ := h.drop law Try.underlying60 (keyOf_mk k) ty
  refine ⟨w', hrun, MpAt.mk' (hw.filter _) h' (hr.del hw (h.tidy law) k), ht.grown, ?_⟩
  obtain ⟨es, clock, es', clock', hb, rfl⟩ := ht
  simp [ChangeMaps.setBlock]
/-- A wheel at p, its map in b, with these timers. -/
structure WhAt (w : World) (p b : Nat) (L : List Fd) : Prop where
  c : w.cell? ⟨p, 0, none⟩ = some (.map (some b))
  m : MpAt w b L
theorem lt_of_cell {w : World} {b i : Nat} {v : Value} (h : w.cell? ⟨b, i, none⟩ = some v) : b < w.heap.size := by
  by_cases e : b < w.heap.size
  · exact e
  · rw [World.cell?, Array.getElem?_eq_none (by simpa using e)] at h; simp at h
theorem WhAt.lt {w : World} {p b : Nat} {L : List Fd} (h : WhAt w p b L) : p < w.heap.size := lt_of_cell h.c
theorem WhAt.ne {w : World} {p b : Nat} {L : List Fd} (h : WhAt w p b L) : p ≠ b := fun e => by have := h.m.nocell 0; rw [← e, h.c] at this; cases this
theorem WhAt.below {w w' : World} {p b : Nat} {L : List Fd} (h : WhAt w p b L) (hb : Below w.heap.size w w') : WhAt w' p b L :=
  ⟨(hb.cell (p := ⟨p, 0, none⟩) h.lt).trans h.c, h.m.below hb⟩
theorem WhAt.kept {w w' : World} {p b : Nat} {L : List Fd} {row : Option Nat} (h : WhAt w p b L) (hg : w.grownBy w' row) (h1 : some p ≠ row) (h2 : some b ≠ row) : WhAt w' p b L :=
  ⟨hg.cell h.c h1, h.m.kept hg h2⟩
theorem WhAt.turned {w w' : World} {p b : Nat} {L L' : List Fd} (h : WhAt w p b L) (hg : w.grownBy w' (some b)) (hm : MpAt w' b L') : WhAt w' p b L' :=
  ⟨hg.cell h.c (by intro e; injection e with e; exact h.ne e), hm⟩
/-- The world at a place of the walk, by what is known of it. -/
theorem with_world {P : Program} {c : Code} {Q : Exit → Act → World → Prop} {a : Act} {W : World} (F : World → Prop) (hF : F W) (h : ∀ wx, F wx → Code.wp P c Q a wx) : Code.wp P c Q a W := h W hF
theorem ret_int {k : IntKind} {a b : Int} (h : a = b) : Ending.returned (.int k a) = .returned (.int k b) := by rw [h]
theorem ret_bool {a b : Bool} (h : a = b) : Ending.returned (.bool a) = .returned (.bool b) := by rw [h]
theorem below_drewN {B : Nat} {a w : World} (h : Below B a w) (n : Nat) : Below B a (w.drewN n) := ⟨h.os, h.tape, h.output, h.size, h.block⟩
end Go.Proofs.Ytgplhdhnailpfaa
