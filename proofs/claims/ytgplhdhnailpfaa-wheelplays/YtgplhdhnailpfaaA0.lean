/-
  A map of timers in memory, and what is done with it.
-/
import Derived.Test.YtgplhdhnailpfaaT0
import Derived.Test.YtgplhdhnailpfaaProg
import Derived.Laws.BitsAllLaws
import Derived.WalkSpells
import Derived.WalkLawsBesides
import Derived.Laws.IdiomStrings
import Derived.Laws.StructEq
import Derived.Below
import Derived.Carry
import Derived.RegionTactic
import Derived.Deep.RegionWith
import Derived.Deep.RegionHeld
import Derived.Deep.QuietTactic
import Derived.BigQuiet
import Derived.DeepKeys4
import Derived.Maps.OwnSet
import Derived.Maps.RangeWalk
import Derived.Maps.Ext
set_option linter.unusedSimpArgs false
set_option maxRecDepth 100000
namespace Go.Proofs.Ytgplhdhnailpfaa
open Go.RowKit Go.Maps
theorem laidOut : laidOutB Try.prog = true := by kernel_rfl
theorem row27 : (27 : TypeId) < Try.prog.types.size := of_decide_eq_true (by kernel_rfl)
theorem wide27 : (match Try.prog.underlying 27 with | some (.array _ _) | some (.struct _) => true | _ => false) = true := by kernel_rfl
theorem law : Keyed Try.prog 27 := Keyed.of_law (deep_law_laid laidOut (m := 2) (by omega) row27 (by kernel_rfl) wide27)
/-- What a key reads as. -/
def klit (k : Ky) : Lit := .string (keyBytes [.int .i64 k.kind, .string k.peer.data.toList, .int .i64 k.fam])
theorem keyLits_mk {P : Program} {fs : Array Field} {f0 f1 f2 : Field} (hfs : fs = #[f0, f1, f2]) (hu : P.underlying 27 = some (.struct fs)) (h3 : P.underlying 3 = some (.int .i64)) (h9 : P.underlying 9 = some .string)
    (c27 : P.cellsOf 27 = 3) (c3 : P.cellsOf 3 = 1) (c9 : P.cellsOf 9 = 1) (t0 : f0.type = 3) (t1 : f1.type = 9) (t2 : f2.type = 3) (o0 : f0.offset = 0) (o1 : f1.offset = 1) (o2 : f2.offset = 2)
    (hn : fs.all (fun f => f.name != "_") = true) (d : Nat) (k : Ky) : P.keyLits (d + 1 + 1) 27 [.int .i64 k.kind, .string k.peer, .int .i64 k.fam] = some [.int .i64 k.kind, .string k.peer.data.toList, .int .i64 k.fam] := by
  obtain ⟨w1, w2, w3⟩ := k.ok
  subst hfs
  unfold Program.keyLits
  simp only [hu]
  rw [if_pos ⟨by rw [c27]; rfl, hn⟩]
  simp only [List.mapM_cons, List.mapM_nil, t0, t1, t2, o0, o1, o2, c3, c9]
  simp [Program.keyLits, h3, h9, w1, w2, w3]
theorem keyLits_inv {P : Program} {fs : Array Field} {f0 f1 f2 : Field} (hfs : fs = #[f0, f1, f2]) (hu : P.underlying 27 = some (.struct fs)) (h3 : P.underlying 3 = some (.int .i64)) (h9 : P.underlying 9 = some .string)
    (c27 : P.cellsOf 27 = 3) (c3 : P.cellsOf 3 = 1) (c9 : P.cellsOf 9 = 1) (t0 : f0.type = 3) (t1 : f1.type = 9) (t2 : f2.type = 3) (o0 : f0.offset = 0) (o1 : f1.offset = 1) (o2 : f2.offset = 2)
    (hn : fs.all (fun f => f.name != "_") = true) (d : Nat) {a b c : Value} {ls : List Lit} (h : P.keyLits (d + 1 + 1) 27 [a, b, c] = some ls) : ∃ k : Ky, a = .int .i64 k.kind ∧ b = .string k.peer ∧ c = .int .i64 k.fam := by
  subst hfs
  unfold Program.keyLits at h
  simp only [hu] at h
  rw [if_pos ⟨by rw [c27]; rfl, hn⟩] at h
  simp only [List.mapM_cons, List.mapM_nil, t0, t1, t2, o0, o1, o2, c3, c9] at h
  have e0 : ∃ x, P.keyLits (d + 1) 3 [a] = some x := by
    cases e : P.keyLits (d + 1) 3 [a] with
    | some x => exact ⟨x, rfl⟩
    | none => simp [e] at h
  have e1 : ∃ x, P.keyLits (d + 1) 9 [b] = some x := by
    cases e : P.keyLits (d + 1) 9 [b] with
    | some x => exact ⟨x, rfl⟩
    | none => obtain ⟨x, e0⟩ := e0; simp [e0, e] at h
  have e2 : ∃ x, P.keyLits (d + 1) 3 [c] = some x := by
    cases e : P.keyLits (d + 1) 3 [c] with
    | some x => exact ⟨x, rfl⟩
    | none => obtain ⟨x, e0⟩ := e0; obtain ⟨y, e1⟩ := e1; simp [e0, e1, e] at h
  clear h
  obtain ⟨x0, e0⟩ := e0
  obtain ⟨x1, e1⟩ := e1
  obtain ⟨x2, e2⟩ := e2
  unfold Program.keyLits at e0 e1 e2
  rw [h3] at e0 e2
  rw [h9] at e1
  cases a <;> simp at e0
  cases b <;> simp at e1
  cases c <;> simp at e2
  obtain ⟨⟨rfl, w0⟩, _⟩ := e0
  obtain ⟨w1, _⟩ := e1
  obtain ⟨⟨rfl, w2⟩, _⟩ := e2
  exact ⟨⟨_, _, _, w0, w1, w2⟩, rfl, rfl, rfl⟩
theorem keyOf_any {P : Program} {fs : Array Field} (hu : P.underlying 27 = some (.struct fs)) (kt : P.keyType 27 = true) (v : Value) :
    keyOf P 27 v = if v.formed P 27 = true then (P.keyLits (P.types.size + 1) 27 v.cells.toList).map fun ls => .string (keyBytes ls) else none := by
  unfold keyOf
  rw [hu]
  simp only [kt, Bool.true_and]
theorem formed_iff {P : Program} {fs : Array Field} (hu : P.underlying 27 = some (.struct fs)) (c27 : P.cellsOf 27 = 3) (v : Value) : v.formed P 27 = true ↔ ∃ a b c, v = .agg #[a, b, c] := by
  unfold Value.formed
  rw [hu]
  constructor
  · intro hf
    cases v <;> simp [c27] at hf
    rename_i cs
    obtain ⟨l⟩ := cs
    match l, hf with
    | [a, b, c], _ => exact ⟨a, b, c, rfl⟩
  · rintro ⟨a, b, c, rfl⟩
    simp [c27]
theorem keyType27 : Try.prog.keyType 27 = true := by kernel_rfl
theorem cells27 : Try.prog.cellsOf 27 = 3 := by kernel_rfl
theorem cells3 : Try.prog.cellsOf 3 = 1 := by kernel_rfl
theorem cells9 : Try.prog.cellsOf 9 = 1 := by kernel_rfl
theorem depth : Try.prog.types.size + 1 = 121 + 1 + 1 := by kernel_rfl
theorem keyOf_mk (k : Ky) : keyOf Try.prog 27 (.agg #[.int .i64 k.kind, .string k.peer, .int .i64 k.fam]) = some (klit k) := by
  rw [keyOf_any Try.underlying27 keyType27, if_pos ((formed_iff Try.underlying27 cells27 _).2 ⟨_, _, _, rfl⟩), depth]
  have h := keyLits_mk rfl Try.underlying27 Try.underlying3 Try.underlying9 cells27 cells3 cells9 rfl rfl rfl rfl rfl rfl (by kernel_rfl) 121 k
  show Option.map _ (Try.prog.keyLits (121 + 1 + 1) 27 [.int .i64 k.kind, .string k.peer, .int .i64 k.fam]) = _
  rw [h]
  rfl
theorem keyOf_inv {v : Value} {l : Lit} (h : keyOf Try.prog 27 v = some l) : ∃ k : Ky, v = .agg #[.int .i64 k.kind, .string k.peer, .int .i64 k.fam] ∧ l = klit k := by
  have h0 := h
  rw [keyOf_any Try.underlying27 keyType27] at h
  split at h
  · rename_i hf
    obtain ⟨a, b, c, rfl⟩ := (formed_iff Try.underlying27 cells27 _).1 hf
    rw [depth] at h
    obtain ⟨ls, e, _⟩ := Option.map_eq_some_iff.1 h
    obtain ⟨k, rfl, rfl, rfl⟩ := keyLits_inv rfl Try.underlying27 Try.underlying3 Try.underlying9 cells27 cells3 cells9 rfl rfl rfl rfl rfl rfl (by kernel_rfl) 121 e
    refine ⟨k, rfl, ?_⟩
    rw [keyOf_mk] at h0
    injection h0 with h0
    exact h0.symm
  · cases h
theorem klit_inj {a b : Ky} (h : klit a = klit b) : a = b := by
  have e := law.inj (keyOf_mk a) (h ▸ keyOf_mk b)
  injection e with e
  injection e with e
  simp only [List.cons.injEq, and_true] at e
  obtain ⟨h1, h2, h3⟩ := e
  injection h1 with _ h1
  injection h2 with h2
  injection h3 with _ h3
  exact Ky.eq_of h1 h2 h3
theorem klit_key (k : Ky) : WideAt.IsKeyLit (klit k) := law.key (keyOf_mk k)
end Go.Proofs.Ytgplhdhnailpfaa
