/-
  What TrieMatch stands on: raw spots in memory, trees into which spots were set.
-/
import Derived.Test.YtjjhimdjhfdmiaaDoorE2
namespace Go.Proofs.YtjjhimdjhfdmiaaDoor
open Go.RowKit
/-- The four cells of a spot. -/
structure SpotAt (w : World) (b o : Nat) (fm a ln : Nat) (v : Int) : Prop where
  c0 : w.cell? ⟨b, o, none⟩ = some (.int .u8 fm)
  c1 : w.cell? ⟨b, o + 1, none⟩ = some (.int .u8 a)
  c2 : w.cell? ⟨b, o + 2, none⟩ = some (.int .u8 ln)
  c3 : w.cell? ⟨b, o + 3, none⟩ = some (.int .i16 v)
theorem SpotAt.kept {w w' : World} {b o B : Nat} {fm a ln : Nat} {v : Int} (h : SpotAt w b o fm a ln v) (hb : Below B w w') (hB : b < B) : SpotAt w' b o fm a ln v :=
  ⟨(hb.cell (p := ⟨b, o, none⟩) hB).trans h.c0, (hb.cell (p := ⟨b, o + 1, none⟩) hB).trans h.c1, (hb.cell (p := ⟨b, o + 2, none⟩) hB).trans h.c2, (hb.cell (p := ⟨b, o + 3, none⟩) hB).trans h.c3⟩
theorem SpotAt.drew {w : World} {b o : Nat} {fm a ln : Nat} {v : Int} (h : SpotAt w b o fm a ln v) : SpotAt w.drew b o fm a ln v := ⟨h.c0, h.c1, h.c2, h.c3⟩
theorem SpotAt.beside {w w' : World} {b o p : Nat} {fm a ln : Nat} {v : Int} (h : SpotAt w b o fm a ln v) (hb : Beside p w w') (hB : b < w.heap.size) (hp : b ≠ p) : SpotAt w' b o fm a ln v := by
  have e := hb.block b hB hp
  obtain ⟨c0, c1, c2, c3⟩ := h
  refine ⟨?_, ?_, ?_, ?_⟩ <;> unfold World.cell? at * <;> rw [e] <;> assumption
theorem PfxAt.beside {w w' : World} {b p : Nat} {f r : Int} {s : ByteArray} {l : Int} (h : PfxAt w b f r s l) (hb : Beside p w w') (hB : b < w.heap.size) (hp : b ≠ p) : PfxAt w' b f r s l := by
  have e := hb.block b hB hp
  obtain ⟨c0, c1, c2, c3, f0, f1, f2, f3⟩ := h
  refine ⟨?_, ?_, ?_, ?_, ?_, ?_, ?_, ?_⟩ <;> (first | unfold World.cell? at * | skip) <;> (first | unfold World.frozen? at * | skip) <;> rw [e] <;> assumption
/-- No key twice. -/
def Fn (t : T) : Prop := ∀ e e', e ∈ t.ents → e' ∈ t.ents → e.row = e'.row → e.len = e'.len → e = e'
theorem Fn.nil : Fn .nil := fun e _ h => by simp [T.ents] at h
theorem Fn.set {t : T} (h : Fn t) (hw : t.WF Can) {k : ByteArray} {n : Nat} (v : Int) (hC : Can k n) : Fn (t.set k n v) := by
  intro e e' he he' h1 h2
  rw [mem_set can_uniq v hC e t hw] at he
  rw [mem_set can_uniq v hC e' t hw] at he'
  rcases he with rfl | ⟨he, hn⟩ <;> rcases he' with rfl | ⟨he', hn'⟩
  · rfl
  · exact absurd ⟨h1.symm, h2.symm⟩ hn'
  · exact absurd ⟨h1, h2⟩ hn
  · exact h e e' he he' h1 h2
/-- A key is there. -/
def HasKey (t : T) (k : ByteArray) (n : Nat) : Prop := ∃ v, ⟨k, n, v⟩ ∈ t.ents
theorem HasKey.self {t : T} (hw : t.WF Can) {k : ByteArray} {n : Nat} (v : Int) (hC : Can k n) : HasKey (t.set k n v) k n := ⟨v, (mem_set can_uniq v hC _ t hw).2 (Or.inl rfl)⟩
theorem HasKey.set {t : T} (hw : t.WF Can) {k k' : ByteArray} {n n' : Nat} (v : Int) (hC : Can k n) (h : HasKey t k' n') : HasKey (t.set k n v) k' n' := by
  obtain ⟨v', hv⟩ := h
  by_cases e : k' = k ∧ n' = n
  · obtain ⟨rfl, rfl⟩ := e; exact HasKey.self hw v hC
  · exact ⟨v', (mem_set can_uniq v hC _ t hw).2 (Or.inr ⟨hv, e⟩)⟩
/-- The key of a spot. -/
def spK (fm a ln : Nat) : ByteArray := keyRow (spF fm) 0 (spS fm a ln)
theorem sp_can (fm a ln : Nat) : Can (spK fm a ln) (72 + ln % 13) := can_key (sp_chk fm a ln) (by decide)
theorem get_has {t : T} (hw : t.WF Can) {k : ByteArray} {n : Nat} (hC : Can k n) (h : HasKey t k n) : (t.get k n).isSome = true := by
  rcases get_spec hw hC with ⟨v, _, h2⟩ | ⟨_, h2⟩
  · rw [h2]; rfl
  · obtain ⟨v, hv⟩ := h; exact absurd hv (h2 v)
theorem get_ent {t : T} (hw : t.WF Can) (hf : Fn t) {e : Ent} (he : e ∈ t.ents) : t.get e.row e.len = some e.val := by
  rcases get_spec hw (T.WF.ent t hw e he) with ⟨v, h1, h2⟩ | ⟨_, h2⟩
  · rw [h2, show v = e.val from congrArg Ent.val (hf _ _ h1 he rfl rfl)]
  · exact absurd he (h2 e.val)
/-- What stands in memory while TrieMatch goes on. -/
structure LAt (w wr : World) (fx ax lx : Nat) (vx : Int) (fy ay ly : Nat) (vy : Int) : Prop where
  bel : Below w.heap.size w wr
  sx : SpotAt wr w.heap.size 0 fx ax lx vx
  sy : SpotAt wr (w.heap.size + 1) 0 fy ay ly vy
  sz : w.heap.size + 1 + 1 < wr.heap.size
theorem LAt.below {w wr w' : World} {fx ax lx : Nat} {vx : Int} {fy ay ly : Nat} {vy : Int} (h : LAt w wr fx ax lx vx fy ay ly vy) (hb : Below wr.heap.size wr w') : LAt w w' fx ax lx vx fy ay ly vy := by
  have hz := h.sz
  exact ⟨h.bel.trans (hb.mono h.bel.size), h.sx.kept hb (by omega), h.sy.kept hb (by omega), Nat.lt_of_lt_of_le h.sz hb.size⟩
theorem LAt.beside {w wr w' : World} {fx ax lx : Nat} {vx : Int} {fy ay ly : Nat} {vy : Int} {p : Nat} (h : LAt w wr fx ax lx vx fy ay ly vy) (hb : Beside p wr w') (hp : w.heap.size + 1 + 1 ≤ p) : LAt w w' fx ax lx vx fy ay ly vy := by
  have hz := h.sz
  exact ⟨hb.below h.bel (by omega) h.bel.size, h.sx.beside hb (by omega) (by omega), h.sy.beside hb (by omega) (by omega), Nat.lt_of_lt_of_le h.sz hb.size⟩
end Go.Proofs.YtjjhimdjhfdmiaaDoor
