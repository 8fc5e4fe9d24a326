/-
  Prepend: an AS put ahead of a path.
-/
import Derived.Test.YtbdfigfjoiefiaaDoorM1
import Derived.Test.YtbdfigfjoiefiaaDoorC2
import Derived.BigQuiet
import Derived.Deep.RegionLaw
namespace Go.Proofs.YtbdfigfjoiefiaaDoor
open Go.RowKit
/-- The kind under which an AS is put ahead. -/
def kindOf (conf : Bool) : Nat := if conf then 3 else 2
/-- Does the first segment take one more? -/
def takes (k : Nat) : List Sg → Bool
  | [] => false
  | s :: _ => decide (s.1 = k) && decide (s.2.length < 255)
/-- The path with an AS ahead, and the error. -/
def prepP (L : List Sg) (a : Nat) (conf : Bool) : List Sg :=
  if okPath L = false ∨ a = 0 then [] else if takes (kindOf conf) L then (match L with | [] => [] | s :: T => ((kindOf conf : Int), a :: s.2) :: T) else if L.length = 16 then [] else ((kindOf conf : Int), [a]) :: L
def prepE (L : List Sg) (a : Nat) (conf : Bool) : Int :=
  if okPath L = false ∨ a = 0 then 2 else if takes (kindOf conf) L then 0 else if L.length = 16 then 3 else 0
/-- What Prepend leaves: a path in rows of its own, and an error. -/
def PrepOk (w : World) (P : List Sg) (err : Int) (e : Ending) (w' : World) : Prop := ∃ v' R', e = .returned (.tuple #[v', .int .i64 err]) ∧ sgs R' = P ∧ OwnS w' w.heap.size v' R' ∧ Below w.heap.size w w'
/-- A row of one AS that a call has made. -/
theorem own_one {w : World} {base g a : Nat} (hg : base ≤ g) (h : w.heap[g]? = some (.cells #[.int .u32 (a : Int)] 23 (0, 0))) (ha : a < 4294967296) : OwnU w base (.slice (some ⟨g, 0, none⟩) 1 1) [a] :=
  ⟨⟨rfl, Or.inr ⟨g, 1, _, rfl, hg, h, Nat.le_refl _, by unfold maxLen; omega, rfl, rfl⟩⟩, by simpa using ha, by simp⟩
theorem ne_at {p g : Nat} (h : (Value.slice (some ⟨p, 0, none⟩) 1 1).ownBlock = some g ∨ g = p + 2) : g ≠ p + 1 := by
  rcases h with h | h
  · simp [Value.ownBlock] at h; omega
  · omega
/-- The path behind its first segment. -/
theorem PathAt.rest {w : World} {b off n cap : Nat} {s : Sg} {T : List Sg} (h : PathAt w (.slice (some ⟨b, off, none⟩) n cap) (s :: T)) :
    ∃ adr, (∀ W, (Instr.slice 22 (.slice (some ⟨b, off, none⟩) (T.length + 1) cap) (some (.int .i64 1)) none none).run Tryd.prog W = .ok (.slice (some adr) T.length (cap - 1)) W) ∧ PathAt w (.slice (some adr) T.length (cap - 1)) T := by
  obtain ⟨ad, b', off', cap', h1, h2, ⟨h3, h3'⟩, h4⟩ := h
  simp only [Value.slice.injEq] at h1
  obtain ⟨rfl, rfl, rfl⟩ := h1
  obtain ⟨rfl, rfl⟩ : b = b' ∧ off = off' := by
    rcases h2 with h2 | h2
    · simpa using h2
    · simp at h2
  simp only [List.length_cons] at h3 h3'
  have hel : Tryd.prog.elem 22 = 48 := by simp [Program.elem, Tryd.underlying22]
  have hrow : RowS w b (off + 2) T := by
    intro i hi
    have := h4 (i + 1) (by simpa using hi)
    rw [List.getElem_cons_succ] at this
    rw [show off + 2 + i * 2 = off + (i + 1) * 2 by omega]
    exact this
  by_cases hc : cap = 1
  · subst hc
    refine ⟨⟨b, off, none⟩, fun W => ?_, some ⟨b, off, none⟩, b, off + 2, 0, rfl, Or.inr (by omega), ⟨by omega, by omega⟩, hrow⟩
    rw [run_slice_l W 22 (some ⟨b, off, none⟩) (T.length + 1) 1 (by rw [hel]; exact Tryd.underlying22) .i64 1 (by omega) (by omega), hel, Tryd.sizeOf48]
    simp [Result.andThen, sliced]
  · refine ⟨⟨b, off + 2, none⟩, fun W => ?_, some ⟨b, off + 2, none⟩, b, off + 2, cap - 1, rfl, Or.inl rfl, ⟨by omega, by omega⟩, hrow⟩
    rw [run_slice_l W 22 (some ⟨b, off, none⟩) (T.length + 1) cap (by rw [hel]; exact Tryd.underlying22) .i64 1 (by omega) (by omega), hel, Tryd.sizeOf48]
    simp [Result.andThen, sliced, hc, Addr.add]
theorem heap_at_new (w : World) (o : Obj) : (w.alloc o).heap[w.heap.size]? = some o := by
  show (w.heap.push o)[w.heap.size]? = _
  simp
/-- A path of one segment that a call has made. -/
theorem own_seg1 {w : World} {base : Nat} {k : Int} {u : Value} {l : List Nat} (hb : base ≤ w.heap.size) (hu : OwnU w base u l) : OwnS (w.alloc (.cells #[.int .i64 k, u] 48)) base (.slice (some ⟨w.heap.size, 0, none⟩) 1 1) [(k, u, l)] :=
  ⟨⟨rfl, Or.inr ⟨w.heap.size, 1, _, rfl, hb, heap_at_new _ _, Nat.le_refl _, by unfold maxLen; omega, rfl, rfl⟩⟩, fun r hr => by
    obtain rfl := List.mem_singleton.mp hr
    exact hu.alloc _, by simp⟩
theorem len15 {s : Sg} {T : List Sg} (h : (s :: T).length ≤ 16) : ((T.length : Int) == 16) = false := by
  simp only [List.length_cons] at h
  rw [beq_eq_false_iff_ne]; omega
theorem prep_bad (v : Value) (L : List Sg) (a : Nat) (conf : Bool) (w : World) (h : PathAt w v L) (hbad : okPath L = false ∨ a = 0) :
    Calls Tryd.prog 27 #[v, .int .u32 (a : Int), .bool conf] w fun e w' => e = .returned (.tuple #[.slice none 0 0, .int .i64 2]) ∧ Below w.heap.size w w' := by
  have H : Hid (PathAt _ _ _) := h
  obtain ⟨ad, b, off, cap, rfl, h2⟩ := h
  clear h2
  cases hok : okPath L with
  | false =>
    go_enter Tryd.func27, Tryd.ntmps27
    go_wp2_with fail
    refine (check_any _ L w H.out).mono ?_
    rintro e w1 ⟨rfl, hb1⟩
    rw [show chkOf L = 2 by simp [chkOf, hok]]
    go_wp2
    go_ret2
    exact ⟨rfl, hb1⟩
  | true =>
    obtain rfl : a = 0 := by rcases hbad with h | h; rw [hok] at h; cases h; exact h
    go_enter Tryd.func27, Tryd.ntmps27
    go_wp2_with fail
    refine (check_any _ L w H.out).mono ?_
    rintro e w1 ⟨rfl, hb1⟩
    rw [show chkOf L = 0 by simp [chkOf, hok]]
    go_wp2
    go_ret2
    exact ⟨rfl, hb1⟩
end Go.Proofs.YtbdfigfjoiefiaaDoor
