/-
  Patterns and what they match, plainly.
-/
import Derived.ProofKit
import Derived.Laws.BitsAllLaws
import Derived.RowKit
import Derived.Test.YthaebbmekonacaaGreatDoorProg
import Derived.WalkKit
import Derived.WalkSpells
import Derived.WalkLawsBesides
import Derived.Laws.IdiomStrings
import Derived.Below
import Derived.RegionTactic
import Derived.Deep.RegionWith
import Derived.Deep.RegionHeld
import Derived.BigQuiet
import Derived.Maps.Own
import Derived.Maps.OwnOps
import Derived.Maps.Keyed
import Derived.Maps.Ext
import Derived.Maps.OwnSet
namespace Go.Proofs.YthaebbmekonacaaGreatDoor
/-- An atom: its kind, its AS. -/
abbrev Atm := Int × Nat
/-- An atom that stands for one AS, and this AS. -/
def oneA (a : Atm) (x : Nat) : Bool := a.1 == 2 || a.2 == x
/-- A pattern matches a list. -/
def mt : List Atm → List Nat → Bool
  | [], l => l.isEmpty
  | a :: p, l => if a.1 = 3 then (List.range (l.length + 1)).any (fun k => mt p (l.drop k)) else match l with
    | [] => false
    | x :: t => oneA a x && mt p t
/-- A pattern that may be. -/
def okA (a : Atm) : Bool := if a.1 = 1 then decide (0 < a.2) else if a.1 = 2 ∨ a.1 = 3 then decide (a.2 = 0) else false
def okP (p : List Atm) : Bool := decide (p.length ≤ 64) && p.all okA
/-- What is known: from which place on the rest of the pattern behind an atom does not match. -/
def Memo (p : List Atm) (L : List Nat) (f : Nat → Option Nat) : Prop :=
  ∀ i e, f i = some e → e ≤ L.length ∧ ∃ h : i < p.length, p[i].1 = 3 ∧ ∀ j, e ≤ j → j ≤ L.length → mt (p.drop (i + 1)) (L.drop j) = false
theorem Memo.none (p : List Atm) (L : List Nat) : Memo p L (fun _ => none) := by intro i e h; cases h
/-- How many of the first m are told. -/
def cnt (f : Nat → Option Nat) : Nat → Nat
  | 0 => 0
  | m + 1 => cnt f m + if (f m).isSome then 1 else 0
end Go.Proofs.YthaebbmekonacaaGreatDoor

set_option linter.unusedSimpArgs false
set_option maxRecDepth 100000
namespace Go.Proofs.YthaebbmekonacaaGreatDoor
open Go.RowKit Go.Maps
theorem lt_of_cell {w : World} {b i : Nat} {v : Value} (h : w.cell? ⟨b, i, none⟩ = some v) : b < w.heap.size := by
  by_cases e : b < w.heap.size
  · exact e
  · rw [World.cell?, Array.getElem?_eq_none (by simpa using e)] at h; simp at h
theorem below_cell {w w' : World} (h : Below w.heap.size w w') {b i : Nat} {v : Value} (hc : w.cell? ⟨b, i, none⟩ = some v) : w'.cell? ⟨b, i, none⟩ = some v := (h.cell (p := ⟨b, i, none⟩) (lt_of_cell hc)).trans hc
/-- A slice of ASs. -/
def ASAt (w : World) (v : Value) (L : List Nat) : Prop :=
  ∃ (ad : Option Addr) (b off cap : Nat), v = .slice ad L.length cap ∧ (ad = some ⟨b, off, none⟩ ∨ L.length = 0) ∧ L.length ≤ cap ∧ ∀ j (h : j < L.length), w.cell? ⟨b, off + j, none⟩ = some (.int .u32 (L[j] : Int))
/-- A slice of atoms. -/
def AtAt (w : World) (v : Value) (p : List Atm) : Prop :=
  ∃ (ad : Option Addr) (b off cap : Nat), v = .slice ad p.length cap ∧ (ad = some ⟨b, off, none⟩ ∨ p.length = 0) ∧ p.length ≤ cap ∧ ∀ j (h : j < p.length), w.cell? ⟨b, off + j * 2, none⟩ = some (.int .i64 p[j].1) ∧ w.cell? ⟨b, off + j * 2 + 1, none⟩ = some (.int .u32 (p[j].2 : Int))
theorem ASAt.len {w : World} {v : Value} {L : List Nat} (h : ASAt w v L) : ∃ ad cap, v = .slice ad L.length cap := by
  obtain ⟨ad, b, off, cap, h1, _⟩ := h
  exact ⟨ad, cap, h1⟩
theorem AtAt.len {w : World} {v : Value} {L : List Atm} (h : AtAt w v L) : ∃ ad cap, v = .slice ad L.length cap := by
  obtain ⟨ad, b, off, cap, h1, _⟩ := h
  exact ⟨ad, cap, h1⟩
theorem ASAt.below {w w' : World} {v : Value} {L : List Nat} (h : ASAt w v L) (hb : Below w.heap.size w w') : ASAt w' v L := by
  obtain ⟨ad, b, off, cap, h1, h2, h3, h4⟩ := h
  exact ⟨ad, b, off, cap, h1, h2, h3, fun j hj => below_cell hb (h4 j hj)⟩
theorem AtAt.below {w w' : World} {v : Value} {L : List Atm} (h : AtAt w v L) (hb : Below w.heap.size w w') : AtAt w' v L := by
  obtain ⟨ad, b, off, cap, h1, h2, h3, h4⟩ := h
  exact ⟨ad, b, off, cap, h1, h2, h3, fun j hj => ⟨below_cell hb (h4 j hj).1, below_cell hb (h4 j hj).2⟩⟩
/-- Nothing but the map in block b has turned. -/
structure Bst (b : Nat) (w w' : World) : Prop where
  g : w.grownBy w' (some b)
  m : ∃ es c, w.heap[b]? = some (.map es c)
  m' : ∃ es c, w'.heap[b]? = some (.map es c)
theorem ne_map {w : World} {b p i : Nat} {v : Value} (hc : w.cell? ⟨p, i, none⟩ = some v) (hm : ∃ es c, w.heap[b]? = some (.map es c)) : p ≠ b := by
  intro e
  obtain ⟨es, c, h⟩ := hm
  subst e
  simp [World.cell?, h] at hc
theorem Bst.cell {b : Nat} {w w' : World} (h : Bst b w w') {p i : Nat} {v : Value} (hc : w.cell? ⟨p, i, none⟩ = some v) : w'.cell? ⟨p, i, none⟩ = some v :=
  h.g.cell hc (by intro e; injection e with e; exact ne_map hc h.m e)
theorem Bst.refl {b : Nat} {w : World} (m : ∃ es c, w.heap[b]? = some (.map es c)) : Bst b w w := ⟨⟨rfl, rfl, rfl, Nat.le_refl _, fun _ _ _ => rfl⟩, m, m⟩
theorem Bst.trans {b : Nat} {x y z : World} (h : Bst b x y) (k : Bst b y z) : Bst b x z :=
  ⟨⟨k.g.os.trans h.g.os, k.g.tape.trans h.g.tape, k.g.output.trans h.g.output, Nat.le_trans h.g.size k.g.size, fun j hj hn => (k.g.block j (Nat.lt_of_lt_of_le hj h.g.size) hn).trans (h.g.block j hj hn)⟩, h.m, k.m'⟩
theorem Bst.of_below {b : Nat} {w w' : World} (m : ∃ es c, w.heap[b]? = some (.map es c)) (h : Below w.heap.size w w') : Bst b w w' := by
  refine ⟨⟨h.os, h.tape, h.output, h.size, fun k hk _ => h.block k hk⟩, m, ?_⟩
  obtain ⟨es, c, e⟩ := m
  have hlt : b < w.heap.size := (Array.getElem?_eq_some_iff.1 e).1
  exact ⟨es, c, (h.block b hlt).trans e⟩
/-- .. and so all that lies below the map is as it was. -/
theorem Bst.below {b B : Nat} {w w' : World} (h : Bst b w w') (hB : B ≤ b) (hs : B ≤ w.heap.size) : Below B w w' :=
  ⟨h.g.os, h.g.tape, h.g.output, h.g.size, fun k hk => h.g.block k (Nat.lt_of_lt_of_le hk hs) (by intro e; injection e with e; omega)⟩
/-- A number as a key, as it reads. -/
def nl (n : Nat) : Lit := .int .i64 (n : Int)
/-- The map in block b: what stands at each of the keys below m. -/
structure MpI (w : World) (b m : Nat) (f : Nat → Option Nat) : Prop where
  own : ∃ D : DataW Unit, w.ownsMap Tryz.prog 3 (plainElem Tryz.prog 3) b (Maps.size D) D ∧ Maps.size D = cnt f m ∧ (∀ k v, f k = some v → ∀ z, D.atKey (nl k) z = .lit (.int .i64 (v : Int))) ∧ (∀ k, f k = none → ∀ z, D.atKey (nl k) z = z)
theorem MpI.below {w w' : World} {b m : Nat} {f : Nat → Option Nat} (h : MpI w b m f) (hb : Below w.heap.size w w') : MpI w' b m f := by
  obtain ⟨D, h, k⟩ := h.own
  exact ⟨D, h.kept (row := none) ⟨hb.os, hb.tape, hb.output, hb.size, fun k hk _ => hb.block k hk⟩ (by simp), k⟩
end Go.Proofs.YthaebbmekonacaaGreatDoor

set_option linter.unusedVariables false
set_option linter.unusedSimpArgs false
set_option maxRecDepth 100000
namespace Go.Proofs.YthaebbmekonacaaGreatDoor
open Go.RowKit
theorem ret_bool {a b : Bool} (h : a = b) : Ending.returned (.bool a) = .returned (.bool b) := by rw [h]
theorem new_cell (w : World) (v : Value) (t : TypeId) : (w.alloc (.cells #[v] t)).cell? ⟨w.heap.size, 0, none⟩ = some v := by
  rw [World.cell?_alloc_new]; rfl
/-- An atom as a value. -/
def atV (a : Atm) : Value := .agg #[.int .i64 a.1, .int .u32 (a.2 : Int)]
theorem below_box (w : World) (o : Obj) : Below w.heap.size w (w.alloc o) := (Below.refl _ _).alloc (Nat.le_refl _) _
set_option maxHeartbeats 1000000 in
theorem mayAtom_any (a : Atm) (w : World) : Calls Tryz.prog 177 #[atV a] w fun e w' => e = .returned (.bool (okA a)) ∧ Below w.heap.size w w' := by
  obtain ⟨k, n⟩ := a
  have HREF : Hid (okA (k, n) = if k = 1 then decide (0 < n) else if k = 2 ∨ k = 3 then decide (n = 0) else false) := rfl
  have HB : Hid (Below _ _ _) := below_box w (.cells #[.int .i64 k, .int .u32 (n : Int)] 55)
  generalize okA (k, n) = r at *
  unfold atV
  dsimp only
  by_cases h : k = 1
  · subst h
    go_enter Tryz.func177, Tryz.ntmps177
    go_wp2
    go_ret
    exact ⟨ret_bool (by rw [HREF.out]; simp), HB.out⟩
  · rw [if_neg h] at HREF
    by_cases h2 : k = 2
    · subst h2
      go_enter Tryz.func177, Tryz.ntmps177
      go_wp2
      go_ret
      exact ⟨ret_bool (by rw [HREF.out]; simp; rw [Bool.eq_iff_iff, beq_iff_eq, decide_eq_true_eq]; omega), HB.out⟩
    · by_cases h3 : k = 3
      · subst h3
        go_enter Tryz.func177, Tryz.ntmps177
        go_wp2
        go_ret
        exact ⟨ret_bool (by rw [HREF.out]; simp; rw [Bool.eq_iff_iff, beq_iff_eq, decide_eq_true_eq]; omega), HB.out⟩
      · rw [if_neg (by omega)] at HREF
        go_enter Tryz.func177, Tryz.ntmps177
        go_wp2
        go_ret
        exact ⟨ret_bool HREF.out.symm, HB.out⟩
set_option maxHeartbeats 1000000 in
/-- The closure of all: not what may says. -/
theorem notAtom_any (a : Atm) (b : Nat) (w : World) (hc : w.cell? ⟨b, 0, none⟩ = some (.func (.func 177) #[] #[])) : Calls Tryz.prog 197 #[atV a, .pointer (some ⟨b, 0, none⟩)] w fun e w' => e = .returned (.bool (!okA a)) ∧ Below w.heap.size w w' := by
  have HB : Hid (Below _ _ _) := below_box w (.cells #[.int .i64 a.1, .int .u32 (a.2 : Int)] 55)
  have c1 := below_cell HB.out hc
  have HK : Hid (Calls Tryz.prog 177 #[.agg #[.int .i64 a.1, .int .u32 (a.2 : Int)]] (w.alloc (.cells #[.int .i64 a.1, .int .u32 (a.2 : Int)] 55)) _) := mayAtom_any a _
  unfold atV
  generalize okA a = r at *
  go_enter Tryz.func197, Tryz.ntmps197
  go_wp2_with (go_at_call 177; refine Calls.mono HK.out ?_; rintro e w2 ⟨rfl, hb2⟩)
  go_ret
  exact ⟨rfl, HB.out.trans (hb2.mono HB.out.size)⟩
set_option maxHeartbeats 1600000 in
theorem indexAtom_any (v : Value) (L : List Atm) (b : Nat) (w : World) (hv : AtAt w v L) (hc : w.cell? ⟨b, 0, none⟩ = some (.func (.func 177) #[] #[])) (hlen : L.length ≤ 1000) :
    Calls Tryz.prog 210 #[v, .func (.func 197) #[] #[.pointer (some ⟨b, 0, none⟩)]] w fun e w' => (∃ n : Int, e = .returned (.int .i64 n) ∧ decide (0 ≤ n) = !L.all okA) ∧ Below w.heap.size w w' := by
  obtain ⟨ad, bb, off, cap, rfl, had, hcap, hrow⟩ := hv
  have HR : Hid (_ : Prop) := hrow
  have HC : Hid (_ = _) := hc
  clear hrow hc
  go_enter Tryz.func210, Tryz.ntmps210
  go_wp2
  go_loopw [8] (fun i wr => ∃ (k : Nat), k ≤ L.length ∧ i = .int .i64 k ∧ Below w.heap.size w wr ∧ L.all okA = (L.drop k).all okA) (fun i _ => L.length - (intOf i).toNat)
  case atStart => exact ⟨0, Nat.zero_le _, rfl, Below.refl _ _, rfl⟩
  case round =>
    obtain ⟨k, hk, rfl, hb, hany⟩ := hrel
    have HB : Hid (Below w.heap.size w wr) := hb
    have HRI : Hid (_ = _) := hany
    clear hb hany
    by_cases hlt : k < L.length
    · obtain rfl : ad = some ⟨bb, off, none⟩ := by
        rcases had with h | h
        · exact h
        · omega
      have c0 := below_cell HB.out (HR.out k hlt).1
      have c1 := below_cell HB.out (HR.out k hlt).2
      have HD : Hid ((L.drop k).all okA = (okA L[k] && (L.drop (k + 1)).all okA)) := by
        unfold Hid
        rw [List.drop_eq_getElem_cons hlt, List.all_cons]
      rw [HD.out] at HRI
      clear HD
      have HK : Hid (Calls Tryz.prog 197 #[.agg #[.int .i64 L[k].1, .int .u32 (L[k].2 : Int)], .pointer (some ⟨b, 0, none⟩)] wr _) := notAtom_any L[k] b wr (below_cell HB.out HC.out)
      generalize okA L[k] = z at *
      generalize L[k].1 = f at *
      generalize L[k].2 = s at *
      cases z with
      | false =>
        go_wp2_with (go_at_call 197; refine Calls.mono HK.out ?_; rintro e w2 ⟨rfl, hb2⟩)
        go_ret
        exact ⟨⟨_, rfl, by rw [HRI.out]; simp⟩, HB.out.trans (hb2.mono HB.out.size)⟩
      | true =>
        go_wp2_with (go_at_call 197; refine Calls.mono HK.out ?_; rintro e w2 ⟨rfl, hb2⟩)
        go_roundw
        case rel => exact ⟨k + 1, by omega, by go_num, HB.out.trans (hb2.mono HB.out.size), by rw [HRI.out]; rfl⟩
        case measure => simp [intOf]; omega
    · obtain rfl : k = L.length := by omega
      rw [List.drop_eq_nil_of_le (by simp)] at HRI
      go_wp2
      go_ret
      exact ⟨⟨_, rfl, by rw [HRI.out]; rfl⟩, HB.out⟩
theorem containsAtom_any (v : Value) (L : List Atm) (b : Nat) (w : World) (hv : AtAt w v L) (hc : w.cell? ⟨b, 0, none⟩ = some (.func (.func 177) #[] #[])) (hlen : L.length ≤ 1000) :
    Calls Tryz.prog 196 #[v, .func (.func 197) #[] #[.pointer (some ⟨b, 0, none⟩)]] w fun e w' => e = .returned (.bool (!L.all okA)) ∧ Below w.heap.size w w' := by
  have HK : Hid (_ : Prop) := indexAtom_any v L b w hv hc hlen
  clear hv hc
  go_enter Tryz.func196, Tryz.ntmps196
  go_wp2_with (go_at_call 210; refine Calls.mono HK.out ?_; rintro e w2 ⟨⟨n, rfl, hn⟩, hb2⟩)
  go_ret
  first | exact ⟨rfl, hb2⟩ | exact ⟨ret_bool hn, hb2⟩
theorem allAtom_any (v : Value) (L : List Atm) (w : World) (hv : AtAt w v L) (hlen : L.length ≤ 1000) :
    Calls Tryz.prog 176 #[v, .func (.func 177) #[] #[]] w fun e w' => e = .returned (.bool (L.all okA)) ∧ Below w.heap.size w w' := by
  have HB : Hid (Below _ _ _) := below_box w (.cells #[.func (.func 177) #[] #[]] 235)
  have HK : Hid (_ : Prop) := containsAtom_any v L w.heap.size _ (hv.below HB.out) (new_cell w _ _) hlen
  clear hv
  go_enter Tryz.func176, Tryz.ntmps176
  go_wp2_with (go_at_call 196; refine Calls.mono HK.out ?_; rintro e w2 ⟨rfl, hb2⟩)
  go_ret
  exact ⟨ret_bool (by simp), HB.out.trans (hb2.mono HB.out.size)⟩
set_option maxHeartbeats 1000000 in
theorem mayPattern_any (v : Value) (L : List Atm) (w : World) (hv : AtAt w v L) (hlen : L.length < 9223372036854775808) :
    Calls Tryz.prog 152 #[v] w fun e w' => e = .returned (.bool (okP L)) ∧ Below w.heap.size w w' := by
  have hv0 := hv
  obtain ⟨ad, cap, rfl⟩ := hv.len
  have HREF : Hid (okP L = (decide (L.length ≤ 64) && L.all okA)) := rfl
  generalize okP L = r at *
  by_cases h : L.length ≤ 64
  · have HK : Hid (_ : Prop) := allAtom_any _ L w hv0 (by omega)
    rw [decide_eq_true h, Bool.true_and] at HREF
    clear hv hv0
    generalize L.all okA = z at *
    go_enter Tryz.func152, Tryz.ntmps152
    go_wp2_with (go_at_call 176; refine Calls.mono HK.out ?_; rintro e w2 ⟨rfl, hb2⟩)
    go_ret
    exact ⟨ret_bool HREF.out.symm, hb2⟩
  · rw [decide_eq_false h, Bool.false_and] at HREF
    clear hv hv0
    go_enter Tryz.func152, Tryz.ntmps152
    go_wp2
    go_ret
    exact ⟨ret_bool HREF.out.symm, Below.refl _ _⟩
end Go.Proofs.YthaebbmekonacaaGreatDoor
