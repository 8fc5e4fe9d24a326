/-
  Ranging over a map of timers: Next, Drop, the keys that are due.
-/
import Derived.Test.YtgplhdhnailpfaaB3
import Derived.Deep.AppendLies
import Derived.OwnWalk
set_option linter.unusedSimpArgs false
set_option maxRecDepth 100000
namespace Go.Proofs.Ytgplhdhnailpfaa
open Go.RowKit Go.Maps
theorem slice_of_owns {w : World} {base : Nat} {e : TypeId} {size : Nat} {v : Value} {n : Nat} {xs : List Value} (h : w.ownsRow base e size v n xs) : ∃ ad c, v = .slice ad n c := by
  obtain ⟨_, h | ⟨g, cap, cur, h, _⟩⟩ := h
  · exact ⟨none, 0, by rw [h.1, h.2]⟩
  · exact ⟨_, _, h⟩
theorem owns_mono {w : World} {base base' : Nat} {e : TypeId} {size : Nat} {v : Value} {n : Nat} {xs : List Value} (h : w.ownsRow base e size v n xs) (hb : base' ≤ base) : w.ownsRow base' e size v n xs := by
  obtain ⟨h0, h | ⟨g, cap, cur, h, hg, k⟩⟩ := h
  · exact ⟨h0, Or.inl h⟩
  · exact ⟨h0, Or.inr ⟨g, cap, cur, h, Nat.le_trans hb hg, k⟩⟩
theorem owns_heap' {w w' : World} {base : Nat} {e : TypeId} {size : Nat} {v : Value} {n : Nat} {xs : List Value} (h : w.ownsRow base e size v n xs) (hh : ∀ g, v.ownBlock = some g → w'.heap[g]? = w.heap[g]?) : w'.ownsRow base e size v n xs := by
  obtain ⟨h0, h | ⟨g, cap, cur, rfl, hg, hk, r⟩⟩ := h
  · exact ⟨h0, Or.inl h⟩
  · exact ⟨h0, Or.inr ⟨g, cap, cur, rfl, hg, (hh g rfl).trans hk, r⟩⟩
theorem owns_lt {w : World} {base : Nat} {e : TypeId} {size : Nat} {v : Value} {n : Nat} {xs : List Value} (h : w.ownsRow base e size v n xs) (g : Nat) (hg : v.ownBlock = some g) : base ≤ g ∧ g < w.heap.size := by
  obtain ⟨h0, h | ⟨g', cap, cur, rfl, hg', hk, r⟩⟩ := h
  · rw [h.1] at hg; exact absurd hg (by simp [Value.ownBlock])
  · have : g' = g := by simpa [Value.ownBlock] using hg
    subst this
    exact ⟨hg', (Array.getElem?_eq_some_iff.mp hk).1⟩
theorem owns_below {w w' : World} {base : Nat} {e : TypeId} {size : Nat} {v : Value} {n : Nat} {xs : List Value} (h : w.ownsRow base e size v n xs) (hb : Below w.heap.size w w') : w'.ownsRow base e size v n xs :=
  owns_heap' h fun g hg => hb.block g (owns_lt h g hg).2
theorem owns_far {w w' : World} {base r : Nat} {e : TypeId} {size : Nat} {v : Value} {n : Nat} {xs : List Value} (h : w.ownsRow base e size v n xs) (hg : w.grownBy w' (some r)) (hr : r < base) : w'.ownsRow base e size v n xs :=
  owns_heap' h fun g hg' => hg.block g (owns_lt h g hg').2 (by have := (owns_lt h g hg').1; intro e; injection e with e; omega)
/-- The ranges over a map of timers. -/
abbrev RgAt (w : World) (b r n : Nat) (D : DataW Unit) (left : Lit → Bool) (cnt : Nat) : Prop := w.ranges Try.prog 27 (plainElem Try.prog 28) b r n D left cnt
/-- What comes next is a timer that is still to come. -/
theorem wpList_next_keys (w : World) {ops : Array Oper} {rest : List Oper} {o : Oper} {a : Act} {Q : Exit → Act → World → Prop} (hg : o.guard = none) (it : Operand) (hop : o.op = Op.next it false)
    (b r n : Nat) (D : DataW Unit) (left : Lit → Bool) (cnt : Nat) (L : List Fd) (hr : Reads D L)
    (hit : a.eval it = .pointer (some ⟨r, 0, none⟩)) (h : RgAt w b r n D left cnt)
    (hDone : cnt = 0 → (∀ kl, left kl = false) → wpList Try.prog ops Q rest (a.put o.dst (.tuple #[.bool false])) w)
    (hMore : ∀ (x : Fd) (w' : World) (cnt' : Nat), x ∈ L → left (klit x.key) = true → RgAt w' b r n D (fun z => left z && !z.sameKey (klit x.key)) cnt' → cnt' < cnt →
      w.grownBy w' (some r) → w'.heap.size = w.heap.size → (Instr.entry (.pointer (some ⟨r, 0, none⟩))).run Try.prog w' = .ok (.tuple #[.agg #[.int .i64 x.key.kind, .string x.key.peer, .int .i64 x.key.fam], .int .u64 (x.at' : Int)]) w' → wpList Try.prog ops Q rest (a.put o.dst (.tuple #[.bool true, .agg #[.int .i64 x.key.kind, .string x.key.peer, .int .i64 x.key.fam], .int .u64 (x.at' : Int)])) w') :
    wpList Try.prog ops Q (o :: rest) a w :=
  wpList_next_ranges w hg it hop 27 law (plainElem Try.prog 28) (fun k : Ky => .agg #[.int .i64 k.kind, .string k.peer, .int .i64 k.fam]) (Value.int .u64) (fun key kl hk => by obtain ⟨k, e, _⟩ := keyOf_inv hk; exact ⟨k, e⟩) (fun v y hv => by obtain ⟨c, rfl, _⟩ := plainElem_int_inv Try.underlying28 hv; exact ⟨c, rfl⟩)
    b r n D left cnt hit h hDone (fun k c kl y w' cnt' hkey hlk hv hat hrg hlt hgr hsz hen => by
      rw [keyOf_mk] at hkey
      injection hkey with hkey
      subst hkey
      obtain ⟨c', ec, rfl, hwc⟩ := plainElem_int_inv Try.underlying28 hv
      injection ec with _ ec
      subst ec
      cases e : lookF L k with
      | none =>
        have h1 := Maps.has_true_of_atKey hat
        rw [hr.has, e] at h1
        cases h1
      | some t =>
        have hm := lookF_some e
        have h2 := (hat .nil).symm.trans (hr.yes _ hm .nil)
        unfold tl at h2
        injection h2 with h2
        injection h2 with _ h2
        subst h2
        exact hMore ⟨t, k⟩ w' cnt' hm hlk hrg hlt hgr hsz hen)
theorem same_self (k : Ky) : (klit k).sameKey (klit k) = true := WideAt.sameKey_self (klit_key k)
theorem same_ne {a b : Ky} (h : a ≠ b) : (klit a).sameKey (klit b) = false := Maps.sameKey_ne (klit_ne h)
/-- The least tick of those that are no longer to come. -/
structure Least (L : List Fd) (left : Lit → Bool) (t : Nat) (f : Bool) : Prop where
  no : f = false → t = 0 ∧ ∀ x ∈ L, left (klit x.key) = true
  yes : f = true → (∃ x ∈ L, x.at' = t) ∧ ∀ x ∈ L, left (klit x.key) = false → t ≤ x.at'
theorem Least.start {D : DataW Unit} {L : List Fd} (hw : Whl L) (hr : Reads D L) : Least L (Maps.has D) 0 false :=
  ⟨fun _ => ⟨rfl, fun x hx => by rw [hr.has, hw.look (t := x.at') (k := x.key) hx]; rfl⟩, fun h => by cases h⟩
theorem Least.step {L : List Fd} {left : Lit → Bool} {t : Nat} {f : Bool} (hw : Whl L) (h : Least L left t f) {x : Fd} (hx : x ∈ L) :
    Least L (fun z => left z && !z.sameKey (klit x.key)) (if f = false ∨ x.at' < t then x.at' else t) true := by
  refine ⟨fun h => by (cases h), fun _ => ⟨?_, fun y hy hl => ?_⟩⟩
  · split
    · exact ⟨x, hx, rfl⟩
    · rename_i hn
      exact (h.yes (by cases f <;> simp_all)).1
  · by_cases e : y.key = x.key
    · have := hw.one hy hx e
      subst this
      split
      · omega
      · rename_i hn; simp at hn; omega
    · simp only [same_ne e, Bool.not_false, Bool.and_true] at hl
      split
      · rename_i hc
        rcases hc with hc | hc
        · have := (h.no hc).2 y hy; rw [hl] at this; cases this
        · by_cases hf : f = true
          · have := (h.yes hf).2 y hy hl; omega
          · have := (h.no (by cases f <;> simp_all)).2 y hy; rw [hl] at this; cases this
      · rename_i hn
        exact (h.yes (by cases f <;> simp_all)).2 y hy hl
/-- The least tick of a wheel. -/
def nextT (L : List Fd) : Nat := match L with | [] => 0 | x :: _ => x.at'
theorem Least.fin {L : List Fd} {left : Lit → Bool} {t : Nat} {f : Bool} (hw : Whl L) (h : Least L left t f) (hl : ∀ z, left z = false) : t = nextT L ∧ f = !L.isEmpty := by
  cases L with
  | nil =>
    cases f
    · exact ⟨(h.no rfl).1, rfl⟩
    · obtain ⟨x, hx, _⟩ := (h.yes rfl).1; cases hx
  | cons a r =>
    cases f
    · have := (h.no rfl).2 a (by simp); rw [hl] at this; cases this
    · refine ⟨?_, rfl⟩
      have h1 := (h.yes rfl).2 a (by simp) (hl _)
      obtain ⟨x, hx, ht⟩ := (h.yes rfl).1
      obtain ⟨h2, _⟩ := List.pairwise_cons.1 hw.ord
      rcases List.mem_cons.1 hx with rfl | hx
      · exact ht.symm
      · have := h2 x hx
        show t = a.at'
        rcases this with h3 | ⟨h3, _⟩ <;> omega
set_option maxHeartbeats 1000000 in
theorem next_any {p b : Nat} {L : List Fd} {w : World} (h : WhAt w p b L) :
    Calls Try.prog 19 #[.pointer (some ⟨p, 0, none⟩)] w fun e w' => e = .returned (.tuple #[.int .u64 (nextT L : Int), .bool (!L.isEmpty)]) ∧ Below w.heap.size w w' := by
  obtain ⟨hw, D, hown, hr⟩ := h.m
  have HH : Hid (_ : Prop) := h
  have HW : Hid (Whl L) := hw
  have HR : Hid (Reads D L) := hr
  have HO : Hid (w.ownsMap Try.prog 27 (plainElem Try.prog 28) b L.length D) := hown
  obtain ⟨nt, hnt⟩ : ∃ nt : Nat, nt = nextT L := ⟨_, rfl⟩
  obtain ⟨ne, hne⟩ : ∃ ne : Bool, ne = !L.isEmpty := ⟨_, rfl⟩
  rw [← hnt, ← hne]
  have HE : Hid (nt = nextT L ∧ ne = !L.isEmpty) := ⟨hnt, hne⟩
  clear h hw hr hown hnt hne
  go_enter Try.func19, Try.ntmps19
  go_wp2_with (first | (go_at_call 26; refine (timers_yes HH.out).mono ?_; rintro e w' ⟨rfl, hww⟩; subst w') | (at_range; refine wpList_range_own _ rfl _ 60 rfl 27 28 law Try.underlying60 _ b L.length D rfl HO.out ?_; intro w0 hrg0 hg0 hs0) | go_in)
  go_frame
  have HB0 : Hid (Below w.heap.size w w0) := (Below.refl _ _).grown hg0 (Nat.le_refl _) (fun k e => by cases e)
  clear hg0 hs0
  go_loopw [4, 5] (fun l f wr => ∃ (left : Lit → Bool) (cnt t : Nat) (fb : Bool), RgAt wr b w.heap.size L.length D left cnt ∧ Least L left t fb ∧ l = .int .u64 (t : Int) ∧ f = .bool fb ∧ Below w.heap.size w wr) (fun _ _ wr => wr.rangeLeft b w.heap.size)
  case atStart => exact ⟨_, _, 0, false, hrg0, Least.start HW.out HR.out, rfl, rfl, HB0.out⟩
  case round =>
    obtain ⟨left, cnt, t, fb, hrg, hls, rfl, rfl, hbel⟩ := hrel
    have HRG : Hid (RgAt wr b w.heap.size L.length D left cnt) := hrg
    have HLS : Hid (_ : Prop) := hls
    have HB : Hid (_ : Prop) := hbel
    clear hls hbel hrg0
    go_wp2_with (first | (at_next; refine wpList_next_keys _ rfl _ rfl b w.heap.size L.length D left cnt L HR.out rfl hrg ?_ ?_) | go_in)
    · intro _ hl0
      have hf := HLS.out.fin HW.out hl0
      have HF : Hid ((t : Int) = (nt : Int) ∧ fb = ne) := by rw [HE.out.1, HE.out.2]; exact ⟨by rw [hf.1], hf.2⟩
      clear hl0 hf hrg
      go_wp2
      go_ret2
      exact ⟨by rw [HF.out.1, HF.out.2]; rfl, HB.out⟩
    · intro x w2 cnt2 hx hlx hrg2 hlt hg2 hs2 hen
      have HM : Hid (w2.rangeLeft b w.heap.size < wr.rangeLeft b w.heap.size) := by unfold Hid; rw [World.ranges.left_eq hrg2, World.ranges.left_eq HRG.out]; exact hlt
      have HB2 : Hid (Below w.heap.size w w2) := HB.out.grown hg2 HB.out.size (fun k e => by cases e; exact Nat.le_refl _)
      have HL2 : Hid (_ : Prop) := HLS.out.step HW.out hx
      have HRG2 : Hid (RgAt w2 b w.heap.size L.length D (fun z => left z && !z.sameKey (klit x.key)) cnt2) := hrg2
      clear hrg hrg2 hlt hg2 hs2 hlx hx
      cases fb
      · rw [if_pos (Or.inl rfl)] at HL2
        go_wp2
        go_roundw
        case rel => exact ⟨_, _, _, _, HRG2.out, HL2.out, rfl, rfl, HB2.out⟩
        case measure => exact HM.out
      · by_cases hlt : x.at' < t
        · rw [if_pos (Or.inr hlt)] at HL2
          have hlt' : (x.at' : Int) < (t : Int) := by omega
          clear hlt
          go_wp2
          go_roundw
          case rel => exact ⟨_, _, _, _, HRG2.out, HL2.out, rfl, rfl, HB2.out⟩
          case measure => exact HM.out
        · rw [if_neg (by simp; omega)] at HL2
          have hlt' : ¬ (x.at' : Int) < (t : Int) := by omega
          clear hlt
          go_wp2
          go_roundw
          case rel => exact ⟨_, _, _, _, HRG2.out, HL2.out, rfl, rfl, HB2.out⟩
          case measure => exact HM.out
end Go.Proofs.Ytgplhdhnailpfaa
