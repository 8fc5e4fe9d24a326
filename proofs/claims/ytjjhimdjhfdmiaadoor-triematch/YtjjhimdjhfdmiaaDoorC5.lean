/-
  A tree of bits in memory; the contract of match.
-/
import Derived.Test.YtjjhimdjhfdmiaaDoorC4
import Derived.Test.YtjjhimdjhfdmiaaDoorQ2
import Derived.Deep.QuietTactic
import Derived.BigQuiet
namespace Go.Proofs.YtjjhimdjhfdmiaaDoor
open Go.Deep (BT)
variable {oo : Nat}
open Go.RowKit
/-- The six cells of a node. -/
structure NodeAt (w : World) (b : Nat) (row : ByteArray) (len : Int) (has : Bool) (val : Int) (p0 p1 : Option Addr) : Prop where
  c0 : w.cell? ⟨b, 0, none⟩ = some (.string row)
  c1 : w.cell? ⟨b, 1, none⟩ = some (.int .i64 len)
  c2 : w.cell? ⟨b, 2, none⟩ = some (.bool has)
  c3 : w.cell? ⟨b, 3, none⟩ = some (.int .i64 val)
  c4 : w.cell? ⟨b, 4, none⟩ = some (.pointer p0)
  c5 : w.cell? ⟨b, 5, none⟩ = some (.pointer p1)
theorem NodeAt.drew {w : World} {b : Nat} {row : ByteArray} {len : Int} {has : Bool} {val : Int} {p0 p1 : Option Addr} (h : NodeAt w b row len has val p0 p1) : NodeAt w.drew b row len has val p0 p1 := ⟨h.c0, h.c1, h.c2, h.c3, h.c4, h.c5⟩
theorem NodeAt.kept {w w' : World} {b B : Nat} {row : ByteArray} {len : Int} {has : Bool} {val : Int} {p0 p1 : Option Addr} (h : NodeAt w b row len has val p0 p1) (hb : Below B w w') (hB : b < B) : NodeAt w' b row len has val p0 p1 :=
  ⟨(hb.cell (p := ⟨b, 0, none⟩) hB).trans h.c0, (hb.cell (p := ⟨b, 1, none⟩) hB).trans h.c1, (hb.cell (p := ⟨b, 2, none⟩) hB).trans h.c2, (hb.cell (p := ⟨b, 3, none⟩) hB).trans h.c3, (hb.cell (p := ⟨b, 4, none⟩) hB).trans h.c4, (hb.cell (p := ⟨b, 5, none⟩) hB).trans h.c5⟩
/-- The tree t lies in memory, p points to it; it lies within the blocks that S tells. -/
def Rep (S : Nat → Prop) (w : World) : T → Option Addr → Prop
  | .nil, p => p = none
  | .node len _ ⟨row, has, val⟩ l r, p => ∃ b p0 p1, p = some ⟨b, 0, none⟩ ∧ S b ∧ b < w.heap.size ∧ NodeAt w b row len has val p0 p1 ∧ Rep S w l p0 ∧ Rep S w r p1
/-- What is so of all blocks that S tells stays. -/
theorem Rep.keep {S : Nat → Prop} {w w' : World} (hs : w.heap.size ≤ w'.heap.size) (h : ∀ k, k < w.heap.size → S k → w'.heap[k]? = w.heap[k]?) : ∀ (t : T) (p : Option Addr), Rep S w t p → Rep S w' t p
  | .nil, _, hp => hp
  | .node len _ ⟨row, has, val⟩ l r, _, ⟨b, p0, p1, e, hS, hb, hn, hl, hr⟩ => by
    have c : ∀ i, w'.cell? ⟨b, i, none⟩ = w.cell? ⟨b, i, none⟩ := fun i => by unfold World.cell?; rw [h b hb hS]
    exact ⟨b, p0, p1, e, hS, Nat.lt_of_lt_of_le hb hs, ⟨(c 0).trans hn.c0, (c 1).trans hn.c1, (c 2).trans hn.c2, (c 3).trans hn.c3, (c 4).trans hn.c4, (c 5).trans hn.c5⟩, Rep.keep hs h l p0 hl, Rep.keep hs h r p1 hr⟩
theorem Rep.below {S : Nat → Prop} {w w' : World} {t : T} {p : Option Addr} (h : Rep S w t p) (hb : Below w.heap.size w w') : Rep S w' t p := Rep.keep hb.size (fun k hk _ => hb.block k hk) t p h
theorem Rep.drew {S : Nat → Prop} {w : World} {t : T} {p : Option Addr} (h : Rep S w t p) : Rep S w.drew t p := Rep.keep (w := w) (w' := w.drew) (Nat.le_refl _) (fun _ _ _ => rfl) t p h
theorem Rep.mono {S S' : Nat → Prop} {w : World} (hS : ∀ k, S k → S' k) : ∀ (t : T) (p : Option Addr), Rep S w t p → Rep S' w t p
  | .nil, _, hp => hp
  | .node _ _ _ l r, _, ⟨b, p0, p1, e, h1, hb, hn, hl, hr⟩ => ⟨b, p0, p1, e, hS b h1, hb, hn, Rep.mono hS l p0 hl, Rep.mono hS r p1 hr⟩
/-- How far from the end of a key a node is: falls on the way down. -/
def farFrom (w : World) (v : Value) : Nat := match v with
  | .pointer (some a) => 400 - (intOf ((w.cell? ⟨a.block, 1, none⟩).getD (.int .i64 0))).toNat
  | _ => 0
theorem farFrom_node {w : World} {b : Nat} {row : ByteArray} {len : Nat} {has : Bool} {val : Int} {p0 p1 : Option Addr} (h : NodeAt w b row len has val p0 p1) : farFrom w (.pointer (some ⟨b, 0, none⟩)) = 400 - len := by
  simp [farFrom, h.c1, intOf]
theorem farFrom_kid {C : ByteArray → Nat → Prop} {S : Nat → Prop} {w : World} {t : T} {p : Option Addr} {n : Nat} (h : Rep S w t p) (hw : t.WF C) (hn : n ≤ 200) (ha : t.All (fun _ len => n < len)) : farFrom w (.pointer p) < 400 - n := by
  cases t with
  | nil => cases h; simp [farFrom]; omega
  | node len _ nd l r =>
    obtain ⟨row, has, val⟩ := nd
    obtain ⟨b, p0, p1, rfl, _, _, hn', _, _⟩ := h
    rw [farFrom_node hn']
    have := ha.1
    omega
/-- A value that is there, as a pointer to its node. -/
def BestAt (S : Nat → Prop) (w : World) : Option Ent → Option Addr → Prop
  | none, p => p = none
  | some e, p => ∃ b p0 p1, p = some ⟨b, 0, none⟩ ∧ S b ∧ b < w.heap.size ∧ NodeAt w b e.row e.len true e.val p0 p1
theorem BestAt.below {S : Nat → Prop} {w w' : World} {e : Option Ent} {p : Option Addr} (h : BestAt S w e p) (hb : Below w.heap.size w w') : BestAt S w' e p := by
  cases e with
  | none => exact h
  | some e =>
    obtain ⟨b, p0, p1, h1, h2, h3, h4⟩ := h
    exact ⟨b, p0, p1, h1, h2, Nat.lt_of_lt_of_le h3 hb.size, h4.kept hb h3⟩
theorem below_drewN' {B : Nat} {a w : World} (h : Below B a w) (n : Nat) : Below B a (w.drewN n) := ⟨h.os, h.tape, h.output, h.size, h.block⟩
theorem mt_stop {k : ByteArray} {n : Nat} {row : ByteArray} {len : Nat} {has : Bool} {val : Int} {l r : T} {best : Option Ent} (h : com row k (min len n) ≠ len) : (BT.node len oo ⟨row, has, val⟩ l r).mt k n best = best := by
  unfold BT.mt; rw [if_neg h]
theorem mt_left {k : ByteArray} {n : Nat} {row : ByteArray} {len : Nat} {has : Bool} {val : Int} {l r : T} {best : Option Ent} (h : com row k (min len n) = len) (hb : bt k len = 0) : (BT.node len oo ⟨row, has, val⟩ l r).mt k n best = l.mt k n (if has then some ⟨row, len, val⟩ else best) := by
  show (if _ then _ else _) = _
  rw [if_pos h, if_pos hb]
theorem mt_right {k : ByteArray} {n : Nat} {row : ByteArray} {len : Nat} {has : Bool} {val : Int} {l r : T} {best : Option Ent} (h : com row k (min len n) = len) (hb : bt k len = 1) : (BT.node len oo ⟨row, has, val⟩ l r).mt k n best = r.mt k n (if has then some ⟨row, len, val⟩ else best) := by
  show (if _ then _ else _) = _
  rw [if_pos h, if_neg (by omega)]
set_option maxRecDepth 100000 in
set_option maxHeartbeats 800000 in
theorem match_any {C : ByteArray → Nat → Prop} {S : Nat → Prop} (k : ByteArray) (n : Nat) (t : T) (p : Option Addr) (w : World) (hn : n ≤ 8 * k.size) (hk : k.size ≤ 25) (hw : t.WF C) (hr : Rep S w t p) :
    Calls Tryd.prog 37 #[.pointer p, .agg #[.string k, .int .i64 n]] w fun e w' => ∃ q, e = .returned (.pointer q) ∧ BestAt S w' (t.mt k n none) q ∧ Below w.heap.size w w' := by
  have k0 : KeyAt (w.alloc (.cells #[.string k, .int .i64 n] 58)) w.heap.size k n := KeyAt.new w _ k n rfl
  have hB : Below w.heap.size w (w.alloc (.cells #[.string k, .int .i64 n] 58)) := (Below.refl _ _).alloc (Nat.le_refl _) _
  have hr' := hr.below hB
  go_enter Tryd.func37, Tryd.ntmps37
  go_wp2
  refine with_world (fun wx => KeyAt wx w.heap.size k n ∧ Rep S wx t p ∧ Below w.heap.size w wx ∧ w.heap.size < wx.heap.size) ⟨k0, hr', hB, by simp⟩ ?_
  clear k0 hB hr hr'
  rintro wx ⟨k0, hr, hB, hz⟩
  go_loopw [0, 5] (fun v u wr => ∃ (t' : T) (p' q : Option Addr) (best : Option Ent), v = .pointer p' ∧ u = .pointer q ∧ t'.WF C ∧ Rep S wr t' p' ∧ BestAt S wr best q ∧ t'.mt k n best = t.mt k n none ∧ KeyAt wr w.heap.size k n ∧ Below w.heap.size w wr ∧ w.heap.size < wr.heap.size) (fun v _ wr => farFrom wr v)
  case atStart => exact ⟨t, p, none, none, rfl, rfl, hw, hr, rfl, rfl, k0, hB, hz⟩
  case round =>
    clear k0 hr hB hw hz
    obtain ⟨t', p', q, best, rfl, rfl, hw, hr, hq, hm, k0, hB, hz⟩ := hrel
    have HM : Hid (t'.mt k n best = t.mt k n none) := hm
    clear hm
    cases t' with
    | nil =>
      obtain rfl : p' = none := hr
      go_wp2
      go_quiet (fail)
      go_wp2
      go_ret
      exact ⟨q, rfl, by rw [← HM.out]; exact hq.below (below_drewN' (Below.refl _ _) _), below_drewN' hB _⟩
    | node len _ nd l r =>
      obtain ⟨row, has, val⟩ := nd
      obtain ⟨b, p0, p1, rfl, hSb, hb, hnd, hl, hr⟩ := hr
      obtain ⟨s1, z1, c1, al, ar, wl, wr'⟩ := hw
      have n0 := hnd.c0
      have n1 := hnd.c1
      have y0 := k0.c0
      have y1 := k0.c1
      by_cases hc : com row k (min len n) = len
      · have hlen : len ≤ 200 := by omega
        have bb := bt_01 k len
        cases has
        · rcases bb with bb | bb
          · go_wp2
            go_region_held (fun w' => w'.cell? ⟨b, 0, none⟩ = some (.string row) ∧ w'.cell? ⟨b, 1, none⟩ = some (.int .i64 len) ∧ w'.cell? ⟨w.heap.size, 0, none⟩ = some (.string k) ∧ w'.cell? ⟨w.heap.size, 1, none⟩ = some (.int .i64 n)) (go_keep)
              (first | (go_at_call 43; refine (com_any row k len n _ s1 hn z1).mono ?_; rintro e w2 ⟨rfl, hb2⟩; obtain ⟨q0, q1, q2, q3, q4, q5⟩ := hnd.drew.kept hb2 hb; obtain ⟨v0, v1⟩ := k0.drew.kept hb2 hz))
            have hz2 : w.heap.size < w2.heap.size := Nat.lt_of_lt_of_le hz hb2.size
            have hbb : b < w2.heap.size := Nat.lt_of_lt_of_le hb hb2.size
            clear n0 n1 y0 y1
            go_wp2
            go_region_held (fun w' => w'.cell? ⟨b, 1, none⟩ = some (.int .i64 len) ∧ w'.cell? ⟨b, 4, none⟩ = some (.pointer p0) ∧ w'.cell? ⟨b, 5, none⟩ = some (.pointer p1) ∧ w'.cell? ⟨w.heap.size, 0, none⟩ = some (.string k) ∧ w'.cell? ⟨w.heap.size, 1, none⟩ = some (.int .i64 n)) (go_keep)
              (first | (go_at_call 44; refine (kbit_any k n len _ hk (by omega)).mono ?_; rintro e w3 ⟨rfl, hb3⟩; obtain ⟨x0, x1, x2, x3, x4, x5⟩ := (hnd.drew.kept hb2 hb).drew.kept hb3 hbb; obtain ⟨g0, g1⟩ := (k0.drew.kept hb2 hz).drew.kept hb3 hz2))
            have hb4 : Below wr.heap.size wr w3 := (Below.refl _ _).drew.trans (hb2.trans ((Below.refl _ _).drew.trans (hb3.mono hb2.size)))
            go_wp2
            go_roundw
            case rel => exact ⟨l, p0, q, best, rfl, rfl, wl, hl.below hb4, hq.below hb4, by rw [← HM.out, mt_left hc bb]; rfl, ⟨g0, g1⟩, hB.trans (hb4.mono hB.size), Nat.lt_of_lt_of_le hz hb4.size⟩
            case measure => rw [farFrom_node hnd]; exact farFrom_kid (hl.below hb4) wl hlen (BT.All.mono (fun _ _ h => h.1) _ al)
          · go_wp2
            go_region_held (fun w' => w'.cell? ⟨b, 0, none⟩ = some (.string row) ∧ w'.cell? ⟨b, 1, none⟩ = some (.int .i64 len) ∧ w'.cell? ⟨w.heap.size, 0, none⟩ = some (.string k) ∧ w'.cell? ⟨w.heap.size, 1, none⟩ = some (.int .i64 n)) (go_keep)
              (first | (go_at_call 43; refine (com_any row k len n _ s1 hn z1).mono ?_; rintro e w2 ⟨rfl, hb2⟩; obtain ⟨q0, q1, q2, q3, q4, q5⟩ := hnd.drew.kept hb2 hb; obtain ⟨v0, v1⟩ := k0.drew.kept hb2 hz))
            have hz2 : w.heap.size < w2.heap.size := Nat.lt_of_lt_of_le hz hb2.size
            have hbb : b < w2.heap.size := Nat.lt_of_lt_of_le hb hb2.size
            clear n0 n1 y0 y1
            go_wp2
            go_region_held (fun w' => w'.cell? ⟨b, 1, none⟩ = some (.int .i64 len) ∧ w'.cell? ⟨b, 4, none⟩ = some (.pointer p0) ∧ w'.cell? ⟨b, 5, none⟩ = some (.pointer p1) ∧ w'.cell? ⟨w.heap.size, 0, none⟩ = some (.string k) ∧ w'.cell? ⟨w.heap.size, 1, none⟩ = some (.int .i64 n)) (go_keep)
              (first | (go_at_call 44; refine (kbit_any k n len _ hk (by omega)).mono ?_; rintro e w3 ⟨rfl, hb3⟩; obtain ⟨x0, x1, x2, x3, x4, x5⟩ := (hnd.drew.kept hb2 hb).drew.kept hb3 hbb; obtain ⟨g0, g1⟩ := (k0.drew.kept hb2 hz).drew.kept hb3 hz2))
            have hb4 : Below wr.heap.size wr w3 := (Below.refl _ _).drew.trans (hb2.trans ((Below.refl _ _).drew.trans (hb3.mono hb2.size)))
            go_wp2
            go_roundw
            case rel => exact ⟨r, p1, q, best, rfl, rfl, wr', hr.below hb4, hq.below hb4, by rw [← HM.out, mt_right hc bb]; rfl, ⟨g0, g1⟩, hB.trans (hb4.mono hB.size), Nat.lt_of_lt_of_le hz hb4.size⟩
            case measure => rw [farFrom_node hnd]; exact farFrom_kid (hr.below hb4) wr' hlen (BT.All.mono (fun _ _ h => h.1) _ ar)
        · rcases bb with bb | bb
          · go_wp2
            go_region_held (fun w' => w'.cell? ⟨b, 0, none⟩ = some (.string row) ∧ w'.cell? ⟨b, 1, none⟩ = some (.int .i64 len) ∧ w'.cell? ⟨w.heap.size, 0, none⟩ = some (.string k) ∧ w'.cell? ⟨w.heap.size, 1, none⟩ = some (.int .i64 n)) (go_keep)
              (first | (go_at_call 43; refine (com_any row k len n _ s1 hn z1).mono ?_; rintro e w2 ⟨rfl, hb2⟩; obtain ⟨q0, q1, q2, q3, q4, q5⟩ := hnd.drew.kept hb2 hb; obtain ⟨v0, v1⟩ := k0.drew.kept hb2 hz))
            have hz2 : w.heap.size < w2.heap.size := Nat.lt_of_lt_of_le hz hb2.size
            have hbb : b < w2.heap.size := Nat.lt_of_lt_of_le hb hb2.size
            clear n0 n1 y0 y1
            go_wp2
            go_region_held (fun w' => w'.cell? ⟨b, 1, none⟩ = some (.int .i64 len) ∧ w'.cell? ⟨b, 4, none⟩ = some (.pointer p0) ∧ w'.cell? ⟨b, 5, none⟩ = some (.pointer p1) ∧ w'.cell? ⟨w.heap.size, 0, none⟩ = some (.string k) ∧ w'.cell? ⟨w.heap.size, 1, none⟩ = some (.int .i64 n)) (go_keep)
              (first | (go_at_call 44; refine (kbit_any k n len _ hk (by omega)).mono ?_; rintro e w3 ⟨rfl, hb3⟩; obtain ⟨x0, x1, x2, x3, x4, x5⟩ := (hnd.drew.kept hb2 hb).drew.kept hb3 hbb; obtain ⟨g0, g1⟩ := (k0.drew.kept hb2 hz).drew.kept hb3 hz2))
            have hb4 : Below wr.heap.size wr w3 := (Below.refl _ _).drew.trans (hb2.trans ((Below.refl _ _).drew.trans (hb3.mono hb2.size)))
            go_wp2
            go_roundw
            case rel => exact ⟨l, p0, (some ⟨b, 0, none⟩), (some ⟨row, len, val⟩), rfl, rfl, wl, hl.below hb4, ⟨b, p0, p1, rfl, hSb, Nat.lt_of_lt_of_le hb (Nat.le_trans hb2.size hb3.size), (hnd.drew.kept hb2 hb).drew.kept hb3 (Nat.lt_of_lt_of_le hb hb2.size)⟩, by rw [← HM.out, mt_left hc bb]; rfl, ⟨g0, g1⟩, hB.trans (hb4.mono hB.size), Nat.lt_of_lt_of_le hz hb4.size⟩
            case measure => rw [farFrom_node hnd]; exact farFrom_kid (hl.below hb4) wl hlen (BT.All.mono (fun _ _ h => h.1) _ al)
          · go_wp2
            go_region_held (fun w' => w'.cell? ⟨b, 0, none⟩ = some (.string row) ∧ w'.cell? ⟨b, 1, none⟩ = some (.int .i64 len) ∧ w'.cell? ⟨w.heap.size, 0, none⟩ = some (.string k) ∧ w'.cell? ⟨w.heap.size, 1, none⟩ = some (.int .i64 n)) (go_keep)
              (first | (go_at_call 43; refine (com_any row k len n _ s1 hn z1).mono ?_; rintro e w2 ⟨rfl, hb2⟩; obtain ⟨q0, q1, q2, q3, q4, q5⟩ := hnd.drew.kept hb2 hb; obtain ⟨v0, v1⟩ := k0.drew.kept hb2 hz))
            have hz2 : w.heap.size < w2.heap.size := Nat.lt_of_lt_of_le hz hb2.size
            have hbb : b < w2.heap.size := Nat.lt_of_lt_of_le hb hb2.size
            clear n0 n1 y0 y1
            go_wp2
            go_region_held (fun w' => w'.cell? ⟨b, 1, none⟩ = some (.int .i64 len) ∧ w'.cell? ⟨b, 4, none⟩ = some (.pointer p0) ∧ w'.cell? ⟨b, 5, none⟩ = some (.pointer p1) ∧ w'.cell? ⟨w.heap.size, 0, none⟩ = some (.string k) ∧ w'.cell? ⟨w.heap.size, 1, none⟩ = some (.int .i64 n)) (go_keep)
              (first | (go_at_call 44; refine (kbit_any k n len _ hk (by omega)).mono ?_; rintro e w3 ⟨rfl, hb3⟩; obtain ⟨x0, x1, x2, x3, x4, x5⟩ := (hnd.drew.kept hb2 hb).drew.kept hb3 hbb; obtain ⟨g0, g1⟩ := (k0.drew.kept hb2 hz).drew.kept hb3 hz2))
            have hb4 : Below wr.heap.size wr w3 := (Below.refl _ _).drew.trans (hb2.trans ((Below.refl _ _).drew.trans (hb3.mono hb2.size)))
            go_wp2
            go_roundw
            case rel => exact ⟨r, p1, (some ⟨b, 0, none⟩), (some ⟨row, len, val⟩), rfl, rfl, wr', hr.below hb4, ⟨b, p0, p1, rfl, hSb, Nat.lt_of_lt_of_le hb (Nat.le_trans hb2.size hb3.size), (hnd.drew.kept hb2 hb).drew.kept hb3 (Nat.lt_of_lt_of_le hb hb2.size)⟩, by rw [← HM.out, mt_right hc bb]; rfl, ⟨g0, g1⟩, hB.trans (hb4.mono hB.size), Nat.lt_of_lt_of_le hz hb4.size⟩
            case measure => rw [farFrom_node hnd]; exact farFrom_kid (hr.below hb4) wr' hlen (BT.All.mono (fun _ _ h => h.1) _ ar)
      · have hc' : (((com row k (min len n) : Nat) : Int) == (len : Int)) = false := beq_eq_false_iff_ne.2 (by omega)
        go_wp2
        go_region_held (fun w' => w'.cell? ⟨b, 0, none⟩ = some (.string row) ∧ w'.cell? ⟨b, 1, none⟩ = some (.int .i64 len) ∧ w'.cell? ⟨w.heap.size, 0, none⟩ = some (.string k) ∧ w'.cell? ⟨w.heap.size, 1, none⟩ = some (.int .i64 n)) (go_keep)
          (first | (go_at_call 43; refine (com_any row k len n _ s1 hn z1).mono ?_; rintro e w2 ⟨rfl, hb2⟩; obtain ⟨q0, q1, q2, q3, q4, q5⟩ := hnd.drew.kept hb2 hb; obtain ⟨v0, v1⟩ := k0.drew.kept hb2 hz))
        have hb4 : Below wr.heap.size wr w2 := (Below.refl _ _).drew.trans hb2
        go_wp2
        go_ret
        exact ⟨q, rfl, by rw [← HM.out, mt_stop hc]; exact hq.below hb4, hB.trans (hb4.mono hB.size)⟩
end Go.Proofs.YtjjhimdjhfdmiaaDoor
