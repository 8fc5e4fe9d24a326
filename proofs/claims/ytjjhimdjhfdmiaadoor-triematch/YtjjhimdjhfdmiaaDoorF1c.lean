/-
  What stands in memory behind the second loop of TrieMatch.
-/
import Derived.Test.YtjjhimdjhfdmiaaDoorF1b
namespace Go.Proofs.YtjjhimdjhfdmiaaDoor
open Go.RowKit
structure GAt (w wr : World) (fx ax lx : Nat) (vx : Int) (fy ay ly : Nat) (vy : Int) (t : T) (c : Int) (qb : Nat) (f0 : Int) (z0 : ByteArray) (l0 : Int) (mb : Nat) (f1 r1 : Int) (z1 : ByteArray) (l1 : Int) : Prop where
  la : LAt w wr fx ax lx vx fy ay ly vy
  tr : TrAt wr (w.heap.size + 1 + 1) t c
  pq : PfxAt wr qb f0 0 z0 l0
  pm : PfxAt wr mb f1 r1 z1 l1
  hq : qb < wr.heap.size
  hm : mb < wr.heap.size
variable {w wr w' : World} {fx ax lx : Nat} {vx : Int} {fy ay ly : Nat} {vy : Int} {t : T} {c : Int} {qb : Nat} {f0 : Int} {z0 : ByteArray} {l0 : Int} {mb : Nat} {f1 r1 : Int} {z1 : ByteArray} {l1 : Int}
theorem GAt.below (h : GAt w wr fx ax lx vx fy ay ly vy t c qb f0 z0 l0 mb f1 r1 z1 l1) (hb : Below wr.heap.size wr w') : GAt w w' fx ax lx vx fy ay ly vy t c qb f0 z0 l0 mb f1 r1 z1 l1 :=
  ⟨h.la.below hb, h.tr.below hb, h.pq.kept hb h.hq, h.pm.kept hb h.hm, Nat.lt_of_lt_of_le h.hq hb.size, Nat.lt_of_lt_of_le h.hm hb.size⟩
theorem mt_set_some {t : T} (hw : t.WF Can) {k kq : ByteArray} {n nq : Nat} {v : Int} (hC : Can k n) {e : Ent} (h : t.mt kq nq none = some e) : ∃ e', (t.set k n v).mt kq nq none = some e' ∧ e.len ≤ e'.len := by
  obtain ⟨h1, h2⟩ := mt_some hw h
  have hk : HasKey (t.set k n v) e.row e.len := HasKey.set hw v hC ⟨e.val, h1⟩
  have hz : n ≤ 8 * k.size ∧ k.size ≤ 25 := by
    obtain ⟨f, r, s, l, hc, _, rfl, rfl⟩ := hC
    exact key_bd hc
  obtain ⟨e', _, h4, h5⟩ := mt_has (set_wf v hC hz.1 hz.2 t hw) hk h2
  exact ⟨e', h4, h5⟩
/-- What a match covers, of prefixes. -/
theorem mt_cov {t : T} (hw : t.WF Can) {f r : Nat} {s : ByteArray} {l : Nat} {f' r' : Nat} {s' : ByteArray} {l' : Nat} {e : Ent} (h : t.mt (keyRow f' r' s') (72 + l') none = some e) (hc : chk f r s l = 0) (hr : r < 18446744073709551616) (hc' : chk f' r' s' l' = 0) (hr' : r' < 18446744073709551616) (h1 : e.row = keyRow f r s) (h2 : e.len = 72 + l) : covB f r s l f' r' s' l' = true := by
  obtain ⟨_, g⟩ := mt_some hw h
  rw [h1, h2] at g
  exact (cov_keys hc hc' hr hr').1 g
theorem sp_chk' {fm a ln f : Nat} {s : ByteArray} {l : Nat} (h : f = spF fm ∧ s = spS fm a ln ∧ l = ln % 13) : chk f (0 : Nat) s l = 0 := by
  obtain ⟨rfl, rfl, rfl⟩ := h
  exact sp_chk _ _ _
theorem field3 (x y z v : Value) (w : World) : (Instr.field 29 (.agg #[x, y, z, v]) 3).run Tryd.prog w = .ok v w := by kernel_rfl
end Go.Proofs.YtjjhimdjhfdmiaaDoor
