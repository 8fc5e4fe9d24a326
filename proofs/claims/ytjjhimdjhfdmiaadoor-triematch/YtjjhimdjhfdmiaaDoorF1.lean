/-
  What TrieMatch stands on: raw spots in memory, trees into which spots were set, what is asked of a match.
-/
import Derived.Test.YtjjhimdjhfdmiaaDoorE2
namespace Go.Proofs.YtjjhimdjhfdmiaaDoor
open Go.Deep (BT)
open Go.RowKit
/-- The four cells of a spot. -/
structure SpotAt (w : World) (b o : Nat) (fm a ln : Nat) (v : Int) : Prop where
  c0 : w.cell? ⟨b, o, none⟩ = some (.int .u8 fm)
  c1 : w.cell? ⟨b, o + 1, none⟩ = some (.int .u8 a)
  c2 : w.cell? ⟨b, o + 2, none⟩ = some (.int .u8 ln)
  c3 : w.cell? ⟨b, o + 3, none⟩ = some (.int .i16 v)
theorem SpotAt.kept {w w' : World} {b o B : Nat} {fm a ln : Nat} {v : Int} (h : SpotAt w b o fm a ln v) (hb : Below B w w') (hB : b < B) : SpotAt w' b o fm a ln v :=
  ⟨(hb.cell (p := ⟨b, o, none⟩) hB).trans h.c0, (hb.cell (p := ⟨b, o + 1, none⟩) hB).trans h.c1, (hb.cell (p := ⟨b, o + 2, none⟩) hB).trans h.c2, (hb.cell (p := ⟨b, o + 3, none⟩) hB).trans h.c3⟩
theorem SpotAt.drew {w : World} {b o : Nat} {fm a ln : Nat} {v : Int} (h : SpotAt w b o fm a ln v) : SpotAt w.drew b o fm a ln v := ⟨h.c0, h.c1, h.c2, h.c3⟩
theorem SpotAt.beside {w w' : World} {b o p : Nat} {fm a ln : Nat} {v : Int} (h : SpotAt w b o fm a ln v) (hb : Beside p w w') (hB : b < w.heap.size) (hp : b ≠ p) : SpotAt w' b o fm a ln v := by
  have e := hb.block b hB hp
  obtain ⟨c0, c1, c2, c3⟩ := h
  refine ⟨?_, ?_, ?_, ?_⟩ <;> unfold World.cell? at * <;> rw [e] <;> assumption
theorem PfxAt.beside {w w' : World} {b p : Nat} {f r : Int} {s : ByteArray} {l : Int} (h : PfxAt w b f r s l) (hb : Beside p w w') (hB : b < w.heap.size) (hp : b ≠ p) : PfxAt w' b f r s l := by
  have e := hb.block b hB hp
  obtain ⟨c0, c1, c2, c3, f0, f1, f2, f3⟩ := h
  refine ⟨?_, ?_, ?_, ?_, ?_, ?_, ?_, ?_⟩ <;> (first | unfold World.cell? at * | skip) <;> (first | unfold World.frozen? at * | skip) <;> rw [e] <;> assumption
/-- No key twice. -/
def Fn (t : T) : Prop := ∀ e e', e ∈ t.ents → e' ∈ t.ents → e.row = e'.row → e.len = e'.len → e = e'
theorem Fn.nil : Fn .nil := fun e _ h => by simp [BT.ents] at h
theorem Fn.set {t : T} (h : Fn t) (hw : t.WF Can) {k : ByteArray} {n : Nat} (v : Int) (hC : Can k n) : Fn (t.set k n v) := by
  intro e e' he he' h1 h2
  rw [mem_set can_uniq v hC e t hw] at he
  rw [mem_set can_uniq v hC e' t hw] at he'
  rcases he with rfl | ⟨he, hn⟩ <;> rcases he' with rfl | ⟨he', hn'⟩
  · rfl
  · exact absurd ⟨h1.symm, h2.symm⟩ hn'
  · exact absurd ⟨h1, h2⟩ hn
  · exact h e e' he he' h1 h2
/-- A key is there. -/
def HasKey (t : T) (k : ByteArray) (n : Nat) : Prop := ∃ v, ⟨k, n, v⟩ ∈ t.ents
theorem HasKey.self {t : T} (hw : t.WF Can) {k : ByteArray} {n : Nat} (v : Int) (hC : Can k n) : HasKey (t.set k n v) k n := ⟨v, (mem_set can_uniq v hC _ t hw).2 (Or.inl rfl)⟩
theorem HasKey.set {t : T} (hw : t.WF Can) {k k' : ByteArray} {n n' : Nat} (v : Int) (hC : Can k n) (h : HasKey t k' n') : HasKey (t.set k n v) k' n' := by
  obtain ⟨v', hv⟩ := h
  by_cases e : k' = k ∧ n' = n
  · obtain ⟨rfl, rfl⟩ := e; exact HasKey.self hw v hC
  · exact ⟨v', (mem_set can_uniq v hC _ t hw).2 (Or.inr ⟨hv, e⟩)⟩
/-- The key of a spot. -/
def spK (fm a ln : Nat) : ByteArray := keyRow (spF fm) 0 (spS fm a ln)
theorem sp_can (fm a ln : Nat) : Can (spK fm a ln) (72 + ln % 13) := can_key (sp_chk fm a ln) (by decide)
theorem get_has {t : T} (hw : t.WF Can) {k : ByteArray} {n : Nat} (hC : Can k n) (h : HasKey t k n) : (t.get k n).isSome = true := by
  rcases get_spec hw hC with ⟨v, _, h2⟩ | ⟨_, h2⟩
  · rw [h2]; rfl
  · obtain ⟨v, hv⟩ := h; exact absurd hv (h2 v)
theorem get_ent {t : T} (hw : t.WF Can) (hf : Fn t) {e : Ent} (he : e ∈ t.ents) : t.get e.row e.len = some e.val := by
  rcases get_spec hw (BT.WF.ent t hw e he) with ⟨v, h1, h2⟩ | ⟨_, h2⟩
  · rw [h2, show v = e.val from congrArg Ent.val (hf _ _ h1 he rfl rfl)]
  · exact absurd he (h2 e.val)
/-- What stands in memory while TrieMatch goes on. -/
structure LAt (w wr : World) (fx ax lx : Nat) (vx : Int) (fy ay ly : Nat) (vy : Int) : Prop where
  bel : Below w.heap.size w wr
  sx : SpotAt wr w.heap.size 0 fx ax lx vx
  sy : SpotAt wr (w.heap.size + 1) 0 fy ay ly vy
  sz : w.heap.size + 1 + 1 < wr.heap.size
theorem LAt.below {w wr w' : World} {fx ax lx : Nat} {vx : Int} {fy ay ly : Nat} {vy : Int} (h : LAt w wr fx ax lx vx fy ay ly vy) (hb : Below wr.heap.size wr w') : LAt w w' fx ax lx vx fy ay ly vy := by
  have hz := h.sz
  exact ⟨h.bel.trans (hb.mono h.bel.size), h.sx.kept hb (by omega), h.sy.kept hb (by omega), Nat.lt_of_lt_of_le h.sz hb.size⟩
theorem LAt.beside {w wr w' : World} {fx ax lx : Nat} {vx : Int} {fy ay ly : Nat} {vy : Int} {p : Nat} (h : LAt w wr fx ax lx vx fy ay ly vy) (hb : Beside p wr w') (hp : w.heap.size + 1 + 1 ≤ p) : LAt w w' fx ax lx vx fy ay ly vy := by
  have hz := h.sz
  exact ⟨hb.below h.bel (by omega) h.bel.size, h.sx.beside hb (by omega) (by omega), h.sy.beside hb (by omega) (by omega), Nat.lt_of_lt_of_le h.sz hb.size⟩
theorem cntOf_bd (o : Option Int) (c : Int) : c ≤ cntOf o c ∧ cntOf o c ≤ c + 1 := by unfold cntOf; split <;> omega
/-- The law's maker of prefixes, its answer in letters. -/
theorem of_let (fm a ln : Nat) (v : Int) (w : World) (h : Tabs w) (hf : fm < 256) (ha : a < 256) (hl : ln < 256) :
    Calls Tryd.prog 9 #[.agg #[.int .u8 fm, .int .u8 a, .int .u8 ln, .int .i16 v]] w fun e w' => ∃ (f : Nat) (s : ByteArray) (l : Nat), e = .returned (.agg #[.int .i64 f, .int .u64 0, .string s, .int .i64 l]) ∧ Hid (f = spF fm ∧ s = spS fm a ln ∧ l = ln % 13) ∧ Below w.heap.size w w' :=
  (of_any fm a ln v w h hf ha hl).mono fun _ _ ⟨h1, h2⟩ => ⟨_, _, _, h1, ⟨rfl, rfl, rfl⟩, h2⟩
/-- A key that is there and covers: then there is a match, and it is not shorter. -/
theorem mt_has {t : T} (hw : t.WF Can) {k kq : ByteArray} {n nq : Nat} (hk : HasKey t k n) (hc : n ≤ nq ∧ ∀ i, i < n → bt k i = bt kq i) : ∃ e, e ∈ t.ents ∧ t.mt kq nq none = some e ∧ n ≤ e.len := by
  obtain ⟨v, hv⟩ := hk
  rcases mt_spec (C := Can) kq nq t none hw with ⟨e, h1, h2, _, h4⟩ | ⟨_, h2⟩
  · exact ⟨e, h1, h2, h4 _ hv hc⟩
  · exact absurd hc (h2 _ hv)
/-- What a match is: there, and it covers. -/
theorem mt_some {t : T} (hw : t.WF Can) {kq : ByteArray} {nq : Nat} {e : Ent} (h : t.mt kq nq none = some e) : e ∈ t.ents ∧ e.len ≤ nq ∧ ∀ i, i < e.len → bt e.row i = bt kq i := by
  rcases mt_spec (C := Can) kq nq t none hw with ⟨e', h1, h2, h3, _⟩ | ⟨h1, _⟩
  · rw [h] at h2; cases h2; exact ⟨h1, h3⟩
  · rw [h] at h1; cases h1
theorem sp_cov {fm a ln : Nat} {f : Nat} {s : ByteArray} {l : Nat} {f' r' : Nat} {s' : ByteArray} {l' : Nat} (h : f = spF fm ∧ s = spS fm a ln ∧ l = ln % 13) (hc : chk f' r' s' l' = 0) (hr : r' < 18446744073709551616) (hcv : covB f (0 : Nat) s l f' r' s' l' = true) :
    72 + ln % 13 ≤ 72 + l' ∧ ∀ i, i < 72 + ln % 13 → bt (spK fm a ln) i = bt (keyRow f' r' s') i := by
  obtain ⟨rfl, rfl, rfl⟩ := h
  exact (cov_keys (sp_chk fm a ln) hc (by decide) hr).2 hcv
/-- The match of none covers nothing. -/
theorem none_cov {t : T} (hw : t.WF Can) {fm a ln : Nat} {f : Nat} {s : ByteArray} {l : Nat} {f' : Nat} {s' : ByteArray} {l' : Nat} (h : f = spF fm ∧ s = spS fm a ln ∧ l = ln % 13) (hk : HasKey t (spK fm a ln) (72 + ln % 13)) (hc : chk f' (0 : Nat) s' l' = 0) (hm : t.mt (keyRow f' 0 s') (72 + l') none = none) :
    covB f 0 s l f' 0 s' l' = false := by
  by_cases e : covB f (0 : Nat) s l f' (0 : Nat) s' l' = true
  · obtain ⟨e', _, h2, _⟩ := mt_has hw hk (sp_cov h hc (by decide) e)
    rw [hm] at h2; cases h2
  · simpa using e
theorem some_cov {t : T} (hw : t.WF Can) {fm a ln : Nat} {f : Nat} {s : ByteArray} {l : Nat} {f' : Nat} {s' : ByteArray} {l' : Nat} {e : Ent} (h : f = spF fm ∧ s = spS fm a ln ∧ l = ln % 13) (hk : HasKey t (spK fm a ln) (72 + ln % 13)) (hc : chk f' (0 : Nat) s' l' = 0) (hm : t.mt (keyRow f' 0 s') (72 + l') none = some e)
    (hcv : covB f 0 s l f' 0 s' l' = true) : 72 + l ≤ e.len := by
  obtain ⟨e', _, h2, h3⟩ := mt_has hw hk (sp_cov h hc (by decide) hcv)
  rw [hm] at h2; cases h2
  rw [h.2.2]; exact h3
section
structure GAt (w wr : World) (fx ax lx : Nat) (vx : Int) (fy ay ly : Nat) (vy : Int) (t : T) (c : Int) (qb : Nat) (f0 : Int) (z0 : ByteArray) (l0 : Int) (mb : Nat) (f1 r1 : Int) (z1 : ByteArray) (l1 : Int) : Prop where
  la : LAt w wr fx ax lx vx fy ay ly vy
  tr : TrAt wr (w.heap.size + 1 + 1) t c
  pq : PfxAt wr qb f0 0 z0 l0
  pm : PfxAt wr mb f1 r1 z1 l1
  hq : qb < wr.heap.size
  hm : mb < wr.heap.size
variable {w wr w' : World} {fx ax lx : Nat} {vx : Int} {fy ay ly : Nat} {vy : Int} {t : T} {c : Int} {qb : Nat} {f0 : Int} {z0 : ByteArray} {l0 : Int} {mb : Nat} {f1 r1 : Int} {z1 : ByteArray} {l1 : Int}
theorem GAt.below (h : GAt w wr fx ax lx vx fy ay ly vy t c qb f0 z0 l0 mb f1 r1 z1 l1) (hb : Below wr.heap.size wr w') : GAt w w' fx ax lx vx fy ay ly vy t c qb f0 z0 l0 mb f1 r1 z1 l1 :=
  ⟨h.la.below hb, h.tr.below hb, h.pq.kept hb h.hq, h.pm.kept hb h.hm, Nat.lt_of_lt_of_le h.hq hb.size, Nat.lt_of_lt_of_le h.hm hb.size⟩
theorem mt_set_some {t : T} (hw : t.WF Can) {k kq : ByteArray} {n nq : Nat} {v : Int} (hC : Can k n) {e : Ent} (h : t.mt kq nq none = some e) : ∃ e', (t.set k n v).mt kq nq none = some e' ∧ e.len ≤ e'.len := by
  obtain ⟨h1, h2⟩ := mt_some hw h
  have hk : HasKey (t.set k n v) e.row e.len := HasKey.set hw v hC ⟨e.val, h1⟩
  have hz : n ≤ 8 * k.size ∧ k.size ≤ 25 := by
    obtain ⟨f, r, s, l, hc, _, rfl, rfl⟩ := hC
    exact key_bd hc
  obtain ⟨e', _, h4, h5⟩ := mt_has (set_wf v hC hz.1 hz.2 t hw) hk h2
  exact ⟨e', h4, h5⟩
/-- What a match covers, of prefixes. -/
theorem mt_cov {t : T} (hw : t.WF Can) {f r : Nat} {s : ByteArray} {l : Nat} {f' r' : Nat} {s' : ByteArray} {l' : Nat} {e : Ent} (h : t.mt (keyRow f' r' s') (72 + l') none = some e) (hc : chk f r s l = 0) (hr : r < 18446744073709551616) (hc' : chk f' r' s' l' = 0) (hr' : r' < 18446744073709551616) (h1 : e.row = keyRow f r s) (h2 : e.len = 72 + l) : covB f r s l f' r' s' l' = true := by
  obtain ⟨_, g⟩ := mt_some hw h
  rw [h1, h2] at g
  exact (cov_keys hc hc' hr hr').1 g
theorem sp_chk' {fm a ln f : Nat} {s : ByteArray} {l : Nat} (h : f = spF fm ∧ s = spS fm a ln ∧ l = ln % 13) : chk f (0 : Nat) s l = 0 := by
  obtain ⟨rfl, rfl, rfl⟩ := h
  exact sp_chk _ _ _
theorem field3 (x y z v : Value) (w : World) : (Instr.field 29 (.agg #[x, y, z, v]) 3).run Tryd.prog w = .ok v w := by kernel_rfl
end
end Go.Proofs.YtjjhimdjhfdmiaaDoor
