/-
  OpenAgrees: the walk.
-/
import Derived.Test.YtlhnfejgkhilkaaGreatDoorZ1
import Derived.Test.YtlhnfejgkhilkaaGreatDoorZ5
import Derived.Test.YtlhnfejgkhilkaaGreatDoorZ6
import Derived.Test.YtlhnfejgkhilkaaGreatDoorZ7
import Derived.Laws.StructEq
import Derived.Deep.RegionHeld3
set_option linter.unusedVariables false
set_option linter.unusedSimpArgs false
namespace Go.Proofs.YtlhnfejgkhilkaaGreatDoor
open Go.RowKit
/-- The lists of a session, in rows of one's own. -/
structure OwnS (w : World) (base : Nat) (S : Ses) (vf vs vt vk : Value) : Prop where
  f : OwnI w base vf S.fams
  s : OwnI w base vs S.send
  t : OwnI w base vt S.take
  k : OwnK w base vk S.kept
theorem OwnS.at {w : World} {base : Nat} {S : Ses} {vf vs vt vk : Value} (h : OwnS w base S vf vs vt vk) : SesAt w S vf vs vt vk := ⟨ints_own h.f, ints_own h.s, ints_own h.t, kept_of_owns h.k⟩
theorem OwnS.below {w w' : World} {base : Nat} {S : Ses} {vf vs vt vk : Value} (h : OwnS w base S vf vs vt vk) (hb : Below w.heap.size w w') : OwnS w' base S vf vs vt vk := ⟨h.f.below hb, h.s.below hb, h.t.below hb, h.k.below hb⟩
def small (S : Ses) : Prop := S.fams.length ≤ 5 ∧ S.send.length ≤ 5 ∧ S.take.length ≤ 5 ∧ S.kept.length ≤ 5
def sesAB (a b : Opn) : Ses := ⟨min a.hold b.hold, famsA a b, a.four && b.four, a.refr && b.refr, sendA a b, takeA a b, b.gr, b.again, b.time, keptL b.kept (famsA a b)⟩
def sesZ : Ses := ⟨0, [], false, false, [], [], false, false, 0, []⟩
theorem own_nilS (w : World) (base : Nat) : OwnS w base sesZ (.slice none 0 0) (.slice none 0 0) (.slice none 0 0) (.slice none 0 0) := ⟨World.ownsRow_nil _ _ _ _, World.ownsRow_nil _ _ _ _, World.ownsRow_nil _ _ _ _, World.ownsRow_nil _ _ _ _⟩
def AgOk (base : Nat) (S : Ses) (er : Int) (e : Ending) (w' : World) : Prop := ∃ vf vs vt vk, e = .returned (.tuple #[.agg (sesV S vf vs vt vk), .int .i64 er]) ∧ OwnS w' base S vf vs vt vk
/-- Both answer alike. -/
theorem ag_both (a b : Opn) (wa : OpnWf a) (wb : OpnWf b) : ∃ (S : Ses) (er : Int), small S ∧
    (∀ vfa vaa vka vfb vab vkb X, FamSizes X → ListsAt X a vfa vaa vka → ListsAt X b vfb vab vkb → Calls Tryz.prog 5 #[opV a vfa vaa vka, opV b vfb vab vkb] X fun e w' => AgOk X.heap.size S er e w' ∧ Below X.heap.size X w') ∧
    (∀ vfa vaa vka vfb vab vkb X, ListsAt X a vfa vaa vka → ListsAt X b vfb vab vkb → Calls Tryz.prog 6 #[opV a vfa vaa vka, opV b vfb vab vkb] X fun e w' => AgOk X.heap.size S er e w' ∧ Below X.heap.size X w') := by
  have hz : small sesZ := ⟨by decide, by decide, by decide, by decide⟩
  have zok : ∀ (base : Nat) (e : Ending) (w' : World), e = .returned (.tuple #[.agg zeroS, .int .i64 2]) → AgOk base sesZ 2 e w' := fun base e w' h => ⟨_, _, _, _, h, own_nilS _ _⟩
  cases ma : mayB a with
  | false =>
    refine ⟨sesZ, 2, hz, fun vfa vaa vka vfb vab vkb X hg ha hb => ?_, fun vfa vaa vka vfb vab vkb X ha hb => ?_⟩
    · exact (agree_no1 a b vfa vaa vka vfb vab vkb X hg ha ma).mono fun e w' ⟨h1, h2⟩ => ⟨zok _ _ _ h1, h2⟩
    · exact (ragree_no1 a b vfa vaa vka vfb vab vkb X ha wa ma).mono fun e w' ⟨h1, h2⟩ => ⟨zok _ _ _ h1, h2⟩
  | true =>
    cases mb : mayB b with
    | false =>
      refine ⟨sesZ, 2, hz, fun vfa vaa vka vfb vab vkb X hg ha hb => ?_, fun vfa vaa vka vfb vab vkb X ha hb => ?_⟩
      · exact (agree_no2 a b vfa vaa vka vfb vab vkb X hg ha hb ma mb).mono fun e w' ⟨h1, h2⟩ => ⟨zok _ _ _ h1, h2⟩
      · exact (ragree_no2 a b vfa vaa vka vfb vab vkb X ha hb wa wb ma mb).mono fun e w' ⟨h1, h2⟩ => ⟨zok _ _ _ h1, h2⟩
    | true =>
      obtain ⟨l1, l2, l3⟩ := may_lens ma
      obtain ⟨m1, m2, m3⟩ := may_lens mb
      have sok : ∀ (base : Nat) (e : Ending) (w' : World), SesOk base a b e w' → AgOk base (sesAB a b) 0 e w' := fun base e w' ⟨vf, vs, vt, vk, h, h1, h2, h3, h4⟩ => ⟨vf, vs, vt, vk, h, h1, h2, h3, h4⟩
      have f5 : (famsA a b).length ≤ 5 := Nat.le_trans (both_len _ _) l1
      refine ⟨sesAB a b, 0, ⟨f5, Nat.le_trans (both_len _ _) f5, Nat.le_trans (both_len _ _) f5, Nat.le_trans (List.length_filter_le _ _) m3⟩, fun vfa vaa vka vfb vab vkb X hg ha hb => ?_, fun vfa vaa vka vfb vab vkb X ha hb => ?_⟩
      · exact (agree_yes a b vfa vaa vka vfb vab vkb X hg ha hb ma mb).mono fun e w' ⟨h1, h2⟩ => ⟨sok _ _ _ h1, h2⟩
      · exact (ragree_yes a b vfa vaa vka vfb vab vkb X ha hb ma mb wa wb).mono fun e w' ⟨h1, h2⟩ => ⟨sok _ _ _ h1, h2⟩
theorem acc_form (o : Opn) (x y : Int) : ∃ p q r : Int, accV o x y = vdt p q r := by
  unfold accV
  split
  · exact ⟨_, _, _, rfl⟩
  · split <;> exact ⟨_, _, _, rfl⟩
/-- The arguments' boxes and the copies'. -/
structure St (w wx : World) (a b : Opn) (A B : Array Value) (x0 x1 : Int) (vfa vaa vka vfb vab vkb : Value) (p7 p8 : Nat) (rf ra rk uf ua uk : Value) : Prop where
  b1 : wx.heap[w.heap.size]? = some (.cells A 27 (0, 0))
  b2 : wx.heap[w.heap.size + 1]? = some (.cells B 27 (0, 0))
  b3 : wx.heap[w.heap.size + 1 + 1]? = some (.cells #[.int .u32 x0, .int .u32 x1] 28 (0, 0))
  r7 : wx.heap[p7]? = some (.cells (opC a rf ra rk) 27 (0, 0))
  r8 : wx.heap[p8]? = some (.cells (opC b uf ua uk) 27 (0, 0))
  l7 : ListsAt wx a rf ra rk
  l8 : ListsAt wx b uf ua uk
  la : ListsAt wx a vfa vaa vka
  lb : ListsAt wx b vfb vab vkb
  g : FamSizes wx
  bel : Below w.heap.size w wx
theorem St.next {w wx wy : World} {a b : Opn} {A B : Array Value} {x0 x1 : Int} {vfa vaa vka vfb vab vkb : Value} {p7 p8 : Nat} {rf ra rk uf ua uk : Value} (h : St w wx a b A B x0 x1 vfa vaa vka vfb vab vkb p7 p8 rf ra rk uf ua uk) (hb : Below wx.heap.size wx wy) : St w wy a b A B x0 x1 vfa vaa vka vfb vab vkb p7 p8 rf ra rk uf ua uk :=
  ⟨blk10 hb h.b1, blk10 hb h.b2, blk10 hb h.b3, blk10 hb h.r7, blk10 hb h.r8, h.l7.below hb, h.l8.below hb, h.la.below hb, h.lb.below hb, h.g.below hb, h.bel.trans (hb.mono h.bel.size)⟩
structure Bx (w W : World) (A B : Array Value) (x0 x1 : Int) : Prop where
  b1 : W.heap[w.heap.size]? = some (.cells A 27 (0, 0))
  b2 : W.heap[w.heap.size + 1]? = some (.cells B 27 (0, 0))
  b3 : W.heap[w.heap.size + 1 + 1]? = some (.cells #[.int .u32 x0, .int .u32 x1] 28 (0, 0))
  bel : Below w.heap.size w W
/-- The two sessions, in memory. -/
structure Sv (w1 X : World) (S : Ses) (p9 p11 : Nat) (vf vs vt vk uf us ut uk : Value) : Prop where
  b : Below w1.heap.size w1 X
  r9 : X.heap[p9]? = some (.cells (sesV S vf vs vt vk) 31 (0, 0))
  o9 : OwnS X w1.heap.size S vf vs vt vk
  r11 : X.heap[p11]? = some (.cells (sesV S uf us ut uk) 31 (0, 0))
  o11 : SesAt X S uf us ut uk
theorem Sv.next {w1 X Y : World} {S : Ses} {p9 p11 : Nat} {vf vs vt vk uf us ut uk : Value} (h : Sv w1 X S p9 p11 vf vs vt vk uf us ut uk) (hb : Below X.heap.size X Y) : Sv w1 Y S p9 p11 vf vs vt vk uf us ut uk :=
  ⟨h.b.trans (hb.mono h.b.size), blk10 hb h.r9, h.o9.below hb, blk10 hb h.r11, h.o11.below hb⟩
/-- The answered session while it is spoilt. -/
structure Sp (w1 wr : World) (S : Ses) (p9 : Nat) (f1 s1 t1 k1 : Option Addr) (f2 s2 t2 k2 : Nat) : Prop where
  b : Below w1.heap.size w1 wr
  r9 : wr.heap[p9]? = some (.cells (sesV S (.slice f1 S.fams.length f2) (.slice s1 S.send.length s2) (.slice t1 S.take.length t2) (.slice k1 S.kept.length k2)) 31 (0, 0))
  f : S.fams.length = 0 ∨ ∃ g cur, f1 = some ⟨g, 0, none⟩ ∧ w1.heap.size ≤ g ∧ wr.heap[g]? = some (.cells cur 3 (0, 0)) ∧ S.fams.length ≤ cur.size
  k : S.kept.length = 0 ∨ ∃ g cur, k1 = some ⟨g, 0, none⟩ ∧ w1.heap.size ≤ g ∧ wr.heap[g]? = some (.cells cur 40 (0, 0)) ∧ S.kept.length * 2 ≤ cur.size
theorem row_own {w : World} {base : Nat} {e : TypeId} {size : Nat} {a : Option Addr} {m c n : Nat} {xs : List Value} (h : w.ownsRow base e size (.slice a m c) n xs) (hs : 0 < size) : n = 0 ∨ ∃ g cur, a = some ⟨g, 0, none⟩ ∧ base ≤ g ∧ w.heap[g]? = some (.cells cur e (0, 0)) ∧ n * size ≤ cur.size := by
  obtain ⟨h0, ⟨_, h1⟩ | ⟨g, cap, cur, hv, hg, hk, hn, _, hc, _⟩⟩ := h
  · exact Or.inl h1
  · simp only [Value.slice.injEq] at hv
    exact Or.inr ⟨g, cur, hv.1, hg, hk, by rw [hc]; exact Nat.mul_le_mul_right _ hn⟩
theorem Sv.sp {w1 X : World} {S : Ses} {p9 p11 : Nat} {f1 s1 t1 k1 : Option Addr} {f2 s2 t2 k2 : Nat} {uf us ut uk : Value} (h : Sv w1 X S p9 p11 (.slice f1 S.fams.length f2) (.slice s1 S.send.length s2) (.slice t1 S.take.length t2) (.slice k1 S.kept.length k2) uf us ut uk) : Sp w1 X S p9 f1 s1 t1 k1 f2 s2 t2 k2 :=
  ⟨h.b, h.r9, by have := row_own h.o9.f (by decide); simpa using this, row_own h.o9.k (by decide)⟩
theorem Sp.setF {w1 wr : World} {S : Ses} {p9 : Nat} {f1 s1 t1 k1 : Option Addr} {f2 s2 t2 k2 : Nat} (h : Sp w1 wr S p9 f1 s1 t1 k1 f2 s2 t2 k2) {g : Nat} {cur : Array Value} (hf : f1 = some ⟨g, 0, none⟩) (hg : w1.heap.size ≤ g) (hc : wr.heap[g]? = some (.cells cur 3 (0, 0))) (hl : S.fams.length ≤ cur.size) (i : Nat) (v : Value) : Sp w1 (wr.setCell ⟨g, i, none⟩ v) S p9 f1 s1 t1 k1 f2 s2 t2 k2 := by
  have hot : ∀ k, k ≠ g → (wr.setCell ⟨g, i, none⟩ v).heap[k]? = wr.heap[k]? := fun k hk => heap_setCell_other wr ⟨g, i, none⟩ k v (by show k ≠ g; exact hk)
  refine ⟨below_setT h.b _ _ _ hg (Nat.le_refl _), ?_, Or.inr ⟨g, cur.setIfInBounds i v, hf, hg, heap_setCell_same wr g i _ 3 v hc, by simpa using hl⟩, ?_⟩
  · rw [hot p9 (fun e => by subst e; rw [h.r9] at hc; simp at hc)]; exact h.r9
  · rcases h.k with hk | ⟨g2, cur2, e1, e2, e3, e4⟩
    · exact Or.inl hk
    · exact Or.inr ⟨g2, cur2, e1, e2, (hot g2 (fun e => by subst e; rw [e3] at hc; simp at hc)).trans e3, e4⟩
theorem Sp.setK {w1 wr : World} {S : Ses} {p9 : Nat} {f1 s1 t1 k1 : Option Addr} {f2 s2 t2 k2 : Nat} (h : Sp w1 wr S p9 f1 s1 t1 k1 f2 s2 t2 k2) {g : Nat} {cur : Array Value} (hf : k1 = some ⟨g, 0, none⟩) (hg : w1.heap.size ≤ g) (hc : wr.heap[g]? = some (.cells cur 40 (0, 0))) (hl : S.kept.length * 2 ≤ cur.size) (i : Nat) (v : Value) : Sp w1 (wr.setCell ⟨g, i, none⟩ v) S p9 f1 s1 t1 k1 f2 s2 t2 k2 ∧ (wr.setCell ⟨g, i, none⟩ v).heap[g]? = some (.cells (cur.setIfInBounds i v) 40 (0, 0)) := by
  have hot : ∀ k, k ≠ g → (wr.setCell ⟨g, i, none⟩ v).heap[k]? = wr.heap[k]? := fun k hk => heap_setCell_other wr ⟨g, i, none⟩ k v (by show k ≠ g; exact hk)
  have hsame := heap_setCell_same wr g i _ 40 v hc
  refine ⟨⟨below_setT h.b _ _ _ hg (Nat.le_refl _), ?_, ?_, Or.inr ⟨g, cur.setIfInBounds i v, hf, hg, hsame, by simpa using hl⟩⟩, hsame⟩
  · rw [hot p9 (fun e => by subst e; rw [h.r9] at hc; simp at hc)]; exact h.r9
  · rcases h.f with hk | ⟨g2, cur2, e1, e2, e3, e4⟩
    · exact Or.inl hk
    · exact Or.inr ⟨g2, cur2, e1, e2, (hot g2 (fun e => by subst e; rw [e3] at hc; simp at hc)).trans e3, e4⟩
/-- A condition on worlds, not laid open. -/
def HeldA (S : World → Prop) (w : World) : Prop := S w
theorem ex_alloc {o : Oper} (a : Act) (w : World) (ho : o.op = .alloc 27) : (execOp a.eval o).run Tryz.prog w = .ok (.value (.pointer (some ⟨w.heap.size, 0, none⟩))) (w.alloc (.cells zOC 27)) := by
  unfold execOp
  simp only [ho]
  kernel_rfl
theorem size27z : (Tryz.prog.info? 27).map (·.size) = some 11 := by kernel_rfl
set_option maxRecDepth 100000 in
set_option maxHeartbeats 12800000 in
theorem agrees_walk (a b : Opn) (vfa vaa vka vfb vab vkb : Value) (x0 x1 : Int) (w : World) (hg : FamSizes w) (hla : ListsAt w a vfa vaa vka) (hlb : ListsAt w b vfb vab vkb) (wa : OpnWf a) (wb : OpnWf b) (bda : Bnd a) (bdb : Bnd b) :
    Calls Tryz.prog 3 #[opV a vfa vaa vka, opV b vfb vab vkb, .agg #[.int .u32 x0, .int .u32 x1]] w fun e w' => e = .returned (.bool true) ∧ Below w.heap.size w w' := by
  obtain ⟨S, er, hsm, hA5, hA6⟩ := ag_both a b wa wb
  have KA5 : Hid (_ : Prop) := hA5
  have KA6 : Hid (_ : Prop) := hA6
  have HSM : Hid (small S) := hsm
  have HG : Hid (FamSizes w) := hg
  have HLA : Hid (ListsAt w a vfa vaa vka) := hla
  have HLB : Hid (ListsAt w b vfb vab vkb) := hlb
  have KOa : Hid (∀ X, Below w.heap.size w X → _) := fun X hX => own_anyO a vfa vaa vka X (hla.below hX) bda
  have KOb : Hid (∀ X, Below w.heap.size w X → _) := fun X hX => own_anyO b vfb vab vkb X (hlb.below hX) bdb
  have KSa : Hid (∀ rf ra rk X, ListsAt X a rf ra rk → Below w.heap.size w X → _) := fun rf ra rk X h hX => rsame_yes a rf ra rk vfa vaa vka X h (hla.below hX) (by have := bda.f; omega) (by have := bda.a; omega) (by have := bda.k; omega)
  have KSb : Hid (∀ uf ua uk X, ListsAt X b uf ua uk → Below w.heap.size w X → _) := fun uf ua uk X h hX => rsame_yes b uf ua uk vfb vab vkb X h (hlb.below hX) (by have := bdb.f; omega) (by have := bdb.a; omega) (by have := bdb.k; omega)
  clear hsm hA5 hA6 hg hla hlb bda bdb wa wb
  have hbx : Bx w (((w.alloc (.cells (opC a vfa vaa vka) 27)).alloc (.cells (opC b vfb vab vkb) 27)).alloc (.cells #[.int .u32 x0, .int .u32 x1] 28)) (opC a vfa vaa vka) (opC b vfb vab vkb) x0 x1 :=
    ⟨(three_new w _ _ _).2.1, (three_new w _ _ _).2.2.1, (three_new w _ _ _).2.2.2, (three_new w _ _ _).1⟩
  have HBX : Hid (Bx _ _ _ _ _ _) := hbx
  clear hbx
  unfold opC at HBX
  unfold opV opC
  go_enter Tryz.func3, Tryz.ntmps3
  go_upto_region 1 with fail
  refine with_world (fun W => Bx w W _ _ x0 x1) HBX.out ?_
  intro W hW
  have HW : Hid (Bx w W (opC a vfa vaa vka) (opC b vfb vab vkb) x0 x1) := hW
  clear hW HBX
  go_cut [7, 8] (fun s7 s8 wx => ∃ p7 p8 rf ra rk uf ua uk, s7 = .pointer (some ⟨p7, 0, none⟩) ∧ s8 = .pointer (some ⟨p8, 0, none⟩) ∧ St w wx a b (opC a vfa vaa vka) (opC b vfb vab vkb) x0 x1 vfa vaa vka vfb vab vkb p7 p8 rf ra rk uf ua uk)
  case first =>
    refine region_acts (by kernel_rfl) (by decide +kernel) (OwI W.drew _ a b (opV a vfa vaa vka) (opV b vfb vab vkb)) ⟨rfl, rfl, fun _ _ => rfl, Below.refl _ _, fun h => h.elim, fun h => h.elim, fun h => h.elim, fun h => h.elim, fun h => h.elim, fun h => h.elim, fun h => h.elim, fun h => h.elim, fun h => h.elim⟩ ?_ ?_
    · have N1 : ∀ X, Below W.drew.heap.size W.drew X → Below w.heap.size w X := fun X h => (HW.out.bel.trans ((Below.refl w.heap.size W).drew)).trans (h.mono HW.out.bel.size)
      have LW : w.heap.size + 1 + 1 < W.heap.size := lt_of_heap HW.out.b3
      have B1 : ∀ X, Below W.drew.heap.size W.drew X → X.heap[w.heap.size]? = some (.cells (opC a vfa vaa vka) 27 (0, 0)) := fun X h => (h.block _ (by show _ < W.heap.size; omega)).trans HW.out.b1
      have B2 : ∀ X, Below W.drew.heap.size W.drew X → X.heap[w.heap.size + 1]? = some (.cells (opC b vfb vab vkb) 27 (0, 0)) := fun X h => (h.block _ (by show _ < W.heap.size; omega)).trans HW.out.b2
      refine ⟨?_, ?_, ?_, ?_, ?_, ?_, ?_, ?_, trivial⟩
      · intro done x X hno hdep hI
        have q : x.eval (.tmp 3) = .pointer (some ⟨w.heap.size, 0, none⟩) := hI.fx 3 (by decide)
        refine og_none rfl rfl (ow_value (v := opV a vfa vaa vka) (w' := X) (ex_open _ _ _ _ _ _ rfl q (B1 X hI.bl) rfl) ?_)
        exact hI.put (Below.refl _ _) 0 15 _ (by decide) (by decide) rfl (by show 18 < 89; decide) (fun _ => rfl) (fun h => by cases h) (fun h => by cases h) (fun h => by cases h) hno
      · intro done x X hno hdep hI
        have q := hI.d0 (hdep 0 (by decide))
        refine og_none rfl rfl (ow_enter (f := 4) (args := #[opV a vfa vaa vka]) (w' := X) ?_ ?_)
        · have hc : x.eval (.func 4) = .func (.func 4) #[] #[] := rfl
          clear hI hdep hno; generalize x.eval = ev at *; unfold execOp; simp only; go_simp
        · refine (KOa.out X (N1 X hI.bl)).mono ?_
          rintro e Y ⟨rf, ra, rk, rfl, ho, hb⟩
          exact ⟨_, rfl, hI.put hb 1 16 _ (by decide) (by decide) rfl (by show 18 < 89; decide) (fun h => by cases h) (fun h => by cases h) (fun _ => ⟨rf, ra, rk, rfl, ho.mono hI.bl.size⟩) (fun h => by cases h) hno⟩
      · intro done x X hno hdep hI
        have q : x.eval (.tmp 4) = .pointer (some ⟨w.heap.size + 1, 0, none⟩) := hI.fx 4 (by decide)
        refine og_none rfl rfl (ow_value (v := opV b vfb vab vkb) (w' := X) (ex_open _ _ _ _ _ _ rfl q (B2 X hI.bl) rfl) ?_)
        exact hI.put (Below.refl _ _) 2 17 _ (by decide) (by decide) rfl (by show 18 < 89; decide) (fun h => by cases h) (fun _ => rfl) (fun h => by cases h) (fun h => by cases h) hno
      · intro done x X hno hdep hI
        have q := hI.d2 (hdep 2 (by decide))
        refine og_none rfl rfl (ow_enter (f := 4) (args := #[opV b vfb vab vkb]) (w' := X) ?_ ?_)
        · have hc : x.eval (.func 4) = .func (.func 4) #[] #[] := rfl
          clear hI hdep hno; generalize x.eval = ev at *; unfold execOp; simp only; go_simp
        · refine (KOb.out X (N1 X hI.bl)).mono ?_
          rintro e Y ⟨rf, ra, rk, rfl, ho, hb⟩
          exact ⟨_, rfl, hI.put hb 3 18 _ (by decide) (by decide) rfl (by show 18 < 89; decide) (fun h => by cases h) (fun h => by cases h) (fun h => by cases h) (fun _ => ⟨rf, ra, rk, rfl, ho.mono hI.bl.size⟩) hno⟩
      · intro done x X hno hdep hI
        refine og_none rfl rfl (ow_value (ex_alloc _ _ rfl) ?_)
        exact hI.make 4 7 (Or.inl ⟨rfl, rfl⟩) (by show 18 < 89; decide) hno (fun h => hno (hI.o6 h).1) (fun h => hno (hI.o6 (hI.o7 h)).1)
      · intro done x X hno hdep hI
        refine og_none rfl rfl (ow_value (ex_alloc _ _ rfl) ?_)
        exact hI.make 5 8 (Or.inr ⟨rfl, rfl⟩) (by show 18 < 89; decide) hno (fun h => hno (hI.o6 h).2) (fun h => hno (hI.o6 (hI.o7 h)).2)
      · intro done x X hno hdep hI
        obtain ⟨p, C, e1, e2, e3, e4, _⟩ := hI.d4 (hdep 4 (by decide))
        obtain ⟨rf, ra, rk, f1, f2⟩ := hI.d1 (hdep 1 (by decide))
        refine og_none rfl rfl (wp_store_row 27 (.tmp 7) (.tmp 16) rfl p (opC a rf ra rk) e1 f1 27 C e3 size27z (by rw [e4]; rfl) f2.one ?_)
        exact hI.lay6 (hdep 4 (by decide)) (hdep 5 (by decide)) e1 e2 e3 f2 (fun h => hno (hI.o7 h))
      · intro done x X hno hdep hI
        obtain ⟨p, C, e1, e2, e3, e4, _⟩ := hI.d5 (hdep 5 (by decide))
        obtain ⟨rf, ra, rk, f1, f2⟩ := hI.d3 (hdep 3 (by decide))
        refine og_none rfl rfl (wp_store_row 27 (.tmp 8) (.tmp 18) rfl p (opC b rf ra rk) e1 f1 27 C e3 size27z (by rw [e4]; rfl) f2.one ?_)
        exact hI.lay7 (hdep 5 (by decide)) (hdep 6 (by decide)) e1 e2 e3 f2
    · intro done x X hall hI
      have e := act_back [15, 16, 17, 18, 7, 8] x _ hI.ts hI.df hI.fx
      have h0 := hI.d0 (hall 0 (by decide))
      have h2 := hI.d2 (hall 2 (by decide))
      obtain ⟨_, _, _, h1, _⟩ := hI.d1 (hall 1 (by decide))
      obtain ⟨_, _, _, h3, _⟩ := hI.d3 (hall 3 (by decide))
      obtain ⟨p7, C7, h4, g1, g2, g3, g4⟩ := hI.d4 (hall 4 (by decide))
      obtain ⟨p8, C8, h5, k1, k2, k3, k4⟩ := hI.d5 (hall 5 (by decide))
      obtain ⟨rf, ra, rk, rfl, o7⟩ := g4 (hall 6 (by decide))
      obtain ⟨uf, ua, uk, rfl, o8⟩ := k4 (hall 7 (by decide))
      have hbw : Below w.heap.size w X := (HW.out.bel.trans ((Below.refl w.heap.size W).drew)).trans (hI.bl.mono HW.out.bel.size)
      have LW : w.heap.size + 1 + 1 < W.heap.size := lt_of_heap HW.out.b3
      have HST : Hid (St w X a b (opC a vfa vaa vka) (opC b vfb vab vkb) x0 x1 vfa vaa vka vfb vab vkb p7 p8 rf ra rk uf ua uk) :=
        ⟨(hI.bl.block _ (by show _ < W.heap.size; omega)).trans HW.out.b1, (hI.bl.block _ (by show _ < W.heap.size; omega)).trans HW.out.b2, (hI.bl.block _ (by show _ < W.heap.size; omega)).trans HW.out.b3, g2, k2, o7.lists, o8.lists, HLA.out.below hbw, HLB.out.below hbw, HG.out.below hbw, hbw⟩
      simp only [List.foldl] at e
      rw [h0, h1, h2, h3, h4, h5] at e
      rw [e]
      clear e h0 h1 h2 h3 h4 h5 g1 g2 g3 g4 k1 k2 k3 k4 o7 o8 hI hall hbw LW
      simp [Act.put]
      go_wp2_with fail
      go_meet
      exact ⟨p7, p8, rf, ra, rk, uf, ua, uk, rfl, rfl, HST.out⟩
  case rest =>
  obtain ⟨p7, p8, rf, ra, rk, uf, ua, uk, rfl, rfl, hST⟩ := hcut
  generalize wc = w1 at *
  have HST : Hid (St w w1 a b (opC a vfa vaa vka) (opC b vfb vab vkb) x0 x1 vfa vaa vka vfb vab vkb p7 p8 rf ra rk uf ua uk) := hST
  clear hST HW KOa KOb HLA HLB HG
  have c0 : w1.cell? ⟨p7, 0, none⟩ = some (.int .u32 a.asn) := cl_row HST.out.r7 rfl
  have c1 : w1.cell? ⟨p7, 1, none⟩ = some (.int .i64 a.hold) := cl_row HST.out.r7 rfl
  have c2 : w1.cell? ⟨p7, 2, none⟩ = some (.int .u32 a.id) := cl_row HST.out.r7 rfl
  have c3 : w1.cell? ⟨p7, 3, none⟩ = some (rf) := cl_row HST.out.r7 rfl
  have c4 : w1.cell? ⟨p7, 4, none⟩ = some (.bool a.four) := cl_row HST.out.r7 rfl
  have c5 : w1.cell? ⟨p7, 5, none⟩ = some (.bool a.refr) := cl_row HST.out.r7 rfl
  have c6 : w1.cell? ⟨p7, 6, none⟩ = some (ra) := cl_row HST.out.r7 rfl
  have c7 : w1.cell? ⟨p7, 7, none⟩ = some (.bool a.gr) := cl_row HST.out.r7 rfl
  have c8 : w1.cell? ⟨p7, 8, none⟩ = some (.bool a.again) := cl_row HST.out.r7 rfl
  have c9 : w1.cell? ⟨p7, 9, none⟩ = some (.int .i64 a.time) := cl_row HST.out.r7 rfl
  have c10 : w1.cell? ⟨p7, 10, none⟩ = some (rk) := cl_row HST.out.r7 rfl
  have d0 : w1.cell? ⟨p8, 0, none⟩ = some (.int .u32 b.asn) := cl_row HST.out.r8 rfl
  have d1 : w1.cell? ⟨p8, 1, none⟩ = some (.int .i64 b.hold) := cl_row HST.out.r8 rfl
  have d2 : w1.cell? ⟨p8, 2, none⟩ = some (.int .u32 b.id) := cl_row HST.out.r8 rfl
  have d3 : w1.cell? ⟨p8, 3, none⟩ = some (uf) := cl_row HST.out.r8 rfl
  have d4 : w1.cell? ⟨p8, 4, none⟩ = some (.bool b.four) := cl_row HST.out.r8 rfl
  have d5 : w1.cell? ⟨p8, 5, none⟩ = some (.bool b.refr) := cl_row HST.out.r8 rfl
  have d6 : w1.cell? ⟨p8, 6, none⟩ = some (ua) := cl_row HST.out.r8 rfl
  have d7 : w1.cell? ⟨p8, 7, none⟩ = some (.bool b.gr) := cl_row HST.out.r8 rfl
  have d8 : w1.cell? ⟨p8, 8, none⟩ = some (.bool b.again) := cl_row HST.out.r8 rfl
  have d9 : w1.cell? ⟨p8, 9, none⟩ = some (.int .i64 b.time) := cl_row HST.out.r8 rfl
  have d10 : w1.cell? ⟨p8, 10, none⟩ = some (uk) := cl_row HST.out.r8 rfl
  go_wp2_with fail
  refine Calls.mono (KA5.out _ _ _ _ _ _ _ HST.out.g HST.out.l7 HST.out.l8) ?_
  rintro e w2 ⟨⟨vf, vs, vt, vk, rfl, hO⟩, hb2⟩
  clear c0 c1 c2 c3 c4 c5 c6 c7 c8 c9 c10 d0 d1 d2 d3 d4 d5 d6 d7 d8 d9 d10
  have HS2 : Hid (St w w2 a b (opC a vfa vaa vka) (opC b vfb vab vkb) x0 x1 vfa vaa vka vfb vab vkb p7 p8 rf ra rk uf ua uk) := HST.out.next hb2
  have HB2 : Hid (Below w1.heap.size w1 w2) := hb2
  obtain ⟨f1, f2, ef⟩ := slice_of_owns hO.f
  obtain ⟨s1, s2, es⟩ := slice_of_owns hO.s
  obtain ⟨t1, t2, et⟩ := slice_of_owns hO.t
  obtain ⟨k1, k2, ek⟩ := slice_of_owns hO.k
  subst ef es et ek
  have HO2 : Hid (OwnS w2 w1.heap.size S (.slice f1 S.fams.length f2) (.slice s1 S.send.length s2) (.slice t1 S.take.length t2) (.slice k1 S.kept.length k2)) := hO
  clear hb2 hO
  unfold sesV
  go_upto_region 3 with fail
  have hba : Below w2.heap.size w2 (w2.alloc (.cells (sesV S (.slice f1 S.fams.length f2) (.slice s1 S.send.length s2) (.slice t1 S.take.length t2) (.slice k1 S.kept.length k2)) 31)) := (Below.refl _ _).alloc (Nat.le_refl _) _
  have hR9 : (w2.alloc (.cells (sesV S (.slice f1 S.fams.length f2) (.slice s1 S.send.length s2) (.slice t1 S.take.length t2) (.slice k1 S.kept.length k2)) 31)).heap[w2.heap.size]? = some (.cells (sesV S (.slice f1 S.fams.length f2) (.slice s1 S.send.length s2) (.slice t1 S.take.length t2) (.slice k1 S.kept.length k2)) 31 (0, 0)) := hp_new rfl
  refine with_world (fun W => Below w1.heap.size w1 W ∧ OwnS W w1.heap.size S (.slice f1 S.fams.length f2) (.slice s1 S.send.length s2) (.slice t1 S.take.length t2) (.slice k1 S.kept.length k2) ∧ W.heap[w2.heap.size]? = some (.cells (sesV S (.slice f1 S.fams.length f2) (.slice s1 S.send.length s2) (.slice t1 S.take.length t2) (.slice k1 S.kept.length k2)) 31 (0, 0))) ⟨HB2.out.trans (hba.mono HB2.out.size), HO2.out.below hba, hR9⟩ ?_
  intro w3 hw3
  obtain ⟨p9, hp9⟩ : ∃ p9, p9 = w2.heap.size := ⟨_, rfl⟩
  rw [← hp9] at hw3
  simp only [← hp9]
  have H3 : Hid (_ ∧ _) := hw3
  have HS3 : Hid (St w w3 a b (opC a vfa vaa vka) (opC b vfb vab vkb) x0 x1 vfa vaa vka vfb vab vkb p7 p8 rf ra rk uf ua uk) := HST.out.next hw3.1
  clear hba hR9 hw3 hp9 HS2 HB2 HO2
  have c0 : w3.cell? ⟨w.heap.size, 0, none⟩ = some (.int .u32 a.asn) := cl_row HS3.out.b1 rfl
  have c1 : w3.cell? ⟨w.heap.size, 1, none⟩ = some (.int .i64 a.hold) := cl_row HS3.out.b1 rfl
  have c2 : w3.cell? ⟨w.heap.size, 2, none⟩ = some (.int .u32 a.id) := cl_row HS3.out.b1 rfl
  have c3 : w3.cell? ⟨w.heap.size, 3, none⟩ = some (vfa) := cl_row HS3.out.b1 rfl
  have c4 : w3.cell? ⟨w.heap.size, 4, none⟩ = some (.bool a.four) := cl_row HS3.out.b1 rfl
  have c5 : w3.cell? ⟨w.heap.size, 5, none⟩ = some (.bool a.refr) := cl_row HS3.out.b1 rfl
  have c6 : w3.cell? ⟨w.heap.size, 6, none⟩ = some (vaa) := cl_row HS3.out.b1 rfl
  have c7 : w3.cell? ⟨w.heap.size, 7, none⟩ = some (.bool a.gr) := cl_row HS3.out.b1 rfl
  have c8 : w3.cell? ⟨w.heap.size, 8, none⟩ = some (.bool a.again) := cl_row HS3.out.b1 rfl
  have c9 : w3.cell? ⟨w.heap.size, 9, none⟩ = some (.int .i64 a.time) := cl_row HS3.out.b1 rfl
  have c10 : w3.cell? ⟨w.heap.size, 10, none⟩ = some (vka) := cl_row HS3.out.b1 rfl
  have d0 : w3.cell? ⟨w.heap.size + 1, 0, none⟩ = some (.int .u32 b.asn) := cl_row HS3.out.b2 rfl
  have d1 : w3.cell? ⟨w.heap.size + 1, 1, none⟩ = some (.int .i64 b.hold) := cl_row HS3.out.b2 rfl
  have d2 : w3.cell? ⟨w.heap.size + 1, 2, none⟩ = some (.int .u32 b.id) := cl_row HS3.out.b2 rfl
  have d3 : w3.cell? ⟨w.heap.size + 1, 3, none⟩ = some (vfb) := cl_row HS3.out.b2 rfl
  have d4 : w3.cell? ⟨w.heap.size + 1, 4, none⟩ = some (.bool b.four) := cl_row HS3.out.b2 rfl
  have d5 : w3.cell? ⟨w.heap.size + 1, 5, none⟩ = some (.bool b.refr) := cl_row HS3.out.b2 rfl
  have d6 : w3.cell? ⟨w.heap.size + 1, 6, none⟩ = some (vab) := cl_row HS3.out.b2 rfl
  have d7 : w3.cell? ⟨w.heap.size + 1, 7, none⟩ = some (.bool b.gr) := cl_row HS3.out.b2 rfl
  have d8 : w3.cell? ⟨w.heap.size + 1, 8, none⟩ = some (.bool b.again) := cl_row HS3.out.b2 rfl
  have d9 : w3.cell? ⟨w.heap.size + 1, 9, none⟩ = some (.int .i64 b.time) := cl_row HS3.out.b2 rfl
  have d10 : w3.cell? ⟨w.heap.size + 1, 10, none⟩ = some (vkb) := cl_row HS3.out.b2 rfl
  go_wp2_with fail
  refine Calls.mono (KA6.out _ _ _ _ _ _ _ HS3.out.la HS3.out.lb) ?_
  rintro e w4 ⟨⟨uvf, uvs, uvt, uvk, rfl, hO⟩, hb4⟩
  clear c0 c1 c2 c3 c4 c5 c6 c7 c8 c9 c10 d0 d1 d2 d3 d4 d5 d6 d7 d8 d9 d10
  obtain ⟨g1, g2, eg⟩ := slice_of_owns hO.f
  obtain ⟨h1, h2, eh⟩ := slice_of_owns hO.s
  obtain ⟨i1, i2, ei⟩ := slice_of_owns hO.t
  obtain ⟨j1, j2, ej⟩ := slice_of_owns hO.k
  subst eg eh ei ej
  have HB4 : Hid (Below w3.heap.size w3 w4) := hb4
  have HO4 : Hid (SesAt w4 S (.slice g1 S.fams.length g2) (.slice h1 S.send.length h2) (.slice i1 S.take.length i2) (.slice j1 S.kept.length j2)) := hO.at
  clear hb4 hO
  unfold sesV
  go_upto_region 4 with fail
  have hba : Below w4.heap.size w4 (w4.alloc (.cells (sesV S (.slice g1 S.fams.length g2) (.slice h1 S.send.length h2) (.slice i1 S.take.length i2) (.slice j1 S.kept.length j2)) 31)) := (Below.refl _ _).alloc (Nat.le_refl _) _
  have hbb : Below w3.heap.size w3 (w4.alloc (.cells (sesV S (.slice g1 S.fams.length g2) (.slice h1 S.send.length h2) (.slice i1 S.take.length i2) (.slice j1 S.kept.length j2)) 31)) := HB4.out.trans (hba.mono HB4.out.size)
  have hR11 : (w4.alloc (.cells (sesV S (.slice g1 S.fams.length g2) (.slice h1 S.send.length h2) (.slice i1 S.take.length i2) (.slice j1 S.kept.length j2)) 31)).heap[w4.heap.size]? = some (.cells (sesV S (.slice g1 S.fams.length g2) (.slice h1 S.send.length h2) (.slice i1 S.take.length i2) (.slice j1 S.kept.length j2)) 31 (0, 0)) := hp_new rfl
  refine with_world (fun W => Sv w1 W S p9 w4.heap.size (.slice f1 S.fams.length f2) (.slice s1 S.send.length s2) (.slice t1 S.take.length t2) (.slice k1 S.kept.length k2) (.slice g1 S.fams.length g2) (.slice h1 S.send.length h2) (.slice i1 S.take.length i2) (.slice j1 S.kept.length j2)) ⟨H3.out.1.trans (hbb.mono H3.out.1.size), blk10 hbb H3.out.2.2, H3.out.2.1.below hbb, hR11, HO4.out.below hba⟩ ?_
  intro w5 hw5
  obtain ⟨p11, hp11⟩ : ∃ p11, p11 = w4.heap.size := ⟨_, rfl⟩
  rw [← hp11] at hw5
  simp only [← hp11]
  have H5 : Hid (Sv w1 w5 S p9 p11 (.slice f1 S.fams.length f2) (.slice s1 S.send.length s2) (.slice t1 S.take.length t2) (.slice k1 S.kept.length k2) (.slice g1 S.fams.length g2) (.slice h1 S.send.length h2) (.slice i1 S.take.length i2) (.slice j1 S.kept.length j2)) := hw5
  clear hba hbb hR11 hw5 hp11 H3 HS3 HB4 HO4 KA5 KA6
  obtain ⟨a1, a2, a3, hac⟩ := acc_form a x0 x1
  have KC8 : Hid (∀ X, Calls Tryz.prog 8 #[opV a rf ra rk, .int .u32 x0, .int .u32 x1] X _) := fun X => acc_any a rf ra rk x0 x1 X
  have KC9 : Hid (∀ X, Calls Tryz.prog 9 #[opV a vfa vaa vka, .int .u32 x0, .int .u32 x1] X _) := fun X => racc_any a vfa vaa vka x0 x1 X
  rw [hac] at KC8 KC9
  obtain ⟨fa0, fc0, evf⟩ : ∃ a1 c, vfa = .slice a1 a.fams.length c := HST.out.la.f.len
  obtain ⟨aa0, ac0, eva⟩ : ∃ a1 c, vaa = .slice a1 a.adds.length c := HST.out.la.a.len
  obtain ⟨ka0, kc0, evk⟩ : ∃ a1 c, vka = .slice a1 a.kept.length c := HST.out.la.k.len
  obtain ⟨fa, fc, erf⟩ : ∃ a1 c, rf = .slice a1 a.fams.length c := HST.out.l7.f.len
  obtain ⟨aa, ac, era⟩ : ∃ a1 c, ra = .slice a1 a.adds.length c := HST.out.l7.a.len
  obtain ⟨ka, kc, erk⟩ : ∃ a1 c, rk = .slice a1 a.kept.length c := HST.out.l7.k.len
  subst evf eva evk erf era erk
  obtain ⟨H, hH⟩ : ∃ H : World → Prop, H = fun X => Sv w1 X S p9 p11 (.slice f1 S.fams.length f2) (.slice s1 S.send.length s2) (.slice t1 S.take.length t2) (.slice k1 S.kept.length k2) (.slice g1 S.fams.length g2) (.slice h1 S.send.length h2) (.slice i1 S.take.length i2) (.slice j1 S.kept.length j2) := ⟨_, rfl⟩
  have hs5 : HeldA H w5.drew := by unfold HeldA; rw [hH]; exact H5.out.next ((Below.refl _ _).drew)
  have stH : ∀ X, HeldA H X → St w X a b _ _ x0 x1 _ _ _ vfb vab vkb p7 p8 _ _ _ uf ua uk := fun X h => by unfold HeldA at h; rw [hH] at h; exact HST.out.next h.b
  have HSTH : Hid (∀ X, HeldA H X → _) := stH
  clear stH
  have m0 : ∀ w', HeldA H w' → w'.cell? ⟨p9, 0, none⟩ = some (.int .i64 S.hold) := fun w' h => by unfold HeldA at h; rw [hH] at h; exact cl_row h.r9 rfl
  have m1 : ∀ w', HeldA H w' → w'.cell? ⟨p9, 1, none⟩ = some (.slice f1 S.fams.length f2) := fun w' h => by unfold HeldA at h; rw [hH] at h; exact cl_row h.r9 rfl
  have m2 : ∀ w', HeldA H w' → w'.cell? ⟨p9, 2, none⟩ = some (.bool S.four) := fun w' h => by unfold HeldA at h; rw [hH] at h; exact cl_row h.r9 rfl
  have m3 : ∀ w', HeldA H w' → w'.cell? ⟨p9, 3, none⟩ = some (.bool S.refr) := fun w' h => by unfold HeldA at h; rw [hH] at h; exact cl_row h.r9 rfl
  have m4 : ∀ w', HeldA H w' → w'.cell? ⟨p9, 4, none⟩ = some (.slice s1 S.send.length s2) := fun w' h => by unfold HeldA at h; rw [hH] at h; exact cl_row h.r9 rfl
  have m5 : ∀ w', HeldA H w' → w'.cell? ⟨p9, 5, none⟩ = some (.slice t1 S.take.length t2) := fun w' h => by unfold HeldA at h; rw [hH] at h; exact cl_row h.r9 rfl
  have m6 : ∀ w', HeldA H w' → w'.cell? ⟨p9, 6, none⟩ = some (.bool S.gr) := fun w' h => by unfold HeldA at h; rw [hH] at h; exact cl_row h.r9 rfl
  have m7 : ∀ w', HeldA H w' → w'.cell? ⟨p9, 7, none⟩ = some (.bool S.again) := fun w' h => by unfold HeldA at h; rw [hH] at h; exact cl_row h.r9 rfl
  have m8 : ∀ w', HeldA H w' → w'.cell? ⟨p9, 8, none⟩ = some (.int .i64 S.time) := fun w' h => by unfold HeldA at h; rw [hH] at h; exact cl_row h.r9 rfl
  have m9 : ∀ w', HeldA H w' → w'.cell? ⟨p9, 9, none⟩ = some (.slice k1 S.kept.length k2) := fun w' h => by unfold HeldA at h; rw [hH] at h; exact cl_row h.r9 rfl
  have n0 : ∀ w', HeldA H w' → w'.cell? ⟨p11, 0, none⟩ = some (.int .i64 S.hold) := fun w' h => by unfold HeldA at h; rw [hH] at h; exact cl_row h.r11 rfl
  have n1 : ∀ w', HeldA H w' → w'.cell? ⟨p11, 1, none⟩ = some (.slice g1 S.fams.length g2) := fun w' h => by unfold HeldA at h; rw [hH] at h; exact cl_row h.r11 rfl
  have n2 : ∀ w', HeldA H w' → w'.cell? ⟨p11, 2, none⟩ = some (.bool S.four) := fun w' h => by unfold HeldA at h; rw [hH] at h; exact cl_row h.r11 rfl
  have n3 : ∀ w', HeldA H w' → w'.cell? ⟨p11, 3, none⟩ = some (.bool S.refr) := fun w' h => by unfold HeldA at h; rw [hH] at h; exact cl_row h.r11 rfl
  have n4 : ∀ w', HeldA H w' → w'.cell? ⟨p11, 4, none⟩ = some (.slice h1 S.send.length h2) := fun w' h => by unfold HeldA at h; rw [hH] at h; exact cl_row h.r11 rfl
  have n5 : ∀ w', HeldA H w' → w'.cell? ⟨p11, 5, none⟩ = some (.slice i1 S.take.length i2) := fun w' h => by unfold HeldA at h; rw [hH] at h; exact cl_row h.r11 rfl
  have n6 : ∀ w', HeldA H w' → w'.cell? ⟨p11, 6, none⟩ = some (.bool S.gr) := fun w' h => by unfold HeldA at h; rw [hH] at h; exact cl_row h.r11 rfl
  have n7 : ∀ w', HeldA H w' → w'.cell? ⟨p11, 7, none⟩ = some (.bool S.again) := fun w' h => by unfold HeldA at h; rw [hH] at h; exact cl_row h.r11 rfl
  have n8 : ∀ w', HeldA H w' → w'.cell? ⟨p11, 8, none⟩ = some (.int .i64 S.time) := fun w' h => by unfold HeldA at h; rw [hH] at h; exact cl_row h.r11 rfl
  have n9 : ∀ w', HeldA H w' → w'.cell? ⟨p11, 9, none⟩ = some (.slice j1 S.kept.length j2) := fun w' h => by unfold HeldA at h; rw [hH] at h; exact cl_row h.r11 rfl
  have y0 : ∀ w', HeldA H w' → w'.cell? ⟨w.heap.size, 0, none⟩ = some (.int .u32 a.asn) := fun w' h => cl_row (HSTH.out w' h).b1 rfl
  have y1 : ∀ w', HeldA H w' → w'.cell? ⟨w.heap.size, 1, none⟩ = some (.int .i64 a.hold) := fun w' h => cl_row (HSTH.out w' h).b1 rfl
  have y2 : ∀ w', HeldA H w' → w'.cell? ⟨w.heap.size, 2, none⟩ = some (.int .u32 a.id) := fun w' h => cl_row (HSTH.out w' h).b1 rfl
  have y3 : ∀ w', HeldA H w' → w'.cell? ⟨w.heap.size, 3, none⟩ = some (.slice fa0 a.fams.length fc0) := fun w' h => cl_row (HSTH.out w' h).b1 rfl
  have y4 : ∀ w', HeldA H w' → w'.cell? ⟨w.heap.size, 4, none⟩ = some (.bool a.four) := fun w' h => cl_row (HSTH.out w' h).b1 rfl
  have y5 : ∀ w', HeldA H w' → w'.cell? ⟨w.heap.size, 5, none⟩ = some (.bool a.refr) := fun w' h => cl_row (HSTH.out w' h).b1 rfl
  have y6 : ∀ w', HeldA H w' → w'.cell? ⟨w.heap.size, 6, none⟩ = some (.slice aa0 a.adds.length ac0) := fun w' h => cl_row (HSTH.out w' h).b1 rfl
  have y7 : ∀ w', HeldA H w' → w'.cell? ⟨w.heap.size, 7, none⟩ = some (.bool a.gr) := fun w' h => cl_row (HSTH.out w' h).b1 rfl
  have y8 : ∀ w', HeldA H w' → w'.cell? ⟨w.heap.size, 8, none⟩ = some (.bool a.again) := fun w' h => cl_row (HSTH.out w' h).b1 rfl
  have y9 : ∀ w', HeldA H w' → w'.cell? ⟨w.heap.size, 9, none⟩ = some (.int .i64 a.time) := fun w' h => cl_row (HSTH.out w' h).b1 rfl
  have y10 : ∀ w', HeldA H w' → w'.cell? ⟨w.heap.size, 10, none⟩ = some (.slice ka0 a.kept.length kc0) := fun w' h => cl_row (HSTH.out w' h).b1 rfl
  have z0 : ∀ w', HeldA H w' → w'.cell? ⟨p7, 0, none⟩ = some (.int .u32 a.asn) := fun w' h => cl_row (HSTH.out w' h).r7 rfl
  have z1 : ∀ w', HeldA H w' → w'.cell? ⟨p7, 1, none⟩ = some (.int .i64 a.hold) := fun w' h => cl_row (HSTH.out w' h).r7 rfl
  have z2 : ∀ w', HeldA H w' → w'.cell? ⟨p7, 2, none⟩ = some (.int .u32 a.id) := fun w' h => cl_row (HSTH.out w' h).r7 rfl
  have z3 : ∀ w', HeldA H w' → w'.cell? ⟨p7, 3, none⟩ = some (.slice fa a.fams.length fc) := fun w' h => cl_row (HSTH.out w' h).r7 rfl
  have z4 : ∀ w', HeldA H w' → w'.cell? ⟨p7, 4, none⟩ = some (.bool a.four) := fun w' h => cl_row (HSTH.out w' h).r7 rfl
  have z5 : ∀ w', HeldA H w' → w'.cell? ⟨p7, 5, none⟩ = some (.bool a.refr) := fun w' h => cl_row (HSTH.out w' h).r7 rfl
  have z6 : ∀ w', HeldA H w' → w'.cell? ⟨p7, 6, none⟩ = some (.slice aa a.adds.length ac) := fun w' h => cl_row (HSTH.out w' h).r7 rfl
  have z7 : ∀ w', HeldA H w' → w'.cell? ⟨p7, 7, none⟩ = some (.bool a.gr) := fun w' h => cl_row (HSTH.out w' h).r7 rfl
  have z8 : ∀ w', HeldA H w' → w'.cell? ⟨p7, 8, none⟩ = some (.bool a.again) := fun w' h => cl_row (HSTH.out w' h).r7 rfl
  have z9 : ∀ w', HeldA H w' → w'.cell? ⟨p7, 9, none⟩ = some (.int .i64 a.time) := fun w' h => cl_row (HSTH.out w' h).r7 rfl
  have z10 : ∀ w', HeldA H w' → w'.cell? ⟨p7, 10, none⟩ = some (.slice ka a.kept.length kc) := fun w' h => cl_row (HSTH.out w' h).r7 rfl
  have q0 : ∀ w', HeldA H w' → w'.cell? ⟨w.heap.size + 1 + 1, 0, none⟩ = some (.int .u32 x0) := fun w' h => cl_row (HSTH.out w' h).b3 rfl
  have q1 : ∀ w', HeldA H w' → w'.cell? ⟨w.heap.size + 1 + 1, 1, none⟩ = some (.int .u32 x1) := fun w' h => cl_row (HSTH.out w' h).b3 rfl
  have M7 : Hid (∀ X, HeldA H X → Calls Tryz.prog 7 #[.agg (sesV S (.slice f1 S.fams.length f2) (.slice s1 S.send.length s2) (.slice t1 S.take.length t2) (.slice k1 S.kept.length k2)), .agg (sesV S (.slice g1 S.fams.length g2) (.slice h1 S.send.length h2) (.slice i1 S.take.length i2) (.slice j1 S.kept.length j2))] X fun e w' => e = .returned (.bool true) ∧ HeldA H w') := fun X h => by
    unfold HeldA at *; rw [hH] at *
    exact (rsameSes S _ _ _ _ _ _ _ _ X h.o9.at h.o11 (by have := HSM.out.1; omega) (by have := HSM.out.2.1; omega) (by have := HSM.out.2.2.1; omega) (by have := HSM.out.2.2.2; omega)).mono fun e w' ⟨x, y⟩ => ⟨x, h.next y⟩
  have M8 : Hid (∀ X, HeldA H X → Calls Tryz.prog 8 #[opV a (.slice fa a.fams.length fc) (.slice aa a.adds.length ac) (.slice ka a.kept.length kc), .int .u32 x0, .int .u32 x1] X fun e w' => e = .returned (vdt a1 a2 a3) ∧ HeldA H w') := fun X h => by
    unfold HeldA at *; rw [hH] at *
    exact (KC8.out X).mono fun e w' ⟨x, y⟩ => ⟨x, h.next y⟩
  have M9 : Hid (∀ X, HeldA H X → Calls Tryz.prog 9 #[opV a (.slice fa0 a.fams.length fc0) (.slice aa0 a.adds.length ac0) (.slice ka0 a.kept.length kc0), .int .u32 x0, .int .u32 x1] X fun e w' => e = .returned (vdt a1 a2 a3) ∧ HeldA H w') := fun X h => by
    unfold HeldA at *; rw [hH] at *
    exact (KC9.out X).mono fun e w' ⟨x, y⟩ => ⟨x, h.next y⟩
  have HHH : Hid (∀ X, HeldA H X → Sv w1 X S p9 p11 (.slice f1 S.fams.length f2) (.slice s1 S.send.length s2) (.slice t1 S.take.length t2) (.slice k1 S.kept.length k2) (.slice g1 S.fams.length g2) (.slice h1 S.send.length h2) (.slice i1 S.take.length i2) (.slice j1 S.kept.length j2)) := fun X h => by unfold HeldA at h; rw [hH] at h; exact h
  unfold sesV at M7
  unfold opV opC at M8 M9
  unfold vdt at M8 M9
  clear hH H5 hac KC8 KC9
  go_region_held3 (fun w' => HeldA H w') (with_reducible assumption)
    (first | (go_at_call 7; refine (M7.out _ (by with_reducible assumption)).mono ?_; rintro e wa ⟨rfl, sA⟩) | (go_at_call 8; refine (M8.out _ (by with_reducible assumption)).mono ?_; rintro e wb ⟨rfl, sB⟩) | (go_at_call 9; refine (M9.out _ (by with_reducible assumption)).mono ?_; rintro e wd ⟨rfl, sD⟩))
  have HV : Hid (_ : Prop) := HHH.out _ (by with_reducible assumption)
  have HSPX := HV.out.sp
  clear m0 m1 m2 m3 m4 m5 m6 m7 m8 m9 n0 n1 n2 n3 n4 n5 n6 n7 n8 n9 y0 y1 y2 y3 y4 y5 y6 y7 y8 y9 y10 z0 z1 z2 z3 z4 z5 z6 z7 z8 z9 z10 q0 q1 M7 M8 M9 HHH HSTH HV
  go_upto_region 6 with fail
  refine with_world (fun W => Sp w1 W S p9 f1 s1 t1 k1 f2 s2 t2 k2) HSPX ?_
  intro w6 h6
  have H6 : Hid (Sp w1 w6 S p9 f1 s1 t1 k1 f2 s2 t2 k2) := h6
  have l5 : S.fams.length ≤ 5 := HSM.out.1
  have l6 : S.kept.length ≤ 5 := HSM.out.2.2.2
  clear h6 HSPX
  go_wp2_with fail
  go_loopw [13] (fun i wr => ∃ k : Nat, k ≤ S.fams.length ∧ i = .int .i64 k ∧ Sp w1 wr S p9 f1 s1 t1 k1 f2 s2 t2 k2) (fun i _ => S.fams.length - (intOf i).toNat)
  case atStart => exact ⟨0, Nat.zero_le _, rfl, H6.out⟩
  case round =>
    obtain ⟨k, hk, rfl, hsp⟩ := hrel
    have HSP : Hid (Sp w1 wr S p9 f1 s1 t1 k1 f2 s2 t2 k2) := hsp
    clear hsp H6
    by_cases hlt : k < S.fams.length
    · rcases HSP.out.f with h0 | ⟨g, cur, rfl, hg, hc, hl⟩
      · omega
      · have i1 : (k : Int) < (S.fams.length : Int) := by omega
        have c1 : wr.cell? ⟨p9, 1, none⟩ = some (.slice (some ⟨g, 0, none⟩) S.fams.length f2) := cl_row HSP.out.r9 rfl
        obtain ⟨u2, c2⟩ : ∃ u, wr.cell? ⟨g, k, none⟩ = some u := ⟨_, cl_row hc (Array.getElem?_eq_getElem (by omega))⟩
        have c3 : wr.frozen? ⟨g, k, none⟩ = false := fz_row hc
        have HN : Hid (Sp w1 (wr.setCell ⟨g, k, none⟩ (.int .i64 77)) S p9 _ s1 t1 k1 f2 s2 t2 k2) := HSP.out.setF rfl hg hc hl k _
        clear hg hc hl
        go_wp2
        go_roundw
        case rel => exact ⟨k + 1, by omega, by go_num, HN.out⟩
        case measure => simp [intOf]; omega
    · have hke : k = S.fams.length := by omega
      subst hke
      have i1 : ¬ ((S.fams.length : Int) < (S.fams.length : Int)) := by omega
      have c1 : wr.cell? ⟨p9, 1, none⟩ = some (.slice f1 S.fams.length f2) := cl_row HSP.out.r9 rfl
      go_wp2_with fail
      clear c1 i1 hlt hk
      generalize wr = w7 at *
      go_loopw [14] (fun i wr => ∃ k : Nat, k ≤ S.kept.length ∧ i = .int .i64 k ∧ Sp w1 wr S p9 f1 s1 t1 k1 f2 s2 t2 k2) (fun i _ => S.kept.length - (intOf i).toNat)
      case atStart => exact ⟨0, Nat.zero_le _, rfl, HSP.out⟩
      case round =>
        obtain ⟨k, hk, rfl, hsp⟩ := hrel
        have HS7 : Hid (Sp w1 wr S p9 f1 s1 t1 k1 f2 s2 t2 k2) := hsp
        clear hsp HSP
        by_cases hlt : k < S.kept.length
        · rcases HS7.out.k with h0 | ⟨g, cur, rfl, hg, hc, hl⟩
          · omega
          · have i1 : (k : Int) < (S.kept.length : Int) := by omega
            have c1 : wr.cell? ⟨p9, 9, none⟩ = some (.slice (some ⟨g, 0, none⟩) S.kept.length k2) := cl_row HS7.out.r9 rfl
            obtain ⟨u2, c2⟩ : ∃ u, wr.cell? ⟨g, k * 2, none⟩ = some u := ⟨_, cl_row hc (Array.getElem?_eq_getElem (by omega))⟩
            have c3 : wr.frozen? ⟨g, k * 2, none⟩ = false := fz_row hc
            have h1 := HS7.out.setK rfl hg hc hl (k * 2) (.int .i64 0)
            obtain ⟨u3, d2⟩ : ∃ u, (wr.setCell ⟨g, k * 2, none⟩ (.int .i64 0)).cell? ⟨g, k * 2 + 1, none⟩ = some u := ⟨_, cl_row h1.2 (by rw [Array.getElem?_setIfInBounds_ne (by omega)]; exact Array.getElem?_eq_getElem (by omega))⟩
            have d3 : (wr.setCell ⟨g, k * 2, none⟩ (.int .i64 0)).frozen? ⟨g, k * 2 + 1, none⟩ = false := fz_row h1.2
            have HN : Hid (Sp w1 ((wr.setCell ⟨g, k * 2, none⟩ (.int .i64 0)).setCell ⟨g, k * 2 + 1, none⟩ (.bool false)) S p9 f1 s1 t1 _ f2 s2 t2 k2) := (h1.1.setK rfl hg h1.2 (by simpa using hl) (k * 2 + 1) _).1
            clear hg hc hl h1
            go_wp2
            go_roundw
            case rel => exact ⟨k + 1, by omega, by go_num, HN.out⟩
            case measure => simp [intOf]; omega
        · have hke : k = S.kept.length := by omega
          subst hke
          have i1 : ¬ ((S.kept.length : Int) < (S.kept.length : Int)) := by omega
          have c1 : wr.cell? ⟨p9, 9, none⟩ = some (.slice k1 S.kept.length k2) := cl_row HS7.out.r9 rfl
          have HZ : Hid (St w wr a b _ _ x0 x1 _ _ _ vfb vab vkb p7 p8 _ _ _ uf ua uk) := HST.out.next HS7.out.b
          clear HST HS7
          go_upto_region 14 with fail
          clear c1 i1 hlt hk
          have y0 : wr.cell? ⟨w.heap.size, 0, none⟩ = some (.int .u32 a.asn) := cl_row HZ.out.b1 rfl
          have y1 : wr.cell? ⟨w.heap.size, 1, none⟩ = some (.int .i64 a.hold) := cl_row HZ.out.b1 rfl
          have y2 : wr.cell? ⟨w.heap.size, 2, none⟩ = some (.int .u32 a.id) := cl_row HZ.out.b1 rfl
          have y3 : wr.cell? ⟨w.heap.size, 3, none⟩ = some (.slice fa0 a.fams.length fc0) := cl_row HZ.out.b1 rfl
          have y4 : wr.cell? ⟨w.heap.size, 4, none⟩ = some (.bool a.four) := cl_row HZ.out.b1 rfl
          have y5 : wr.cell? ⟨w.heap.size, 5, none⟩ = some (.bool a.refr) := cl_row HZ.out.b1 rfl
          have y6 : wr.cell? ⟨w.heap.size, 6, none⟩ = some (.slice aa0 a.adds.length ac0) := cl_row HZ.out.b1 rfl
          have y7 : wr.cell? ⟨w.heap.size, 7, none⟩ = some (.bool a.gr) := cl_row HZ.out.b1 rfl
          have y8 : wr.cell? ⟨w.heap.size, 8, none⟩ = some (.bool a.again) := cl_row HZ.out.b1 rfl
          have y9 : wr.cell? ⟨w.heap.size, 9, none⟩ = some (.int .i64 a.time) := cl_row HZ.out.b1 rfl
          have y10 : wr.cell? ⟨w.heap.size, 10, none⟩ = some (.slice ka0 a.kept.length kc0) := cl_row HZ.out.b1 rfl
          have z0 : wr.cell? ⟨p7, 0, none⟩ = some (.int .u32 a.asn) := cl_row HZ.out.r7 rfl
          have z1 : wr.cell? ⟨p7, 1, none⟩ = some (.int .i64 a.hold) := cl_row HZ.out.r7 rfl
          have z2 : wr.cell? ⟨p7, 2, none⟩ = some (.int .u32 a.id) := cl_row HZ.out.r7 rfl
          have z3 : wr.cell? ⟨p7, 3, none⟩ = some (.slice fa a.fams.length fc) := cl_row HZ.out.r7 rfl
          have z4 : wr.cell? ⟨p7, 4, none⟩ = some (.bool a.four) := cl_row HZ.out.r7 rfl
          have z5 : wr.cell? ⟨p7, 5, none⟩ = some (.bool a.refr) := cl_row HZ.out.r7 rfl
          have z6 : wr.cell? ⟨p7, 6, none⟩ = some (.slice aa a.adds.length ac) := cl_row HZ.out.r7 rfl
          have z7 : wr.cell? ⟨p7, 7, none⟩ = some (.bool a.gr) := cl_row HZ.out.r7 rfl
          have z8 : wr.cell? ⟨p7, 8, none⟩ = some (.bool a.again) := cl_row HZ.out.r7 rfl
          have z9 : wr.cell? ⟨p7, 9, none⟩ = some (.int .i64 a.time) := cl_row HZ.out.r7 rfl
          have z10 : wr.cell? ⟨p7, 10, none⟩ = some (.slice ka a.kept.length kc) := cl_row HZ.out.r7 rfl
          unfold opV opC at KSa KSb
          go_wp2_with (first | (go_at_call 10; first | ((with_reducible refine Calls.mono (KSa.out _ _ _ _ HZ.out.l7 HZ.out.bel) ?_); rintro e w8 ⟨rfl, hb8⟩; have HZ8 : Hid (St _ _ _ _ _ _ _ _ _ _ _ _ _ _ _ _ _ _ _ _ _ _) := HZ.out.next hb8; clear hb8; have u0 : w8.cell? ⟨w.heap.size + 1, 0, none⟩ = some (.int .u32 b.asn) := cl_row HZ8.out.b2 rfl; have u1 : w8.cell? ⟨w.heap.size + 1, 1, none⟩ = some (.int .i64 b.hold) := cl_row HZ8.out.b2 rfl; have u2 : w8.cell? ⟨w.heap.size + 1, 2, none⟩ = some (.int .u32 b.id) := cl_row HZ8.out.b2 rfl; have u3 : w8.cell? ⟨w.heap.size + 1, 3, none⟩ = some (vfb) := cl_row HZ8.out.b2 rfl; have u4 : w8.cell? ⟨w.heap.size + 1, 4, none⟩ = some (.bool b.four) := cl_row HZ8.out.b2 rfl; have u5 : w8.cell? ⟨w.heap.size + 1, 5, none⟩ = some (.bool b.refr) := cl_row HZ8.out.b2 rfl; have u6 : w8.cell? ⟨w.heap.size + 1, 6, none⟩ = some (vab) := cl_row HZ8.out.b2 rfl; have u7 : w8.cell? ⟨w.heap.size + 1, 7, none⟩ = some (.bool b.gr) := cl_row HZ8.out.b2 rfl; have u8 : w8.cell? ⟨w.heap.size + 1, 8, none⟩ = some (.bool b.again) := cl_row HZ8.out.b2 rfl; have u9 : w8.cell? ⟨w.heap.size + 1, 9, none⟩ = some (.int .i64 b.time) := cl_row HZ8.out.b2 rfl; have u10 : w8.cell? ⟨w.heap.size + 1, 10, none⟩ = some (vkb) := cl_row HZ8.out.b2 rfl; have v0 : w8.cell? ⟨p8, 0, none⟩ = some (.int .u32 b.asn) := cl_row HZ8.out.r8 rfl; have v1 : w8.cell? ⟨p8, 1, none⟩ = some (.int .i64 b.hold) := cl_row HZ8.out.r8 rfl; have v2 : w8.cell? ⟨p8, 2, none⟩ = some (.int .u32 b.id) := cl_row HZ8.out.r8 rfl; have v3 : w8.cell? ⟨p8, 3, none⟩ = some (uf) := cl_row HZ8.out.r8 rfl; have v4 : w8.cell? ⟨p8, 4, none⟩ = some (.bool b.four) := cl_row HZ8.out.r8 rfl; have v5 : w8.cell? ⟨p8, 5, none⟩ = some (.bool b.refr) := cl_row HZ8.out.r8 rfl; have v6 : w8.cell? ⟨p8, 6, none⟩ = some (ua) := cl_row HZ8.out.r8 rfl; have v7 : w8.cell? ⟨p8, 7, none⟩ = some (.bool b.gr) := cl_row HZ8.out.r8 rfl; have v8 : w8.cell? ⟨p8, 8, none⟩ = some (.bool b.again) := cl_row HZ8.out.r8 rfl; have v9 : w8.cell? ⟨p8, 9, none⟩ = some (.int .i64 b.time) := cl_row HZ8.out.r8 rfl; have v10 : w8.cell? ⟨p8, 10, none⟩ = some (uk) := cl_row HZ8.out.r8 rfl) | ((with_reducible refine Calls.mono (KSb.out _ _ _ _ HZ8.out.l8 HZ8.out.bel) ?_); rintro e w9 ⟨rfl, hb9⟩; have HZ9 : Hid (St _ _ _ _ _ _ _ _ _ _ _ _ _ _ _ _ _ _ _ _ _ _) := HZ8.out.next hb9; clear hb9)) | (go_at_call 11; (with_reducible refine Calls.mono (works_any _ HZ9.out.g) ?_); rintro e wf ⟨rfl, hbf⟩))
          go_ret
          exact ⟨rfl, HZ9.out.bel.trans (hbf.mono HZ9.out.bel.size)⟩
end Go.Proofs.YtlhnfejgkhilkaaGreatDoor
