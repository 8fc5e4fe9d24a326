/-
  inBytes: the segment that a call tells.
-/
import Derived.Test.YtbdfigfjoiefiaaDoorT1
import Derived.Test.YtbdfigfjoiefiaaDoorR1
namespace Go.Proofs.YtbdfigfjoiefiaaDoor
open Go.RowKit
/-- What a call of next answers over these bytes: nothing more, a fault, or a segment and the bytes behind it. -/
def NextOk (sz p : Nat) (l : List UInt8) (w : World) (e : Ending) (w' : World) : Prop :=
  Beside p w w' ∧ ((l = [] ∧ e = .returned (.tuple #[.agg #[.int .i64 0, .slice none 0 0], .int .i64 5])) ∨
    (l ≠ [] ∧ segI sz l = none ∧ e = .returned (.tuple #[.agg #[.int .i64 0, .slice none 0 0], .int .i64 4])) ∨
    ∃ ad c s r, segI sz l = some (s, r) ∧ e = .returned (.tuple #[.agg #[.int .i64 s.1, .slice ad s.2.length c], .int .i64 0]) ∧ OwnU w' w.heap.size (.slice ad s.2.length c) s.2 ∧ RdrAt w' p ⟨r.toArray⟩)
theorem list_size (l : List UInt8) : (⟨l.toArray⟩ : ByteArray).size = l.length := by simp [ByteArray.size]
theorem ClAt.alloc {w : World} {p pr ps sz : Nat} (h : ClAt w p pr ps sz) (o : Obj) : ClAt (w.alloc o) p pr ps sz :=
  ⟨below_cell ((Below.refl _ _).alloc (Nat.le_refl _) o) h.b0, below_cell ((Below.refl _ _).alloc (Nat.le_refl _) o) h.b1, h.n0, h.n1⟩
/-- The result's own block. -/
structure ZAt (w w1 : World) : Prop where
  z0 : w1.cell? ⟨w.heap.size, 0, none⟩ = some (.int .i64 0)
  z1 : w1.cell? ⟨w.heap.size, 1, none⟩ = some (.slice none 0 0)
  g0 : w1.frozen? ⟨w.heap.size, 0, none⟩ = false
  g1 : w1.frozen? ⟨w.heap.size, 1, none⟩ = false
  hs : w.heap.size < w1.heap.size
theorem ZAt.start (w : World) : ZAt w (w.alloc (.cells #[.int .i64 0, .slice none 0 0] 48)) := ⟨by simp, by simp, by simp, by simp, by simp⟩
theorem ZAt.beside {w w1 w2 : World} {p : Nat} (h : ZAt w w1) (hb : Beside p w1 w2) (hp : p < w.heap.size) : ZAt w w2 :=
  ⟨hb.cell h.z0 (by omega), hb.cell h.z1 (by omega), (hb.frozen h.hs (by omega)).trans h.g0, (hb.frozen h.hs (by omega)).trans h.g1, Nat.lt_of_lt_of_le h.hs hb.size⟩
theorem Beside.put2 {p : Nat} {w w1 : World} (h : Beside p w w1) (v v' : Value) : Beside p w ((w1.setCell ⟨w.heap.size, 0, none⟩ v).setCell ⟨w.heap.size, 1, none⟩ v') := (h.put (Nat.le_refl _) _ _).put (Nat.le_refl _) _ _
theorem ZAt.got {w w1 : World} (h : ZAt w w1) (v v' : Value) : ((w1.setCell ⟨w.heap.size, 0, none⟩ v).setCell ⟨w.heap.size, 1, none⟩ v').cell? ⟨w.heap.size, 0, none⟩ = some v ∧ ((w1.setCell ⟨w.heap.size, 0, none⟩ v).setCell ⟨w.heap.size, 1, none⟩ v').cell? ⟨w.heap.size, 1, none⟩ = some v' := by
  constructor
  · rw [World.cell?_setCell_other _ _ _ _ (by simp)]; exact World.cell?_setCell_same _ _ _ h.z0
  · exact World.cell?_setCell_same _ _ _ (by rw [World.cell?_setCell_other _ _ _ _ (by simp)]; exact h.z1)
set_option maxRecDepth 100000 in
set_option maxHeartbeats 1600000 in
theorem next_any (p pr ps sz : Nat) (l : List UInt8) (w : World) (hcl : ClAt w p pr ps sz) (hr : RdrAt w p ⟨l.toArray⟩) (hz1 : 1 ≤ sz) (hz4 : sz ≤ 4) :
    Calls Tryd.prog 75 #[.pointer (some ⟨pr, 0, none⟩), .pointer (some ⟨ps, 0, none⟩)] w fun e w' => NextOk sz p l w e w' := by
  obtain ⟨j0, hj0, hy0, hy1, hy2⟩ := info_parts info23
  have hp := hr.lt
  have HC0 : Hid (ClAt w p pr ps sz) := hcl
  have HC : Hid (ClAt (w.alloc (.cells #[.int .i64 0, .slice none 0 0] 48)) p pr ps sz) := hcl.alloc _
  have HR : Hid (RdrAt (w.alloc (.cells #[.int .i64 0, .slice none 0 0] 48)) p ⟨l.toArray⟩) := hr.kept ((Below.refl _ _).alloc (Nat.le_refl _) _) hp
  have HB : Hid (Beside p w (w.alloc (.cells #[.int .i64 0, .slice none 0 0] 48))) := Beside.of_below ((Below.refl _ _).alloc (Nat.le_refl _) _) (Nat.le_refl _)
  have HZ : Hid (ZAt w (w.alloc (.cells #[.int .i64 0, .slice none 0 0] 48))) := ZAt.start w
  have b0 := HC.out.b0
  clear hcl hr
  go_enter Tryd.func75, Tryd.ntmps75
  go_wp2_with fail
  refine (left_any p ⟨l.toArray⟩ _ HR.out).mono ?_
  rintro e w1 ⟨rfl, rfl⟩
  rw [list_size]
  generalize w.alloc (.cells #[.int .i64 0, .slice none 0 0] 48) = w0 at *
  obtain ⟨z0, z1, g0, g1, _⟩ := HZ.out
  by_cases hl0 : l = []
  · subst hl0
    simp only [List.length_nil]
    go_wp2
    have hg := HZ.out.got (.int .i64 0) (.slice none 0 0)
    refine bodyPost_ret (v := .tuple #[.agg #[.int .i64 0, .slice none 0 0], .int .i64 5]) (by simp [results, Tryd.results75, go_sem, hg.1, hg.2]) rfl ?_
    exact ⟨HB.out.put2 _ _, Or.inl ⟨rfl, rfl⟩⟩
  · have hl1 : 1 ≤ l.length := by cases l with | nil => exact absurd rfl hl0 | cons => simp
    have hl1' : ¬ ((l.length : Int) = 0) := by omega
    have hl1'' : ((l.length : Int) == 0) = false := by simpa using hl1'
    clear z0 z1 g0 g1
    have HL : Hid (l ≠ []) := hl0
    clear hl0
    go_wp2_with fail
    refine (numL_yes p l 1 w0 HR.out (by decide) (by decide) hl1).mono ?_
    rintro e w1 ⟨rfl, hr1, hb1⟩
    have HC1 : Hid (ClAt _ _ _ _ _) := HC.out.beside hb1
    have HZ1 : Hid (ZAt _ _) := HZ.out.beside hb1 hp
    have HB1 : Hid (Beside p w w1) := HB.out.trans hb1
    have b1 := HC1.out.b0
    have HR1 : Hid (RdrAt _ _ _) := hr1
    clear HC HZ HB b0 HR hb1 hr1
    by_cases h2 : l.length < 2
    · go_wp2_with fail
      refine (num_no p _ 1 w1 HR1.out (by decide) (by decide) (by rw [list_size]; simp; omega)).mono ?_
      rintro e w2 ⟨rfl, hr2, hb2⟩
      have HZ2 : Hid (ZAt _ _) := HZ1.out.beside hb2 hp
      obtain ⟨z0, z1, g0, g1, _⟩ := HZ2.out
      have HB2 : Hid (Beside p w w2) := HB1.out.trans hb2
      clear hr2 hb2
      go_wp2
      have hg := HZ2.out.got (.int .i64 0) (.slice none 0 0)
      refine bodyPost_ret (v := .tuple #[.agg #[.int .i64 0, .slice none 0 0], .int .i64 4]) (by simp [results, Tryd.results75, go_sem, hg.1, hg.2]) rfl ?_
      exact ⟨HB2.out.put2 _ _, Or.inr (Or.inl ⟨HL.out, by simp [segI, h2], rfl⟩)⟩
    · go_wp2_with fail
      refine (numL_yes p _ 1 w1 HR1.out (by decide) (by decide) (by simp; omega)).mono ?_
      rintro e w2 ⟨rfl, hr2, hb2⟩
      have HC2 : Hid (ClAt _ _ _ _ _) := HC1.out.beside hb2
      have HZ2 : Hid (ZAt _ _) := HZ1.out.beside hb2 hp
      have HB2 : Hid (Beside p w w2) := HB1.out.trans hb2
      have HR2 : Hid (RdrAt w2 p ⟨(l.drop 2).toArray⟩) := by unfold Hid; simpa [List.drop_drop] using hr2
      have b2 := HC2.out.b0
      clear HC1 HZ1 HB1 b1 HR1 hb2 hr2
      have HSI : Hid (segI sz l = if (l.drop 2).length < worth ((l.drop 1).take 1) * sz then none else some (((worth (l.take 1) : Int), asI sz (worth ((l.drop 1).take 1)) (l.drop 2)), (l.drop 2).drop (worth ((l.drop 1).take 1) * sz))) := by unfold Hid segI; rw [if_neg h2]
      have hk : worth (l.take 1) < 256 := by have := worth_lt (l.take 1); rw [show (l.take 1).length = 1 by simp; omega] at this; omega
      have hn : worth ((l.drop 1).take 1) < 256 := by have := worth_lt ((l.drop 1).take 1); rw [show ((l.drop 1).take 1).length = 1 by simp; omega] at this; omega
      generalize worth (l.take 1) = K at *
      generalize worth ((l.drop 1).take 1) = n at *
      generalize l.drop 2 = r at *
      have HQ : Hid (ReadAt w (w2.alloc (.cells #[.int .i64 (K : Int), .slice none 0 0] 48)) p w2.heap.size (K : Int) none 0 [] r) := ReadAt.start HZ2.out.z0 HZ2.out.z1 HZ2.out.g0 HZ2.out.g1 HR2.out HB2.out HZ2.out.hs hp
      clear HC2 HZ2 HB2 HR2
      go_wp2
      generalize hq : w2.heap.size = q at *
      generalize w2.alloc (.cells #[.int .i64 (K : Int), .slice none 0 0] 48) = W0 at *
      clear b2
      go_loopw [32] (fun i wr => ∃ (j : Nat) (ad : Option Addr) (c : Nat), j ≤ n ∧ i = .int .u64 j ∧ j * sz ≤ r.length ∧ ReadAt w wr p q (K : Int) ad c (asI sz j r) (r.drop (j * sz))) (fun i _ => n - (intOf i).toNat)
      case atStart => exact ⟨0, none, 0, Nat.zero_le _, rfl, by simp, by simpa [asI] using HQ.out⟩
      case round =>
        obtain ⟨j, ad, c, hj, rfl, hjr, hra⟩ := hrel
        have hca := HC0.out.beside hra.bes
        have HRA : Hid (ReadAt _ _ _ _ _ _ _ _ _) := hra
        have b0 := hca.b0
        have b1 := hca.b1
        clear hra hca
        by_cases hlt : j < n
        · have hlt' : (j : Int) < n := by omega
          by_cases hen : r.length - j * sz < sz
          · go_wp2_with fail
            refine (num_no p _ sz wr HRA.out.rdr hz1 (by omega) (by rw [list_size]; simp; omega)).mono ?_
            rintro e w4 ⟨rfl, hr4, hb4⟩
            have HRB : Hid (ReadAt _ _ _ _ _ _ _ _ _) := HRA.out.read hb4 hr4
            have HZ4 : Hid (ZAt w w4) := ⟨HRB.out.z0, HRB.out.z1, HRB.out.g0, HRB.out.g1, by have h1 := HRB.out.siz; have h2 := HRB.out.abv; omega⟩
            obtain ⟨z0, z1, g0, g1, _⟩ := HZ4.out
            have HB4 : Hid (Beside p w w4) := HRB.out.bes
            have hnone : segI sz l = none := by
              rw [HSI.out, if_pos]
              have h1 : (j + 1) * sz ≤ n * sz := Nat.mul_le_mul_right _ hlt
              rw [Nat.succ_mul] at h1
              omega
            have HNO : Hid (_ = _) := hnone
            clear hr4 hb4 HRA b0 b1 HRB hnone
            go_wp2
            have hg := HZ4.out.got (.int .i64 0) (.slice none 0 0)
            refine bodyPost_ret (v := .tuple #[.agg #[.int .i64 0, .slice none 0 0], .int .i64 4]) (by simp [results, Tryd.results75, go_sem, hg.1, hg.2]) rfl ?_
            exact ⟨HB4.out.put2 _ _, Or.inr (Or.inl ⟨HL.out, HNO.out, rfl⟩)⟩
          · go_wp2_with fail
            refine (numL_yes p _ sz wr HRA.out.rdr hz1 (by omega) (by simp; omega)).mono ?_
            rintro e w4 ⟨rfl, hr4, hb4⟩
            rw [List.drop_drop, show j * sz + sz = (j + 1) * sz by rw [Nat.succ_mul]] at hr4
            have HRB : Hid (ReadAt _ _ _ _ _ _ _ _ _) := HRA.out.read hb4 hr4
            have hx : worth ((r.drop (j * sz)).take sz) < 4294967296 := by
              have h1 := worth_lt ((r.drop (j * sz)).take sz)
              have h2 : 256 ^ ((r.drop (j * sz)).take sz).length ≤ 256 ^ 4 := Nat.pow_le_pow_right (by decide) (Nat.le_trans (List.length_take_le _ _) hz4)
              omega
            have HSN : Hid (asI sz (j + 1) r = asI sz j r ++ [worth ((r.drop (j * sz)).take sz)]) := asI_snoc sz j r
            have hlst := asI_length sz j r
            clear hr4 hb4 HRA b0 b1
            generalize asI sz j r = lst at *
            generalize worth ((r.drop (j * sz)).take sz) = y at *
            have m1 := HRB.out.c1
            rw [hlst] at m1
            have hmf := HRB.out.f1
            have hsz3 := HRB.out.siz
            have hown : w4.ownsRow (q + 1) 23 1 (.slice ad j c) j (cellsU lst) := by have := HRB.out.own.1; rw [hlst] at this; exact this
            have HOA : Hid ((w4.alloc (.cells #[.int .u32 (y : Int)] 23)).ownsRow (q + 1) 23 1 (.slice ad j c) j (cellsU lst)) := hown.alloc _
            have HNW : Hid (∀ (k : Nat) (u : Value), [Value.int .u32 (y : Int)][k]? = some u → (w4.alloc (.cells #[.int .u32 (y : Int)] 23)).cell? (Addr.add ⟨w4.heap.size, 0, none⟩ k) = some u) := news1 w4 _ 23
            have hnb : ∀ g, (Value.slice ad j c).ownBlock = some g → q + 1 ≤ g := fun g e => (hown.lt g e).1
            have m1' : ∀ o, (w4.alloc o).cell? ⟨q, 1, none⟩ = some (.slice ad j c) := fun o => below_cell ((Below.refl _ _).alloc (Nat.le_refl _) o) m1
            have m0' : ∀ o, (w4.alloc o).cell? ⟨q, 0, none⟩ = some (.int .i64 (K : Int)) := fun o => below_cell ((Below.refl _ _).alloc (Nat.le_refl _) o) HRB.out.c0
            have mf' : ∀ o, (w4.alloc o).frozen? ⟨q, 1, none⟩ = false := fun o => by rw [((Below.refl w4.heap.size w4).alloc (Nat.le_refl _) o).frozen (p := ⟨q, 1, none⟩) (by show q < _; omega)]; exact hmf
            have hmod : (y : Int) % 4294967296 = y := by omega
            clear hown
            go_wp2_with (at_builtin; refine wpList_append_own _ rfl _ _ 31 rfl (q + 1) 23 j0 (.int .u32 0) 1 4 Tryd.underlying31 hj0 hy0 hy1 hy2 rfl (by decide) _ _ _ rfl HOA.out ⟨w4.heap.size, 0, none⟩ 1 1 [.int .u32 (y : Int)] rfl rfl HNW.out (one_u32 _) (by unfold maxLen; omega) (by omega) (Nat.le_trans hsz3 (by simp)) ?_; intro v5 w5 hown5 hgrow5 _; obtain ⟨ad5, c5, rfl⟩ := slice_of_owns hown5; have t1 := hgrow5.cell (a := ⟨q, 1, none⟩) (w := w4.alloc (.cells #[.int .u32 (y : Int)] 23)) (m1' _) (by intro h; have := hnb q h.symm; omega); have tf : w5.frozen? ⟨q, 1, none⟩ = false := by rw [World.frozen?_of_block (w := w4.alloc (.cells #[.int .u32 (y : Int)] 23)) (hgrow5.block q (by simp; omega) (by intro h; have := hnb q h.symm; omega))]; exact mf' _)
            have HNX : Hid (ReadAt w _ p q (K : Int) _ _ (lst ++ [y]) _) := HRB.out.next hlst hown5 hgrow5 hx (by omega)
            clear hown5 hgrow5 t1 tf m1' m0' mf' hnb HOA HNW
            go_roundw
            case rel => exact ⟨j + 1, _, _, by omega, by go_num, by rw [Nat.succ_mul]; omega, by rw [HSN.out]; exact HNX.out⟩
            case measure => simp [intOf]; omega
        · obtain rfl : j = n := by omega
          have hnl : ¬ ((j : Int) < j) := by omega
          have c0 := HRA.out.c0
          have c1 := HRA.out.c1
          have HZ4 : Hid (ZAt w wr) := ⟨HRA.out.z0, HRA.out.z1, HRA.out.g0, HRA.out.g1, by have h1 := HRA.out.siz; have h2 := HRA.out.abv; omega⟩
          obtain ⟨z0, z1, g0, g1, _⟩ := HZ4.out
          clear b0 b1
          have hlst := asI_length sz j r
          rw [hlst] at c1
          go_wp2
          have hg := HZ4.out.got (.int .i64 K) (.slice ad j c)
          refine bodyPost_ret (v := .tuple #[.agg #[.int .i64 K, .slice ad j c], .int .i64 0]) (by simp [results, Tryd.results75, go_sem, hg.1, hg.2]) rfl ?_
          have hq1 := HRA.out.siz
          have hq2 := HRA.out.abv
          have hown := HRA.out.own
          rw [hlst] at hown
          have hput : Below (w.heap.size + 1) (wr.setCell ⟨w.heap.size, 0, none⟩ (.int .i64 K)) (wr.setCell ⟨w.heap.size, 0, none⟩ (.int .i64 K)) := Below.refl _ _
          refine ⟨HRA.out.bes.put2 _ _, Or.inr (Or.inr ⟨ad, c, ((K : Int), asI sz j r), r.drop (j * sz), ?_, ?_, ?_, ?_⟩)⟩
          · rw [HSI.out, if_neg (by omega)]
          · simp only [hlst]
          · have h1 : OwnU ((wr.setCell ⟨w.heap.size, 0, none⟩ (.int .i64 K)).setCell ⟨w.heap.size, 1, none⟩ (.slice ad j c)) (q + 1) (.slice ad j c) (asI sz j r) :=
              ⟨owns_set (owns_set hown.1 (b := w.heap.size) (fun g e => by have := (hown.1.lt g e).1; omega) 0 _) (b := w.heap.size) (fun g e => by have := (hown.1.lt g e).1; omega) 1 _, hown.2⟩
            simp only [hlst]
            exact h1.mono (by omega)
          · exact (HRA.out.rdr.set_other _ _ (by simp; omega)).set_other _ _ (by simp; omega)
end Go.Proofs.YtbdfigfjoiefiaaDoor
