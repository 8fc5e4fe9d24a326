/-
  Told prefixes in memory; Encode.
-/
import Derived.Test.YtfhbgpepkplbaaaGreatDoorE2
import Derived.Test.YtfhbgpepkplbaaaGreatDoorN8
namespace Go.Proofs.YtfhbgpepkplbaaaGreatDoor
open Go.RowKit
theorem below_cell {w w' : World} (hb : Below w.heap.size w w') {b i : Nat} {v : Value} (h : w.cell? ⟨b, i, none⟩ = some v) : w'.cell? ⟨b, i, none⟩ = some v := (hb.cell (p := ⟨b, i, none⟩) (lt_of_cell h)).trans h
/-- Told prefixes that lie in a row. -/
def RowN (w : World) (b off : Nat) (R : List Nl) : Prop := ∀ j (h : j < R.length),
  w.cell? ⟨b, off + j * 6, none⟩ = some (.int .i64 R[j].f) ∧ w.cell? ⟨b, off + j * 6 + 1, none⟩ = some (.int .u64 R[j].r) ∧ w.cell? ⟨b, off + j * 6 + 2, none⟩ = some (.string R[j].s) ∧ w.cell? ⟨b, off + j * 6 + 3, none⟩ = some (.int .i64 R[j].l) ∧ w.cell? ⟨b, off + j * 6 + 4, none⟩ = some (.int .u32 R[j].id) ∧ w.cell? ⟨b, off + j * 6 + 5, none⟩ = some (.int .u32 R[j].lb)
def NlsAt (w : World) (v : Value) (R : List Nl) : Prop :=
  ∃ (ad : Option Addr) (b off cap : Nat), v = .slice ad R.length cap ∧ (ad = some ⟨b, off, none⟩ ∨ R.length = 0) ∧ R.length ≤ cap ∧ RowN w b off R
theorem RowN.below {w w' : World} {b off : Nat} {R : List Nl} (h : RowN w b off R) (hb : Below w.heap.size w w') : RowN w' b off R :=
  fun j hj => ⟨below_cell hb (h j hj).1, below_cell hb (h j hj).2.1, below_cell hb (h j hj).2.2.1, below_cell hb (h j hj).2.2.2.1, below_cell hb (h j hj).2.2.2.2.1, below_cell hb (h j hj).2.2.2.2.2⟩
theorem NlsAt.below {w w' : World} {v : Value} {R : List Nl} (h : NlsAt w v R) (hb : Below w.heap.size w w') : NlsAt w' v R := by
  obtain ⟨ad, b, off, cap, h1, h2, h3, h4⟩ := h
  exact ⟨ad, b, off, cap, h1, h2, h3, h4.below hb⟩
theorem cellsN_at (R : List Nl) (i : Nat) (h : i < R.length) : (cellsN R)[i * 6]? = some (.int .i64 R[i].f) ∧ (cellsN R)[i * 6 + 1]? = some (.int .u64 R[i].r) ∧ (cellsN R)[i * 6 + 2]? = some (.string R[i].s) ∧ (cellsN R)[i * 6 + 3]? = some (.int .i64 R[i].l) ∧ (cellsN R)[i * 6 + 4]? = some (.int .u32 R[i].id) ∧ (cellsN R)[i * 6 + 5]? = some (.int .u32 R[i].lb) := by
  induction R generalizing i with
  | nil => simp at h
  | cons r R ih =>
    cases i with
    | zero => simp [cellsN, Nl.cs]
    | succ i =>
      have := ih i (by simpa using h)
      simp only [cellsN, List.flatMap_cons, List.getElem_cons_succ] at *
      rw [show (i + 1) * 6 = i * 6 + 6 by omega, show i * 6 + 6 + 1 = i * 6 + 1 + 6 by omega, show i * 6 + 6 + 2 = i * 6 + 2 + 6 by omega, show i * 6 + 6 + 3 = i * 6 + 3 + 6 by omega, show i * 6 + 6 + 4 = i * 6 + 4 + 6 by omega, show i * 6 + 6 + 5 = i * 6 + 5 + 6 by omega]
      simpa [Nl.cs] using this
theorem cell_of_row {w : World} {b : Nat} {c : Array Value} {t : TypeId} {fr : Nat × Nat} (h : w.heap[b]? = some (.cells c t fr)) (i : Nat) (v : Value) (hv : c.toList[i]? = some v) : w.cell? ⟨b, i, none⟩ = some v := by
  rw [World.cell?, h]
  simpa using hv
theorem OwnN.at {w : World} {base : Nat} {v : Value} {R : List Nl} (h : OwnN w base v R) : NlsAt w v R := by
  obtain ⟨hn, hv⟩ := h
  rcases hv with ⟨rfl, h0⟩ | ⟨g, cap, cur, rfl, hg, hh, hc, hm, hs, ht⟩
  · obtain rfl : R = [] := List.length_eq_zero_iff.mp h0
    exact ⟨none, 0, 0, 0, rfl, Or.inr rfl, by simp, fun j hj => by simp at hj⟩
  · refine ⟨some ⟨g, 0, none⟩, g, 0, cap, rfl, Or.inl rfl, hc, fun j hj => ?_⟩
    have e : ∀ i, i < R.length * 6 → cur.toList[i]? = (cellsN R)[i]? := fun i hi => by
      have : (cur.toList.take (R.length * 6))[i]? = (cellsN R)[i]? := by rw [ht]
      rwa [List.getElem?_take, if_pos hi] at this
    have hk := cellsN_at R j hj
    rw [Nat.zero_add]
    exact ⟨cell_of_row hh _ _ (by rw [e _ (by omega)]; exact hk.1), cell_of_row hh _ _ (by rw [e _ (by omega)]; exact hk.2.1), cell_of_row hh _ _ (by rw [e _ (by omega)]; exact hk.2.2.1), cell_of_row hh _ _ (by rw [e _ (by omega)]; exact hk.2.2.2.1), cell_of_row hh _ _ (by rw [e _ (by omega)]; exact hk.2.2.2.2.1), cell_of_row hh _ _ (by rw [e _ (by omega)]; exact hk.2.2.2.2.2)⟩
/-- The numbers of a told prefix are numbers of their kinds. -/
structure NlWf (n : Nl) : Prop where
  r0 : 0 ≤ n.r
  r1 : n.r < 18446744073709551616
  i0 : 0 ≤ n.id
  i1 : n.id < 4294967296
  b0 : 0 ≤ n.lb
  b1 : n.lb < 4294967296
  z : n.s.size ≤ maxLen
def Nl.enc (n : Nl) (add : Bool) : List UInt8 := nlE n.f add n.r.toNat n.s n.l.toNat n.id.toNat n.lb.toNat
/-- May it be laid? -/
def okE (fam : Int) (add : Bool) (n : Nl) : Bool := decide (nchk n.f n.r n.s n.l n.lb = 0) && (decide (n.f = fam) && (decide (n.id = 0) || add))
theorem okE_iff (fam : Int) (add : Bool) (n : Nl) : okE fam add n = true ↔ nchk n.f n.r n.s n.l n.lb = 0 ∧ n.f = fam ∧ (n.id = 0 ∨ add = true) := by
  unfold okE; simp
def encL (add : Bool) (R : List Nl) : List UInt8 := R.flatMap (Nl.enc · add)
theorem encL_snoc (add : Bool) (R : List Nl) (n : Nl) : encL add (R ++ [n]) = encL add R ++ n.enc add := by simp [encL]
theorem enc_len (n : Nl) (add : Bool) (h : nchk n.f n.r n.s n.l n.lb = 0) : (n.enc add).length ≤ 32 := by
  obtain ⟨hc, _, _⟩ := nchk_zero h
  obtain ⟨hz, hs, h0, h1, _, _⟩ := chk_zero hc
  have hb := szOf_bd n.f
  have a1 : idN add ≤ 4 := by unfold idN; split <;> omega
  have a2 : lbN n.f ≤ 3 := by unfold lbN; split <;> omega
  have a3 : rdN n.f ≤ 8 := by unfold rdN; split <;> omega
  simp only [Nl.enc, nlE, List.length_append, laid_length, List.length_take]
  omega
theorem encL_len (add : Bool) (R : List Nl) (h : ∀ n ∈ R, nchk n.f n.r n.s n.l n.lb = 0) : (encL add R).length ≤ 32 * R.length := by
  induction R with
  | nil => simp [encL]
  | cons n R ih =>
    have h1 := ih fun m hm => h m (List.mem_cons_of_mem _ hm)
    have h2 := enc_len n add (h n (List.mem_cons_self))
    simp only [encL, List.flatMap_cons, List.length_append, List.length_cons] at *
    omega
/-- What Encode answers. -/
def encAns (fam : Int) (add : Bool) (R : List Nl) : Ending := if R.all (okE fam add) then .returned (.tuple #[.string ⟨(encL add R).toArray⟩, .int .i64 0]) else .returned (.tuple #[.string ⟨#[]⟩, .int .i64 2])
theorem take_snoc {α : Type} (l : List α) (n : Nat) (h : n < l.length) : l.take (n + 1) = l.take n ++ [l[n]] := List.take_succ_eq_append_getElem h
theorem encode_arg (fam : Int) (add : Bool) (v : Value) (w : World) (hg : FamSizes w) (hz : szOf fam = 0) :
    Calls Tryz.prog 15 #[v, .int .i64 fam, .bool add] w fun e w' => e = .returned (.tuple #[.string ⟨#[]⟩, .int .i64 2]) ∧ w' = w := by
  have K : Hid (Calls Tryz.prog 34 #[.int .i64 fam] w fun e w' => e = .returned (.int .i64 0) ∧ w' = w) := by unfold Hid; rw [← hz]; exact size_any fam w hg
  clear hz
  go_enter Tryz.func15, Tryz.ntmps15
  go_wp2_with fail
  refine Calls.mono K.out ?_
  rintro e w1 ⟨rfl, rfl⟩
  go_wp2
  go_ret2
  exact ⟨rfl, rfl⟩
set_option maxRecDepth 100000 in
set_option maxHeartbeats 6400000 in
theorem encode_any (fam : Int) (add : Bool) (v : Value) (R : List Nl) (w : World) (hg : FamSizes w) (hr : FamRds w) (hz : szOf fam ≠ 0) (hv : NlsAt w v R) (hwf : ∀ n ∈ R, NlWf n) (hlen : R.length ≤ 30000) :
    Calls Tryz.prog 15 #[v, .int .i64 fam, .bool add] w fun e w' => e = encAns fam add R ∧ Below w.heap.size w w' := by
  obtain ⟨ad, b, off, cap, rfl, had, hcap, hrow⟩ := hv
  have HR : Hid (RowN _ _ _ _) := hrow
  have hz' : (szOf fam == 0) = false := by simpa using hz
  have HG : Hid (FamSizes w) := hg
  have HRD : Hid (FamRds w) := hr
  have HWF : Hid (∀ n ∈ R, NlWf n) := hwf
  clear hg hr hz hrow hwf
  go_enter Tryz.func15, Tryz.ntmps15
  go_wp2_with fail
  refine (size_any fam _ HG.out).mono ?_
  rintro e w0 ⟨rfl, hw0⟩
  obtain rfl : w = w0 := hw0.symm
  clear hw0
  go_wp2_with fail
  refine (shape_any fam add _ HG.out).mono ?_
  rintro e w1 ⟨rfl, hb1⟩
  unfold shp
  have HB1 : Hid (Below w.heap.size w w1) := hb1
  clear hz' hb1
  obtain ⟨W0, hW0⟩ : ∃ W0, W0 = w1.alloc (.cells #[.int .i64 (idN add), .int .i64 (lbN fam), .int .i64 (rdN fam), .int .i64 (szOf fam)] 49) := ⟨_, rfl⟩
  have hbW : Below w.heap.size w W0 := by rw [hW0]; exact HB1.out.alloc HB1.out.size _
  have hsz0 : W0.heap.size = w1.heap.size + 1 := by rw [hW0]; simp
  have g0 : W0.heap[w1.heap.size]? = some (.cells #[.int .i64 (idN add), .int .i64 (lbN fam), .int .i64 (rdN fam), .int .i64 (szOf fam)] 49 (0, 0)) := by rw [hW0]; exact heap_new _ _
  have hq0 : Bld (W0.alloc (.cells #[.pointer none, .slice none 0 0] 62)) (w1.heap.size + 1) (w1.heap.size + 1) [] := by
    rw [← hsz0]
    exact Or.inl ⟨Nat.le_refl _, .slice none 0 0, heap_new _ _, World.ownsRowF_nil _ _ _ _, by simp [Value.ownBlock]⟩
  have hq1 : Below W0.heap.size W0 (W0.alloc (.cells #[.pointer none, .slice none 0 0] 62)) := (Below.refl _ _).alloc (Nat.le_refl _) _
  have HG0 : Hid (FamSizes W0) := HG.out.below hbW
  have HRD0 : Hid (FamRds W0) := HRD.out.below hbW
  have HR0 : Hid (RowN W0 b off R) := HR.out.below hbW
  have HBW : Hid (Below w.heap.size w W0) := hbW
  go_wp2
  rw [← hW0]
  generalize hq : w1.heap.size = q at *
  generalize W0.alloc (.cells #[.pointer none, .slice none 0 0] 62) = W1 at *
  have HS0 : Hid (W0.heap.size = q + 1) := hsz0
  have HG0' : Hid (W0.heap[q]? = _) := g0
  have HST : Hid (Bld W1 (q + 1) (q + 1) [] ∧ Below W0.heap.size W0 W1) := ⟨hq0, hq1⟩
  clear hW0 hbW hsz0 g0 hq0 hq1 HB1 HG HRD HR hq
  go_loopw [20] (fun i wr => ∃ n : Nat, n ≤ R.length ∧ i = .int .i64 n ∧ Bld wr (q + 1) (q + 1) (encL add (R.take n)) ∧ Below W0.heap.size W0 wr ∧ (R.take n).all (okE fam add) = true) (fun i _ => R.length - (intOf i).toNat)
  case atStart => exact ⟨0, Nat.zero_le _, rfl, HST.out.1, HST.out.2, rfl⟩
  case round =>
    obtain ⟨n, hn, rfl, hbd, hb, hall⟩ := hrel
    clear HST
    have HBD : Hid (Bld _ _ _ _) := hbd
    have HB : Hid (Below _ _ _) := hb
    have HALL : Hid (_ = true) := hall
    clear hbd hall
    by_cases hlt : n < R.length
    · obtain rfl : ad = some ⟨b, off, none⟩ := by rcases had with h | h; exact h; omega
      obtain ⟨c0, c1, c2, c3, c4, c5⟩ := (HR0.out.below hb) n hlt
      have hwf := HWF.out R[n] (List.getElem_mem hlt)
      have HX : Hid (encL add (R.take (n + 1)) = encL add (R.take n) ++ R[n].enc add) := by unfold Hid; rw [take_snoc R n hlt, encL_snoc]
      have HAL : Hid ((R.take (n + 1)).all (okE fam add) = okE fam add R[n]) := by
        unfold Hid; rw [take_snoc R n hlt, List.all_append, HALL.out]; simp
      have HNO : Hid (okE fam add R[n] = false → encAns fam add R = .returned (.tuple #[.string ⟨#[]⟩, .int .i64 2])) := fun h => by
        unfold encAns
        rw [if_neg]
        intro ha
        rw [List.all_eq_true] at ha
        have := ha _ (List.getElem_mem hlt)
        rw [h] at this
        exact absurd this (by decide)
      have HEL : Hid ((encL add (R.take n)).length ≤ 1000000) := by
        unfold Hid
        have h1 := encL_len add (R.take n) fun m hm => by
          have := List.all_eq_true.mp HALL.out m hm
          exact ((okE_iff fam add m).1 this).1
        have h2 : (R.take n).length ≤ 30000 := by simp; omega
        omega
      have hpz : q + 1 ≤ wr.heap.size := by have := hb.size; have := HS0.out; omega
      have HOKE : Hid (okE fam add R[n] = true ↔ _) := okE_iff fam add R[n]
      have HGR : Hid (FamSizes wr ∧ FamRds wr) := ⟨HG0.out.below hb, HRD0.out.below hb⟩
      have g0 : wr.heap[q]? = some (.cells #[.int .i64 (idN add), .int .i64 (lbN fam), .int .i64 (rdN fam), .int .i64 (szOf fam)] 49 (0, 0)) := (hb.block q (by have := HS0.out; omega)).trans HG0'.out
      have HG1 : Hid (_ = _) := g0
      clear hb had g0
      unfold Nl.enc at HX
      generalize encL add (R.take n) = E at *
      generalize R[n] = m at *
      obtain ⟨mf, mr, ms, ml, mid, mlb⟩ := m
      obtain ⟨wr0, wr1, wi0, wi1, wb0, wb1, wz⟩ := hwf
      simp only at c0 c1 c2 c3 c4 c5 HX HAL HNO HOKE wr0 wr1 wi0 wi1 wb0 wb1 wz
      have hba : Below wr.heap.size wr (wr.alloc (.cells #[.int .i64 mf, .int .u64 mr, .string ms, .int .i64 ml, .int .u32 mid, .int .u32 mlb] 27)) := (Below.refl _ _).alloc (Nat.le_refl _) _
      have HNC : Hid (_ : Prop) := ncheck_any mf mr ms ml mid mlb (wr.alloc (.cells #[.int .i64 mf, .int .u64 mr, .string ms, .int .i64 ml, .int .u32 mid, .int .u32 mlb] 27)) (HGR.out.1.below hba) (HGR.out.2.below hba)
      have HBA : Hid (Below _ _ _) := hba
      clear hba
      go_wp2_with fail
      refine Calls.mono HNC.out ?_
      rintro e w3 ⟨rfl, hb3⟩
      have hsa : (wr.alloc (.cells #[.int .i64 mf, .int .u64 mr, .string ms, .int .i64 ml, .int .u32 mid, .int .u32 mlb] 27)).heap.size = wr.heap.size + 1 := by simp
      have d0 : w3.cell? ⟨wr.heap.size, 0, none⟩ = some (.int .i64 mf) := below_cell hb3 (by simp)
      have d1 : w3.cell? ⟨wr.heap.size, 1, none⟩ = some (.int .u64 mr) := below_cell hb3 (by simp)
      have d2 : w3.cell? ⟨wr.heap.size, 2, none⟩ = some (.string ms) := below_cell hb3 (by simp)
      have d3 : w3.cell? ⟨wr.heap.size, 3, none⟩ = some (.int .i64 ml) := below_cell hb3 (by simp)
      have d4 : w3.cell? ⟨wr.heap.size, 4, none⟩ = some (.int .u32 mid) := below_cell hb3 (by simp)
      have d5 : w3.cell? ⟨wr.heap.size, 5, none⟩ = some (.int .u32 mlb) := below_cell hb3 (by simp)
      have hbx : Below wr.heap.size wr w3 := HBA.out.trans (hb3.mono (by omega))
      have HB3 : Hid (Below W0.heap.size W0 w3) := HB.out.trans (hbx.mono HB.out.size)
      have HBD3 : Hid (Bld w3 (q + 1) (q + 1) E) := HBD.out.below hbx
      have HSZ3 : Hid (wr.heap.size ≤ w3.heap.size ∧ q + 1 ≤ w3.heap.size) := ⟨hbx.size, Nat.le_trans hpz hbx.size⟩
      have g3 : w3.heap[q]? = some (.cells #[.int .i64 (idN add), .int .i64 (lbN fam), .int .i64 (rdN fam), .int .i64 (szOf fam)] 49 (0, 0)) := (hbx.block q (by omega)).trans HG1.out
      have e0 : w3.cell? ⟨q, 0, none⟩ = some (.int .i64 (idN add)) := cell_row g3 rfl
      have e1 : w3.cell? ⟨q, 1, none⟩ = some (.int .i64 (lbN fam)) := cell_row g3 rfl
      have e2 : w3.cell? ⟨q, 2, none⟩ = some (.int .i64 (rdN fam)) := cell_row g3 rfl
      have e3 : w3.cell? ⟨q, 3, none⟩ = some (.int .i64 (szOf fam)) := cell_row g3 rfl
      have HEND : Hid (Below w.heap.size w w3) := HBW.out.trans (HB3.out.mono HBW.out.size)
      clear hb3 hbx g3 hsa HNC HBA HGR HBD HG1 HB c0 c1 c2 c3 c4 c5
      generalize wr.heap.size = g at *
      by_cases k0 : nchk mf mr ms ml mlb = 0
      · rw [k0]
        by_cases k1 : mf = fam
        · subst k1
          obtain ⟨kc, kl, kb⟩ := nchk_zero k0
          obtain ⟨kz, ks, kl0, kl1, _, _⟩ := chk_zero kc
          have hsb := szOf_bd mf
          obtain ⟨r, rfl⟩ := Int.eq_ofNat_of_zero_le wr0
          obtain ⟨id, rfl⟩ := Int.eq_ofNat_of_zero_le wi0
          obtain ⟨lb, rfl⟩ := Int.eq_ofNat_of_zero_le wb0
          obtain ⟨l, rfl⟩ := Int.eq_ofNat_of_zero_le kl0
          simp only [Int.toNat_natCast] at HX
          have HLY : Hid (Calls Tryz.prog 35 #[.agg #[.int .i64 (idN add), .int .i64 (lbN mf), .int .i64 (rdN mf), .int .i64 (szOf mf)], .pointer (some ⟨q + 1, 0, none⟩), .agg #[.int .i64 mf, .int .u64 (r : Int), .string ms, .int .i64 (l : Int), .int .u32 (id : Int), .int .u32 (lb : Int)]] w3 fun e w' => e = .returned (.tuple #[]) ∧ Bld w' (q + 1) (q + 1) (E ++ nlE mf add r ms l id lb) ∧ Below (q + 1) w3 w' ∧ Lib.OthersKept 5 (some (q + 1)) w3 w') :=
            lay_any mf add r ms l id lb (q + 1) (q + 1) E w3 HBD3.out (by have := HSZ3.out; omega) (by omega) (by omega) (by omega) (by omega) (by omega) (by omega) HEL.out
          have HK0 : Hid (nchk _ _ _ _ _ = 0) := k0
          clear kc kl kb kz ks kl0 kl1 hsb k0 wr0 wr1 wi0 wi1 wb0 wb1 wz
          by_cases k2 : id = 0
          · have HYES : Hid (okE mf add ⟨mf, r, ms, l, id, lb⟩ = true) := HOKE.out.2 ⟨HK0.out, rfl, Or.inl (by simp [k2])⟩
            have k3 : ¬ ((0 : Int) < (id : Int)) := by omega
            have HK2 : Hid (id = 0) := k2
            clear k2
            go_wp2_with fail
            refine Calls.mono HLY.out ?_
            rintro e w4 ⟨rfl, hbd4, hb4, _⟩
            have HBD4 : Hid (Bld _ _ _ _) := hbd4
            have HB4 : Hid (Below W0.heap.size W0 w4) := by unfold Hid; rw [HS0.out]; rw [HS0.out] at HB3; exact HB3.out.trans hb4
            clear hbd4 hb4 d0 d1 d2 d3 d4 d5 e0 e1 e2 e3
            go_wp2
            go_roundw
            case rel => exact ⟨n + 1, by omega, by go_num, by rw [HX.out]; exact HBD4.out, HB4.out, by rw [HAL.out]; exact HYES.out⟩
            case measure => simp [intOf]; omega

          · have k3 : (0 : Int) < (id : Int) := by omega
            clear k2
            cases add with
            | true =>
              have HYES : Hid (okE mf true ⟨mf, r, ms, l, id, lb⟩ = true) := HOKE.out.2 ⟨HK0.out, rfl, Or.inr rfl⟩
              go_wp2_with fail
              refine Calls.mono HLY.out ?_
              rintro e w4 ⟨rfl, hbd4, hb4, _⟩
              have HBD4 : Hid (Bld _ _ _ _) := hbd4
              have HB4 : Hid (Below W0.heap.size W0 w4) := by unfold Hid; rw [HS0.out]; rw [HS0.out] at HB3; exact HB3.out.trans hb4
              clear hbd4 hb4 d0 d1 d2 d3 d4 d5 e0 e1 e2 e3
              go_wp2
              go_roundw
              case rel => exact ⟨n + 1, by omega, by go_num, by rw [HX.out]; exact HBD4.out, HB4.out, by rw [HAL.out]; exact HYES.out⟩
              case measure => simp [intOf]; omega

            | false =>
              have HN2 : Hid (encAns mf false R = _) := HNO.out (by
                cases h : okE mf false ⟨mf, r, ms, l, id, lb⟩ with
                | false => rfl
                | true =>
                  have := (HOKE.out.1 h).2.2
                  rcases this with h | h
                  · omega
                  · exact absurd h (by decide))
              clear HLY
              go_wp2
              go_ret2
              rw [HN2.out]
              exact ⟨rfl, HEND.out⟩
        · have k1' : (mf == fam) = false := by simpa using k1
          have k1n : (mf != fam) = true := by simpa using k1
          have HN2 : Hid (encAns fam add R = _) := HNO.out (by
            cases h : okE fam add ⟨mf, mr, ms, ml, mid, mlb⟩ with
            | false => rfl
            | true => exact absurd (HOKE.out.1 h).2.1 k1)
          clear k1 k0
          go_wp2
          go_ret2
          rw [HN2.out]
          exact ⟨rfl, HEND.out⟩
      · have HN2 : Hid (encAns fam add R = _) := HNO.out (by
          cases h : okE fam add ⟨mf, mr, ms, ml, mid, mlb⟩ with
          | false => rfl
          | true => exact absurd (HOKE.out.1 h).1 k0)
        rw [nchk_two k0]
        clear k0
        go_wp2
        go_ret2
        rw [HN2.out]
        exact ⟨rfl, HEND.out⟩
    · obtain rfl : n = R.length := by omega
      have HA2 : Hid (encAns fam add R = .returned (.tuple #[.string ⟨(encL add R).toArray⟩, .int .i64 0])) := by
        unfold Hid encAns
        rw [if_pos]
        have := HALL.out
        rwa [List.take_length] at this
      rw [List.take_length] at HBD
      have hpz : q + 1 ≤ wr.heap.size := by have := hb.size; have := HS0.out; omega
      have HSTR : Hid (_ : Prop) := Tryz.Builder_String_any_k (q + 1) (q + 1) (encL add R) wr HBD.out hpz
      clear hb had
      go_wp2_with fail
      refine Calls.mono HSTR.out ?_
      rintro e w5 ⟨rfl, _, hb5, _⟩
      have HB5 : Hid (Below W0.heap.size W0 w5) := by unfold Hid; rw [HS0.out]; rw [HS0.out] at HB; exact HB.out.trans hb5
      clear hb5
      go_wp2
      go_ret2
      rw [HA2.out]
      exact ⟨rfl, HBW.out.trans (HB5.out.mono HBW.out.size)⟩
end Go.Proofs.YtfhbgpepkplbaaaGreatDoor
