/-
  Lists of told prefixes, and Decode.
-/
import Derived.Test.YtfhbgpepkplbaaaGreatDoorN7
import Derived.Deep.AppendLies
import Derived.LoopN
namespace Go.Proofs.YtfhbgpepkplbaaaGreatDoor
open Go.RowKit
theorem news6 (w : World) (a b c d e f : Value) (t : TypeId) : ∀ (j : Nat) (u : Value), [a, b, c, d, e, f][j]? = some u → (w.alloc (.cells #[a, b, c, d, e, f] t)).cell? (Addr.add ⟨w.heap.size, 0, none⟩ j) = some u := by
  intro j u hj
  rcases j with _ | _ | _ | _ | _ | _ | j
  · simp at hj; subst hj; simp [Addr.add]
  · simp at hj; subst hj; simp [Addr.add]
  · simp at hj; subst hj; simp [Addr.add]
  · simp at hj; subst hj; simp [Addr.add]
  · simp at hj; subst hj; simp [Addr.add]
  · simp at hj; subst hj; simp [Addr.add]
  · simp at hj
theorem slice_of_owns {w : World} {base : Nat} {e : TypeId} {size : Nat} {v : Value} {n : Nat} {xs : List Value} (h : w.ownsRow base e size v n xs) : ∃ ad c, v = .slice ad n c := by
  obtain ⟨_, h | ⟨g, cap, cur, h, _⟩⟩ := h
  · exact ⟨none, 0, by rw [h.1, h.2]⟩
  · exact ⟨_, _, h⟩
theorem owns_mono {w : World} {base base' : Nat} {e : TypeId} {size : Nat} {v : Value} {n : Nat} {xs : List Value} (h : w.ownsRow base e size v n xs) (hb : base' ≤ base) : w.ownsRow base' e size v n xs := by
  obtain ⟨h0, h | ⟨g, cap, cur, h, hg, k⟩⟩ := h
  · exact ⟨h0, Or.inl h⟩
  · exact ⟨h0, Or.inr ⟨g, cap, cur, h, Nat.le_trans hb hg, k⟩⟩
theorem owns_heap' {w w' : World} {base : Nat} {e : TypeId} {size : Nat} {v : Value} {n : Nat} {xs : List Value} (h : w.ownsRow base e size v n xs) (hh : ∀ g, v.ownBlock = some g → w'.heap[g]? = w.heap[g]?) : w'.ownsRow base e size v n xs := by
  obtain ⟨h0, h | ⟨g, cap, cur, rfl, hg, hk, r⟩⟩ := h
  · exact ⟨h0, Or.inl h⟩
  · exact ⟨h0, Or.inr ⟨g, cap, cur, rfl, hg, (hh g rfl).trans hk, r⟩⟩
theorem owns_lt {w : World} {base : Nat} {e : TypeId} {size : Nat} {v : Value} {n : Nat} {xs : List Value} (h : w.ownsRow base e size v n xs) (g : Nat) (hg : v.ownBlock = some g) : base ≤ g ∧ g < w.heap.size := by
  obtain ⟨h0, h | ⟨g', cap, cur, rfl, hg', hk, r⟩⟩ := h
  · rw [h.1] at hg; exact absurd hg (by simp [Value.ownBlock])
  · have : g' = g := by simpa [Value.ownBlock] using hg
    subst this
    exact ⟨hg', (Array.getElem?_eq_some_iff.mp hk).1⟩
theorem owns_below {w w' : World} {base : Nat} {e : TypeId} {size : Nat} {v : Value} {n : Nat} {xs : List Value} (h : w.ownsRow base e size v n xs) (hb : Below w.heap.size w w') : w'.ownsRow base e size v n xs :=
  owns_heap' h fun g hg => hb.block g (owns_lt h g hg).2
theorem owns_beside {w w' : World} {base p : Nat} {e : TypeId} {size : Nat} {v : Value} {n : Nat} {xs : List Value} (h : w.ownsRow base e size v n xs) (hb : Beside p w w') (hp : p < base) : w'.ownsRow base e size v n xs :=
  owns_heap' h fun g hg => hb.block g (owns_lt h g hg).2 (by have := (owns_lt h g hg).1; omega)
def Nl.cs (n : Nl) : List Value := [.int .i64 n.f, .int .u64 n.r, .string n.s, .int .i64 n.l, .int .u32 n.id, .int .u32 n.lb]
def Nl.val (n : Nl) : Value := .agg #[.int .i64 n.f, .int .u64 n.r, .string n.s, .int .i64 n.l, .int .u32 n.id, .int .u32 n.lb]
def cellsN (R : List Nl) : List Value := R.flatMap Nl.cs
theorem cellsN_snoc (R : List Nl) (n : Nl) : cellsN (R ++ [n]) = cellsN R ++ [.int .i64 n.f, .int .u64 n.r, .string n.s, .int .i64 n.l, .int .u32 n.id, .int .u32 n.lb] := by simp [cellsN, Nl.cs]
/-- Told prefixes in a row of their own. -/
def OwnN (w : World) (base : Nat) (v : Value) (R : List Nl) : Prop := w.ownsRow base 27 6 v R.length (cellsN R)
theorem info27 : (Tryz.prog.info? 27).map (fun i => (i.zero, i.size, i.bytes)) = some (some (.agg #[.int .i64 0, .int .u64 0, .string ⟨#[]⟩, .int .i64 0, .int .u32 0, .int .u32 0]), 6, 48) := by kernel_rfl
theorem six_nl (a b c d e : Int) (s : ByteArray) : ∀ u ∈ [Value.int .i64 a, .int .u64 b, .string s, .int .i64 c, .int .u32 d, .int .u32 e], u.oneCell' = true := by
  intro u hu
  simp at hu
  rcases hu with h | h | h | h | h | h <;> subst h <;> rfl
def okB (f : Int) (add : Bool) (l : List UInt8) : Bool :=
  decide (idN add + 1 ≤ l.length) && (decide (0 ≤ bitI' f add l) && (decide (bitI' f add l ≤ 8 * szOf f) && (decide ((hdN f add : Int) + byN (bitI' f add l) ≤ l.length) && (decide (lbN f = 0) || (labI (labV f add l)).2))))
theorem okB_iff (f : Int) (add : Bool) (l : List UInt8) : okB f add l = true ↔ okI f add l := by
  unfold okB okI
  simp
/-- The told prefixes of bytes. -/
def decI (f : Int) (add : Bool) : Nat → List UInt8 → Option (List Nl)
  | 0, l => if l = [] then some [] else none
  | n + 1, l => if l = [] then some [] else if okB f add l = true then (decI f add n (restI f add l)).map (nlI f add l :: ·) else none
theorem decI_nil (f : Int) (add : Bool) (n : Nat) : decI f add n [] = some [] := by cases n <;> simp [decI]
theorem decI_bad (f : Int) (add : Bool) (n : Nat) (l : List UInt8) (hl : l ≠ []) (h : ¬ okI f add l) : decI f add n l = none := by
  have hb : okB f add l = false := by rw [Bool.eq_false_iff]; exact fun e => h ((okB_iff f add l).1 e)
  cases n <;> simp [decI, hl, hb]
theorem decI_step (f : Int) (add : Bool) (n : Nat) (l : List UInt8) (hl : l ≠ []) (h : okI f add l) : decI f add (n + 1) l = (decI f add n (restI f add l)).map (nlI f add l :: ·) := by
  simp [decI, hl, (okB_iff f add l).2 h]
theorem rest_lt (f : Int) (add : Bool) (l : List UInt8) (hl : l ≠ []) : (restI f add l).length + 1 ≤ l.length := by
  have h1 : 1 ≤ l.length := by cases l with | nil => exact absurd rfl hl | cons => simp
  unfold restI hdN
  rw [List.length_drop]
  omega
def leftAt (w : World) (p : Nat) : Nat := match w.cell? ⟨p, 1, none⟩ with | some (.string s) => s.size | _ => 0
theorem RdrAt.left {w : World} {p : Nat} {s : ByteArray} (h : RdrAt w p s) : leftAt w p = s.size := by unfold leftAt; rw [h.c1]
/-- What Decode answers. -/
def DecOk (x : Option (List Nl)) (w : World) (e : Ending) (w' : World) : Prop :=
  Below w.heap.size w w' ∧ match x with
  | some R => ∃ v, e = .returned (.tuple #[v, .int .i64 0]) ∧ OwnN w' w.heap.size v R
  | none => e = .returned (.tuple #[.slice none 0 0, .int .i64 4])
theorem decode_arg (f : Int) (add : Bool) (s : ByteArray) (w : World) (hg : FamSizes w) (hz : szOf f = 0) :
    Calls Tryz.prog 20 #[.string s, .int .i64 f, .bool add] w fun e w' => e = .returned (.tuple #[.slice none 0 0, .int .i64 2]) ∧ w' = w := by
  have K : Hid (Calls Tryz.prog 34 #[.int .i64 f] w fun e w' => e = .returned (.int .i64 0) ∧ w' = w) := by unfold Hid; rw [← hz]; exact size_any f w hg
  clear hz
  go_enter Tryz.func20, Tryz.ntmps20
  go_wp2_with fail
  refine Calls.mono K.out ?_
  rintro e w1 ⟨rfl, rfl⟩
  go_wp2
  go_ret2
  exact ⟨rfl, rfl⟩
set_option maxRecDepth 100000 in
set_option maxHeartbeats 3200000 in
theorem decode_any (f : Int) (add : Bool) (l : List UInt8) (w : World) (hg : FamSizes w) (hz : szOf f ≠ 0) (hl : l.length ≤ 1000000) :
    Calls Tryz.prog 20 #[.string ⟨l.toArray⟩, .int .i64 f, .bool add] w fun e w' => DecOk (decI f add l.length l) w e w' := by
  obtain ⟨i0, hi, hz0, hz1, hz2⟩ := info_parts info27
  obtain ⟨X, hX⟩ : ∃ X, X = decI f add l.length l := ⟨_, rfl⟩
  have HX : Hid (_ = _) := hX
  rw [← hX]
  clear hX
  have hz' : (szOf f == 0) = false := by simpa using hz
  have HG : Hid (FamSizes w) := hg
  clear hg hz
  go_enter Tryz.func20, Tryz.ntmps20
  go_wp2_with fail
  refine (size_any f _ HG.out).mono ?_
  rintro e w0 ⟨rfl, hw0⟩
  obtain rfl : w = w0 := hw0.symm
  clear hw0
  go_wp2_with fail
  refine (shape_any f add _ HG.out).mono ?_
  rintro e w1 ⟨rfl, hb1⟩
  unfold shp
  have HB1 : Hid (Below w.heap.size w (w1.alloc (.cells #[.int .i64 (idN add), .int .i64 (lbN f), .int .i64 (rdN f), .int .i64 (szOf f)] 49))) := hb1.alloc hb1.size _
  have hq1 : w.heap.size ≤ w1.heap.size := hb1.size
  clear hz' hb1
  go_wp2_with fail
  refine (new_any ⟨l.toArray⟩ _).mono ?_
  rintro e w2 ⟨rfl, hr2, hb2, hs2⟩
  have hsw : (w1.alloc (.cells #[.int .i64 (idN add), .int .i64 (lbN f), .int .i64 (rdN f), .int .i64 (szOf f)] 49)).heap.size = w1.heap.size + 1 := by simp
  rw [hsw] at hr2 hb2 hs2
  have HS : Hid (w2.cell? ⟨w1.heap.size, 0, none⟩ = some (.int .i64 (idN add)) ∧ w2.cell? ⟨w1.heap.size, 1, none⟩ = some (.int .i64 (lbN f)) ∧ w2.cell? ⟨w1.heap.size, 2, none⟩ = some (.int .i64 (rdN f)) ∧ w2.cell? ⟨w1.heap.size, 3, none⟩ = some (.int .i64 (szOf f))) :=
    ⟨(hb2.cell (p := ⟨w1.heap.size, 0, none⟩) (by simp)).trans (by simp), (hb2.cell (p := ⟨w1.heap.size, 1, none⟩) (by simp)).trans (by simp), (hb2.cell (p := ⟨w1.heap.size, 2, none⟩) (by simp)).trans (by simp), (hb2.cell (p := ⟨w1.heap.size, 3, none⟩) (by simp)).trans (by simp)⟩
  have HB2 : Hid (Below w.heap.size w w2) := HB1.out.trans (hb2.mono (by omega))
  have HR2 : Hid (RdrAt w2 (w1.heap.size + 1) ⟨l.toArray⟩) := hr2
  have hp2 : w1.heap.size + 1 < w2.heap.size := by omega
  rw [hsw]
  generalize hq : w1.heap.size = q at *
  have HQ : Hid (w.heap.size ≤ q) := hq1
  clear hr2 hb2 hs2 hsw HB1 hq1 hq
  go_wp2
  go_loopw [10] (fun t wr => ∃ (R : List Nl) (rest : List UInt8), OwnN wr w2.heap.size t R ∧ RdrAt wr (q + 1) ⟨rest.toArray⟩ ∧ Beside (q + 1) w2 wr ∧ R.length + rest.length ≤ l.length ∧ X = (decI f add (l.length - R.length) rest).map (R ++ ·)) (fun _ wr => leftAt wr (q + 1))
  case atStart => exact ⟨[], l, World.ownsRow_nil _ _ _ _, HR2.out, Beside.of_below (Below.refl _ _) (Nat.le_refl _), by simp, by rw [HX.out]; simp⟩
  case round =>
    obtain ⟨R, rest, ho, hrd, hbs, hlen, hx⟩ := hrel
    obtain ⟨ad, c, rfl⟩ := slice_of_owns ho
    have HO : Hid (OwnN wr w2.heap.size _ R) := ho
    have HRD : Hid (RdrAt _ _ _) := hrd
    have HBS : Hid (Beside _ _ _) := hbs
    have HXX : Hid (X = _) := hx
    have HLF : Hid (leftAt wr (q + 1) = rest.length) := by unfold Hid; rw [hrd.left, list_size]
    have hlen2 : R.length ≤ 1000000 := by omega
    have hlr : rest.length ≤ 1000000 := by omega
    have HLEN : Hid (_ ≤ _) := hlen
    have c0 := hbs.cell HS.out.1 (by omega)
    have c1 := hbs.cell HS.out.2.1 (by omega)
    have c2 := hbs.cell HS.out.2.2.1 (by omega)
    have c3 := hbs.cell HS.out.2.2.2 (by omega)
    clear ho hrd hbs hx hlen
    go_wp2_with fail
    refine (left_any _ _ wr HRD.out).mono ?_
    rintro e w3 ⟨rfl, hw3⟩
    obtain rfl : wr = w3 := hw3.symm
    rw [list_size]
    clear hw3
    by_cases hnil : rest = []
    · have HXN : Hid (X = some R) := by unfold Hid; rw [HXX.out, hnil, decI_nil]; simp
      subst hnil
      simp only [List.length_nil]
      clear HXX
      go_wp2
      go_ret2
      rw [HXN.out]
      have hbw : Below w.heap.size w wr := HB2.out.trans (HBS.out.below (by have := HQ.out; omega) HB2.out.size)
      exact ⟨hbw, .slice ad R.length c, rfl, owns_mono HO.out HB2.out.size⟩
    · have HNE : Hid (rest ≠ []) := hnil
      have hpos : (0 : Int) < rest.length := by cases rest with | nil => exact absurd rfl hnil | cons => simp
      clear hnil
      by_cases hok : okI f add rest
      · have HN : Hid (X = (decI f add (l.length - (R.length + 1)) (restI f add rest)).map ((R ++ [nlI f add rest]) ++ ·)) := by
          unfold Hid
          have h1 := HLEN.out
          rw [HXX.out, show l.length - R.length = (l.length - (R.length + 1)) + 1 by omega, decI_step _ _ _ _ HNE.out hok]
          cases decI f add (l.length - (R.length + 1)) (restI f add rest) <;> simp
        have HLE : Hid ((restI f add rest).length + 1 ≤ rest.length) := rest_lt f add rest HNE.out
        have KT : Hid (_ : Prop) := takeN_yes (q + 1) f add rest wr HRD.out hlr hok
        have HF : Hid ((nlI f add rest).f = f) := rfl
        generalize nlI f add rest = n at *
        generalize restI f add rest = rest' at *
        obtain ⟨nf, nr, ns, nl, nid, nlb⟩ := n
        simp only at KT HF
        clear HXX hok
        go_wp2_with fail
        refine Calls.mono KT.out ?_
        rintro e w4 ⟨rfl, hr4, hb4⟩
        obtain rfl : f = nf := HF.out.symm
        have HO4 : Hid (OwnN w4 w2.heap.size _ R) := owns_beside HO.out hb4 (by omega)
        have HB4 : Hid (Beside (q + 1) w2 w4) := HBS.out.trans hb4
        have h4 := HB4.out.size
        have hba : Below w4.heap.size w4 (w4.alloc (.cells #[.int .i64 f, .int .u64 nr, .string ns, .int .i64 nl, .int .u32 nid, .int .u32 nlb] 27)) := (Below.refl _ _).alloc (Nat.le_refl _) _
        have HO5 : Hid (OwnN (w4.alloc (.cells #[.int .i64 f, .int .u64 nr, .string ns, .int .i64 nl, .int .u32 nid, .int .u32 nlb] 27)) w2.heap.size _ R) := owns_below HO4.out hba
        have HB5 : Hid (Beside (q + 1) w2 (w4.alloc (.cells #[.int .i64 f, .int .u64 nr, .string ns, .int .i64 nl, .int .u32 nid, .int .u32 nlb] 27))) := HB4.out.then (hba.mono h4)
        have HR5 : Hid (RdrAt (w4.alloc (.cells #[.int .i64 f, .int .u64 nr, .string ns, .int .i64 nl, .int .u32 nid, .int .u32 nlb] 27)) (q + 1) ⟨rest'.toArray⟩) := hr4.kept hba hr4.lt
        have HNW : Hid (∀ (j : Nat) (u : Value), ([.int .i64 f, .int .u64 nr, .string ns, .int .i64 nl, .int .u32 nid, .int .u32 nlb] : List Value)[j]? = some u → ((w4.alloc (.cells #[.int .i64 f, .int .u64 nr, .string ns, .int .i64 nl, .int .u32 nid, .int .u32 nlb] 27)).alloc (.cells #[.int .i64 f, .int .u64 nr, .string ns, .int .i64 nl, .int .u32 nid, .int .u32 nlb] 27)).cell? (Addr.add ⟨w4.heap.size + 1, 0, none⟩ j) = some u) := by
          have h := news6 (w4.alloc (.cells #[.int .i64 f, .int .u64 nr, .string ns, .int .i64 nl, .int .u32 nid, .int .u32 nlb] 27)) (.int .i64 f) (.int .u64 nr) (.string ns) (.int .i64 nl) (.int .u32 nid) (.int .u32 nlb) 27
          rw [show (w4.alloc (.cells #[.int .i64 f, .int .u64 nr, .string ns, .int .i64 nl, .int .u32 nid, .int .u32 nlb] 27)).heap.size = w4.heap.size + 1 by simp] at h
          exact h
        clear hba HO4 HB4 hr4 hb4 HO HBS HRD HF c0 c1 c2 c3
        go_wp2_with (at_builtin; refine wpList_append_own _ rfl _ _ 35 rfl w2.heap.size 27 i0 (.agg #[.int .i64 0, .int .u64 0, .string ⟨#[]⟩, .int .i64 0, .int .u32 0, .int .u32 0]) 6 48 Tryz.underlying35 hi hz0 hz1 hz2 rfl (by decide) _ _ _ rfl (World.ownsRow.alloc HO5.out _) ⟨w4.heap.size + 1, 0, none⟩ 1 1 [.int .i64 f, .int .u64 nr, .string ns, .int .i64 nl, .int .u32 nid, .int .u32 nlb] rfl rfl HNW.out (six_nl _ _ _ _ _ _) (by unfold maxLen; omega) (by omega) (Nat.le_trans HB5.out.size (by simp)) ?_; intro v6 w6 hown6 hgrow6 _)
        have hos : OwnN w6 w2.heap.size v6 (R ++ [⟨f, nr, ns, nl, nid, nlb⟩]) := by
          unfold OwnN; rw [cellsN_snoc, List.length_append]; exact hown6
        obtain ⟨ad6, c6, rfl⟩ := slice_of_owns hown6
        have hbw : Below w2.heap.size (w4.alloc (.cells #[.int .i64 f, .int .u64 nr, .string ns, .int .i64 nl, .int .u32 nid, .int .u32 nlb] 27)) w6 := ((Below.refl _ _).alloc HB5.out.size _).grown hgrow6 (Nat.le_trans HB5.out.size (by simp)) (fun k e => (owns_lt HO5.out k e).1)
        have HB6 : Hid (Beside (q + 1) w2 w6) := HB5.out.then hbw
        have HR6 : Hid (RdrAt w6 (q + 1) ⟨rest'.toArray⟩) := HR5.out.kept hbw hp2
        clear hown6 hgrow6 hbw
        go_roundw
        case rel => exact ⟨_, rest', hos, HR6.out, HB6.out, by have h1 := HLEN.out; have h2 := HLE.out; simp; omega, by rw [List.length_append]; exact HN.out⟩
        case measure => rw [HLF.out, HR6.out.left, list_size]; have h2 := HLE.out; omega
      · have HXN : Hid (X = none) := by unfold Hid; rw [HXX.out, decI_bad _ _ _ _ HNE.out hok]; rfl
        have KT : Hid (_ : Prop) := takeN_no (q + 1) f add rest wr HRD.out hlr hok
        clear HXX hok
        go_wp2_with fail
        refine Calls.mono KT.out ?_
        rintro e w4 ⟨rfl, hb4⟩
        have HB4 : Hid (Beside (q + 1) w2 w4) := HBS.out.trans hb4
        clear hb4
        go_wp2
        go_ret2
        rw [HXN.out]
        have hbw : Below w.heap.size w w4 := HB2.out.trans (HB4.out.below (by have := HQ.out; omega) HB2.out.size)
        exact ⟨hbw.alloc hbw.size _, rfl⟩
end Go.Proofs.YtfhbgpepkplbaaaGreatDoor
