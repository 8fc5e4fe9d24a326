/-
  Messages of any size one behind the other: their bytes are cut into them again; frames in memory.
-/
import Derived.Test.YtfhapjhkjdifjaaGreatDoorFZ2
namespace Go.Proofs.YtfhapjhkjdifjaaGreatDoor.Fr
open Go.RowKit
theorem cell_of_row {w : World} {b : Nat} {cs : Array Value} {t : TypeId} {fr : Nat × Nat} (hh : w.heap[b]? = some (.cells cs t fr)) (i : Nat) (v : Value) (h : cs.toList[i]? = some v) : w.cell? ⟨b, i, none⟩ = some v := by
  rw [World.cell?, hh]
  simpa using h
def RowF (w : World) (b off : Nat) (R : List Fm) : Prop := ∀ j (h : j < R.length),
  w.cell? ⟨b, off + j * 2, none⟩ = some (.int .i64 (R[j].k : Int)) ∧ w.cell? ⟨b, off + j * 2 + 1, none⟩ = some (.string ⟨R[j].b.toArray⟩)
def FmsAt (w : World) (v : Value) (R : List Fm) : Prop :=
  ∃ (ad : Option Addr) (b off cap : Nat), v = .slice ad R.length cap ∧ (ad = some ⟨b, off, none⟩ ∨ R.length = 0) ∧ R.length ≤ cap ∧ RowF w b off R
theorem cellsF_at (R : List Fm) : ∀ j (h : j < R.length), (cellsF R)[j * 2]? = some (.int .i64 (R[j].k : Int)) ∧ (cellsF R)[j * 2 + 1]? = some (.string ⟨R[j].b.toArray⟩) := by
  induction R with
  | nil => intro j h; simp at h
  | cons f R ih =>
    intro j h
    have e : cellsF (f :: R) = (.int .i64 (f.k : Int)) :: (.string ⟨f.b.toArray⟩) :: cellsF R := by simp [cellsF, Fm.cs]
    rw [e]
    cases j with
    | zero => simp
    | succ j =>
      have := ih j (by simpa using h)
      rw [show (j + 1) * 2 = j * 2 + 1 + 1 by omega]
      simpa using this
theorem OwnF.at {w : World} {base : Nat} {v : Value} {R : List Fm} (h : OwnF w base v R) : FmsAt w v R := by
  obtain ⟨hn, hv⟩ := h
  rcases hv with ⟨rfl, h0⟩ | ⟨g, cap, cur, rfl, hg, hh, hc, hm, hs, ht⟩
  · obtain rfl : R = [] := List.length_eq_zero_iff.mp h0
    exact ⟨none, 0, 0, 0, rfl, Or.inr rfl, by simp, fun j hj => by simp at hj⟩
  · refine ⟨some ⟨g, 0, none⟩, g, 0, cap, rfl, Or.inl rfl, hc, fun j hj => ?_⟩
    have e : ∀ i, i < R.length * 2 → cur.toList[i]? = (cellsF R)[i]? := fun i hi => by
      have : (cur.toList.take (R.length * 2))[i]? = (cellsF R)[i]? := by rw [ht]
      rwa [List.getElem?_take, if_pos hi] at this
    have hk := cellsF_at R j hj
    rw [Nat.zero_add]
    exact ⟨cell_of_row hh _ _ (by rw [e _ (by omega)]; exact hk.1), cell_of_row hh _ _ (by rw [e _ (by omega)]; exact hk.2)⟩
def intOf : Value → Int
  | .int _ n => n
  | _ => 0
theorem ext_take (c : List UInt8) (n : Nat) : (⟨c.toArray⟩ : ByteArray).extract 0 n = ⟨(c.take n).toArray⟩ := by
  apply ByteArray.ext
  rw [ByteArray.data_extract]
  apply Array.toList_inj.1
  simp
theorem ext_drop (c : List UInt8) (n : Nat) : (⟨c.toArray⟩ : ByteArray).extract n c.length = ⟨(c.drop n).toArray⟩ := by
  apply ByteArray.ext
  rw [ByteArray.data_extract]
  apply Array.toList_inj.1
  simp
  rw [List.take_of_length_le (by simp)]
/-- Small numbers in memory. -/
def U8sAt (w : World) (v : Value) (L : List Nat) : Prop :=
  ∃ (ad : Option Addr) (b off cap : Nat), v = .slice ad L.length cap ∧ (ad = some ⟨b, off, none⟩ ∨ L.length = 0) ∧ L.length ≤ cap ∧ ∀ j (h : j < L.length), w.cell? ⟨b, off + j, none⟩ = some (.int .u8 (L[j] : Int))
theorem cellsF_app (A B : List Fm) : cellsF (A ++ B) = cellsF A ++ cellsF B := by simp [cellsF]
theorem cellsF_len (A : List Fm) : (cellsF A).length = A.length * 2 := by
  induction A with
  | nil => rfl
  | cons f A ih => simp only [cellsF, List.flatMap_cons, List.length_append, List.length_cons] at *; rw [ih]; simp [Fm.cs]; omega
theorem cellsF_one (A : List Fm) : ∀ u ∈ cellsF A, u.oneCell' = true := by
  intro u hu
  simp only [cellsF, List.mem_flatMap] at hu
  obtain ⟨f, _, hf⟩ := hu
  simp only [Fm.cs, List.mem_cons, List.not_mem_nil, or_false] at hf
  rcases hf with rfl | rfl <;> rfl
theorem own_news {w : World} {base : Nat} {ad : Option Addr} {n c : Nat} {R : List Fm} (h : OwnF w base (.slice ad n c) R) (hR : R ≠ []) : ∃ g, ad = some ⟨g, 0, none⟩ ∧ n = R.length ∧ ∀ (j : Nat) (u : Value), (cellsF R)[j]? = some u → w.cell? (Addr.add ⟨g, 0, none⟩ j) = some u := by
  obtain ⟨hn, ⟨hv, h1⟩ | ⟨g, cap, cur, hv, hg, hh, hc, hm, hs, ht⟩⟩ := h
  · exact absurd (List.length_eq_zero_iff.mp h1) hR
  · simp only [Value.slice.injEq] at hv
    refine ⟨g, hv.1, hv.2.1, fun j u hj => ?_⟩
    have hjl : j < R.length * 2 := by have := (List.getElem?_eq_some_iff.1 hj).1; rw [cellsF_len] at this; exact this
    have e : cur.toList[j]? = (cellsF R)[j]? := by
      have t2 : (cur.toList.take (R.length * 2))[j]? = (cellsF R)[j]? := by rw [ht]
      rwa [List.getElem?_take, if_pos hjl] at t2
    have ha : (⟨g, 0, none⟩ : Addr).add j = ⟨g, j, none⟩ := by unfold Addr.add; split <;> simp_all
    rw [ha]
    exact cell_of_row hh _ _ (e.trans hj)
theorem own_cap {w : World} {base : Nat} {ad : Option Addr} {n c : Nat} {R : List Fm} (h : OwnF w base (.slice ad n c) R) : n ≤ c := by
  obtain ⟨hn, ⟨hv, h1⟩ | ⟨g, cap, cur, hv, hg, hh, hc, hm, hs, ht⟩⟩ := h
  · simp only [Value.slice.injEq] at hv; omega
  · simp only [Value.slice.injEq] at hv; omega
theorem run_app_none (ad ad' : Option Addr) (n c c' : Nat) (w : World) (h : n ≤ c) : (Builtin.append_ #[29, 29] 29 #[.slice ad n c, .slice ad' 0 c']).run Tryz.prog w = .ok (.slice ad n c) w := by
  obtain ⟨i0, hi, hz0, hz1, hz2⟩ := info_parts info37
  cases ad with
  | none =>
    cases ad' with
    | none => simp [Builtin.append_, run_underlying Tryz.underlying29, Builtin.lenOf, Builtin.firstCells, sizeOf, typeInfo, hi, h]
    | some a' => simp [Builtin.append_, run_underlying Tryz.underlying29, Builtin.lenOf, Builtin.firstCells, sizeOf, typeInfo, hi, h, loadCells, loadCellsFrom]
  | some a =>
    cases ad' with
    | none => simp [Builtin.append_, run_underlying Tryz.underlying29, Builtin.lenOf, Builtin.firstCells, sizeOf, typeInfo, hi, h, storeCells]
    | some a' => simp [Builtin.append_, run_underlying Tryz.underlying29, Builtin.lenOf, Builtin.firstCells, sizeOf, typeInfo, hi, h, storeCells, loadCells, loadCellsFrom]
theorem wpList_append_run (w : World) {ops : Array Oper} {rest : List Oper} {o : Oper} {a : Act} {Q : Exit → Act → World → Prop} (hgd : o.guard = none) (s x : Operand) (t : TypeId)
    (ho : o.op = .call { callee := .builtin .append, args := #[s, x], argTypes := #[t, t] }) (v u : Value) (hs : a.eval s = v) (hx : a.eval x = u) {r : Value} {w' : World}
    (hr : (Builtin.append_ #[t, t] o.type #[v, u]).run Tryz.prog w = .ok r w') (h : wpList Tryz.prog ops Q rest (a.put o.dst r) w') : wpList Tryz.prog ops Q (o :: rest) a w :=
  wpList_plain hgd fun _ hK => by
    unfold Oper.wp
    simp only [execOp, ho, resolve, invoke, builtin, Sem.run_bind, Sem.run_pure, Result.andThen_ok, List.map_toArray, List.map_cons, List.map_nil, hs, hx, hr]
    exact hK _ _ h
theorem run_frames_le2 (c : List UInt8) : ∀ s, (runI s c).2.length ≤ c.length := by
  induction c with
  | nil => intro s; simp [runI]
  | cons b c ih =>
    intro s
    have h1 : (stepI s b).2.length ≤ 1 := by
      unfold stepI
      split
      · unfold endI
        split
        · simp
        · split <;> simp
      · simp
    have := ih (stepI s b).1
    simp only [runI, List.length_append, List.length_cons]
    omega
/-- What is still to come, when a piece has come. -/
theorem go_on {st : St} {s c d : List UInt8} {G F rest : List Fm} (h : runI st s = (st0, rest)) (hF : F = G ++ rest) (hs : c ++ d = s) : (runI st c).1.sub = 0 ∧ ∃ rest', runI (runI st c).1 d = (st0, rest') ∧ F = (G ++ (runI st c).2) ++ rest' := by
  subst hs
  rw [run_append] at h
  have h1 : (runI (runI st c).1 d).1 = st0 := congrArg Prod.fst h
  have h2 : (runI st c).2 ++ (runI (runI st c).1 d).2 = rest := congrArg Prod.snd h
  refine ⟨?_, (runI (runI st c).1 d).2, by rw [← h1], by rw [hF, ← h2]; simp⟩
  by_cases z : (runI st c).1.sub = 0
  · exact z
  · rw [run_broken d _ z] at h1
    have h3 : (runI st c).1 = st0 := h1
    rw [h3]
    rfl
/-- A message's bytes. -/
def msgI (f : Fm) : List UInt8 := headI f.k (19 + f.b.length) ++ f.b
structure FmOk (f : Fm) : Prop where
  k1 : 1 ≤ f.k
  k5 : f.k ≤ 5
  len : 19 + f.b.length ≤ 4096
  fit : fitI (f.k : Int) ((19 + f.b.length : Nat) : Int) = true
theorem make_ok (f : Fm) (h : FmOk f) : mkAns (f.k : Int) f.b = .returned (.tuple #[.string ⟨(msgI f).toArray⟩, .int .i64 0]) := by
  have h1 := h.k1
  have h2 := h.k5
  have h3 := h.len
  unfold mkAns makeI
  rw [if_pos ⟨by omega, by omega⟩, if_neg (by omega), if_pos h.fit, Int.toNat_natCast]
  rfl
theorem msg_len (f : Fm) : (msgI f).length = 19 + f.b.length := by
  unfold msgI headI
  rw [List.length_append]
  rfl
theorem msg_parts (f : Fm) (h : FmOk f) (r : List UInt8) : lenI (msgI f ++ r) = 19 + f.b.length ∧ kindI (msgI f ++ r) = f.k ∧ (msgI f ++ r).take 16 = mark := by
  have h2 := h.k5
  have h3 := h.len
  refine ⟨?_, ?_, ?_⟩
  · show (UInt8.ofNat ((19 + f.b.length) / 256)).toNat * 256 + (UInt8.ofNat ((19 + f.b.length) % 256)).toNat = _
    rw [UInt8.toNat_ofNat', UInt8.toNat_ofNat']
    omega
  · show (UInt8.ofNat f.k).toNat = _
    rw [UInt8.toNat_ofNat']
    omega
  · rfl
theorem run_msg (f : Fm) (h : FmOk f) (r : List UInt8) : runI st0 (msgI f ++ r) = ((runI st0 r).1, f :: (runI st0 r).2) := by
  obtain ⟨h1, h2, h3⟩ := msg_parts f h r
  have k1 := h.k1
  have k5 := h.k5
  have hl := h.len
  have hw : wrongI (msgI f ++ r) = 0 := by
    unfold wrongI
    rw [if_pos h3, h1, h2, if_neg (by omega), if_neg (by omega), if_pos h.fit]
  have e := run_frame (msgI f ++ r) hw (by rw [h1, List.length_append, msg_len]; omega)
  rw [h1, h2] at e
  have t : (msgI f ++ r).take (19 + f.b.length) = msgI f := by rw [← msg_len f, List.take_left]
  have d : (msgI f ++ r).drop (19 + f.b.length) = r := by rw [← msg_len f, List.drop_left]
  have b : (msgI f).drop 19 = f.b := by
    unfold msgI
    exact List.drop_left' rfl
  rw [t, d, b] at e
  exact e
/-- The bytes of frames, one behind the other. -/
def msgsF (R : List Fm) : List UInt8 := R.flatMap msgI
theorem msgsF_snoc (R : List Fm) (f : Fm) : msgsF (R ++ [f]) = msgsF R ++ msgI f := by simp [msgsF]
theorem run_msgsF (R : List Fm) (h : ∀ f ∈ R, FmOk f) (r : List UInt8) : runI st0 (msgsF R ++ r) = ((runI st0 r).1, R ++ (runI st0 r).2) := by
  induction R with
  | nil => simp [msgsF]
  | cons f R ih =>
    have e : msgsF (f :: R) ++ r = msgI f ++ (msgsF R ++ r) := by simp [msgsF]
    rw [e, run_msg _ (h f (by simp)), ih (fun x hx => h x (by simp [hx]))]
    simp
theorem msgsF_len (R : List Fm) (h : ∀ f ∈ R, FmOk f) : (msgsF R).length ≤ R.length * 4096 := by
  induction R with
  | nil => simp [msgsF]
  | cons f R ih =>
    have e : msgsF (f :: R) = msgI f ++ msgsF R := by simp [msgsF]
    have h1 := ih (fun x hx => h x (by simp [hx]))
    have h2 := (h f (by simp)).len
    rw [e, List.length_append, msg_len, List.length_cons]
    omega
theorem run_all (R : List Fm) (h : ∀ f ∈ R, FmOk f) : runI st0 (msgsF R) = (st0, R) := by
  have k := run_msgsF R h []
  simp only [List.append_nil] at k
  rw [k]
  simp [runI]
theorem cell_drewN (w : World) (n : Nat) (a : Addr) : (w.drewN n).cell? a = w.cell? a := rfl
end Go.Proofs.YtfhapjhkjdifjaaGreatDoor.Fr
