/-
  ReachKnown's walk.
-/
import Derived.Test.YtjliopclpjeieaaDoorFS
import Derived.Test.YtjliopclpjeieaaDoorFG
import Derived.Deep.MidRow
namespace Go.Proofs.YtjliopclpjeieaaDoor
open Go.RowKit
def z16 : List UInt8 := [0, 0, 0, 0, 0, 0, 0, 0, 0, 0, 0, 0, 0, 0, 0, 0]
def s1 : List UInt8 := [0, 1, 1, 16] ++ z16
def s2 : List UInt8 := s1 ++ [0]
def t1 : List UInt8 := [0, 2, 1, 32] ++ z16
def t2 : List UInt8 := t1 ++ z16
def t3 : List UInt8 := t2 ++ [7]
theorem tkA : tkI [] [0, 1, 1] = .error 4 := by kernel_rfl
theorem tkB : tkI [] [0, 3, 1, 0, 0] = .error 5 := by kernel_rfl
theorem tkC : tkI [] [0, 1] = .error 4 := by kernel_rfl
theorem tkD : tkI [] s2 = .error 4 := by kernel_rfl
theorem tkE : tkI [] t3 = .ok (2, z16, []) := by kernel_rfl
theorem tkF : tkI [] [0, 1, 128, 12, 0, 0, 0, 0, 0, 0, 0, 1, 10, 0, 0, 1, 0] = .error 4 := by kernel_rfl
theorem tkG : tkI [] [0, 1, 128, 12, 0, 0, 0, 0, 0, 0, 0, 0, 10, 0, 0, 1, 0] = .ok (4, [10, 0, 0, 1], []) := by kernel_rfl
theorem tgA : tgI [] [0, 1, 1] = .ok (1, []) := by kernel_rfl
theorem tgB : tgI [] [0, 1, 1, 33] = .error 4 := by kernel_rfl
def nI : Nl := ⟨1, 0, ⟨#[10, 0, 0, 0]⟩, 8, 1, 0⟩
theorem puI : putAns (headL 1 hT) 1 false [nI] = .returned (.tuple #[.string ⟨#[]⟩, .int .i64 2]) := by kernel_rfl
theorem pgL : putAns (pairL 1) 1 false [nT 3] = .returned (.tuple #[.string ⟨#[]⟩, .int .i64 2]) := by kernel_rfl
theorem pgT : putAns (pairL 1) 1 false [nT 1] = .returned (.tuple #[.string ⟨#[0, 1, 1, 8, 10]⟩, .int .i64 0]) := by kernel_rfl
theorem wfI : ∀ n ∈ [nI], NlWf n := by
  intro n hn
  obtain rfl : n = nI := by simpa using hn
  constructor <;> simp [nI, maxLen, ByteArray.size]
theorem one_at {W : World} {q : Nat} {n : Nl} (hh : W.heap[q]? = some (.cells #[.int .i64 n.f, .int .u64 n.r, .string n.s, .int .i64 n.l, .int .u32 n.id, .int .u32 n.lb] 46 (0, 0))) : NlsAt W (.slice (some ⟨q, 0, none⟩) 1 1) [n] :=
  ⟨some ⟨q, 0, none⟩, q, 0, 1, rfl, Or.inl rfl, by simp, fun j hj => by
    obtain rfl : j = 0 := by simp at hj; exact hj
    exact ⟨cl_row hh rfl, cl_row hh rfl, cl_row hh rfl, cl_row hh rfl, cl_row hh rfl, cl_row hh rfl⟩⟩
theorem nls_nil (W : World) : NlsAt W (.slice none 0 0) [] := ⟨none, 0, 0, 0, rfl, Or.inr rfl, by decide, fun j hj => absurd hj (by simp)⟩
/-- Many of the same. -/
theorem many_ok (n : Nat) : (List.replicate n (nT 1)).all (okE 1 false) = true := by
  rw [List.all_eq_true]
  intro x hx
  rw [List.eq_of_mem_replicate hx]
  kernel_rfl
theorem many_len (n : Nat) : (encL false (List.replicate n (nT 1))).length = 2 * n := by
  induction n with
  | zero => rfl
  | succ n ih =>
    have h2 : ((nT 1).enc false).length = 2 := by kernel_rfl
    simp only [List.replicate_succ, encL, List.flatMap_cons, List.length_append] at *
    omega
theorem wf_many (n : Nat) : ∀ x ∈ List.replicate n (nT 1), NlWf x := fun x hx => wfT 1 x (by rw [List.eq_of_mem_replicate hx]; simp)
theorem many_long (hd : List UInt8) (n : Nat) (h : 4077 < hd.length + 2 * n) : putAns hd 1 false (List.replicate n (nT 1)) = .returned (.tuple #[.string ⟨#[]⟩, .int .i64 3]) := by
  have : putE hd 1 false (List.replicate n (nT 1)) = 3 := by unfold putE; rw [many_ok, if_pos rfl, many_len, if_pos h]
  unfold putAns putS
  rw [this]
  rfl
theorem many_fine (hd : List UInt8) (n : Nat) (h : hd.length + 2 * n ≤ 4077) : ∃ S : List UInt8, putAns hd 1 false (List.replicate n (nT 1)) = .returned (.tuple #[.string ⟨S.toArray⟩, .int .i64 0]) := by
  have : putE hd 1 false (List.replicate n (nT 1)) = 0 := by unfold putE; rw [many_ok, if_pos rfl, many_len, if_neg (by omega)]
  exact ⟨putS hd 1 false (List.replicate n (nT 1)), by unfold putAns; rw [this]⟩
theorem info46 : (Tryd.prog.info? 46).map (·.size) = some 6 := by kernel_rfl
theorem one46 (a b c d e : Int) (s : ByteArray) : (#[.int .i64 a, .int .u64 b, .string s, .int .i64 c, .int .u32 d, .int .u32 e] : Array Value).all (·.oneCell') = true := by simp [Value.oneCell']
/-- The first k of many are laid. -/
structure ManyAt (wr : World) (b k : Nat) : Prop where
  row : RowN wr b 0 (List.replicate k (nT 1))
  room : wr.there b 0 12300
theorem there_below {w w' : World} {b o n : Nat} (h : w.there b o n) (hb : Below w.heap.size w w') : w'.there b o n := fun j hj => by
  obtain ⟨u, hu⟩ := Option.isSome_iff_exists.1 (h j hj).1
  exact ⟨by rw [below_cell hb hu]; rfl, by rw [hb.frozen (p := ⟨b, o + j, none⟩) (lt_of_cell hu)]; exact (h j hj).2⟩
theorem ManyAt.below {w w' : World} {b k : Nat} (h : ManyAt w b k) (hb : Below w.heap.size w w') : ManyAt w' b k := ⟨h.row.below hb, there_below h.room hb⟩
theorem ManyAt.next {w : World} {b k : Nat} (h : ManyAt w b k) (hk : k < 2050) : ManyAt (w.setCells b (k * 6) [.int .i64 1, .int .u64 0, .string ⟨#[10, 0, 0, 0]⟩, .int .i64 8, .int .u32 0, .int .u32 0]) b (k + 1) := by
  refine ⟨fun j hj => ?_, World.there_setCells h.room _ _ _⟩
  have hj' : j < k + 1 := by simpa using hj
  have hg : (List.replicate (k + 1) (nT 1))[j] = nT 1 := by simp
  rw [hg]
  have ht : w.there b (k * 6) 6 := fun i hi => by
    have := h.room (k * 6 + i) (by omega)
    rwa [Nat.zero_add] at this
  by_cases e : j = k
  · subst e
    have hs := World.rangeAt_setCells_same w b (j * 6) [.int .i64 1, .int .u64 0, .string ⟨#[10, 0, 0, 0]⟩, .int .i64 8, .int .u32 0, .int .u32 0] ht
    rw [Nat.zero_add]
    exact ⟨hs 0 _ rfl, hs 1 _ rfl, hs 2 _ rfl, hs 3 _ rfl, hs 4 _ rfl, hs 5 _ rfl⟩
  · have hlt : j < k := by omega
    have hr := h.row j (by simpa using hlt)
    rw [show (List.replicate k (nT 1))[j]'(by simpa using hlt) = nT 1 by simp] at hr
    have out : ∀ i, i < 6 → (w.setCells b (k * 6) [.int .i64 1, .int .u64 0, .string ⟨#[10, 0, 0, 0]⟩, .int .i64 8, .int .u32 0, .int .u32 0]).cell? ⟨b, 0 + j * 6 + i, none⟩ = w.cell? ⟨b, 0 + j * 6 + i, none⟩ := fun i hi =>
      World.cell?_setCells_out b _ (k * 6) w ⟨b, 0 + j * 6 + i, none⟩ (fun _ _ => Or.inl (by show 0 + j * 6 + i < k * 6; omega))
    exact ⟨(out 0 (by omega)).trans hr.1, (out 1 (by omega)).trans hr.2.1, (out 2 (by omega)).trans hr.2.2.1, (out 3 (by omega)).trans hr.2.2.2.1, (out 4 (by omega)).trans hr.2.2.2.2.1, (out 5 (by omega)).trans hr.2.2.2.2.2⟩
theorem ManyAt.cut {w : World} {b m : Nat} (h : ManyAt w b m) (n c : Nat) (hn : n ≤ m) (hc : n ≤ c) : NlsAt w (.slice (some ⟨b, 0, none⟩) n c) (List.replicate n (nT 1)) :=
  ⟨some ⟨b, 0, none⟩, b, 0, c, by simp, Or.inl rfl, by simpa using hc, fun j hj => by
    have hj' : j < n := by simpa using hj
    have h1 := h.row j (by simp; omega)
    rw [show (List.replicate m (nT 1))[j]'(by simp; omega) = nT 1 by simp] at h1
    rw [show (List.replicate n (nT 1))[j] = nT 1 by simp]
    exact h1⟩
theorem below_setCells {B : Nat} {a w : World} (h : Below B a w) {b : Nat} (hb : B ≤ b) : ∀ (vs : List Value) (o : Nat), Below B a (w.setCells b o vs)
  | [], _ => h
  | v :: r, o => by
    rw [World.setCells]
    exact below_setCells (h.setCell (p := ⟨b, o, none⟩) hb v) hb r (o + 1)
theorem gone_many (n m q : Nat) (hn : n ≤ m) (h5 : n ≤ 2050) (a : Ending) (ha : putAns (pairL 1) 1 false (List.replicate n (nT 1)) = a) (W : World) (hT : Tb W) (hM : ManyAt W q m) :
    Calls Tryd.prog 17 #[.int .i64 1, .slice (some ⟨q, 0, none⟩) n 2050, .bool false] W fun e w' => e = a ∧ Below W.heap.size W w' := by
  subst ha
  exact putGone_yes 1 _ false _ W rfl hT.sizes hT.rds (hM.cut n 2050 hn h5) (wf_many n) (by rw [List.length_replicate]; omega)
theorem put_many (n m q : Nat) (hn : n ≤ m) (h5 : n ≤ 2050) (a : Ending) (ha : putAns (headL 1 hT) 1 false (List.replicate n (nT 1)) = a) (W : World) (hTb : Tb W) (hM : ManyAt W q m) :
    Calls Tryd.prog 15 #[.int .i64 1, .string ⟨#[10, 0, 0, 1]⟩, .slice (some ⟨q, 0, none⟩) n 2050, .bool false] W fun e w' => e = a ∧ Below W.heap.size W w' := by
  subst ha
  exact put_any' 1 hT _ false _ W rfl hTb.sizes hTb.rds (hM.cut n 2050 hn h5) (wf_many n) (by rw [List.length_replicate]; omega)
theorem hl9 : (headL 1 hT).length = 9 := by kernel_rfl
theorem info46z : (Tryd.prog.info? 46).map (fun i => (i.zero, i.size, i.bytes)) = some (some (.agg #[.int .i64 0, .int .u64 0, .string ⟨#[]⟩, .int .i64 0, .int .u32 0, .int .u32 0]), 6, 48) := info27
def zN : Array Value := #[.int .i64 0, .int .u64 0, .string ⟨#[]⟩, .int .i64 0, .int .u32 0, .int .u32 0]
theorem made_many (w : World) : (Instr.makeSlice 28 (.int .i64 2050) (.int .i64 2050)).run Tryd.prog w = .ok (.slice (some ⟨w.heap.size, 0, none⟩) 2050 2050) (w.alloc (.cells (madeCells zN 12300) 46)) := by
  obtain ⟨i0, hi, hz0, hz1, hz2⟩ := info_parts info46z
  have h := run_make w 28 46 i0 _ Tryd.underlying28 hi hz0 .i64 .i64 2050 2050 (by omega) (by omega) (by rw [hz2]; omega) (by omega)
  rw [hz1] at h
  exact h
theorem many_start (w : World) : ManyAt (w.alloc (.cells (madeCells zN 12300) 46)) w.heap.size 0 := by
  refine ⟨fun j hj => absurd hj (by simp), fun j hj => ⟨?_, by simp⟩⟩
  rw [World.cell?_alloc_at _ _ _ _ rfl]
  rw [show (madeCells zN 12300)[0 + j]? = some ((madeCells zN 12300)[0 + j]'(by rw [size_madeCells]; omega)) from Array.getElem?_eq_getElem _]
  rfl
theorem six_back (w : World) : (convert 52 9 (.slice (some ⟨w.heap.size, 0, none⟩) 16 16)).run Tryd.prog (w.alloc (.cells (madeCells #[.int .u8 0] 16) 5)) = .ok (.string ⟨z16.toArray⟩) (w.alloc (.cells (madeCells #[.int .u8 0] 16) 5)) :=
  run_convert_bytes_back (P := Tryd.prog) (w.alloc (.cells (madeCells #[.int .u8 0] 16) 5)) 52 9 5 ⟨w.heap.size, 0, none⟩ 16 z16 Tryd.underlying52 Tryd.underlying5 Tryd.underlying9 (fun j hj => by
    have hj' : j < 16 := hj
    have hr := (Row.made w 16 w.heap.size rfl j (by simpa using hj')).1
    rw [addr_add, Nat.zero_add, hr]
    have : (List.replicate 16 (0 : UInt8))[j]'(by simpa using hj') = z16[j] := by
      have e : List.replicate 16 (0 : UInt8) = z16 := rfl
      simp only [e]
      rfl
    rw [this]
    rfl)
end Go.Proofs.YtjliopclpjeieaaDoor
