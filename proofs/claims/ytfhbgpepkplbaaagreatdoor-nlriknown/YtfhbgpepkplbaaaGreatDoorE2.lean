/-
  A told prefix is laid.
-/
import Derived.Test.YtfhbgpepkplbaaaGreatDoorE1
import Derived.Deep.RegionHeld3
namespace Go.Proofs.YtfhbgpepkplbaaaGreatDoor
open Go.RowKit
/-- The bytes of a told prefix. -/
def nlE (f : Int) (add : Bool) (r : Nat) (s : ByteArray) (l id lb : Nat) : List UInt8 :=
  laid id (idN add) ++ laid (l + exN f) 1 ++ laid (lb * 16 + 1) (lbN f) ++ laid r (rdN f) ++ s.data.toList.take ((l + 7) / 8)
theorem or_one (v : Nat) (h : v < 16777216) : bits .or .u64 ((v : Int) * 16) 1 = ((v * 16 + 1 : Nat) : Int) := by
  have h := bits_or_u64_nat (v * 16) 1 (by omega) (by omega)
  rw [show ((v * 16 : Nat) : Int) = (v : Int) * 16 from by simp] at h
  rw [show ((1 : Nat) : Int) = 1 from rfl] at h
  rw [h, Nat.mul_comm v 16, Nat.two_pow_add_eq_or_of_lt (i := 4) (by omega : 1 < 2 ^ 4) v]
theorem push3_0 (h : Array Obj) (a b c : Obj) : (((h.push a).push b).push c)[h.size]? = some a := by
  rw [Array.getElem?_push, if_neg (by simp; omega), Array.getElem?_push, if_neg (by simp), Array.getElem?_push, if_pos rfl]
theorem push3_1 (h : Array Obj) (a b c : Obj) : (((h.push a).push b).push c)[h.size + 1]? = some b := by
  rw [Array.getElem?_push, if_neg (by simp), Array.getElem?_push, if_pos (by simp)]
theorem push3_2 (h : Array Obj) (a b c : Obj) : (((h.push a).push b).push c)[h.size + 2]? = some c := by
  rw [Array.getElem?_push, if_pos (by simp)]
theorem cell_row {w : World} {k i : Nat} {cs : Array Value} {t : TypeId} {v : Value} (hk : w.heap[k]? = some (.cells cs t (0, 0))) (hi : cs[i]? = some v) : w.cell? ⟨k, i, none⟩ = some v := by
  rw [World.cell?, hk]; exact hi
/-- What stands in memory while a told prefix is laid. -/
structure LyAt (w wr : World) (q B b : Nat) (C0 C2 : Array Value) (E : List UInt8) : Prop where
  g0 : wr.heap[q]? = some (.cells C0 49 (0, 0))
  g1 : wr.heap[q + 1]? = some (.cells #[.pointer (some ⟨b, 0, none⟩)] 59 (0, 0))
  g2 : wr.heap[q + 2]? = some (.cells C2 27 (0, 0))
  bl : Bld wr B b E
  bw : B ≤ wr.heap.size
  hb : b < q
  bel : Below B w wr
  oth : Lib.OthersKept 5 (some b) w wr
theorem LyAt.next {w wr w' : World} {q B b : Nat} {C0 C2 : Array Value} {E E' : List UInt8} (h : LyAt w wr q B b C0 C2 E) (h1 : Bld w' B b E') (h2 : Below B wr w') (h3 : Lib.OthersKept 5 (some b) wr w') : LyAt w w' q B b C0 C2 E' := by
  have hb := h.hb
  exact ⟨kept_heap h3 h.g0 (by omega) (by decide), kept_heap h3 h.g1 (by omega) (by decide), kept_heap h3 h.g2 (by omega) (by decide), h1, Nat.le_trans h.bw h2.size, h.hb, h.bel.trans h2, h.oth.trans h3⟩
theorem LyAt.below {w wr w' : World} {q B b : Nat} {C0 C2 : Array Value} {E : List UInt8} (h : LyAt w wr q B b C0 C2 E) (hb : Below wr.heap.size wr w') : LyAt w w' q B b C0 C2 E :=
  h.next (h.bl.below hb) (hb.mono h.bw) (kept_of_below hb 5 (some b))
theorem LyAt.start {w : World} {B b : Nat} {C0 C2 : Array Value} {E : List UInt8} (hB : Bld w B b E) (hbw : B ≤ w.heap.size) : LyAt w (((w.alloc (.cells C0 49)).alloc (.cells #[.pointer (some ⟨b, 0, none⟩)] 59)).alloc (.cells C2 27)) w.heap.size B b C0 C2 E := by
  have hb : Below w.heap.size w (((w.alloc (.cells C0 49)).alloc (.cells #[.pointer (some ⟨b, 0, none⟩)] 59)).alloc (.cells C2 27)) := (((Below.refl _ _).alloc (by simp) _).alloc (by simp) _).alloc (by simp; omega) _
  exact ⟨push3_0 _ _ _ _, push3_1 _ _ _ _, push3_2 _ _ _ _, hB.below hb, Nat.le_trans hbw hb.size, hB.lt, hb.mono hbw, kept_of_below hb 5 (some b)⟩
/-- A piece is laid. -/
theorem lput (v n : Nat) {w wr : World} {q B b : Nat} {C0 C2 : Array Value} {E : List UInt8} (h : LyAt w wr q B b C0 C2 E) (h1 : n ≤ 8) (hv : n = 0 ∨ v < 256 ^ n) (hl : E.length ≤ 100000000) :
    Calls Tryz.prog 64 #[.int .u64 (v : Int), .int .i64 (n : Int), .pointer (some ⟨q + 1, 0, none⟩)] wr fun e w' => e = .returned (.tuple #[]) ∧ LyAt w w' q B b C0 C2 (E ++ laid v n) := by
  refine (putc_any B b (q + 1) v n E wr h.bl h.bw h.g1 h1 hv hl).mono ?_
  rintro e w' ⟨rfl, h2, h3, h4⟩
  exact ⟨rfl, h.next h2 h3 h4⟩
set_option maxRecDepth 100000 in
set_option maxHeartbeats 3200000 in
theorem lay_any (f : Int) (add : Bool) (r : Nat) (s : ByteArray) (l id lb : Nat) (B b : Nat) (L : List UInt8) (w : World) (hB : Bld w B b L) (hbw : B ≤ w.heap.size)
    (hl : l ≤ 8 * s.size) (hl2 : l ≤ 128) (hs : s.size ≤ 16) (hid : id < 4294967296) (hlb : lb ≤ 1048575) (hr : r < 18446744073709551616) (hL : L.length ≤ 1000000) :
    Calls Tryz.prog 35 #[shp f add, .pointer (some ⟨b, 0, none⟩), .agg #[.int .i64 f, .int .u64 (r : Int), .string s, .int .i64 (l : Int), .int .u32 (id : Int), .int .u32 (lb : Int)]] w fun e w' => e = .returned (.tuple #[]) ∧ Bld w' B b (L ++ nlE f add r s l id lb) ∧ Below B w w' ∧ Lib.OthersKept 5 (some b) w w' := by
  have hiN : idN add ≤ 4 := by unfold idN; split <;> omega
  have hlN : lbN f ≤ 3 := by unfold lbN; split <;> omega
  have hrN : rdN f ≤ 8 := by unfold rdN; split <;> omega
  have hex : exN f ≤ 88 := by unfold exN; omega
  have P1 : Hid (idN add ≤ 8 ∧ (idN add = 0 ∨ id < 256 ^ idN add)) := by
    refine ⟨by omega, ?_⟩
    unfold idN
    cases add
    · exact Or.inl rfl
    · exact Or.inr (by simpa using hid)
  have P3 : Hid (lbN f ≤ 8 ∧ (lbN f = 0 ∨ lb * 16 + 1 < 256 ^ lbN f)) := by
    refine ⟨by omega, ?_⟩
    unfold lbN
    cases lab f
    · exact Or.inl rfl
    · exact Or.inr (by simp; omega)
  have P4 : Hid (rdN f ≤ 8 ∧ (rdN f = 0 ∨ r < 256 ^ rdN f)) := by
    refine ⟨by omega, ?_⟩
    unfold rdN
    cases dst f
    · exact Or.inl rfl
    · exact Or.inr (by simpa using hr)
  obtain ⟨ct, hct⟩ : ∃ ct, ct = l + exN f := ⟨_, rfl⟩
  obtain ⟨lv, hlv⟩ : ∃ lv, lv = lb * 16 + 1 := ⟨_, rfl⟩
  have P2 : Hid (ct < 256) := by unfold Hid; omega
  have hor : bits .or .u64 ((lb : Int) * 16) 1 = (lv : Int) := by rw [or_one lb (by omega), hlv]
  have hw1 : IntKind.u64.wrap (id : Int) = id := by rw [IntKind.wrap_u64]; omega
  have hw2 : IntKind.i64.wrap ((l : Int) + (exN f : Nat)) = (ct : Int) := by rw [IntKind.wrap_i64]; omega
  have hw3 : IntKind.u64.wrap (ct : Int) = (ct : Int) := by rw [IntKind.wrap_u64]; omega
  have hw4 : IntKind.u64.wrap (lb : Int) = lb := by rw [IntKind.wrap_u64]; omega
  have hw5 : IntKind.u64.wrap ((lb : Int) * 16) = (lb : Int) * 16 := by rw [IntKind.wrap_u64]; omega
  have NX : Hid (∀ wr, Calls Tryz.prog 67 #[.agg #[.int .i64 (idN add), .int .i64 (lbN f), .int .i64 (rdN f), .int .i64 (szOf f)]] wr fun e w' => e = .returned (.int .i64 (exN f)) ∧ Below wr.heap.size wr w') := fun wr => extra_any f add wr
  have NY : Hid (∀ wr, Calls Tryz.prog 24 #[.int .i64 (l : Int)] wr fun e w' => e = .returned (.int .i64 (byN (l : Int))) ∧ w' = wr) := fun wr => bytesOf_any l wr (by omega) (by omega)
  generalize hC0 : (#[.int .i64 (idN add), .int .i64 (lbN f), .int .i64 (rdN f), .int .i64 (szOf f)] : Array Value) = C0 at *
  generalize hC2 : (#[.int .i64 f, .int .u64 (r : Int), .string s, .int .i64 (l : Int), .int .u32 (id : Int), .int .u32 (lb : Int)] : Array Value) = C2 at *
  have S0 : Hid (LyAt w (((w.alloc (.cells C0 49)).alloc (.cells #[.pointer (some ⟨b, 0, none⟩)] 59)).alloc (.cells C2 27)) w.heap.size B b C0 C2 L) := LyAt.start hB hbw
  have CS : Hid (∀ wr E, LyAt w wr w.heap.size B b C0 C2 E → wr.cell? ⟨w.heap.size, 0, none⟩ = some (.int .i64 (idN add)) ∧ wr.cell? ⟨w.heap.size, 1, none⟩ = some (.int .i64 (lbN f)) ∧ wr.cell? ⟨w.heap.size, 2, none⟩ = some (.int .i64 (rdN f)) ∧ wr.cell? ⟨w.heap.size, 3, none⟩ = some (.int .i64 (szOf f)) ∧ wr.cell? ⟨w.heap.size + 2, 1, none⟩ = some (.int .u64 (r : Int)) ∧ wr.cell? ⟨w.heap.size + 2, 2, none⟩ = some (.string s) ∧ wr.cell? ⟨w.heap.size + 2, 3, none⟩ = some (.int .i64 (l : Int)) ∧ wr.cell? ⟨w.heap.size + 2, 5, none⟩ = some (.int .u32 (lb : Int)) ∧ wr.cell? ⟨w.heap.size + 1, 0, none⟩ = some (.pointer (some ⟨b, 0, none⟩))) := fun wr E h => by
    have h0 := h.g0
    have h2 := h.g2
    rw [← hC0] at h0
    rw [← hC2] at h2
    exact ⟨cell_row h0 rfl, cell_row h0 rfl, cell_row h0 rfl, cell_row h0 rfl, cell_row h2 rfl, cell_row h2 rfl, cell_row h2 rfl, cell_row h2 rfl, cell_row h.g1 rfl⟩
  subst hC0
  subst hC2
  have hlE : ∀ (v n : Nat), (laid v n).length = n := laid_length
  have HLE : Hid (_ : Prop) := hlE
  have HCT : Hid (ct = l + exN f ∧ lv = lb * 16 + 1) := ⟨hct, hlv⟩
  have HSZ : Hid (l ≤ 8 * s.size ∧ s.size ≤ 16) := ⟨hl, hs⟩
  have HLL : Hid (L.length ≤ 1000000 ∧ idN add ≤ 4 ∧ lbN f ≤ 3 ∧ rdN f ≤ 8) := ⟨hL, hiN, hlN, hrN⟩
  rw [← hlv] at P3
  clear hct hlv hB hbw hl hl2 hs hid hlb hr hL hiN hlN hrN hex hlE
  unfold shp
  go_enter Tryz.func35, Tryz.ntmps35
  go_wp2_with fail
  refine Calls.mono (lput id (idN add) S0.out P1.out.1 P1.out.2 (by have := HLL.out; omega)) ?_
  rintro e w1 ⟨rfl, h1⟩
  have H1 : Hid (LyAt w w1.drew w.heap.size B b _ _ (L ++ laid id (idN add))) := h1.below (Below.refl _ _).drew
  obtain ⟨a0, a1, a2, a3, a4, a5, a6, a7, a8⟩ := CS.out _ _ h1
  clear h1 S0
  go_wp2
  go_region_held (fun w' => w'.cell? ⟨w.heap.size, 0, none⟩ = some (.int .i64 (idN add)) ∧ w'.cell? ⟨w.heap.size, 1, none⟩ = some (.int .i64 (lbN f)) ∧ w'.cell? ⟨w.heap.size, 2, none⟩ = some (.int .i64 (rdN f)) ∧ w'.cell? ⟨w.heap.size, 3, none⟩ = some (.int .i64 (szOf f)) ∧ w'.cell? ⟨w.heap.size + 2, 3, none⟩ = some (.int .i64 (l : Int))) (go_keep)
    (first | (go_at_call 67; refine Calls.mono (NX.out _) ?_; rintro e w2 ⟨rfl, hb2⟩; have h2 := LyAt.below H1.out hb2; obtain ⟨c0, c1, c2, c3, c4, c5, c6, c7, c8⟩ := CS.out _ _ h2) | (go_at_call 64; refine Calls.mono (lput ct 1 h2 (by decide) (Or.inr P2.out) (by have := HLL.out; have := HLE.out id (idN add); simp; omega)) ?_; rintro e w3 ⟨rfl, h3⟩; obtain ⟨d0, d1, d2, d3, d4, d5, d6, d7, d8⟩ := CS.out _ _ h3))
  have H3 : Hid (LyAt w w3 w.heap.size B b _ _ (L ++ laid id (idN add) ++ laid ct 1)) := h3
  clear h2 h3 hb2 H1 NX a0 a1 a2 a3 a4 a5 a6 a7 a8 c0 c1 c2 c3 c4 c5 c6 c7 c8 hw2 hw3 hw1
  go_wp2_with fail
  refine Calls.mono (lput lv (lbN f) H3.out P3.out.1 P3.out.2 (by have := HLL.out; have h1 := HLE.out id (idN add); have h2 := HLE.out ct 1; simp; omega)) ?_
  rintro e w4 ⟨rfl, h4⟩
  have H4 : Hid (LyAt w w4 w.heap.size B b _ _ (L ++ laid id (idN add) ++ laid ct 1 ++ laid lv (lbN f))) := h4
  clear d0 d1 d2 d3 d4 d5 d6 d7 d8 H3 hor hw4 hw5
  obtain ⟨a0, a1, a2, a3, a4, a5, a6, a7, a8⟩ := CS.out _ _ h4
  clear h4
  go_wp2_with fail
  refine Calls.mono (lput r (rdN f) H4.out P4.out.1 P4.out.2 (by have := HLL.out; have h1 := HLE.out id (idN add); have h2 := HLE.out ct 1; have h3 := HLE.out lv (lbN f); simp; omega)) ?_
  rintro e w5 ⟨rfl, h5⟩
  have H5 : Hid (LyAt w w5.drew w.heap.size B b _ _ (L ++ laid id (idN add) ++ laid ct 1 ++ laid lv (lbN f) ++ laid r (rdN f))) := h5.below (Below.refl _ _).drew
  obtain ⟨c0, c1, c2, c3, c4, c5, c6, c7, c8⟩ := CS.out _ _ h5
  clear h5 H4 a0 a1 a2 a3 a4 a5 a6 a7 a8
  have hby : byN (l : Int) = (((l + 7) / 8 : Nat) : Int) := byN_nat l
  have hbs : (l + 7) / 8 ≤ s.size := by have := HSZ.out; omega
  generalize hm : (l + 7) / 8 = m at *
  rw [hby] at NY
  clear hby
  have NW : Hid (∀ (wr : World) (C0 C2 : Array Value), LyAt w wr w.heap.size B b C0 C2 (L ++ laid id (idN add) ++ laid ct 1 ++ laid lv (lbN f) ++ laid r (rdN f)) → Calls Tryz.prog 66 #[.pointer (some ⟨b, 0, none⟩), .string (s.extract 0 m)] wr fun e w' => e = .returned (.tuple #[.int .i64 (s.extract 0 m).size, .nilIface]) ∧ LyAt w w' w.heap.size B b C0 C2 (L ++ laid id (idN add) ++ laid ct 1 ++ laid lv (lbN f) ++ laid r (rdN f) ++ s.data.toList.take m)) := fun wr C0 C2 h => by
    have hz : (s.extract 0 m).size ≤ 16 := by have := HSZ.out.2; simp; omega
    refine (Tryz.Builder_WriteString_k B b (Lib.byteCells (L ++ laid id (idN add) ++ laid ct 1 ++ laid lv (lbN f) ++ laid r (rdN f))) (s.extract 0 m) wr h.bl (by
      rw [Lib.byteCells_length]
      have := HLL.out; have h1 := HLE.out id (idN add); have h2 := HLE.out ct 1; have h3 := HLE.out lv (lbN f); have h4 := HLE.out r (rdN f); simp only [List.length_append]; omega) h.bw).mono ?_
    rintro e w' ⟨rfl, h2, h3, h4⟩
    refine ⟨rfl, h.next (Or.inr ?_) h3 h4⟩
    rw [show s.extract 0 m = ⟨(s.data.toList.take m).toArray⟩ by apply ByteArray.ext; apply Array.ext'; simp, strCells_eq, byteCells_append] at h2
    exact h2
  have HM : Hid ((l + 7) / 8 = m) := hm
  clear hm
  go_wp2
  go_region_held (fun w' => w'.cell? ⟨w.heap.size + 1, 0, none⟩ = some (.pointer (some ⟨b, 0, none⟩)) ∧ w'.cell? ⟨w.heap.size + 2, 2, none⟩ = some (.string s) ∧ w'.cell? ⟨w.heap.size + 2, 3, none⟩ = some (.int .i64 (l : Int))) (go_keep)
    (first | (go_at_call 24; refine Calls.mono (NY.out _) ?_; rintro e w6 ⟨rfl, rfl⟩) | (go_at_call 66; refine Calls.mono (NW.out _ _ _ H5.out) ?_; rintro e w7 ⟨rfl, h7⟩; obtain ⟨d0, d1, d2, d3, d4, d5, d6, d7, d8⟩ := CS.out _ _ h7))
  have HF : Hid (L ++ laid id (idN add) ++ laid ct 1 ++ laid lv (lbN f) ++ laid r (rdN f) ++ s.data.toList.take m = L ++ nlE f add r s l id lb) := by
    unfold Hid nlE
    rw [HM.out, ← HCT.out.1, ← HCT.out.2]
    simp only [List.append_assoc]
  have H7 : Hid (Bld w7 B b (L ++ nlE f add r s l id lb) ∧ Below B w w7 ∧ Lib.OthersKept 5 (some b) w w7) := ⟨HF.out ▸ h7.bl, h7.bel, h7.oth⟩
  clear h7 d0 d1 d2 d3 d4 d5 d6 d7 d8 c0 c1 c2 c3 c4 c5 c6 c7 c8
  go_wp2
  go_end0
  exact ⟨rfl, H7.out⟩
end Go.Proofs.YtfhbgpepkplbaaaGreatDoor
