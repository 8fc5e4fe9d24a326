/-
  The bytes of a path.
-/
import Derived.Test.YtbdfigfjoiefiaaDoorF0
import Derived.Test.YtbdfigfjoiefiaaDoorC2
import Derived.Test.YtbdfigfjoiefiaaDoorW4
import Derived.Test.YtbdfigfjoiefiaaDoorShelfA
import Derived.Deep.RegionHeld3
namespace Go.Proofs.YtbdfigfjoiefiaaDoor
open Go.RowKit
theorem fit_any (a : Nat) (four : Bool) (w : World) (h : a < 4294967296) :
    Calls Tryd.prog 51 #[.int .u32 (a : Int), .bool four] w fun e w' => e = .returned (.int .u64 (fitN four a : Nat)) ∧ w' = w := by
  have hw : IntKind.u64.wrap (a : Int) = a := by rw [IntKind.wrap_u64]; omega
  cases four with
  | true =>
    go_enter Tryd.func51, Tryd.ntmps51
    go_wp2
    go_ret
    exact ⟨ret_int (by simp [fitN]), rfl⟩
  | false =>
    by_cases h1 : 65535 < a
    · go_enter Tryd.func51, Tryd.ntmps51
      go_wp2
      go_ret
      exact ⟨ret_int (by simp [fitN, h1]), rfl⟩
    · go_enter Tryd.func51, Tryd.ntmps51
      go_wp2
      go_ret
      exact ⟨ret_int (by simp [fitN, h1]), rfl⟩
theorem sizeOf_any (four : Bool) (w : World) :
    Calls Tryd.prog 52 #[.bool four] w fun e w' => e = .returned (.int .i64 (szN four : Nat)) ∧ w' = w := by
  cases four with
  | true =>
    go_enter Tryd.func52, Tryd.ntmps52
    go_wp2
    go_ret
    exact ⟨rfl, rfl⟩
  | false =>
    go_enter Tryd.func52, Tryd.ntmps52
    go_wp2
    go_ret
    exact ⟨rfl, rfl⟩
/-- A builder that this call has made holds these bytes. -/
def Bld (w : World) (B b : Nat) (l : List UInt8) : Prop := Lib.IsBuilderF 60 5 B b (Lib.byteCells l) w
theorem strCells_eq (l : List UInt8) : Lib.strCells ⟨l.toArray⟩ = Lib.byteCells l := by
  simp [Lib.strCells, Lib.byteCells]
theorem byteCells_append (l m : List UInt8) : Lib.byteCells l ++ Lib.byteCells m = Lib.byteCells (l ++ m) := by simp [Lib.byteCells]
theorem empty_append (l : List UInt8) : (⟨#[]⟩ : ByteArray) ++ ⟨l.toArray⟩ = ⟨l.toArray⟩ := by apply ByteArray.ext; simp
theorem Bld.alloc {w : World} {B b : Nat} {l : List UInt8} (h : Bld w B b l) (o : Obj) : Bld (w.alloc o) B b l := Lib.IsBuilderF.alloc h o
theorem Bld.below {w w' : World} {B b : Nat} {l : List UInt8} (h : Bld w B b l) (hb : Below w.heap.size w w') : Bld w' B b l := by
  have key : ∀ p, Lib.BuilderAtF 60 5 B b p (Lib.byteCells l) w → Lib.BuilderAtF 60 5 B b p (Lib.byteCells l) w' := by
    intro p h
    obtain ⟨h1, v, h2, h3, h4⟩ := h
    have hlt := (Array.getElem?_eq_some_iff.mp h2).1
    exact ⟨h1, v, (hb.block b hlt).trans h2, h3.kept (row := none) ⟨hb.os, hb.tape, hb.output, hb.size, fun k hk _ => hb.block k hk⟩ (by cases hv : v.ownBlock with | none => exact Or.inl rfl | some g => exact Or.inr (by simp)), h4⟩
  rcases h with h | h
  · exact Or.inl (key _ h)
  · exact Or.inr (key _ h)
theorem Bld.lt {w : World} {B b : Nat} {l : List UInt8} (h : Bld w B b l) : b < w.heap.size := by
  rcases h with ⟨_, _, h, _⟩ | ⟨_, _, h, _⟩ <;> exact (Array.getElem?_eq_some_iff.mp h).1
theorem heap_new (w : World) (o : Obj) : (w.alloc o).heap[w.heap.size]? = some o := by
  show (w.heap.push o)[w.heap.size]? = _
  simp
theorem kept_of_below {w w' : World} (h : Below w.heap.size w w') (e : TypeId) (b : Option Nat) : Lib.OthersKept e b w w' := by
  intro k o hk _ _
  exact (h.block k (Array.getElem?_eq_some_iff.mp hk).1).trans hk
set_option maxRecDepth 100000 in
theorem putc_any (B b v n : Nat) (l : List UInt8) (w : World) (hB : Bld w B b l) (hbw : B ≤ w.heap.size) (h0 : 1 ≤ n) (h1 : n ≤ 8) (hv : v < 256 ^ n) (hl : l.length ≤ 1000000) :
    Calls Tryd.prog 48 #[.int .u64 (v : Int), .int .i64 (n : Int), .pointer (some ⟨b, 0, none⟩)] w fun e w' => e = .returned (.tuple #[]) ∧ Bld w' B b (l ++ laid v n) ∧ Below B w w' ∧ Lib.OthersKept 5 (some b) w w' := by
  have HB : Hid (Bld _ _ _ _) := hB
  clear hB
  have HV : Hid (v < 256 ^ n) := hv
  clear hv
  go_enter Tryd.func48, Tryd.ntmps48
  go_wp2_with fail
  refine (put_yes ⟨#[]⟩ v n w h0 h1 HV.out (by decide)).mono ?_
  rintro e w1 ⟨rfl, hb1⟩
  rw [empty_append]
  have hB1 := HB.out.below hb1
  have hz := hb1.size
  have hll := laid_length v n
  go_wp2_with fail
  refine (Tryd.Builder_WriteString_k B b (Lib.byteCells l) ⟨(laid v n).toArray⟩ w1 hB1 (by rw [Lib.byteCells_length]; show _ + (laid v n).length ≤ _; omega) (by omega)).mono ?_
  rintro e w2 ⟨rfl, hB2, hb2, hk2⟩
  rw [strCells_eq, byteCells_append] at hB2
  go_wp2
  go_end0
  exact ⟨rfl, Or.inr hB2, (hb1.mono hbw).trans hb2, (kept_of_below hb1 5 (some b)).trans hk2⟩
theorem encode_bad (v : Value) (L : List Sg) (four : Bool) (w : World) (h : PathAt w v L) (hok : okPath L = false) :
    Calls Tryd.prog 29 #[v, .bool four] w fun e w' => e = .returned (.tuple #[.string ⟨#[]⟩, .int .i64 2]) ∧ Below w.heap.size w w' := by
  have H : Hid (PathAt _ _ _) := h
  obtain ⟨ad, b, off, cap, rfl, h2⟩ := h
  clear h2
  go_enter Tryd.func29, Tryd.ntmps29
  go_wp2_with fail
  refine (check_any _ L w H.out).mono ?_
  rintro e w1 ⟨rfl, hb1⟩
  rw [show chkOf L = 2 by simp [chkOf, hok]]
  go_wp2
  go_ret2
  exact ⟨rfl, hb1⟩
theorem okPath_at {L : List Sg} (h : okPath L = true) (i : Nat) (hi : i < L.length) : okSeg L[i] = true := by
  simp only [okPath, Bool.and_eq_true, List.all_eq_true] at h
  exact h.2 _ (List.getElem_mem hi)
theorem okPath_le {L : List Sg} (h : okPath L = true) : L.length ≤ 16 ∧ ∀ s ∈ L, s.2.length ≤ 255 := by
  simp only [okPath, Bool.and_eq_true, decide_eq_true_eq, List.all_eq_true] at h
  exact ⟨h.1, fun s hs => ((okSeg_iff s).mp (h.2 s hs)).2.2.2.1⟩
theorem encOf_take_le (four : Bool) {L : List Sg} (h : okPath L = true) (n : Nat) : (encOf four (L.take n)).length ≤ 16352 := by
  have h1 := encOf_le four (L.take n) (fun s hs => (okPath_le h).2 s (List.mem_of_mem_take hs))
  have h2 := (okPath_le h).1
  have h3 : (L.take n).length ≤ 16 := by simp; omega
  omega
set_option maxRecDepth 100000 in
set_option maxHeartbeats 1600000 in
theorem encode_any (v : Value) (L : List Sg) (four : Bool) (w : World) (h : PathAt w v L) (hok : okPath L = true) :
    Calls Tryd.prog 29 #[v, .bool four] w fun e w' => e = .returned (.tuple #[.string ⟨(encOf four L).toArray⟩, .int .i64 0]) ∧ Below w.heap.size w w' := by
  have H : Hid (PathAt _ _ _) := h
  obtain ⟨ad, b, off, cap, rfl, had, ⟨_, hl⟩, hr⟩ := h
  have HK : Hid (okPath L = true) := hok
  have h16 := (okPath_le hok).1
  have HR : Hid (RowS _ _ _ _) := hr
  clear hr hok
  go_enter Tryd.func29, Tryd.ntmps29
  go_wp2_with fail
  refine (check_any _ L w H.out).mono ?_
  rintro e w1 ⟨rfl, hb1⟩
  rw [show chkOf L = 0 by simp [chkOf, HK.out]]
  have HB1 : Hid (Below _ _ _) := hb1
  have HR1 : Hid (RowS w1 b off L) := HR.out.below hb1
  clear hb1
  go_wp2
  have hq0 : Bld (w1.alloc (.cells #[.pointer none, .slice none 0 0] 60)) w1.heap.size w1.heap.size [] := by
    refine Or.inl ⟨Nat.le_refl _, .slice none 0 0, heap_new _ _, World.ownsRowF_nil _ _ _ _, by simp [Value.ownBlock]⟩
  have hq1 : Below w1.heap.size w1 (w1.alloc (.cells #[.pointer none, .slice none 0 0] 60)) := (Below.refl _ _).alloc (Nat.le_refl _) _
  generalize w1.alloc (.cells #[.pointer none, .slice none 0 0] 60) = W at *
  generalize hp : w1.heap.size = p at *
  go_loopw [18] (fun i wr => ∃ n : Nat, n ≤ L.length ∧ i = .int .i64 n ∧ Bld wr p p (encOf four (L.take n)) ∧ Below p w1 wr) (fun i _ => L.length - (intOf i).toNat)
  case atStart => exact ⟨0, Nat.zero_le _, rfl, hq0, hq1⟩
  case round =>
    obtain ⟨n, hn, rfl, hbd, hb⟩ := hrel
    clear hq0 hq1
    have HBD : Hid (Bld _ _ _ _) := hbd
    have HB : Hid (Below _ _ _) := hb
    clear hbd
    have hpz : p ≤ wr.heap.size := by rw [← hp]; exact hb.size
    by_cases hlt : n < L.length
    · obtain rfl : ad = some ⟨b, off, none⟩ := by rcases had with h | h; exact h; omega
      obtain ⟨b0, va, b1, hva⟩ := HR1.out n hlt
      have c0 := below_cell (hp ▸ hb) b0
      have c1 := below_cell (hp ▸ hb) b1
      clear b0 b1
      have hs := (okSeg_iff _).mp (okPath_at HK.out n hlt)
      have HX : Hid (encOf four (L.take (n + 1)) = encOf four (L.take n) ++ segE four L[n]) := by unfold Hid; rw [take_snoc L n hlt, encOf_snoc]
      have HL : Hid ((encOf four (L.take n)).length ≤ 16352) := encOf_take_le four HK.out n
      clear hb had
      generalize L[n] = s at *
      generalize encOf four (L.take n) = E at *
      obtain ⟨kd, av⟩ := s
      obtain ⟨hs1, hs4, _, hs255, _⟩ := hs
      simp only at c0 hs1 hs4 hs255 hva
      obtain ⟨k, rfl⟩ : ∃ k : Nat, kd = k := ⟨kd.toNat, by omega⟩
      obtain ⟨ad2, b2, off2, cap2, rfl, had2, _, hr2⟩ := id hva
      have HRU : Hid (RowU w1 b2 off2 av) := hr2
      clear hva hr2
      have hw1 : IntKind.u64.wrap (k : Int) = k := by rw [IntKind.wrap_u64]; omega
      have hw2 : IntKind.u64.wrap (av.length : Int) = av.length := by rw [IntKind.wrap_u64]; omega
      have HA2 : Hid (ad2 = some ⟨b2, off2, none⟩ ∨ av.length = 0) := had2
      clear had2
      go_wp2_with fail
      have hba : Below wr.heap.size wr (wr.alloc (.cells #[.int .i64 (k : Int), .slice ad2 av.length cap2] 48)) := (Below.refl _ _).alloc (Nat.le_refl _) _
      have hsg : (wr.alloc (.cells #[.int .i64 (k : Int), .slice ad2 av.length cap2] 48)).heap[wr.heap.size]? = some (.cells #[.int .i64 (k : Int), .slice ad2 av.length cap2] 48 (0, 0)) := heap_new _ _
      have hpl : p < wr.heap.size := HBD.out.lt
      refine (putc_any p p k 1 E _ (HBD.out.alloc _) (by simp; omega) (by omega) (by omega) (by omega) (by have := HL.out; omega)).mono ?_
      rintro e w2 ⟨rfl, hbd2, hb2, hk2⟩
      have hsg2 := hk2 _ _ hsg (by simp; omega) (by intro c fz h; cases h)
      have HB2 : Hid (Below p w1 w2) := (HB.out.trans (hba.mono hpz)).trans hb2
      have HBD2 : Hid (Bld _ _ _ _) := hbd2
      have e1 := cell_row hsg2 1 (.slice ad2 av.length cap2) rfl
      have HSG : Hid (_ = _) := hsg2
      clear hbd2 hb2 hk2 hba hsg hsg2 c0 c1 HBD
      have hl1 := laid_length k 1
      have hz2 : p ≤ w2.heap.size := by rw [← hp]; rw [← hp] at HB2; exact HB2.out.size
      go_wp2_with fail
      refine (putc_any p p av.length 1 (E ++ laid k 1) w2 HBD2.out hz2 (by omega) (by omega) (by omega) (by have := HL.out; simp; omega)).mono ?_
      rintro e w3 ⟨rfl, hbd3, hb3, hk3⟩
      have hsg3 := hk3 _ _ HSG.out (by simp; omega) (by intro c fz h; cases h)
      have e3 := cell_row hsg3 1 (.slice ad2 av.length cap2) rfl
      have HB3 : Hid (Below p w1 w3) := HB2.out.trans hb3
      have HBD3 : Hid (Bld _ _ _ _) := hbd3
      clear hbd3 hb3 hk3 hsg3 HSG e1 HBD2 HB2
      go_wp2
      clear e3
      go_loopw [36] (fun i wr2 => ∃ j : Nat, j ≤ av.length ∧ i = .int .i64 j ∧ Bld wr2 p p (E ++ laid k 1 ++ laid av.length 1 ++ asE four (av.take j)) ∧ Below p w1 wr2) (fun i _ => av.length - (intOf i).toNat)
      case atStart => exact ⟨0, Nat.zero_le _, rfl, by simpa [asE] using HBD3.out, HB3.out⟩
      case round =>
        obtain ⟨j, hj, rfl, hbd, hb⟩ := hrel
        have HBD4 : Hid (Bld _ _ _ _) := hbd
        have HB4 : Hid (Below _ _ _) := hb
        by_cases hlt2 : j < av.length
        · obtain rfl : ad2 = some ⟨b2, off2, none⟩ := by rcases HA2.out with h | h; exact h; omega
          have hc := ((HRU.out.below (hp ▸ hb)) j hlt2).1
          have hx := (HRU.out j hlt2).2
          have HE : Hid (asE four (av.take (j + 1)) = asE four (av.take j) ++ laid (fitN four av[j]) (szN four)) := by unfold Hid; rw [take_snoc av j hlt2, asE_snoc]
          have hle : (asE four (av.take j)).length ≤ 1020 := by
            rw [asE_length]
            have h1 : (av.take j).length ≤ 255 := by simp; omega
            have h2 : szN four ≤ 4 := by unfold szN; split <;> omega
            exact Nat.mul_le_mul h1 h2
          have hs0 : 1 ≤ szN four ∧ szN four ≤ 8 := by unfold szN; split <;> omega
          have hfl := fitN_lt four av[j] hx
          have HFL : Hid (_ < _) := hfl
          have hz4 : p ≤ wr.heap.size := Nat.le_of_lt HBD4.out.lt
          clear hbd hb hfl
          generalize av[j] = x at *
          go_wp2_with fail
          refine (fit_any x four _ hx).mono ?_
          rintro e w4 ⟨rfl, rfl⟩
          go_wp2_with fail
          refine (sizeOf_any four _).mono ?_
          rintro e w4 ⟨rfl, rfl⟩
          go_wp2_with fail
          refine (putc_any p p (fitN four x) (szN four) _ _ HBD4.out hz4 hs0.1 hs0.2 HFL.out (by have := HL.out; simp [laid_length]; omega)).mono ?_
          rintro e w5 ⟨rfl, hbd5, hb5, _⟩
          have HBD5 : Hid (Bld w5 p p (E ++ laid k 1 ++ laid av.length 1 ++ asE four (av.take (j + 1)))) := by unfold Hid; rw [HE.out, ← List.append_assoc]; exact hbd5
          have HB5 : Hid (Below p w1 w5) := HB4.out.trans hb5
          clear hbd5 hb5 hc
          go_wp2
          go_roundw
          case rel => exact ⟨j + 1, by omega, by go_num, HBD5.out, HB5.out⟩
          case measure => simp [intOf]; omega
        · obtain rfl : j = av.length := by omega
          rw [List.take_length] at HBD4
          have HBD5 : Hid (Bld wr p p (encOf four (L.take (n + 1)))) := by
            unfold Hid
            rw [HX.out]
            simpa [segE, List.append_assoc] using HBD4.out
          clear hbd hb
          go_wp2
          go_roundw
          case rel => exact ⟨n + 1, by omega, by go_num, HBD5.out, HB4.out⟩
          case measure => simp [intOf]; omega
    · obtain rfl : n = L.length := by omega
      rw [List.take_length] at HBD
      clear hb
      go_wp2_with fail
      refine (Tryd.Builder_String_any_k p p (encOf four L) wr HBD.out hpz).mono ?_
      rintro e w5 ⟨rfl, _, hb5, _⟩
      have hb6 : Below w.heap.size w w5 := HB1.out.trans ((HB.out.trans hb5).mono (hp ▸ HB1.out.size))
      go_wp2
      go_ret2
      exact ⟨rfl, hb6⟩
end Go.Proofs.YtbdfigfjoiefiaaDoor
