/-
  Parse of a text that is no community's.
-/
import Derived.Test.YteldgfmcfkmpdaaDoorP2
namespace Go.Proofs.YteldgfmcfkmpdaaDoor
open Go.RowKit Lib
theorem pm_le (M acc : Nat) (l : List UInt8) (u : Nat) (ha : acc ≤ M) (h : parseUintM M acc l = .ok u) : u ≤ M := by
  induction l generalizing acc with
  | nil => simp only [parseUintM, NumEnd.ok.injEq] at h; omega
  | cons c l ih =>
    simp only [parseUintM] at h
    split at h
    · split at h
      · cases h
      · split at h
        · cases h
        · exact ih _ (by omega) h
    · cases h
theorem pb_le (l : List UInt8) (u : Nat) (h : parseUintB 16 l = .ok u) : u < 65536 := by
  unfold parseUintB at h
  split at h
  · cases h
  · have := pm_le _ 0 l u (by omega) h
    simp at this
    omega
/-- The two variables that hold the errors. -/
def ErrsAt (w : World) : Prop := (∃ te pe t fr, w.heap[2]? = some (.cells #[.iface te pe] t fr)) ∧ (∃ te pe t fr, w.heap[3]? = some (.cells #[.iface te pe] t fr))
theorem ErrsAt.below {w w' : World} (h : ErrsAt w) (hb : Below w.heap.size w w') : ErrsAt w' := by
  obtain ⟨⟨a, b, t, fr, h1⟩, ⟨c, d, t', fr', h2⟩⟩ := h
  have z1 := (Array.getElem?_eq_some_iff.mp h1).1
  have z2 := (Array.getElem?_eq_some_iff.mp h2).1
  exact ⟨⟨a, b, t, fr, (hb.block 2 z1).trans h1⟩, ⟨c, d, t', fr', (hb.block 3 z2).trans h2⟩⟩
theorem var_at {w : World} {n : String} {g : Nat} {cs : Array Value} {t : TypeId} {fr : Nat × Nat} (hg : Tryd.prog.globalNamed n = some g) (h : w.heap[g]? = some (.cells cs t fr)) : w.var? Tryd.prog n = some cs := by
  unfold World.var?
  rw [hg, Option.bind_some, h]
theorem pu_any (s : ByteArray) (hs : s.size ≤ 281474976710656) (w : World) (he : ErrsAt w) :
    Calls Tryd.prog 54 #[.string s, .int .i64 10, .int .i64 16] w fun e w' => ∃ (u : Nat) (v : Value), u < 65536 ∧ e = .returned (.tuple #[.int .u64 (u : Int), v]) ∧ Below w.heap.size w w' := by
  obtain ⟨⟨t1, p1, _, _, h1⟩, ⟨t2, p2, _, _, h2⟩⟩ := he
  cases hp : parseUintB 16 s.data.toList
  · rename_i u
    exact (Tryd.strconv_ParseUint_10_at16_ok s (by omega) u hp w).mono fun _ _ ⟨h3, h4⟩ => ⟨u, _, pb_le _ u hp, h3, pu_below h4⟩
  · exact (show Calls Tryd.prog 54 _ _ _ from Any.strconv_ParseUint_10_at16_syntax_var Tryd.laysPu14 s hs hp t1 p1 w (var_at (by kernel_rfl) h1)).mono fun _ _ ⟨N, h3, _, _, h4⟩ => ⟨0, _, by omega, h3, h4⟩
  · exact (show Calls Tryd.prog 54 _ _ _ from Any.strconv_ParseUint_10_at16_range Tryd.laysPu14 s hs hp _ w (cell_row h2 0 _ rfl) (Or.inr ⟨_, _, rfl⟩)).mono fun _ _ ⟨N, h3, _, _, h4⟩ => ⟨65535, _, by omega, h3, h4⟩
theorem cut_le (l sep : List UInt8) : (Lib.cut l sep).1.length ≤ l.length ∧ (Lib.cut l sep).2.1.length ≤ l.length := by
  unfold Lib.cut
  split
  · simp; omega
  · simp
set_option maxRecDepth 100000 in
set_option maxHeartbeats 800000 in
theorem parse_no (s : ByteArray) (w : World) (hs : s.size < 4294967281) (hno : ∀ c, c < 4294967296 → ¬ (textC c = s)) (ht : Tabs w) (hm : MaxAt w) (herr : ErrsAt w) :
    Calls Tryd.prog 25 #[.string s] w fun e w' => e = .returned (.tuple #[.int .u32 0, .int .i64 4]) ∧ Below w.heap.size w w' := by
  have d1' : (nmExport.toList == s.toList) = false := ne_list (hno 4294967041 (by omega))
  have d2' : (nmAdvertise.toList == s.toList) = false := ne_list (hno 4294967042 (by omega))
  have d3' : (nmConfed.toList == s.toList) = false := ne_list (hno 4294967043 (by omega))
  have HNo : Hid (∀ c, c < 4294967296 → (( textC c).toList == s.toList) = false) := fun c hc => ne_list (hno c hc)
  obtain ⟨a, b, f, hca, hcb, hcf⟩ : ∃ (a b : ByteArray) (f : Bool), a = ⟨(Lib.cut s.data.toList (ByteArray.mk #[58]).data.toList).1.toArray⟩ ∧ b = ⟨(Lib.cut s.data.toList (ByteArray.mk #[58]).data.toList).2.1.toArray⟩ ∧ f = (Lib.cut s.data.toList (ByteArray.mk #[58]).data.toList).2.2 := ⟨_, _, _, rfl, rfl, rfl⟩
  have hla : a.size ≤ s.size := by rw [hca]; exact (cut_le _ _).1
  have hlb : b.size ≤ s.size := by rw [hcb]; exact (cut_le _ _).2
  have HCut : Hid (∀ W, MaxAt W → Calls Tryd.prog 53 #[.string s, .string ⟨#[58]⟩] W fun e w' => e = .returned (.tuple #[.string a, .string b, .bool f]) ∧ Below W.heap.size W w') := fun W hM => by
    obtain ⟨m, hM⟩ := hM
    have h := Tryd.strings_Cut s ⟨#[58]⟩ m W (by omega) hM
    rw [← hca, ← hcb, ← hcf] at h
    exact h.mono fun _ _ ⟨h1, n, h2⟩ => ⟨h1, by rw [h2]; exact below_drewN' (Below.refl _ _) n⟩
  have n0 : w.cell? ⟨0, 0, none⟩ = some (.int .u32 4294967041) := ht.names 0 _ rfl
  have n1 : w.cell? ⟨0, 1, none⟩ = some (.string nmExport) := ht.names 1 _ rfl
  have n2 : w.cell? ⟨0, 2, none⟩ = some (.int .u32 4294967042) := ht.names 2 _ rfl
  have n3 : w.cell? ⟨0, 3, none⟩ = some (.string nmAdvertise) := ht.names 3 _ rfl
  have n4 : w.cell? ⟨0, 4, none⟩ = some (.int .u32 4294967043) := ht.names 4 _ rfl
  have n5 : w.cell? ⟨0, 5, none⟩ = some (.string nmConfed) := ht.names 5 _ rfl
  have HT : Hid (Tabs w) := ht
  have HMx : Hid (MaxAt w) := hm
  have HEr : Hid (ErrsAt w) := herr
  clear ht hm herr hno hca hcb hcf
  go_enter Tryd.func25, Tryd.ntmps25
  go_wp2
  clear n0 n1 n2 n3 n4 n5
  go_loopw [15] (fun i wr => ∃ k : Nat, k ≤ 3 ∧ i = .int .i64 k ∧ Below w.heap.size w wr) (fun i _ => 3 - (intOf i).toNat)
  case atStart => exact ⟨0, by omega, rfl, Below.refl _ _⟩
  case round =>
    obtain ⟨k, hk, rfl, hb⟩ := hrel
    by_cases hlt : k < 3
    · have HB : Hid (∀ o, Below w.heap.size w (wr.alloc o)) := fun o => hb.alloc hb.size _
      rcases (show k = 0 ∨ k = 1 ∨ k = 2 by omega) with rfl | rfl | rfl
      · have hix : ∀ W, (Instr.index 75 (.agg #[.int .u32 4294967041, .string nmExport, .int .u32 4294967042, .string nmAdvertise, .int .u32 4294967043, .string nmConfed]) (.int .i64 0)).run Tryd.prog W = .ok (.agg #[.int .u32 4294967041, .string nmExport]) W := fun W => by kernel_rfl
        go_wp2
        go_roundw
        case rel => exact ⟨1, by omega, by go_num, HB.out _⟩
        case measure => simp [intOf]
      · have hix : ∀ W, (Instr.index 75 (.agg #[.int .u32 4294967041, .string nmExport, .int .u32 4294967042, .string nmAdvertise, .int .u32 4294967043, .string nmConfed]) (.int .i64 1)).run Tryd.prog W = .ok (.agg #[.int .u32 4294967042, .string nmAdvertise]) W := fun W => by kernel_rfl
        go_wp2
        go_roundw
        case rel => exact ⟨2, by omega, by go_num, HB.out _⟩
        case measure => simp [intOf]
      · have hix : ∀ W, (Instr.index 75 (.agg #[.int .u32 4294967041, .string nmExport, .int .u32 4294967042, .string nmAdvertise, .int .u32 4294967043, .string nmConfed]) (.int .i64 2)).run Tryd.prog W = .ok (.agg #[.int .u32 4294967043, .string nmConfed]) W := fun W => by kernel_rfl
        go_wp2
        go_roundw
        case rel => exact ⟨3, by omega, by go_num, HB.out _⟩
        case measure => simp [intOf]
    · obtain rfl : k = 3 := by omega
      have HB : Hid (Below w.heap.size w wr) := hb
      clear hb d1' d2' d3'
      go_wp2_with fail
      refine (HCut.out wr (HMx.out.below HB.out)).mono ?_
      rintro e w1 ⟨rfl, hb1'⟩
      have HB1 : Hid (Below w.heap.size w w1) := HB.out.trans (hb1'.mono HB.out.size)
      clear hb1'
      go_wp2_with fail
      refine (pu_any a (by omega) w1 (HEr.out.below HB1.out)).mono ?_
      rintro e w2 ⟨q1, v1, hq1, rfl, hw2⟩
      have HB2 : Hid (Below w.heap.size w w2) := HB1.out.trans (hw2.mono HB1.out.size)
      clear hw2
      go_wp2_with fail
      refine (pu_any b (by omega) w2 (HEr.out.below HB2.out)).mono ?_
      rintro e w3 ⟨q2, v2, hq2, rfl, hw3⟩
      have HB3 : Hid (Below w.heap.size w w3) := HB2.out.trans (hw3.mono HB2.out.size)
      clear hw3
      have hor := or16 q1 q2 hq1 hq2
      obtain ⟨c, hc⟩ : ∃ c, c = q1 * 65536 + q2 := ⟨_, rfl⟩
      have hc32 : c < 4294967296 := by omega
      rw [← hc] at hor
      clear hc
      go_wp2_with fail
      refine (text_any c w3 hc32 (HT.out.below HB3.out)).mono ?_
      rintro e w4 ⟨rfl, hb4⟩
      have hne := HNo.out c hc32
      generalize textC c = tx at *
      go_wp2
      go_ret2
      exact ⟨rfl, HB3.out.trans (hb4.mono HB3.out.size)⟩
end Go.Proofs.YteldgfmcfkmpdaaDoor
