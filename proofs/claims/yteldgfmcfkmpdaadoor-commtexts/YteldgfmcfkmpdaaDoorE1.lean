/-
  Decode; works.
-/
import Derived.Test.YteldgfmcfkmpdaaDoorD3
import Derived.Test.YteldgfmcfkmpdaaDoorT1
namespace Go.Proofs.YteldgfmcfkmpdaaDoor
open Go.RowKit Go.Maps
theorem Dec_few (s : ByteArray) (m : Nat) (w : World) (hm : s.size = 4 * (m + 1)) (h64 : m < 64) :
    Calls Tryd.prog 38 #[.string s] w fun e w' => ∃ v, e = .returned (.tuple #[v, .int .i64 0]) ∧ PlainAt w' v (sortU (onceTo s (m + 1))) ∧ Below w.heap.size w w' := by
  have hD := decode_few s m w hm h64
  generalize sortU (onceTo s (m + 1)) = l at *
  clear hm
  go_enter Tryd.func38, Tryd.ntmps38
  go_wp2_with fail
  refine hD.mono ?_
  rintro e w1 ⟨v, rfl, hp, hb⟩
  obtain ⟨ad, b, off, cap, rfl, _⟩ := id hp
  have HP : Hid (PlainAt _ _ _) := hp
  clear hp
  go_wp2
  go_ret2
  exact ⟨_, rfl, HP.out, hb⟩
def wkS : ByteArray := ⟨#[0, 0, 0, 1, 0, 0, 1, 2]⟩
theorem wk_bytes : bytesN 4 [1, 258] = wkS := by decide +kernel
theorem wk_may : mayL ltN [1, 258] = true := by decide
theorem wk_once : onceTo wkS 2 = [1, 258] := by decide +kernel
theorem wk_sort : sortU [1, 258] = [1, 258] := by
  unfold sortU
  apply List.mergeSort_of_pairwise
  simp [ltU]
theorem wk_text : textC 4259840007 = ⟨#[54, 53, 48, 48, 48, 58, 55]⟩ := by decide +kernel
set_option maxRecDepth 100000 in
theorem works_any (w : World) (ht : Tabs w) : Calls Tryd.prog 18 #[] w fun e w' => e = .returned (.bool true) ∧ Below w.heap.size w w' := by
  have hP : PlainAt (w.alloc (.cells #[.int .u32 1, .int .u32 258] 23)) (.slice (some ⟨w.heap.size, 0, none⟩) 2 2) [1, 258] := by
    refine ⟨some ⟨w.heap.size, 0, none⟩, w.heap.size, 0, 2, rfl, Or.inl rfl, by simp, fun j hj => ?_⟩
    simp only [List.length_cons, List.length_nil] at hj
    rw [World.cell?_alloc_at _ _ _ _ rfl]
    rcases j with _ | _ | j
    · exact ⟨rfl, by simp⟩
    · exact ⟨rfl, by simp⟩
    · omega
  have hE := EncU _ _ _ hP
  rw [wk_bytes, wk_may] at hE
  have HE : Hid (Calls _ _ _ _ _) := hE
  have HB0 : Hid (Below w.heap.size w (w.alloc (.cells #[.int .u32 1, .int .u32 258] 23))) := (Below.refl _ _).alloc (Nat.le_refl _) _
  have HT : Hid (Tabs w) := ht
  clear hP hE ht
  go_enter Tryd.func18, Tryd.ntmps18
  go_wp2_with fail
  refine Calls.mono HE.out ?_
  rintro e w1 ⟨rfl, hb1⟩
  have HB1 : Hid (Below w.heap.size w w1) := HB0.out.trans (hb1.mono HB0.out.size)
  clear hb1 HE HB0
  rw [show encAns true wkS = .tuple #[.string wkS, .int .i64 0] from rfl]
  have HD : Hid (Calls _ _ _ _ _) := Dec_few wkS 1 w1 rfl (by omega)
  rw [wk_once, wk_sort] at HD
  go_wp2_with fail
  refine Calls.mono HD.out ?_
  rintro e w2 ⟨v, rfl, hp, hb2⟩
  have HB2 : Hid (Below w.heap.size w w2) := HB1.out.trans (hb2.mono HB1.out.size)
  obtain ⟨ad, b, off, cap, rfl, had, _, hr⟩ := hp
  obtain rfl : ad = some ⟨b, off, none⟩ := by rcases had with h | h; exact h; simp at h
  have hc := (hr 1 (by simp)).1
  simp only [List.length_cons, List.length_nil, Nat.zero_add, Nat.reduceAdd] at *
  clear hb2 HD had hr
  unfold wkS
  have HTx := text_any 4259840007 w2 (by omega) (HT.out.below HB2.out)
  rw [wk_text] at HTx
  have HTH : Hid (Calls _ _ _ _ _) := HTx
  clear HTx
  go_wp2_with (go_at_call 27; refine Calls.mono HTH.out ?_; rintro e w3 ⟨rfl, hb3⟩)
  go_ret
  exact ⟨rfl, HB2.out.trans (hb3.mono HB2.out.size)⟩
end Go.Proofs.YteldgfmcfkmpdaaDoor
