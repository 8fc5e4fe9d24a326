/-
  The law's own maker of prefixes: whatever the raw data, a prefix that may be.
-/
import Derived.Test.YtkgedoedojkdkaaDoorB11
import Derived.Test.YtkgedoedojkdkaaDoorB12
import Derived.Test.YtkgedoedojkdkaaDoorB13
import Derived.Test.YtkgedoedojkdkaaDoorB14
import Derived.Test.YtkgedoedojkdkaaDoorB15
import Derived.Test.YtkgedoedojkdkaaDoorB16
namespace Go.Proofs.YtkgedoedojkdkaaDoor
open Go.RowKit
theorem msk_idem (l : List UInt8) (n : Int) : msk (msk l n) n = msk l n := by
  apply List.ext_getElem
  · simp [msk]
  · intro i h1 h2
    simp only [msk, List.getElem_mapIdx]
    apply UInt8.toNat_inj.1
    simp [UInt8.toNat_and, Nat.and_assoc]
theorem chk_cut (f r : Int) (l : List UInt8) (n : Int) (hz : szOf f ≠ 0) (hs : (l.length : Int) = szOf f) (h0 : 0 ≤ n) (h1 : n ≤ 8 * szOf f) (hr : r = 0 ∨ 4 ≤ f) : chk f r ⟨(msk l n).toArray⟩ n = 0 := by
  unfold chk
  have e : ((⟨(msk l n).toArray⟩ : ByteArray).size : Int) = szOf f := by
    show ((msk l n).toArray.size : Int) = szOf f
    rw [List.size_toArray, msk_length]; exact hs
  rw [if_pos ⟨hz, e, h0, h1, hr, by rw [List.toList_toArray]; exact msk_idem l n⟩]
/-- A raw prefix as a value. -/
def rawV (fm rd ln : Int) (a0 a1 a2 a3 a4 a5 a6 a7 a8 a9 a10 a11 a12 a13 a14 a15 : UInt8) : Array Value := #[.int .u8 fm, .int .u64 rd, .int .u8 a0.toNat, .int .u8 a1.toNat, .int .u8 a2.toNat, .int .u8 a3.toNat, .int .u8 a4.toNat, .int .u8 a5.toNat, .int .u8 a6.toNat, .int .u8 a7.toNat, .int .u8 a8.toNat, .int .u8 a9.toNat, .int .u8 a10.toNat, .int .u8 a11.toNat, .int .u8 a12.toNat, .int .u8 a13.toNat, .int .u8 a14.toNat, .int .u8 a15.toNat, .int .u8 ln]
theorem of_any (fm rd ln : Int) (a0 a1 a2 a3 a4 a5 a6 a7 a8 a9 a10 a11 a12 a13 a14 a15 : UInt8) (w : World) (h : Tabs w) (hf0 : 0 ≤ fm) (hf1 : fm ≤ 255) (hl0 : 0 ≤ ln) (hl1 : ln ≤ 255) (hrd : 0 ≤ rd) :
    Calls Tryd.prog 30 #[.agg (rawV fm rd ln a0 a1 a2 a3 a4 a5 a6 a7 a8 a9 a10 a11 a12 a13 a14 a15)] w fun e w' => ∃ f r s l, e = .returned (.agg #[.int .i64 f, .int .u64 r, .string s, .int .i64 l]) ∧ chk f r s l = 0 ∧ Below w.heap.size w w' := by
  have hc : fm % 5 = 0 ∨ fm % 5 = 1 ∨ fm % 5 = 2 ∨ fm % 5 = 3 ∨ fm % 5 = 4 := by omega
  rcases hc with hc | hc | hc | hc | hc
  · exact (of_1 fm rd ln a0 a1 a2 a3 a4 a5 a6 a7 a8 a9 a10 a11 a12 a13 a14 a15 w h.sizes h.rds hf0 hf1 hl0 hl1 hc).mono fun e w' ⟨he, hb⟩ => ⟨_, _, _, _, he, chk_cut 1 0 _ _ (by decide) rfl (by omega) (show ln % 33 ≤ 32 by omega) (Or.inl rfl), hb⟩
  · exact (of_2 fm rd ln a0 a1 a2 a3 a4 a5 a6 a7 a8 a9 a10 a11 a12 a13 a14 a15 w h.sizes h.rds hf0 hf1 hl0 hl1 hc).mono fun e w' ⟨he, hb⟩ => ⟨_, _, _, _, he, chk_cut 2 0 _ _ (by decide) rfl (by omega) (show ln % 129 ≤ 128 by omega) (Or.inl rfl), hb⟩
  · exact (of_3 fm rd ln a0 a1 a2 a3 a4 a5 a6 a7 a8 a9 a10 a11 a12 a13 a14 a15 w h.sizes h.rds hf0 hf1 hl0 hl1 hc).mono fun e w' ⟨he, hb⟩ => ⟨_, _, _, _, he, chk_cut 3 0 _ _ (by decide) rfl (by omega) (show ln % 33 ≤ 32 by omega) (Or.inl rfl), hb⟩
  · exact (of_4 fm rd ln a0 a1 a2 a3 a4 a5 a6 a7 a8 a9 a10 a11 a12 a13 a14 a15 w h.sizes h.rds hf0 hf1 hl0 hl1 hrd hc).mono fun e w' ⟨he, hb⟩ => ⟨_, _, _, _, he, chk_cut 4 _ _ _ (by decide) rfl (by omega) (show ln % 33 ≤ 32 by omega) (Or.inr (by decide)), hb⟩
  · exact (of_5 fm rd ln a0 a1 a2 a3 a4 a5 a6 a7 a8 a9 a10 a11 a12 a13 a14 a15 w h.sizes h.rds hf0 hf1 hl0 hl1 hrd hc).mono fun e w' ⟨he, hb⟩ => ⟨_, _, _, _, he, chk_cut 5 _ _ _ (by decide) rfl (by omega) (show ln % 129 ≤ 128 by omega) (Or.inr (by decide)), hb⟩
end Go.Proofs.YtkgedoedojkdkaaDoor
