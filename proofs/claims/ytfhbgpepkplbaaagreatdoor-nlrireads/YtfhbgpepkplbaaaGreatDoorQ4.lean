/-
  The reference's Decode.
-/
import Derived.Test.YtfhbgpepkplbaaaGreatDoorQ3fn
import Derived.Test.YtfhbgpepkplbaaaGreatDoorQ3fl
import Derived.Test.YtfhbgpepkplbaaaGreatDoorQ3fd
import Derived.Test.YtfhbgpepkplbaaaGreatDoorQ3tn
import Derived.Test.YtfhbgpepkplbaaaGreatDoorQ3tl
import Derived.Test.YtfhbgpepkplbaaaGreatDoorQ3td
namespace Go.Proofs.YtfhbgpepkplbaaaGreatDoor
open Go.RowKit
theorem first_any (f : Int) (add : Bool) (l : List UInt8) (w : World) (hle : l.length ≤ 1000000) (hne : ¬ l = []) :
    Calls Tryz.prog 45 #[.string ⟨l.toArray⟩, .int .i64 f, .bool add] w fun e w' => FirstOk f add l w e w' := by
  cases hd : dst f with
  | true =>
    have hl : lab f = true := by simp [lab, hd]
    cases add with
    | true => exact first_td f l w hl hd hle
    | false => exact first_fd f l w hl hd hle hne
  | false =>
    cases hl : lab f with
    | true =>
      cases add with
      | true => exact first_tl f l w hl hd hle
      | false => exact first_fl f l w hl hd hle hne
    | false =>
      cases add with
      | true => exact first_tn f l w hl hd hle
      | false => exact first_fn f l w hl hd hle hne
def strLen (v : Value) : Nat := match v with | .string b => b.size | _ => 0
theorem ext_l2 (l : List UInt8) (k : Nat) : (⟨l.toArray⟩ : ByteArray).extract k l.length = ⟨(l.drop k).toArray⟩ := by
  apply ByteArray.ext
  simp
  exact List.take_of_length_le (by simp)
set_option maxRecDepth 100000 in
set_option maxHeartbeats 3200000 in
theorem rdecode_any (f : Int) (add : Bool) (l : List UInt8) (w : World) (hz : szOf f ≠ 0) (hl : l.length ≤ 1000000) :
    Calls Tryz.prog 21 #[.string ⟨l.toArray⟩, .int .i64 f, .bool add] w fun e w' => DecOk (decI f add l.length l) w e w' := by
  obtain ⟨i0, hi, hz0, hz1, hz2⟩ := info_parts info27
  obtain ⟨X, hX⟩ : ∃ X, X = decI f add l.length l := ⟨_, rfl⟩
  have HX : Hid (_ = _) := hX
  rw [← hX]
  clear hX
  have hz' : (szOf f == 0) = false := by simpa using hz
  clear hz
  go_enter Tryz.func21, Tryz.ntmps21
  go_wp2_with fail
  refine (refsize_any f _).mono ?_
  rintro e w0 ⟨rfl, hw0⟩
  obtain rfl : w = w0 := hw0.symm
  clear hw0
  go_wp2
  clear hz'
  go_loopw [0, 8] (fun s t wr => ∃ (rest : List UInt8) (R : List Nl) (v : Value), .string ⟨rest.toArray⟩ = s ∧ v = t ∧ OwnN wr w.heap.size v R ∧ Below w.heap.size w wr ∧ R.length + rest.length ≤ l.length ∧ X = (decI f add (l.length - R.length) rest).map (R ++ ·)) (fun s _ _ => strLen s)
  case atStart => exact ⟨l, [], _, rfl, rfl, World.ownsRow_nil _ _ _ _, Below.refl _ _, by simp, by rw [HX.out]; simp⟩
  case round =>
    obtain ⟨rest, R, v, rfl, rfl, ho, hb, hlen, hx⟩ := hrel
    have HO : Hid (OwnN wr w.heap.size v R) := ho
    have HB : Hid (Below w.heap.size w wr) := hb
    have HXX : Hid (X = _) := hx
    have HLEN : Hid (_ ≤ _) := hlen
    have hlr : rest.length ≤ 1000000 := by omega
    have hlen2 : R.length ≤ 1000000 := by omega
    clear ho hb hx hlen
    by_cases hnil : rest = []
    · have HXN : Hid (X = some R) := by unfold Hid; rw [HXX.out, hnil, decI_nil]; simp
      subst hnil
      clear HXX
      go_wp2
      go_ret2
      rw [HXN.out]
      exact ⟨HB.out, v, rfl, HO.out⟩
    · have HNE : Hid (rest ≠ []) := hnil
      have hpos : (0 : Int) < rest.length := by cases rest with | nil => exact absurd rfl hnil | cons => simp
      have KF : Hid (_ : Prop) := first_any f add rest wr hlr hnil
      go_wp2_with fail
      refine Calls.mono KF.out ?_
      rintro e w4 ⟨hb4, he⟩
      rcases he with ⟨hok, rfl⟩ | ⟨hok, id, rfl⟩
      · have HN : Hid (X = (decI f add (l.length - (R.length + 1)) (restI f add rest)).map ((R ++ [nlI f add rest]) ++ ·)) := by
          unfold Hid
          have h1 := HLEN.out
          have h2 : 1 ≤ rest.length := by omega
          rw [HXX.out, show l.length - R.length = (l.length - (R.length + 1)) + 1 by omega, decI_step _ _ _ _ HNE.out hok]
          cases decI f add (l.length - (R.length + 1)) (restI f add rest) <;> simp
        have HLE : Hid ((restI f add rest).length + 1 ≤ rest.length) := rest_lt f add rest HNE.out
        have hu1 : hdN f add + (byN (bitI' f add rest)).toNat ≤ rest.length := by
          have h1 := hok.2.2.2.1
          have h0 := hok.2.1
          have : 0 ≤ byN (bitI' f add rest) := by rw [byN_eq _ h0]; omega
          omega
        have hu0 : 1 ≤ hdN f add + (byN (bitI' f add rest)).toNat := by unfold hdN; omega
        have HRE : Hid (restI f add rest = rest.drop (hdN f add + (byN (bitI' f add rest)).toNat)) := rfl
        generalize restI f add rest = rest' at *
        generalize hdN f add + (byN (bitI' f add rest)).toNat = u at *
        generalize nlI f add rest = n at *
        obtain ⟨nf, nr, ns, nl, nid, nlb⟩ := n
        simp only
        have hux : ((u : Int) == 0) = false := by simp; omega
        have hul : (u : Int) ≤ rest.length := by omega
        have HB4 : Hid (Below w.heap.size w w4) := HB.out.trans (hb4.mono HB.out.size)
        have HO4 : Hid (OwnN w4 w.heap.size v R) := owns_below HO.out hb4
        have h4 := HB4.out.size
        have hba : Below w4.heap.size w4 (w4.alloc (.cells #[.int .i64 nf, .int .u64 nr, .string ns, .int .i64 nl, .int .u32 nid, .int .u32 nlb] 27)) := (Below.refl _ _).alloc (Nat.le_refl _) _
        have HO5 : Hid (OwnN (w4.alloc (.cells #[.int .i64 nf, .int .u64 nr, .string ns, .int .i64 nl, .int .u32 nid, .int .u32 nlb] 27)) w.heap.size v R) := owns_below HO4.out hba
        have HB5 : Hid (Below w.heap.size w (w4.alloc (.cells #[.int .i64 nf, .int .u64 nr, .string ns, .int .i64 nl, .int .u32 nid, .int .u32 nlb] 27))) := HB4.out.trans (hba.mono h4)
        have HNW : Hid (∀ (j : Nat) (u : Value), ([.int .i64 nf, .int .u64 nr, .string ns, .int .i64 nl, .int .u32 nid, .int .u32 nlb] : List Value)[j]? = some u → ((w4.alloc (.cells #[.int .i64 nf, .int .u64 nr, .string ns, .int .i64 nl, .int .u32 nid, .int .u32 nlb] 27)).alloc (.cells #[.int .i64 nf, .int .u64 nr, .string ns, .int .i64 nl, .int .u32 nid, .int .u32 nlb] 27)).cell? (Addr.add ⟨w4.heap.size + 1, 0, none⟩ j) = some u) := by
          have h := news6 (w4.alloc (.cells #[.int .i64 nf, .int .u64 nr, .string ns, .int .i64 nl, .int .u32 nid, .int .u32 nlb] 27)) (.int .i64 nf) (.int .u64 nr) (.string ns) (.int .i64 nl) (.int .u32 nid) (.int .u32 nlb) 27
          rw [show (w4.alloc (.cells #[.int .i64 nf, .int .u64 nr, .string ns, .int .i64 nl, .int .u32 nid, .int .u32 nlb] 27)).heap.size = w4.heap.size + 1 by simp] at h
          exact h
        clear hba HO4 HB4 hb4 HO HB HXX hok hnil KF
        go_wp2_with (at_builtin; refine wpList_append_own _ rfl _ _ 35 rfl w.heap.size 27 i0 (.agg #[.int .i64 0, .int .u64 0, .string ⟨#[]⟩, .int .i64 0, .int .u32 0, .int .u32 0]) 6 48 Tryz.underlying35 hi hz0 hz1 hz2 rfl (by decide) _ _ _ rfl (World.ownsRow.alloc HO5.out _) ⟨w4.heap.size + 1, 0, none⟩ 1 1 [.int .i64 nf, .int .u64 nr, .string ns, .int .i64 nl, .int .u32 nid, .int .u32 nlb] rfl rfl HNW.out (six_nl _ _ _ _ _ _) (by unfold maxLen; omega) (by omega) (Nat.le_trans HB5.out.size (by simp)) ?_; intro v6 w6 hown6 hgrow6 _)
        have hos : OwnN w6 w.heap.size v6 (R ++ [⟨nf, nr, ns, nl, nid, nlb⟩]) := by
          unfold OwnN; rw [cellsN_snoc, List.length_append]; exact hown6
        have hbw : Below w.heap.size (w4.alloc (.cells #[.int .i64 nf, .int .u64 nr, .string ns, .int .i64 nl, .int .u32 nid, .int .u32 nlb] 27)) w6 := ((Below.refl _ _).alloc HB5.out.size _).grown hgrow6 (Nat.le_trans HB5.out.size (by simp)) (fun k e => (owns_lt HO5.out k e).1)
        have HB6 : Hid (Below w.heap.size w w6) := HB5.out.trans hbw
        clear hown6 hgrow6 hbw
        go_roundw
        case rel => exact ⟨rest', _, v6, by rw [HRE.out, ← ext_l2], rfl, hos, HB6.out, by have h1 := HLEN.out; have h2 := HLE.out; simp; omega, by rw [List.length_append]; exact HN.out⟩
        case measure => simp only [strLen, ext_l2, list_size, ← HRE.out]; have h2 := HLE.out; omega
      · have HXN : Hid (X = none) := by unfold Hid; rw [HXX.out, decI_bad _ _ _ _ HNE.out hok]; rfl
        have HB4 : Hid (Below w.heap.size w w4) := HB.out.trans (hb4.mono HB.out.size)
        clear hb4 HXX hok hnil KF
        go_wp2
        go_ret2
        rw [HXN.out]
        exact ⟨HB4.out.alloc HB4.out.size _, rfl⟩
end Go.Proofs.YtfhbgpepkplbaaaGreatDoor
