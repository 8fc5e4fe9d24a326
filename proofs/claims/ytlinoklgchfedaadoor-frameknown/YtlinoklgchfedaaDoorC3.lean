/-
  Frames in memory; the reference's Same of frames that are alike; its Make.
-/
import Derived.Test.YtlinoklgchfedaaDoorB6
import Derived.Test.YtlinoklgchfedaaDoorB8
namespace Go.Proofs.YtlinoklgchfedaaDoor
open Go.RowKit
theorem cell_of_row {w : World} {b : Nat} {cs : Array Value} {t : TypeId} {fr : Nat × Nat} (hh : w.heap[b]? = some (.cells cs t fr)) (i : Nat) (v : Value) (h : cs.toList[i]? = some v) : w.cell? ⟨b, i, none⟩ = some v := by
  rw [World.cell?, hh]
  simpa using h
def RowF (w : World) (b off : Nat) (R : List Fm) : Prop := ∀ j (h : j < R.length),
  w.cell? ⟨b, off + j * 2, none⟩ = some (.int .i64 (R[j].k : Int)) ∧ w.cell? ⟨b, off + j * 2 + 1, none⟩ = some (.string ⟨R[j].b.toArray⟩)
def FmsAt (w : World) (v : Value) (R : List Fm) : Prop :=
  ∃ (ad : Option Addr) (b off cap : Nat), v = .slice ad R.length cap ∧ (ad = some ⟨b, off, none⟩ ∨ R.length = 0) ∧ R.length ≤ cap ∧ RowF w b off R
theorem cellsF_at (R : List Fm) : ∀ j (h : j < R.length), (cellsF R)[j * 2]? = some (.int .i64 (R[j].k : Int)) ∧ (cellsF R)[j * 2 + 1]? = some (.string ⟨R[j].b.toArray⟩) := by
  induction R with
  | nil => intro j h; simp at h
  | cons f R ih =>
    intro j h
    have e : cellsF (f :: R) = (.int .i64 (f.k : Int)) :: (.string ⟨f.b.toArray⟩) :: cellsF R := by simp [cellsF, Fm.cs]
    rw [e]
    cases j with
    | zero => simp
    | succ j =>
      have := ih j (by simpa using h)
      rw [show (j + 1) * 2 = j * 2 + 1 + 1 by omega]
      simpa using this
theorem OwnF.at {w : World} {base : Nat} {v : Value} {R : List Fm} (h : OwnF w base v R) : FmsAt w v R := by
  obtain ⟨hn, hv⟩ := h
  rcases hv with ⟨rfl, h0⟩ | ⟨g, cap, cur, rfl, hg, hh, hc, hm, hs, ht⟩
  · obtain rfl : R = [] := List.length_eq_zero_iff.mp h0
    exact ⟨none, 0, 0, 0, rfl, Or.inr rfl, by simp, fun j hj => by simp at hj⟩
  · refine ⟨some ⟨g, 0, none⟩, g, 0, cap, rfl, Or.inl rfl, hc, fun j hj => ?_⟩
    have e : ∀ i, i < R.length * 2 → cur.toList[i]? = (cellsF R)[i]? := fun i hi => by
      have : (cur.toList.take (R.length * 2))[i]? = (cellsF R)[i]? := by rw [ht]
      rwa [List.getElem?_take, if_pos hi] at this
    have hk := cellsF_at R j hj
    rw [Nat.zero_add]
    exact ⟨cell_of_row hh _ _ (by rw [e _ (by omega)]; exact hk.1), cell_of_row hh _ _ (by rw [e _ (by omega)]; exact hk.2)⟩
theorem FmsAt.drop {w : World} {b off n cap : Nat} {R : List Fm} (h : RowF w b off R) (hn : n ≤ R.length) (hc : R.length ≤ cap) (hlt : n < cap) : FmsAt w (.slice (some ⟨b, off + n * 2, none⟩) (R.length - n) (cap - n)) (R.drop n) := by
  refine ⟨some ⟨b, off + n * 2, none⟩, b, off + n * 2, cap - n, by rw [List.length_drop], Or.inl rfl, by rw [List.length_drop]; omega, fun j hj => ?_⟩
  have hj' : n + j < R.length := by rw [List.length_drop] at hj; omega
  have k := h (n + j) hj'
  rw [show off + n * 2 + j * 2 = off + (n + j) * 2 by omega, List.getElem_drop]
  exact k
def intOf : Value → Int
  | .int _ n => n
  | _ => 0
set_option maxRecDepth 100000 in
set_option maxHeartbeats 800000 in
theorem same_yes (va vb : Value) (A : List Fm) (w : World) (ha : FmsAt w va A) (hb : FmsAt w vb A) (hA : A.length ≤ 1000000) :
    Calls Tryd.prog 11 #[va, vb] w fun e w' => e = .returned (.bool true) ∧ ∃ q, w' = w.drewN q := by
  obtain ⟨ada, ba, offa, capa, rfl, hada, _, hra⟩ := ha
  obtain ⟨adb, bb, offb, capb, rfl, hadb, _, hrb⟩ := hb
  have HRA : Hid (RowF _ _ _ _) := hra
  have HRB : Hid (RowF _ _ _ _) := hrb
  clear hra hrb
  go_enter Tryd.func11, Tryd.ntmps11
  go_wp2
  go_loopw [5] (fun i wr => ∃ n : Nat, n ≤ A.length ∧ i = .int .i64 n ∧ ∃ q, wr = w.drewN q) (fun i _ => A.length - (intOf i).toNat)
  case atStart => exact ⟨0, Nat.zero_le _, rfl, 0, rfl⟩
  case round =>
    obtain ⟨n, hn, rfl, q, hq⟩ := hrel
    have HQ : Hid (wr = w.drewN q) := hq
    clear hq
    by_cases hlt : n < A.length
    · obtain rfl : ada = some ⟨ba, offa, none⟩ := by rcases hada with h | h; exact h; omega
      obtain rfl : adb = some ⟨bb, offb, none⟩ := by rcases hadb with h | h; exact h; omega
      have hcell : ∀ a, wr.cell? a = w.cell? a := fun a => by rw [HQ.out]; rfl
      have c := HRA.out n hlt
      have d := HRB.out n hlt
      generalize A[n].k = kk at *
      generalize (⟨A[n].b.toArray⟩ : ByteArray) = bb2 at *
      have c0 : wr.cell? ⟨ba, offa + n * 2, none⟩ = some (.int .i64 (kk : Int)) := (hcell _).trans c.1
      have c1 : wr.cell? ⟨ba, offa + n * 2 + 1, none⟩ = some (.string bb2) := (hcell _).trans c.2
      have d0 : wr.cell? ⟨bb, offb + n * 2, none⟩ = some (.int .i64 (kk : Int)) := (hcell _).trans d.1
      have d1 : wr.cell? ⟨bb, offb + n * 2 + 1, none⟩ = some (.string bb2) := (hcell _).trans d.2
      have HLN : Hid (n + 1 ≤ A.length) := hlt
      clear c d hada hadb hcell
      have hlt2 : (n : Int) < A.length := by omega
      go_wp2
      go_quiet (fail)
      go_wp2
      exact ⟨⟨n + 1, HLN.out, by simp, q + nq, by rw [HQ.out]; simp [World.drewN, Nat.add_assoc]⟩, by simp [intOf]; omega⟩
    · obtain rfl : n = A.length := by omega
      go_wp2
      go_ret
      exact ⟨rfl, q, HQ.out⟩
end Go.Proofs.YtlinoklgchfedaaDoor
