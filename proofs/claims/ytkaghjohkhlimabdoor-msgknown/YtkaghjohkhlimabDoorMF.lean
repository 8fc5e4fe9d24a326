/-
  The reference's Note; ReadNote and the reference's.
-/
import Derived.Test.YtkaghjohkhlimabDoorME
namespace Go.Proofs.YtkaghjohkhlimabDoor
open Go.RowKit
theorem laid1 (c : Nat) : laid c 1 = [UInt8.ofNat c] := by simp [laid, byteAt]
theorem of_toNat {c : Nat} (h : c < 256) : ((UInt8.ofNat c).toNat : Int) = (c : Int) := by rw [UInt8.toNat_ofNat']; omega
/-- Bytes that were just made, as a text. -/
theorem conv_new (W : World) (l : List UInt8) (C : Array Value) (n b : Nat) (hb : b = W.heap.size) (hn : n = l.length) (hC : ∀ j (h : j < l.length), C[j]? = some (.int .u8 (l[j].toNat : Int))) :
    (convert 33 9 (.slice (some ⟨b, 0, none⟩) n n)).run Tryd.prog (W.alloc (.cells C 5)) = .ok (.string ⟨l.toArray⟩) (W.alloc (.cells C 5)) := by
  subst hb hn
  refine run_convert_bytes_back (P := Tryd.prog) _ 33 9 5 ⟨W.heap.size, 0, none⟩ _ l Tryd.underlying33 Tryd.underlying5 Tryd.underlying9 (fun j hj => ?_)
  rw [show Addr.add ⟨W.heap.size, 0, none⟩ j = ⟨W.heap.size, j, none⟩ from by unfold Addr.add; by_cases e : j = 0 <;> simp [e]]
  exact cl_row (hp_new rfl) (hC j hj)
end Go.Proofs.YtkaghjohkhlimabDoor
