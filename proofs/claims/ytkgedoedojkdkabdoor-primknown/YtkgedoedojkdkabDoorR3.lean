/-
  The contracts of the reference's Check and Covers, for every two prefixes.
-/
import Derived.Test.YtkgedoedojkdkabDoorB5
import Derived.Deep.QuietTactic
import Derived.BigQuiet
namespace Go.Proofs.YtkgedoedojkdkabDoor
open Go.RowKit
theorem below_drewN {B : Nat} {a w : World} (h : Below B a w) (n : Nat) : Below B a (w.drewN n) := ⟨h.os, h.tape, h.output, h.size, h.block⟩
theorem PfxAt.drewN {w : World} {b : Nat} {f r : Int} {s : ByteArray} {l : Int} (h : PfxAt w b f r s l) (n : Nat) : PfxAt (w.drewN n) b f r s l := ⟨h.c0, h.c1, h.c2, h.c3, h.f0, h.f1, h.f2, h.f3⟩
end Go.Proofs.YtkgedoedojkdkabDoor
