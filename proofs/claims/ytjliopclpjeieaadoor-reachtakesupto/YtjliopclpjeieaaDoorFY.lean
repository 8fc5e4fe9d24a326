/-
  The reference's Take.
-/
import Derived.Test.YtjliopclpjeieaaDoorFXa
import Derived.Test.YtjliopclpjeieaaDoorFXo
import Derived.Test.YtjliopclpjeieaaDoorFXt
namespace Go.Proofs.YtjliopclpjeieaaDoor
open Go.RowKit
theorem rtake_any (l : List UInt8) (v : Value) (adds : List Int) (w : World) (hv : IntsAt w v adds) (hal : adds.length ≤ 1000000000) (hl : l.length ≤ 2000000) :
    Calls Tryd.prog 21 #[.string ⟨l.toArray⟩, v] w fun e w' => TakeOk8 (tkI adds l) w e w' := by
  by_cases h3 : l.length < 3
  · exact rtake_bad l v adds w hl (.inl h3)
  by_cases hf : tpF l = 0
  · exact rtake_bad l v adds w hl (.inr (.inl hf))
  by_cases h4 : l.length < 4
  · exact rtake_bad l v adds w hl (.inr (.inr h4))
  by_cases hB : l.length < 4 + cntI (l.drop 3) + 1
  · exact rtake_cut l v adds w hl (by omega) hf hB
  by_cases h2 : tpF l = 2
  · by_cases hc : cntI (l.drop 3) = 32
    · exact rtake_both l v adds w hv hal hl (by omega) hf (by omega) h2 hc
    · exact rtake_two l v adds w hv hal hl (by omega) hf (by omega) h2 hc
  · exact rtake_other l v adds w hv hal hl (by omega) hf (by omega) h2
end Go.Proofs.YtjliopclpjeieaaDoor
