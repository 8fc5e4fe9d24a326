/-
  The walk of DrawOrder, put together.
-/
import Derived.Test.YtjgnnbbimkhjjaaB2A
import Derived.Test.YtjgnnbbimkhjjaaB2B
import Derived.Test.YtjgnnbbimkhjjaaB2C
import Derived.Test.YtjgnnbbimkhjjaaB2D
import Derived.Test.YtjgnnbbimkhjjaaB2E
namespace Go.Proofs.Ytjgnnbbimkhjjaa
open Go.RowKit
theorem order_walk (w : World) (v : Value) (l : List Nat) (h : ArgU w v l) (b : Int) (hb : -9223372036854775808 ≤ b ∧ b ≤ 9223372036854775807) : Calls Try.prog 6 #[v, .int .i64 b] w fun e w' => e = .returned (.bool true) ∧ Below w.heap.size w w' := by
  by_cases hn : l = []
  · subst hn
    obtain ⟨a, cap, rfl⟩ := h.shape
    by_cases hb1 : b ≤ 0
    · exact ordF w a cap b hb1
    · exact ordE w a cap b hb1 (by omega)
  · obtain ⟨bk, off, cap, rfl, hc⟩ := h.cell hn
    have hp : 0 < l.length := List.length_pos_iff.2 hn
    have hbk : bk < w.heap.size := World.block_lt_of_cell? w _ (hc 0 hp)
    by_cases hl : (l.length : Int) ≤ 64
    · by_cases hb1 : b ≤ 0
      · exact ordB w bk off cap l hp hl h.small hc hbk b hb1
      · exact ordA w bk off cap l hp hl h.small hc hbk b hb1 (by omega)
    · by_cases hb1 : b ≤ 0
      · exact ordD w bk off cap l hl h.small hc hbk b hb1
      · exact ordC w bk off cap l hl h.small hc hbk b hb1 (by omega)
end Go.Proofs.Ytjgnnbbimkhjjaa
