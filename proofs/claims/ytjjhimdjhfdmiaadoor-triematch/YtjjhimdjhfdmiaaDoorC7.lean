/-
  The contract of set, for every tree.
-/
import Derived.Test.YtjjhimdjhfdmiaaDoorC6A
import Derived.Test.YtjjhimdjhfdmiaaDoorC6B
import Derived.Test.YtjjhimdjhfdmiaaDoorC6C
import Derived.Test.YtjjhimdjhfdmiaaDoorC6D
namespace Go.Proofs.YtjjhimdjhfdmiaaDoor
open Go.Deep (BT)
open Go.RowKit
theorem set_any {C : ByteArray → Nat → Prop} (k : ByteArray) (n : Nat) (v : Int) (hn : n ≤ 8 * k.size) (hk : k.size ≤ 25) : ∀ (t : T), t.WF C → ∀ S, SetOk S k n v t (t.set k n v)
  | .nil, _, S => set_nil S k n v
  | .node len _ ⟨row, has, val⟩ l r, ⟨s1, z1, c1, al, ar, wl, wr⟩, S => by
    have hc1 := com_le row k (min len n)
    have hc3 := com_diff row k (min len n)
    unfold BT.set
    generalize hm : com row k (min len n) = m at *
    have b1 := bt_01 row m
    have b2 := bt_01 k m
    split
    · rename_i lt
      split
      · rename_i e
        subst e
        unfold BT.mk2
        rcases b1 with b1 | b1
        · rw [if_pos b1]; exact set_A0 S k m v row len has val l r s1 z1 hn hm lt b1
        · rw [if_neg (by omega)]; exact set_A1 S k m v row len has val l r s1 z1 hn hm lt b1
      · rename_i ne
        have d := hc3 (by omega)
        unfold BT.mk2
        rcases b1 with b1 | b1
        · rw [if_pos b1]; exact set_B0 S k n v row len has val l r m s1 z1 hn hk hm lt (by omega) b1 (by omega)
        · rw [if_neg (by omega)]; exact set_B1 S k n v row len has val l r m s1 z1 hn hk hm lt (by omega) b1 (by omega)
    · rename_i nl
      have em : m = len := by omega
      subst em
      split
      · rename_i e
        subst e
        rw [Nat.min_self] at hm
        exact set_C S k m v row has val l r s1 z1 hn hm
      · rename_i ne
        split
        · rename_i b0
          exact set_D0 S k n v row has val l r m s1 z1 hn hk hm (by omega) b0 _ (set_any k n v hn hk l wl)
        · rename_i b0
          exact set_D1 S k n v row has val l r m s1 z1 hn hk hm (by omega) (by omega) _ (set_any k n v hn hk r wr)
end Go.Proofs.YtjjhimdjhfdmiaaDoor
