/-
  The reference's Four; what the reference's one stands on.
-/
import Derived.Test.YtfhbgpepkplbaaaGreatDoorH1
import Derived.Test.YtfhbgpepkplbaaaGreatDoorE3
import Derived.Test.YtfhbgpepkplbaaaGreatDoorG1
namespace Go.Proofs.YtfhbgpepkplbaaaGreatDoor
open Go.RowKit
theorem laid4 (v : Nat) : laid v 4 = [byteAt v 3, byteAt v 2, byteAt v 1, byteAt v 0] := rfl
set_option maxRecDepth 100000 in
theorem four_any (v : Nat) (w : World) (hv : v < 4294967296) : Calls Tryz.prog 50 #[.int .u32 (v : Int)] w fun e w' => e = .returned (.string ⟨(laid v 4).toArray⟩) ∧ Below w.heap.size w w' := by
  have e3 := byteAt_toNat v 3
  have e2 := byteAt_toNat v 2
  have e1 := byteAt_toNat v 1
  have e0 := byteAt_toNat v 0
  simp only [Nat.mul_zero, Int.pow_zero, Int.ediv_one, show 8 * 3 = 24 from rfl, show 8 * 2 = 16 from rfl, show 8 * 1 = 8 from rfl, show (2 : Int) ^ 24 = 16777216 from rfl, show (2 : Int) ^ 16 = 65536 from rfl, show (2 : Int) ^ 8 = 256 from rfl] at e0 e1 e2 e3
  have e3' : (v : Int) / 16777216 % 256 = (v : Int) / 16777216 := by omega
  rw [e3'] at e3
  clear e3'
  have hbk := run_convert_bytes_back (P := Tryz.prog) (w.alloc (.cells #[.int .u8 ((v : Int) / 16777216), .int .u8 ((v : Int) / 65536 % 256), .int .u8 ((v : Int) / 256 % 256), .int .u8 ((v : Int) % 256)] 5)) 60 9 5 ⟨w.heap.size, 0, none⟩ 4 (laid v 4) Tryz.underlying60 Tryz.underlying5 Tryz.underlying9 (fun j hj => by
    rw [show Addr.add ⟨w.heap.size, 0, none⟩ j = ⟨w.heap.size, j, none⟩ from by unfold Addr.add; by_cases e : j = 0 <;> simp [e]]
    rw [laid_length] at hj
    rw [World.cell?_alloc_at _ _ _ _ rfl]
    rcases j with _ | _ | _ | _ | j
    · simp [laid, e3]
    · simp [laid, e2]
    · simp [laid, e1]
    · simp [laid, e0]
    · omega)
  rw [laid_length] at hbk
  clear e0 e1 e2 e3
  generalize (laid v 4).toArray = res at *
  go_enter Tryz.func50, Tryz.ntmps50
  go_wp2
  go_ret
  exact ⟨rfl, (Below.refl _ _).alloc (Nat.le_refl _) _⟩
theorem fourI (n : Int) (w : World) (h : 0 ≤ n ∧ n < 4294967296) : Calls Tryz.prog 50 #[.int .u32 n] w fun e w' => e = .returned (.string ⟨(laid n.toNat 4).toArray⟩) ∧ Below w.heap.size w w' := by
  have := four_any n.toNat w (by omega)
  rw [show ((n.toNat : Nat) : Int) = n by omega] at this
  exact this
theorem laid8 (x : Nat) : laid x 8 = laid (x / 4294967296) 4 ++ laid (x % 4294967296) 4 := by
  apply List.ext_getElem
  · simp [laid_length]
  · intro i h1 h2
    rw [laid_length] at h1
    rw [laid_at, List.getElem_append]
    split
    · rename_i h3
      rw [laid_length] at h3
      rw [laid_at]
      unfold byteAt
      rw [Nat.div_div_eq_div_mul, show 4294967296 = 2 ^ 32 from rfl, ← Nat.pow_add]
      congr 3; omega
    · rename_i h3
      rw [laid_length] at h3
      rw [laid_at]
      unfold byteAt
      apply UInt8.toNat_inj.mp
      rw [UInt8.toNat_ofNat', UInt8.toNat_ofNat', laid_length]
      rw [show 8 - 1 - i = 4 - 1 - (i - 4) by omega]
      have h4 : 4 - 1 - (i - 4) < 4 := by omega
      generalize 4 - 1 - (i - 4) = j at *
      rcases (show j = 0 ∨ j = 1 ∨ j = 2 ∨ j = 3 by omega) with rfl | rfl | rfl | rfl <;> simp <;> omega
theorem add_l (X Y : List UInt8) (hx : X.length ≤ 1000) (hy : Y.length ≤ 1000) (W : World) : (Op.stringOp .add ⟨X.toArray⟩ ⟨Y.toArray⟩).run Tryz.prog W = .ok (.string ⟨(X ++ Y).toArray⟩) W := by
  have := run_string_add_sum (P := Tryz.prog) W ⟨X.toArray⟩ ⟨Y.toArray⟩ (by rw [list_size, list_size]; omega)
  rw [this]
  congr 2
theorem cat_take (A : List UInt8) (s : ByteArray) (n : Nat) : (⟨(A ++ s.data.toList.take n).toArray⟩ : ByteArray) = ⟨A.toArray⟩ ++ s.extract 0 n := by
  apply ByteArray.ext
  apply Array.ext'
  simp
theorem back1 (c : Nat) (wx : World) : (convert 60 9 (.slice (some ⟨wx.heap.size, 0, none⟩) 1 1)).run Tryz.prog (wx.alloc (.cells #[.int .u8 ((c % 256 : Nat) : Int)] 5)) = .ok (.string ⟨(laid c 1).toArray⟩) (wx.alloc (.cells #[.int .u8 ((c % 256 : Nat) : Int)] 5)) := by
  have e0 := byteAt_toNat c 0
  simp only [Nat.mul_zero, Int.pow_zero, Int.ediv_one] at e0
  have := run_convert_bytes_back (P := Tryz.prog) (wx.alloc (.cells #[.int .u8 ((c % 256 : Nat) : Int)] 5)) 60 9 5 ⟨wx.heap.size, 0, none⟩ 1 (laid c 1) Tryz.underlying60 Tryz.underlying5 Tryz.underlying9 (fun j hj => by
    rw [show Addr.add ⟨wx.heap.size, 0, none⟩ j = ⟨wx.heap.size, j, none⟩ from by unfold Addr.add; by_cases e : j = 0 <;> simp [e]]
    rw [laid_length] at hj
    rw [World.cell?_alloc_at _ _ _ _ rfl]
    rcases j with _ | j
    · simp [laid, e0]
    · omega)
  rwa [laid_length] at this
theorem back3 (v : Nat) (hv : v < 16777216) (wx : World) : (convert 60 9 (.slice (some ⟨wx.heap.size, 0, none⟩) 3 3)).run Tryz.prog (wx.alloc (.cells #[.int .u8 ((v / 65536 : Nat) : Int), .int .u8 ((v / 256 % 256 : Nat) : Int), .int .u8 ((v % 256 : Nat) : Int)] 5)) = .ok (.string ⟨(laid v 3).toArray⟩) (wx.alloc (.cells #[.int .u8 ((v / 65536 : Nat) : Int), .int .u8 ((v / 256 % 256 : Nat) : Int), .int .u8 ((v % 256 : Nat) : Int)] 5)) := by
  have e0 := byteAt_toNat v 0
  have e1 := byteAt_toNat v 1
  have e2 := byteAt_toNat v 2
  simp only [Nat.mul_zero, Int.pow_zero, Int.ediv_one, show 8 * 2 = 16 from rfl, show 8 * 1 = 8 from rfl, show (2 : Int) ^ 16 = 65536 from rfl, show (2 : Int) ^ 8 = 256 from rfl] at e0 e1 e2
  have e2' : ((byteAt v 2).toNat : Int) = ((v / 65536 : Nat) : Int) := by omega
  have e1' : ((byteAt v 1).toNat : Int) = ((v / 256 % 256 : Nat) : Int) := by omega
  have e0' : ((byteAt v 0).toNat : Int) = ((v % 256 : Nat) : Int) := by omega
  have := run_convert_bytes_back (P := Tryz.prog) (wx.alloc (.cells #[.int .u8 ((v / 65536 : Nat) : Int), .int .u8 ((v / 256 % 256 : Nat) : Int), .int .u8 ((v % 256 : Nat) : Int)] 5)) 60 9 5 ⟨wx.heap.size, 0, none⟩ 3 (laid v 3) Tryz.underlying60 Tryz.underlying5 Tryz.underlying9 (fun j hj => by
    rw [show Addr.add ⟨wx.heap.size, 0, none⟩ j = ⟨wx.heap.size, j, none⟩ from by unfold Addr.add; by_cases e : j = 0 <;> simp [e]]
    rw [laid_length] at hj
    rw [World.cell?_alloc_at _ _ _ _ rfl]
    rcases j with _ | _ | _ | j
    · show some _ = some (Value.int .u8 ((byteAt v 2).toNat : Int)); rw [e2']; rfl
    · show some _ = some (Value.int .u8 ((byteAt v 1).toNat : Int)); rw [e1']; rfl
    · show some _ = some (Value.int .u8 ((byteAt v 0).toNat : Int)); rw [e0']; rfl
    · omega)
  rwa [laid_length] at this
end Go.Proofs.YtfhbgpepkplbaaaGreatDoor
