/-
  NlriKnown's small parts: told prefixes made of texts, their bytes, what bytes are read as.
-/
import Derived.Test.YtfhbgpepkplbaaaGreatDoorPaka
import Derived.Test.YtfhbgpepkplbaaaGreatDoorPakb
import Derived.Test.YtfhbgpepkplbaaaGreatDoorPakc
import Derived.Test.YtfhbgpepkplbaaaGreatDoorPakd
import Derived.Test.YtfhbgpepkplbaaaGreatDoorPake
import Derived.Test.YtfhbgpepkplbaaaGreatDoorPakf
import Derived.Test.YtfhbgpepkplbaaaGreatDoorPakg
import Derived.Test.YtfhbgpepkplbaaaGreatDoorKD
import Derived.Test.YtfhbgpepkplbaaaGreatDoorKC
import Derived.Test.YtfhbgpepkplbaaaGreatDoorF1
import Derived.Test.YtfhbgpepkplbaaaGreatDoorS6
namespace Go.Proofs.YtfhbgpepkplbaaaGreatDoor
open Go.RowKit
theorem nls1 (W : World) (n : Nl) : NlsAt (W.alloc (.cells #[.int .i64 n.f, .int .u64 n.r, .string n.s, .int .i64 n.l, .int .u32 n.id, .int .u32 n.lb] 27)) (.slice (some ⟨W.heap.size, 0, none⟩) 1 1) [n] := by
  refine ⟨some ⟨W.heap.size, 0, none⟩, W.heap.size, 0, 1, rfl, Or.inl rfl, by simp, fun j hj => ?_⟩
  obtain rfl : j = 0 := by simpa using hj
  exact ⟨by simp, by simp, by simp, by simp, by simp, by simp⟩
theorem enc_one (fam : Int) (add : Bool) (n : Nl) (W : World) (hT : Tabs W) (hz : szOf fam ≠ 0) (hwf : NlWf n) :
    Calls Tryz.prog 15 #[.slice (some ⟨W.heap.size, 0, none⟩) 1 1, .int .i64 fam, .bool add] (W.alloc (.cells #[.int .i64 n.f, .int .u64 n.r, .string n.s, .int .i64 n.l, .int .u32 n.id, .int .u32 n.lb] 27)) fun e w' => e = encAns fam add [n] ∧ Below W.heap.size W w' := by
  have hb : Below W.heap.size W (W.alloc (.cells #[.int .i64 n.f, .int .u64 n.r, .string n.s, .int .i64 n.l, .int .u32 n.id, .int .u32 n.lb] 27)) := (Below.refl _ _).alloc (Nat.le_refl _) _
  have h1 := hT.below hb
  refine (encode_any fam add _ [n] _ h1.sizes h1.rds hz (nls1 W n) (fun m hm => by rw [List.mem_singleton.1 hm]; exact hwf) (by simp)).mono fun e w' ⟨he, h⟩ => ⟨he, hb.trans (h.mono (by simp))⟩
theorem row3 (W : World) (a b c : Nl) : NlsAt (W.alloc (.cells #[.int .i64 a.f, .int .u64 a.r, .string a.s, .int .i64 a.l, .int .u32 a.id, .int .u32 a.lb, .int .i64 b.f, .int .u64 b.r, .string b.s, .int .i64 b.l, .int .u32 b.id, .int .u32 b.lb, .int .i64 c.f, .int .u64 c.r, .string c.s, .int .i64 c.l, .int .u32 c.id, .int .u32 c.lb] 27)) (.slice (some ⟨W.heap.size, 0, none⟩) 3 3) [a, b, c] := by
  refine ⟨some ⟨W.heap.size, 0, none⟩, W.heap.size, 0, 3, rfl, Or.inl rfl, by simp, fun j hj => ?_⟩
  have hj' : j = 0 ∨ j = 1 ∨ j = 2 := by have : j < 3 := by simpa using hj
                                         omega
  rcases hj' with rfl | rfl | rfl <;> exact ⟨by simp, by simp, by simp, by simp, by simp, by simp⟩
theorem dec_of (f : Int) (add : Bool) (l : List UInt8) (R : Option (List Nl)) (hR : decI f add l.length l = R) (w : World) (hT : Tabs w) (hz : szOf f ≠ 0) (hl : l.length ≤ 1000000) :
    Calls Tryz.prog 20 #[.string ⟨l.toArray⟩, .int .i64 f, .bool add] w fun e w' => DecOk R w e w' := by
  have := decode_any f add l w hT.sizes hz hl
  rwa [hR] at this
theorem knE1 : encAns 1 false [⟨1, 0, ⟨#[10, 1, 0, 0]⟩, 16, 0, 0⟩] = .returned (.tuple #[.string ⟨#[16, 10, 1]⟩, .int .i64 0]) := by kernel_rfl
theorem knE2 : encAns 1 true [⟨1, 0, ⟨#[10, 1, 0, 0]⟩, 16, 5, 0⟩] = .returned (.tuple #[.string ⟨#[0, 0, 0, 5, 16, 10, 1]⟩, .int .i64 0]) := by kernel_rfl
theorem knE3 : encAns 3 false [⟨3, 0, ⟨#[10, 0, 0, 0]⟩, 7, 0, 16⟩] = .returned (.tuple #[.string ⟨#[31, 0, 1, 1, 10]⟩, .int .i64 0]) := by kernel_rfl
theorem knE4 : encAns 1 false [⟨1, 0, ⟨#[10, 1, 0, 0]⟩, 16, 5, 0⟩] = .returned (.tuple #[.string ⟨#[]⟩, .int .i64 2]) := by kernel_rfl
theorem knE5 : encAns 1 false [⟨2, 0, ⟨#[0, 0, 0, 0, 0, 0, 0, 0, 0, 0, 0, 0, 0, 0, 0, 0]⟩, 0, 0, 0⟩] = .returned (.tuple #[.string ⟨#[]⟩, .int .i64 2]) := by kernel_rfl
theorem knD1 : decI 1 false 2 [16, 10] = none := by kernel_rfl
theorem knD2 : decI 1 false 6 [33, 10, 0, 0, 0, 0] = none := by kernel_rfl
theorem knD3 : decI 1 false 1 [16] = none := by kernel_rfl
theorem knD4 : decI 1 false 4 [16, 10, 1, 0] = some [⟨1, 0, ⟨#[10, 1, 0, 0]⟩, 16, 0, 0⟩, ⟨1, 0, ⟨#[0, 0, 0, 0]⟩, 0, 0, 0⟩] := by kernel_rfl
theorem knD5 : decI 1 false 2 [7, 11] = some [⟨1, 0, ⟨#[10, 0, 0, 0]⟩, 7, 0, 0⟩] := by kernel_rfl
theorem knD6 : decI 3 false 5 [32, 128, 0, 0, 10] = some [⟨3, 0, ⟨#[10, 0, 0, 0]⟩, 8, 0, 0⟩] := by kernel_rfl
theorem knD7 : decI 3 false 5 [32, 0, 1, 0, 10] = none := by kernel_rfl
theorem knD8 : decI 3 false 4 [23, 0, 1, 1] = none := by kernel_rfl
theorem knD9 : decI 1 true 0 [] = some [] := by kernel_rfl
theorem knG : goneL [⟨3, 0, ⟨#[10, 0, 0, 0]⟩, 8, 0, 9⟩, ⟨3, 0, ⟨#[9, 0, 0, 0]⟩, 8, 0, 7⟩, ⟨3, 0, ⟨#[10, 0, 0, 0]⟩, 8, 0, 8⟩] = [⟨3, 0, ⟨#[9, 0, 0, 0]⟩, 8, 0, 0⟩, ⟨3, 0, ⟨#[10, 0, 0, 0]⟩, 8, 0, 0⟩] := by kernel_rfl
theorem knC1 : nchk 1 0 ⟨#[10, 0, 0, 0]⟩ 8 1 = 2 := by kernel_rfl
theorem knC2 : nchk 3 0 ⟨#[10, 0, 0, 0]⟩ 8 1048576 = 2 := by kernel_rfl
end Go.Proofs.YtfhbgpepkplbaaaGreatDoor
