/-
  What is known of one family; pairs: Afi, Fam.
-/
import Derived.Test.YtlhnfejgkhilkaaGreatDoorFA
import Derived.BigQuiet
import Derived.Deep.QuietTactic
namespace Go.Proofs.YtlhnfejgkhilkaaGreatDoor
open Go.RowKit
/-- Is that a family? -/
def isF (f : Int) : Bool := decide (1 ≤ f) && decide (f ≤ 5)
def afN (f : Int) : Nat := if isF f then (if f = 2 ∨ f = 5 then 2 else 1) else 0
def sfN (f : Int) : Nat := if isF f then (if f = 3 then 4 else if f = 4 ∨ f = 5 then 128 else 1) else 0
def ahL (f : Int) : List UInt8 := if f = 4 ∨ f = 5 then [0, 0, 0, 0, 0, 0, 0, 0] else []
def ahB (f : Int) : ByteArray := ⟨(ahL f).toArray⟩
def twB (f : Int) : Bool := f == 2
def fam5 (f : Int) : Value := .agg #[.int .u16 (afN f), .int .u8 (sfN f), .int .i64 (szOf f), .string (ahB f), .bool (twB f)]
theorem isF_cases {f : Int} (h : isF f = true) : f = 1 ∨ f = 2 ∨ f = 3 ∨ f = 4 ∨ f = 5 := by
  unfold isF at h
  simp at h
  omega
theorem size55 : (Tryz.prog.info? 93).map (·.size) = some 5 := by kernel_rfl
theorem one55 (a b c : Int) (s : ByteArray) (t : Bool) : (#[.int .u16 a, .int .u8 b, .int .i64 c, .string s, .bool t] : Array Value).all (·.oneCell') = true := by simp [Value.oneCell']
theorem fx1 (w : World) : (Instr.index 112 (.agg famV) (.int .i64 1)).run Tryz.prog w = .ok (.agg #[.int .u16 1, .int .u8 1, .int .i64 4, .string ⟨#[]⟩, .bool false]) w := by kernel_rfl
theorem fx2 (w : World) : (Instr.index 112 (.agg famV) (.int .i64 2)).run Tryz.prog w = .ok (.agg #[.int .u16 2, .int .u8 1, .int .i64 16, .string ⟨#[]⟩, .bool true]) w := by kernel_rfl
theorem fx3 (w : World) : (Instr.index 112 (.agg famV) (.int .i64 3)).run Tryz.prog w = .ok (.agg #[.int .u16 1, .int .u8 4, .int .i64 4, .string ⟨#[]⟩, .bool false]) w := by kernel_rfl
theorem fx4 (w : World) : (Instr.index 112 (.agg famV) (.int .i64 4)).run Tryz.prog w = .ok (.agg #[.int .u16 1, .int .u8 128, .int .i64 4, .string ⟨#[0, 0, 0, 0, 0, 0, 0, 0]⟩, .bool false]) w := by kernel_rfl
theorem fx5 (w : World) : (Instr.index 112 (.agg famV) (.int .i64 5)).run Tryz.prog w = .ok (.agg #[.int .u16 2, .int .u8 128, .int .i64 16, .string ⟨#[0, 0, 0, 0, 0, 0, 0, 0]⟩, .bool false]) w := by kernel_rfl
set_option maxRecDepth 100000 in
set_option maxHeartbeats 1600000 in
theorem familyOf_yes (f : Int) (h : isF f = true) (w : World) (hg : FamSizes w) : Calls Tryz.prog 63 #[.int .i64 f] w fun e w' => e = .returned (.tuple #[fam5 f, .bool true]) ∧ Below w.heap.size w w' := by
  have hba : Below w.heap.size w (w.alloc (.cells #[.int .u16 0, .int .u8 0, .int .i64 0, .string ⟨#[]⟩, .bool false] 93)) := (Below.refl _ _).alloc (Nat.le_refl _) _
  have HK : Hid (_ : Prop) := families_any _ (hg.below hba)
  have HBA : Hid (Below _ _ _) := hba
  have hsa : (w.alloc (.cells #[.int .u16 0, .int .u8 0, .int .i64 0, .string ⟨#[]⟩, .bool false] 93)).heap.size = w.heap.size + 1 := by simp
  have HR : Hid ((w.alloc (.cells #[.int .u16 0, .int .u8 0, .int .i64 0, .string ⟨#[]⟩, .bool false] 93)).heap[w.heap.size]? = _) := hp_new rfl
  have HSA : Hid (_ = _) := hsa
  clear hba hg hsa
  rcases isF_cases h with rfl | rfl | rfl | rfl | rfl
  · clear h
    go_enter Tryz.func63, Tryz.ntmps63
    go_wp2_with fail
    refine Calls.mono HK.out ?_
    rintro e w1 ⟨rfl, hb1⟩
    have HR1 : Hid (w1.heap[w.heap.size]? = some (.cells #[.int .u16 0, .int .u8 0, .int .i64 0, .string ⟨#[]⟩, .bool false] 93 (0, 0))) := (hb1.block _ (by rw [HSA.out]; omega)).trans HR.out
    have HB1 : Hid (Below w.heap.size w w1) := HBA.out.trans (hb1.mono (by rw [HSA.out]; omega))
    have hx := fx1
    clear hb1
    go_wp2_with (refine wpList_store_row rfl 93 _ _ rfl w.heap.size #[.int .u16 1, .int .u8 1, .int .i64 4, .string ⟨#[]⟩, .bool false] rfl rfl 93 _ HR1.out size55 rfl (one55 _ _ _ _ _) ?_)
    have hr := row_same w1 w.heap.size _ #[.int .u16 1, .int .u8 1, .int .i64 4, .string ⟨#[]⟩, .bool false] HR1.out
    have c0 := cl_row (i := 0) hr rfl
    have c1 := cl_row (i := 1) hr rfl
    have c2 := cl_row (i := 2) hr rfl
    have c3 := cl_row (i := 3) hr rfl
    have c4 := cl_row (i := 4) hr rfl
    refine bodyPost_ret (v := .tuple #[.agg #[.int .u16 1, .int .u8 1, .int .i64 4, .string ⟨#[]⟩, .bool false], .bool true]) (by simp [results, Tryz.results63, go_sem, c0, c1, c2, c3, c4]) rfl ⟨rfl, below_setRow HB1.out (Nat.le_refl _) _⟩
  · clear h
    go_enter Tryz.func63, Tryz.ntmps63
    go_wp2_with fail
    refine Calls.mono HK.out ?_
    rintro e w1 ⟨rfl, hb1⟩
    have HR1 : Hid (w1.heap[w.heap.size]? = some (.cells #[.int .u16 0, .int .u8 0, .int .i64 0, .string ⟨#[]⟩, .bool false] 93 (0, 0))) := (hb1.block _ (by rw [HSA.out]; omega)).trans HR.out
    have HB1 : Hid (Below w.heap.size w w1) := HBA.out.trans (hb1.mono (by rw [HSA.out]; omega))
    have hx := fx2
    clear hb1
    go_wp2_with (refine wpList_store_row rfl 93 _ _ rfl w.heap.size #[.int .u16 2, .int .u8 1, .int .i64 16, .string ⟨#[]⟩, .bool true] rfl rfl 93 _ HR1.out size55 rfl (one55 _ _ _ _ _) ?_)
    have hr := row_same w1 w.heap.size _ #[.int .u16 2, .int .u8 1, .int .i64 16, .string ⟨#[]⟩, .bool true] HR1.out
    have c0 := cl_row (i := 0) hr rfl
    have c1 := cl_row (i := 1) hr rfl
    have c2 := cl_row (i := 2) hr rfl
    have c3 := cl_row (i := 3) hr rfl
    have c4 := cl_row (i := 4) hr rfl
    refine bodyPost_ret (v := .tuple #[.agg #[.int .u16 2, .int .u8 1, .int .i64 16, .string ⟨#[]⟩, .bool true], .bool true]) (by simp [results, Tryz.results63, go_sem, c0, c1, c2, c3, c4]) rfl ⟨rfl, below_setRow HB1.out (Nat.le_refl _) _⟩
  · clear h
    go_enter Tryz.func63, Tryz.ntmps63
    go_wp2_with fail
    refine Calls.mono HK.out ?_
    rintro e w1 ⟨rfl, hb1⟩
    have HR1 : Hid (w1.heap[w.heap.size]? = some (.cells #[.int .u16 0, .int .u8 0, .int .i64 0, .string ⟨#[]⟩, .bool false] 93 (0, 0))) := (hb1.block _ (by rw [HSA.out]; omega)).trans HR.out
    have HB1 : Hid (Below w.heap.size w w1) := HBA.out.trans (hb1.mono (by rw [HSA.out]; omega))
    have hx := fx3
    clear hb1
    go_wp2_with (refine wpList_store_row rfl 93 _ _ rfl w.heap.size #[.int .u16 1, .int .u8 4, .int .i64 4, .string ⟨#[]⟩, .bool false] rfl rfl 93 _ HR1.out size55 rfl (one55 _ _ _ _ _) ?_)
    have hr := row_same w1 w.heap.size _ #[.int .u16 1, .int .u8 4, .int .i64 4, .string ⟨#[]⟩, .bool false] HR1.out
    have c0 := cl_row (i := 0) hr rfl
    have c1 := cl_row (i := 1) hr rfl
    have c2 := cl_row (i := 2) hr rfl
    have c3 := cl_row (i := 3) hr rfl
    have c4 := cl_row (i := 4) hr rfl
    refine bodyPost_ret (v := .tuple #[.agg #[.int .u16 1, .int .u8 4, .int .i64 4, .string ⟨#[]⟩, .bool false], .bool true]) (by simp [results, Tryz.results63, go_sem, c0, c1, c2, c3, c4]) rfl ⟨rfl, below_setRow HB1.out (Nat.le_refl _) _⟩
  · clear h
    go_enter Tryz.func63, Tryz.ntmps63
    go_wp2_with fail
    refine Calls.mono HK.out ?_
    rintro e w1 ⟨rfl, hb1⟩
    have HR1 : Hid (w1.heap[w.heap.size]? = some (.cells #[.int .u16 0, .int .u8 0, .int .i64 0, .string ⟨#[]⟩, .bool false] 93 (0, 0))) := (hb1.block _ (by rw [HSA.out]; omega)).trans HR.out
    have HB1 : Hid (Below w.heap.size w w1) := HBA.out.trans (hb1.mono (by rw [HSA.out]; omega))
    have hx := fx4
    clear hb1
    go_wp2_with (refine wpList_store_row rfl 93 _ _ rfl w.heap.size #[.int .u16 1, .int .u8 128, .int .i64 4, .string ⟨#[0, 0, 0, 0, 0, 0, 0, 0]⟩, .bool false] rfl rfl 93 _ HR1.out size55 rfl (one55 _ _ _ _ _) ?_)
    have hr := row_same w1 w.heap.size _ #[.int .u16 1, .int .u8 128, .int .i64 4, .string ⟨#[0, 0, 0, 0, 0, 0, 0, 0]⟩, .bool false] HR1.out
    have c0 := cl_row (i := 0) hr rfl
    have c1 := cl_row (i := 1) hr rfl
    have c2 := cl_row (i := 2) hr rfl
    have c3 := cl_row (i := 3) hr rfl
    have c4 := cl_row (i := 4) hr rfl
    refine bodyPost_ret (v := .tuple #[.agg #[.int .u16 1, .int .u8 128, .int .i64 4, .string ⟨#[0, 0, 0, 0, 0, 0, 0, 0]⟩, .bool false], .bool true]) (by simp [results, Tryz.results63, go_sem, c0, c1, c2, c3, c4]) rfl ⟨rfl, below_setRow HB1.out (Nat.le_refl _) _⟩
  · clear h
    go_enter Tryz.func63, Tryz.ntmps63
    go_wp2_with fail
    refine Calls.mono HK.out ?_
    rintro e w1 ⟨rfl, hb1⟩
    have HR1 : Hid (w1.heap[w.heap.size]? = some (.cells #[.int .u16 0, .int .u8 0, .int .i64 0, .string ⟨#[]⟩, .bool false] 93 (0, 0))) := (hb1.block _ (by rw [HSA.out]; omega)).trans HR.out
    have HB1 : Hid (Below w.heap.size w w1) := HBA.out.trans (hb1.mono (by rw [HSA.out]; omega))
    have hx := fx5
    clear hb1
    go_wp2_with (refine wpList_store_row rfl 93 _ _ rfl w.heap.size #[.int .u16 2, .int .u8 128, .int .i64 16, .string ⟨#[0, 0, 0, 0, 0, 0, 0, 0]⟩, .bool false] rfl rfl 93 _ HR1.out size55 rfl (one55 _ _ _ _ _) ?_)
    have hr := row_same w1 w.heap.size _ #[.int .u16 2, .int .u8 128, .int .i64 16, .string ⟨#[0, 0, 0, 0, 0, 0, 0, 0]⟩, .bool false] HR1.out
    have c0 := cl_row (i := 0) hr rfl
    have c1 := cl_row (i := 1) hr rfl
    have c2 := cl_row (i := 2) hr rfl
    have c3 := cl_row (i := 3) hr rfl
    have c4 := cl_row (i := 4) hr rfl
    refine bodyPost_ret (v := .tuple #[.agg #[.int .u16 2, .int .u8 128, .int .i64 16, .string ⟨#[0, 0, 0, 0, 0, 0, 0, 0]⟩, .bool false], .bool true]) (by simp [results, Tryz.results63, go_sem, c0, c1, c2, c3, c4]) rfl ⟨rfl, below_setRow HB1.out (Nat.le_refl _) _⟩
theorem familyOf_no (f : Int) (h : isF f = false) (w : World) : Calls Tryz.prog 63 #[.int .i64 f] w fun e w' => e = .returned (.tuple #[.agg #[.int .u16 0, .int .u8 0, .int .i64 0, .string ⟨#[]⟩, .bool false], .bool false]) ∧ Below w.heap.size w w' := by
  by_cases h1 : f < 1
  · clear h
    go_enter Tryz.func63, Tryz.ntmps63
    go_wp2
    refine bodyPost_ret (v := .tuple #[.agg #[.int .u16 0, .int .u8 0, .int .i64 0, .string ⟨#[]⟩, .bool false], .bool false]) (by simp [results, Tryz.results63, go_sem]) rfl ⟨rfl, (Below.refl _ _).alloc (Nat.le_refl _) _⟩
  · have h2 : 5 < f := by
      unfold isF at h
      simp at h
      omega
    clear h
    go_enter Tryz.func63, Tryz.ntmps63
    go_wp2
    refine bodyPost_ret (v := .tuple #[.agg #[.int .u16 0, .int .u8 0, .int .i64 0, .string ⟨#[]⟩, .bool false], .bool false]) (by simp [results, Tryz.results63, go_sem]) rfl ⟨rfl, (Below.refl _ _).alloc (Nat.le_refl _) _⟩
theorem afi_any (f : Int) (w : World) (hg : FamSizes w) : Calls Tryz.prog 45 #[.int .i64 f] w fun e w' => e = .returned (.tuple #[.int .u16 (afN f), .int .u8 (sfN f), .bool (isF f)]) ∧ Below w.heap.size w w' := by
  cases h : isF f with
  | true =>
    have HK : Hid (_ : Prop) := familyOf_yes f h w hg
    clear hg h
    go_enter Tryz.func45, Tryz.ntmps45
    go_wp2_with (go_at_call 63; refine Calls.mono HK.out ?_; rintro e w1 ⟨rfl, hb1⟩; unfold fam5)
    go_quiet (fail)
    go_wp2
    go_ret3
    exact ⟨rfl, below_drewN (hb1.alloc hb1.size _) _⟩
  | false =>
    have HK : Hid (_ : Prop) := familyOf_no f h w
    have ha : afN f = 0 := by unfold afN; rw [h]; rfl
    have hs : sfN f = 0 := by unfold sfN; rw [h]; rfl
    rw [ha, hs]
    clear hg h ha hs
    go_enter Tryz.func45, Tryz.ntmps45
    go_wp2_with (go_at_call 63; refine Calls.mono HK.out ?_; rintro e w1 ⟨rfl, hb1⟩)
    go_quiet (fail)
    go_wp2
    go_ret3
    exact ⟨rfl, below_drewN (hb1.alloc hb1.size _) _⟩
end Go.Proofs.YtlhnfejgkhilkaaGreatDoor
