/-
  Left, Copy of a broken stream, streams that are not there; head and Make.
-/
import Derived.Test.YtlinoklgchfedaaDoorB5
import Derived.Deep.RegionLaw
namespace Go.Proofs.YtlinoklgchfedaaDoor
open Go.RowKit
theorem left_any (p b : Nat) (s : St) (w : World) (h : FrAt w p b s) : Calls Tryd.prog 12 #[.pointer (some ⟨p, 0, none⟩)] w fun e w' => e = .returned (.int .i64 (s.wait.length : Int)) ∧ w' = w := by
  have KT : Hid (_ : Prop) := there_yes p w h.c0
  by_cases hz : s.sub = 0
  · have c1 : w.cell? ⟨p, 1, none⟩ = some (.slice (some ⟨b, 0, none⟩) s.wait.length 4096) := by have := h.c1; unfold wv at this; rw [if_pos hz] at this; exact this
    clear h hz
    go_enter Tryd.func12, Tryd.ntmps12
    go_wp2_with fail
    refine Calls.mono KT.out ?_
    rintro e w1 ⟨rfl, rfl⟩
    go_wp2
    go_ret
    exact ⟨rfl, rfl⟩
  · have c1 : w.cell? ⟨p, 1, none⟩ = some (.slice none 0 0) := by have := h.c1; unfold wv at this; rw [if_neg hz] at this; exact this
    have hw : s.wait = [] := by have := h.ok; unfold OkS at this; rw [if_neg hz] at this; exact this
    rw [hw]
    clear h hz hw
    go_enter Tryd.func12, Tryd.ntmps12
    go_wp2_with fail
    refine Calls.mono KT.out ?_
    rintro e w1 ⟨rfl, rfl⟩
    go_wp2
    go_ret
    exact ⟨rfl, rfl⟩
theorem left_nil (w : World) : Calls Tryd.prog 12 #[.pointer none] w fun e w' => e = .returned (.int .i64 0) ∧ w' = w := by
  go_enter Tryd.func12, Tryd.ntmps12
  go_wp2_with fail
  refine (there_nil w).mono ?_
  rintro e w1 ⟨rfl, rfl⟩
  go_wp2
  go_ret
  exact ⟨rfl, rfl⟩
theorem copy_nil (w : World) : Calls Tryd.prog 17 #[.pointer none] w fun e w' => e = .returned (.pointer none) ∧ w' = w := by
  go_enter Tryd.func17, Tryd.ntmps17
  go_wp2_with fail
  refine (there_nil w).mono ?_
  rintro e w1 ⟨rfl, rfl⟩
  go_wp2
  go_ret
  exact ⟨rfl, rfl⟩
theorem put_none (pv : Value) (c : ByteArray) (w : World) (h : ∀ w', Below w.heap.size w w' → Calls Tryd.prog 18 #[pv] w' fun e w'' => e = .returned (.bool false) ∧ w'' = w') : Calls Tryd.prog 9 #[pv, .string c] w fun e w' => e = .returned (.tuple #[.slice none 0 0, verV 0]) ∧ Below w.heap.size w w' := by
  have HB : Hid (Below w.heap.size w (w.alloc (.cells #[.int .i64 0, .int .u8 0, .int .u8 0] 27))) := (Below.refl _ _).alloc (Nat.le_refl _) _
  have KT : Hid (_ : Prop) := h _ HB.out
  have hr : (w.alloc (.cells #[.int .i64 0, .int .u8 0, .int .u8 0] 27)).heap[w.heap.size]? = some (.cells #[.int .i64 0, .int .u8 0, .int .u8 0] 27 (0, 0)) := hp_new rfl
  have HR : Hid ((w.alloc (.cells #[.int .i64 0, .int .u8 0, .int .u8 0] 27)).heap[w.heap.size]? = some (.cells #[.int .i64 0, .int .u8 0, .int .u8 0] 27 (0, 0))) := hr
  clear hr h
  go_enter Tryd.func9, Tryd.ntmps9
  go_wp2_with fail
  generalize w.alloc (.cells #[.int .i64 0, .int .u8 0, .int .u8 0] 27) = W at *
  refine Calls.mono KT.out ?_
  rintro e w1 ⟨rfl, hw1⟩
  obtain rfl : W = w1 := hw1.symm
  clear hw1 KT
  have r0 : W.cell? ⟨w.heap.size, 0, none⟩ = some (.int .i64 0) := cl_row HR.out rfl
  have r1 : W.cell? ⟨w.heap.size, 1, none⟩ = some (.int .u8 0) := cl_row HR.out rfl
  have r2 : W.cell? ⟨w.heap.size, 2, none⟩ = some (.int .u8 0) := cl_row HR.out rfl
  have z0 : W.frozen? ⟨w.heap.size, 0, none⟩ = false := fz_row HR.out
  have z1 : W.frozen? ⟨w.heap.size, 1, none⟩ = false := fz_row HR.out
  have z2 : W.frozen? ⟨w.heap.size, 2, none⟩ = false := fz_row HR.out
  go_wp2
  refine bodyPost_ret (v := .tuple #[.slice none 0 0, verV 0]) (by simp [results, Tryd.results9, go_sem, r0, r1, r2, verV, vaI, vcI]) rfl ⟨rfl, ?_⟩
  exact ((HB.out.setCell (p := ⟨w.heap.size, 0, none⟩) (Nat.le_refl _) _).setCell (p := ⟨w.heap.size, 1, none⟩) (Nat.le_refl _) _).setCell (p := ⟨w.heap.size, 2, none⟩) (Nat.le_refl _) _
/-- A message's header. -/
def headI (k n : Nat) : List UInt8 := mark ++ [UInt8.ofNat (n / 256), UInt8.ofNat (n % 256), UInt8.ofNat k]
theorem conv3 (w : World) (x y z : UInt8) (X Y Z : Int) (hx : X = (x.toNat : Int)) (hy : Y = (y.toNat : Int)) (hz : Z = (z.toNat : Int)) : (convert 43 9 (.slice (some ⟨w.heap.size, 0, none⟩) 3 3)).run Tryd.prog (w.alloc (.cells #[.int .u8 X, .int .u8 Y, .int .u8 Z] 5)) = .ok (.string ⟨[x, y, z].toArray⟩) (w.alloc (.cells #[.int .u8 X, .int .u8 Y, .int .u8 Z] 5)) := by
  subst hx hy hz
  refine run_convert_bytes_back (P := Tryd.prog) _ 43 9 5 ⟨w.heap.size, 0, none⟩ 3 [x, y, z] Tryd.underlying43 Tryd.underlying5 Tryd.underlying9 (fun j hj => ?_)
  rcases j with _ | _ | _ | j
  · simp [Addr.add]
  · simp [Addr.add]
  · simp [Addr.add]
  · exact absurd hj (by simp)
theorem app_bytes (a b : List UInt8) : (⟨a.toArray⟩ : ByteArray) ++ (⟨b.toArray⟩ : ByteArray) = ⟨(a ++ b).toArray⟩ := by
  apply ByteArray.ext
  rw [ByteArray.data_append]
  simp
theorem head_any (k n : Nat) (w : World) (hk : k ≤ 5) (hn : n ≤ 4096) : Calls Tryd.prog 27 #[.int .i64 (k : Int), .int .i64 (n : Int)] w fun e w' => e = .returned (.string ⟨(headI k n).toArray⟩) ∧ Below w.heap.size w w' := by
  have h1 : (n : Int) ≤ 4096 := by omega
  have h2 : (k : Int) ≤ 5 := by omega
  have hc := conv3 w (UInt8.ofNat (n / 256)) (UInt8.ofNat (n % 256)) (UInt8.ofNat k) ((n : Int) / 256) ((n : Int) % 256) (k : Int) (by rw [UInt8.toNat_ofNat']; omega) (by rw [UInt8.toNat_ofNat']; omega) (by rw [UInt8.toNat_ofNat']; omega)
  have HA : Hid ((⟨mark.toArray⟩ : ByteArray) ++ (⟨[UInt8.ofNat (n / 256), UInt8.ofNat (n % 256), UInt8.ofNat k].toArray⟩ : ByteArray) = ⟨(headI k n).toArray⟩) := app_bytes _ _
  have ht : (⟨[UInt8.ofNat (n / 256), UInt8.ofNat (n % 256), UInt8.ofNat k].toArray⟩ : ByteArray).size = 3 := list_size _
  generalize (⟨(headI k n).toArray⟩ : ByteArray) = r at *
  generalize (⟨[UInt8.ofNat (n / 256), UInt8.ofNat (n % 256), UInt8.ofNat k].toArray⟩ : ByteArray) = t at *
  go_enter Tryd.func27, Tryd.ntmps27
  go_wp2
  go_ret
  exact ⟨by rw [← HA.out]; rfl, (Below.refl _ _).alloc (Nat.le_refl _) _⟩
theorem run_app0 (b : Nat) (w : World) : (Builtin.append_ #[43, 43] 43 #[.slice (some ⟨b, 0, none⟩) 0 4096, .slice none 0 0]).run Tryd.prog w = .ok (.slice (some ⟨b, 0, none⟩) 0 4096) w := by
  obtain ⟨i0, hi, hz0, hz1, hz2⟩ := info_parts info5
  simp [Builtin.append_, run_underlying Tryd.underlying43, Builtin.lenOf, Builtin.firstCells, sizeOf, typeInfo, hi]
  rfl
theorem step_append_run {P : Program} {ops : Array Oper} {o : Oper} {a : Act} {w : World} {K : Act → World → Prop} {Q : Exit → Act → World → Prop} {E : Prop}
    (hg : o.guard = none) (s x : Operand) (t : TypeId) (hop : o.op = Op.call { callee := Callee.builtin Builtin.append, args := #[s, x], argTypes := #[t, t] })
    {v u r : Value} {w' : World} (hs : a.eval s = v) (hx : a.eval x = u) (hr : (Builtin.append_ #[t, t] o.type #[v, u]).run P w = .ok r w') (hK : K (a.put o.dst r) w') :
    if Region.wanted o (yielded ops a.tmps) = true then Oper.wp P o a w K Q else E := by
  have hw : Region.wanted o (yielded ops a.tmps) = true := by simp [Region.wanted, hg]
  rw [if_pos hw]
  unfold Oper.wp
  simp [execOp, hop, resolve, invoke, builtin, hs, hx, hr, Result.andThen]
  exact hK
/-- A broken stream, whatever slice of nothing it keeps. -/
structure BkAt (w : World) (p : Nat) (ad : Option Addr) (cp m : Nat) : Prop where
  row : w.heap[p]? = some (.cells #[.bool true, .slice ad 0 cp, .int .i64 3, .int .u8 1, .int .u8 (m : Int)] 50 (0, 0))
theorem FrAt.bk {w : World} {p b m : Nat} (h : FrAt w p b ⟨[], m⟩) (hm : m ≠ 0) : BkAt w p none 0 m := ⟨by
  have e := h.row
  simp only [wv, vaI, vcI, if_neg hm] at e
  exact e⟩
set_option maxRecDepth 100000 in
theorem copy_broken (p m : Nat) (w : World) (h : BkAt w p none 0 m) : Calls Tryd.prog 17 #[.pointer (some ⟨p, 0, none⟩)] w fun e w' => ∃ p' b', e = .returned (.pointer (some ⟨p', 0, none⟩)) ∧ BkAt w' p' (some ⟨b', 0, none⟩) 4096 m ∧ Below w.heap.size w w' ∧ w.heap.size ≤ p' := by
  have KT : Hid (_ : Prop) := there_yes p w (cl_row h.row rfl)
  have HH : Hid (BkAt w p none 0 m) := h
  clear h
  go_enter Tryd.func17, Tryd.ntmps17
  go_wp2_with fail
  refine Calls.mono KT.out ?_
  rintro e w1 ⟨rfl, hw1⟩
  obtain rfl : w = w1 := hw1.symm
  clear hw1 KT
  go_wp2_with fail
  refine (new_any w).mono ?_
  rintro e w2 ⟨p', b', rfl, hf, hb, hp', hb'⟩
  have HF : Hid (w2.heap[p']? = some (.cells #[.bool true, .slice (some ⟨b', 0, none⟩) 0 4096, .int .i64 0, .int .u8 0, .int .u8 0] 50 (0, 0))) := hf.row
  have HB : Hid (Below w.heap.size w w2) := hb
  have HG : Hid (w.heap.size ≤ p') := hp'
  have hpl : p < w.heap.size := (Array.getElem?_eq_some_iff.mp HH.out.row).1
  have HR : Hid (w2.heap[p]? = _) := (hb.block p hpl).trans HH.out.row
  have d1 : w2.cell? ⟨p', 1, none⟩ = some (.slice (some ⟨b', 0, none⟩) 0 4096) := cl_row HF.out rfl
  have d2 : w2.cell? ⟨p, 1, none⟩ = some (.slice none 0 0) := cl_row HR.out rfl
  have f1 : w2.frozen? ⟨p', 1, none⟩ = false := fz_row HF.out
  clear hf hb hp' hb' HH
  go_wp2
  go_region_law ((refine step_append_run (by rfl) _ _ 43 (by rfl) (by rfl) (by rfl) (run_app0 b' _) ?_))
  all_goals
    have HF2 : Hid ((w2.setCell ⟨p', 1, none⟩ (.slice (some ⟨b', 0, none⟩) 0 4096)).drew.heap[p']? = some (.cells #[.bool true, .slice (some ⟨b', 0, none⟩) 0 4096, .int .i64 0, .int .u8 0, .int .u8 0] 50 (0, 0))) := heap_setCell_same w2 p' 1 _ 50 _ HF.out
    have HR2 : Hid ((w2.setCell ⟨p', 1, none⟩ (.slice (some ⟨b', 0, none⟩) 0 4096)).drew.heap[p]? = _) := (Below.heap_setCell w2 ⟨p', 1, none⟩ _ p (by have := HG.out; simp; omega)).trans HR.out
    have HB2 : Hid (Below w.heap.size w (w2.setCell ⟨p', 1, none⟩ (.slice (some ⟨b', 0, none⟩) 0 4096)).drew) := below_drewN (HB.out.setCell (p := ⟨p', 1, none⟩) HG.out _) 1
    generalize (w2.setCell ⟨p', 1, none⟩ (.slice (some ⟨b', 0, none⟩) 0 4096)).drew = w3 at *
    have q2 : w3.cell? ⟨p, 2, none⟩ = some (.int .i64 3) := cl_row HR2.out rfl
    have q3 : w3.cell? ⟨p, 3, none⟩ = some (.int .u8 1) := cl_row HR2.out rfl
    have q4 : w3.cell? ⟨p, 4, none⟩ = some (.int .u8 (m : Int)) := cl_row HR2.out rfl
    have r2 : w3.cell? ⟨p', 2, none⟩ = some (.int .i64 0) := cl_row HF2.out rfl
    have r3 : w3.cell? ⟨p', 3, none⟩ = some (.int .u8 0) := cl_row HF2.out rfl
    have r4 : w3.cell? ⟨p', 4, none⟩ = some (.int .u8 0) := cl_row HF2.out rfl
    have z2 : w3.frozen? ⟨p', 2, none⟩ = false := fz_row HF2.out
    have z3 : w3.frozen? ⟨p', 3, none⟩ = false := fz_row HF2.out
    have z4 : w3.frozen? ⟨p', 4, none⟩ = false := fz_row HF2.out
    clear d1 d2 f1 HF HB HR
    go_wp2
    go_ret
    exact ⟨p', b', rfl, ⟨set3 HF2.out⟩, ((HB2.out.setCell (p := ⟨p', 2, none⟩) HG.out _).setCell (p := ⟨p', 3, none⟩) HG.out _).setCell (p := ⟨p', 4, none⟩) HG.out _, HG.out⟩
end Go.Proofs.YtlinoklgchfedaaDoor
