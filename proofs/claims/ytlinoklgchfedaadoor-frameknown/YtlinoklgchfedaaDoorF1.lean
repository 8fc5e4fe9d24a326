/-
  A message that may be, as the statements make it: of.
-/
import Derived.Test.YtlinoklgchfedaaDoorB5
namespace Go.Proofs.YtlinoklgchfedaaDoor
open Go.RowKit
/-- A told message: its numbers. -/
structure Tl where
  k : Nat
  m : Nat
  f : Nat
structure TlOk (t : Tl) : Prop where
  k : t.k < 256
  m : t.m < 256
  f : t.f < 256
/-- How many bytes its body has. -/
def nI (t : Tl) : Nat := if t.k % 5 = 0 then 10 + t.m else if t.k % 5 = 1 then 4 + t.m else if t.k % 5 = 2 then 2 + t.m else if t.k % 5 = 3 then 0 else 4
def ofI (t : Tl) : Fm := ⟨1 + t.k % 5, List.replicate (nI t) (UInt8.ofNat t.f)⟩
def filC (N j : Nat) (F : Int) : Array Value := (List.replicate j (Value.int .u8 F) ++ List.replicate (N - j) (Value.int .u8 0)).toArray
theorem filC_next (N j : Nat) (F : Int) (h : j < N) : (filC N j F).setIfInBounds j (.int .u8 F) = filC N (j + 1) F := by
  obtain ⟨m, hm⟩ : ∃ m, N - j = m + 1 := ⟨N - j - 1, by omega⟩
  have hm2 : N - (j + 1) = m := by omega
  unfold filC
  rw [hm, hm2]
  apply Array.toList_inj.1
  simp only [Array.toList_setIfInBounds]
  rw [List.set_append_right _ _ (by simp), List.length_replicate, Nat.sub_self, List.replicate_succ, List.set_cons_zero, List.replicate_succ', List.append_assoc]
  rfl
theorem filC_at (N j : Nat) (F : Int) (h : j < N) : ∃ v, (filC N j F)[j]? = some v := ⟨_, Array.getElem?_eq_getElem (by simp [filC]; omega)⟩
theorem made_fil (N : Nat) (F : Int) : madeCells #[.int .u8 0] N = filC N 0 F := by
  apply Array.toList_inj.1
  apply List.ext_getElem
  · simp [madeCells, filC]
  · intro i h1 h2
    simp [madeCells, filC, Nat.mod_one]
theorem made_bytes (N : Nat) (h : N ≤ 1000) (F : Int) (w : World) : (Instr.makeSlice 43 (.int .i64 (N : Int)) (.int .i64 (N : Int))).run Tryd.prog w = .ok (.slice (some ⟨w.heap.size, 0, none⟩) N N) (w.alloc (.cells (filC N 0 F) 5)) := by
  obtain ⟨i0, hi, hz0, hz1, hz2⟩ := info_parts info5
  have h := run_make w 43 5 i0 (.int .u8 0) Tryd.underlying43 hi hz0 .i64 .i64 N N (by omega) (by omega) (by rw [hz2]; omega) (by omega)
  rw [hz1, Int.toNat_natCast, Nat.mul_one] at h
  rw [← made_fil N F]
  exact h
theorem conv_fil {w : World} {g N F : Nat} (h : w.heap[g]? = some (.cells (filC N N (F : Int)) 5 (0, 0))) (hF : F < 256) : (convert 43 9 (.slice (some ⟨g, 0, none⟩) N N)).run Tryd.prog w = .ok (.string ⟨(List.replicate N (UInt8.ofNat F)).toArray⟩) w := by
  have e := run_convert_bytes_back (P := Tryd.prog) w 43 9 5 ⟨g, 0, none⟩ N (List.replicate N (UInt8.ofNat F)) Tryd.underlying43 Tryd.underlying5 Tryd.underlying9 (fun j hj => by
    have hj2 : j < N := by simpa using hj
    have ha : (⟨g, 0, none⟩ : Addr).add j = ⟨g, j, none⟩ := by unfold Addr.add; split <;> simp_all
    rw [ha]
    refine cl_row h ?_
    have hu : ((UInt8.ofNat F).toNat : Int) = (F : Int) := by rw [UInt8.toNat_ofNat']; omega
    rw [List.getElem_replicate, hu]
    simp [filC, hj2])
  rw [List.length_replicate] at e
  exact e
set_option maxRecDepth 100000 in
set_option maxHeartbeats 800000 in
theorem of_0 (k m f : Nat) (w : World) (hk : k < 256) (hm : m < 256) (hf : f < 256) (hr : k % 5 = 0) :
    Calls Tryd.prog 29 #[.agg #[.int .u8 (k : Int), .int .u8 (m : Int), .int .u8 (f : Int)]] w fun e w' => e = .returned (.agg #[.int .i64 1, .string ⟨(List.replicate (10 + m) (UInt8.ofNat f)).toArray⟩]) ∧ Below w.heap.size w w' := by
  have e1 : (k : Int) % 5 = 0 := by omega
  have e2 : (k : Int) < 256 := by omega
  have e3 : (m : Int) < 256 := by omega
  have e4 : (f : Int) < 256 := by omega
  obtain ⟨N, hN⟩ : ∃ N, N = 10 + m := ⟨_, rfl⟩
  rw [← hN]
  have hN1 : N ≤ 1000 := by omega
  have hN2 : (10 : Int) + m = (N : Int) := by omega
  have hmk : ∀ w : World, (Instr.makeSlice 43 (.int .i64 (N : Int)) (.int .i64 (N : Int))).run Tryd.prog w = .ok (.slice (some ⟨w.heap.size, 0, none⟩) N N) (w.alloc (.cells (filC N 0 (f : Int)) 5)) := made_bytes N hN1 (f : Int)
  clear hN hr hk hm
  have KCV : Hid (∀ wr g, wr.heap[g]? = some (.cells (filC N N (f : Int)) 5 (0, 0)) → (convert 43 9 (.slice (some ⟨g, 0, none⟩) N N)).run Tryd.prog wr = .ok (.string ⟨(List.replicate (N) (UInt8.ofNat f)).toArray⟩) wr) := fun wr g h => conv_fil h hf
  generalize (⟨(List.replicate (N) (UInt8.ofNat f)).toArray⟩ : ByteArray) = body at *
  clear hf
  have h1 : (w.alloc (.cells #[.int .u8 (k : Int), .int .u8 (m : Int), .int .u8 (f : Int)] 59)).heap.size = w.heap.size + 1 := by simp
  have h2 : ((w.alloc (.cells #[.int .u8 (k : Int), .int .u8 (m : Int), .int .u8 (f : Int)] 59)).alloc (.cells #[.int .i64 0, .string ⟨#[]⟩] 37)).heap.size = w.heap.size + 1 + 1 := by simp
  have h3 : (((w.alloc (.cells #[.int .u8 (k : Int), .int .u8 (m : Int), .int .u8 (f : Int)] 59)).alloc (.cells #[.int .i64 0, .string ⟨#[]⟩] 37)).alloc (.cells #[.int .i64 1, .string ⟨#[]⟩] 37)).heap.size = w.heap.size + 1 + 1 + 1 := by simp
  have HA : Hid (((((w.alloc (.cells #[.int .u8 (k : Int), .int .u8 (m : Int), .int .u8 (f : Int)] 59)).alloc (.cells #[.int .i64 0, .string ⟨#[]⟩] 37)).alloc (.cells #[.int .i64 1, .string ⟨#[]⟩] 37)).alloc (.cells (filC N 0 (f : Int)) 5)).heap[w.heap.size]? = some (.cells #[.int .u8 (k : Int), .int .u8 (m : Int), .int .u8 (f : Int)] 59 (0, 0))) := hp_up (hp_up (hp_up (hp_new rfl)))
  have HC : Hid (((((w.alloc (.cells #[.int .u8 (k : Int), .int .u8 (m : Int), .int .u8 (f : Int)] 59)).alloc (.cells #[.int .i64 0, .string ⟨#[]⟩] 37)).alloc (.cells #[.int .i64 1, .string ⟨#[]⟩] 37)).alloc (.cells (filC N 0 (f : Int)) 5)).heap[w.heap.size + 1]? = some (.cells #[.int .i64 0, .string ⟨#[]⟩] 37 (0, 0))) := hp_up (hp_up (hp_new h1.symm))
  have HD : Hid (((((w.alloc (.cells #[.int .u8 (k : Int), .int .u8 (m : Int), .int .u8 (f : Int)] 59)).alloc (.cells #[.int .i64 0, .string ⟨#[]⟩] 37)).alloc (.cells #[.int .i64 1, .string ⟨#[]⟩] 37)).alloc (.cells (filC N 0 (f : Int)) 5)).heap[w.heap.size + 1 + 1]? = some (.cells #[.int .i64 1, .string ⟨#[]⟩] 37 (0, 0))) := hp_up (hp_new h2.symm)
  have HE : Hid (((((w.alloc (.cells #[.int .u8 (k : Int), .int .u8 (m : Int), .int .u8 (f : Int)] 59)).alloc (.cells #[.int .i64 0, .string ⟨#[]⟩] 37)).alloc (.cells #[.int .i64 1, .string ⟨#[]⟩] 37)).alloc (.cells (filC N 0 (f : Int)) 5)).heap[w.heap.size + 1 + 1 + 1]? = some (.cells (filC N 0 (f : Int)) 5 (0, 0))) := hp_new h3.symm
  have b1 : Below w.heap.size w (w.alloc (.cells #[.int .u8 (k : Int), .int .u8 (m : Int), .int .u8 (f : Int)] 59)) := (Below.refl _ _).alloc (Nat.le_refl _) _
  have b2 := b1.alloc b1.size (.cells #[.int .i64 0, .string ⟨#[]⟩] 37)
  have b3 := b2.alloc b2.size (.cells #[.int .i64 1, .string ⟨#[]⟩] 37)
  have HB : Hid (Below w.heap.size w ((((w.alloc (.cells #[.int .u8 (k : Int), .int .u8 (m : Int), .int .u8 (f : Int)] 59)).alloc (.cells #[.int .i64 0, .string ⟨#[]⟩] 37)).alloc (.cells #[.int .i64 1, .string ⟨#[]⟩] 37)).alloc (.cells (filC N 0 (f : Int)) 5))) := b3.alloc b3.size _
  clear h1 h2 h3 b1 b2 b3
  go_enter Tryd.func29, Tryd.ntmps29
  go_wp2
  generalize (((w.alloc (.cells #[.int .u8 (k : Int), .int .u8 (m : Int), .int .u8 (f : Int)] 59)).alloc (.cells #[.int .i64 0, .string ⟨#[]⟩] 37)).alloc (.cells #[.int .i64 1, .string ⟨#[]⟩] 37)).alloc (.cells (filC N 0 (f : Int)) 5) = V at *
  have HL : Hid (w.heap.size + 1 + 1 + 1 < V.heap.size) := (Array.getElem?_eq_some_iff.mp HE.out).1
  clear hmk
  go_loopw [6] (fun t wr => ∃ j : Nat, t = .int .i64 (j : Int) ∧ j ≤ N ∧ wr.heap[w.heap.size + 1 + 1 + 1]? = some (.cells (filC N j (f : Int)) 5 (0, 0)) ∧ Beside (w.heap.size + 1 + 1 + 1) (w.heap.size + 1 + 1 + 1) V wr) (fun t _ => N - (match t with | .int _ n => n.toNat | _ => 0))
  case atStart => exact ⟨0, rfl, by omega, HE.out, Beside.refl V⟩
  case round =>
    obtain ⟨j, rfl, hj, hrow, hbs⟩ := hrel
    have HROW : Hid (wr.heap[w.heap.size + 1 + 1 + 1]? = some (.cells (filC N j (f : Int)) 5 (0, 0))) := hrow
    have HBS : Hid (Beside (w.heap.size + 1 + 1 + 1) (w.heap.size + 1 + 1 + 1) V wr) := hbs
    have HA2 : Hid (wr.heap[w.heap.size]? = some (.cells #[.int .u8 (k : Int), .int .u8 (m : Int), .int .u8 (f : Int)] 59 (0, 0))) := (hbs.block _ (by have := HL.out; omega) (by omega) (by omega)).trans HA.out
    have HC2 : Hid (wr.heap[w.heap.size + 1]? = some (.cells #[.int .i64 0, .string ⟨#[]⟩] 37 (0, 0))) := (hbs.block _ (by have := HL.out; omega) (by omega) (by omega)).trans HC.out
    have HD2 : Hid (wr.heap[w.heap.size + 1 + 1]? = some (.cells #[.int .i64 1, .string ⟨#[]⟩] 37 (0, 0))) := (hbs.block _ (by have := HL.out; omega) (by omega) (by omega)).trans HD.out
    clear hrow hbs
    by_cases hjN : j < N
    · have hj2 : (j : Int) < N := by omega
      obtain ⟨v, hv⟩ := filC_at N j (f : Int) hjN
      have q0 : wr.cell? ⟨w.heap.size + 1 + 1 + 1, j, none⟩ = some v := cl_row HROW.out hv
      have f0 : wr.frozen? ⟨w.heap.size + 1 + 1 + 1, j, none⟩ = false := fz_row HROW.out
      have q2 : wr.cell? ⟨w.heap.size, 2, none⟩ = some (.int .u8 (f : Int)) := cl_row HA2.out rfl
      have HNX : Hid ((wr.setCell ⟨w.heap.size + 1 + 1 + 1, j, none⟩ (.int .u8 (f : Int))).heap[w.heap.size + 1 + 1 + 1]? = some (.cells (filC N (j + 1) (f : Int)) 5 (0, 0))) := by
        have e := heap_setCell_same wr (w.heap.size + 1 + 1 + 1) j (filC N j (f : Int)) 5 (.int .u8 (f : Int)) HROW.out
        rw [filC_next N j (f : Int) hjN] at e
        exact e
      clear hv
      go_wp2
      exact ⟨⟨j + 1, by simp, by omega, HNX.out, HBS.out.trans (Beside.setp wr j _)⟩, by simp only []; omega⟩
    · obtain hjj : j = N := by omega
      have HROW2 : Hid (wr.heap[w.heap.size + 1 + 1 + 1]? = some (.cells (filC N N (f : Int)) 5 (0, 0))) := by unfold Hid; rw [HROW.out, hjj]
      have hcv := KCV.out wr _ HROW2.out
      have hj3 : ¬ ((j : Int) < N) := by omega
      have d0 : wr.cell? ⟨w.heap.size + 1 + 1, 0, none⟩ = some (.int .i64 1) := cl_row HD2.out rfl
      have d1 : wr.cell? ⟨w.heap.size + 1 + 1, 1, none⟩ = some (.string ⟨#[]⟩) := cl_row HD2.out rfl
      have dz : wr.frozen? ⟨w.heap.size + 1 + 1, 1, none⟩ = false := fz_row HD2.out
      have r0 : wr.cell? ⟨w.heap.size + 1, 0, none⟩ = some (.int .i64 0) := cl_row HC2.out rfl
      have r1 : wr.cell? ⟨w.heap.size + 1, 1, none⟩ = some (.string ⟨#[]⟩) := cl_row HC2.out rfl
      have z0 : wr.frozen? ⟨w.heap.size + 1, 0, none⟩ = false := fz_row HC2.out
      have z1 : wr.frozen? ⟨w.heap.size + 1, 1, none⟩ = false := fz_row HC2.out
      have HBW : Hid (Below w.heap.size w wr) := HB.out.trans (HBS.out.below (by omega) (by omega) (by have := HL.out; omega))
      clear hjj HROW HROW2 HA2 HC2 HD2 hjN
      go_wp2
      refine bodyPost_ret (v := .agg #[.int .i64 1, .string body]) (by simp [results, Tryd.results29, go_sem, r0, r1]) rfl ⟨rfl, ?_⟩
      exact ((HBW.out.setCell (p := ⟨w.heap.size + 1 + 1, 1, none⟩) (by simp; omega) _).setCell (p := ⟨w.heap.size + 1, 0, none⟩) (by simp) _).setCell (p := ⟨w.heap.size + 1, 1, none⟩) (by simp) _
set_option maxRecDepth 100000 in
set_option maxHeartbeats 800000 in
theorem of_1 (k m f : Nat) (w : World) (hk : k < 256) (hm : m < 256) (hf : f < 256) (hr : k % 5 = 1) :
    Calls Tryd.prog 29 #[.agg #[.int .u8 (k : Int), .int .u8 (m : Int), .int .u8 (f : Int)]] w fun e w' => e = .returned (.agg #[.int .i64 2, .string ⟨(List.replicate (4 + m) (UInt8.ofNat f)).toArray⟩]) ∧ Below w.heap.size w w' := by
  have e1 : (k : Int) % 5 = 1 := by omega
  have e2 : (k : Int) < 256 := by omega
  have e3 : (m : Int) < 256 := by omega
  have e4 : (f : Int) < 256 := by omega
  obtain ⟨N, hN⟩ : ∃ N, N = 4 + m := ⟨_, rfl⟩
  rw [← hN]
  have hN1 : N ≤ 1000 := by omega
  have hN2 : (4 : Int) + m = (N : Int) := by omega
  have hmk : ∀ w : World, (Instr.makeSlice 43 (.int .i64 (N : Int)) (.int .i64 (N : Int))).run Tryd.prog w = .ok (.slice (some ⟨w.heap.size, 0, none⟩) N N) (w.alloc (.cells (filC N 0 (f : Int)) 5)) := made_bytes N hN1 (f : Int)
  clear hN hr hk hm
  have KCV : Hid (∀ wr g, wr.heap[g]? = some (.cells (filC N N (f : Int)) 5 (0, 0)) → (convert 43 9 (.slice (some ⟨g, 0, none⟩) N N)).run Tryd.prog wr = .ok (.string ⟨(List.replicate (N) (UInt8.ofNat f)).toArray⟩) wr) := fun wr g h => conv_fil h hf
  generalize (⟨(List.replicate (N) (UInt8.ofNat f)).toArray⟩ : ByteArray) = body at *
  clear hf
  have h1 : (w.alloc (.cells #[.int .u8 (k : Int), .int .u8 (m : Int), .int .u8 (f : Int)] 59)).heap.size = w.heap.size + 1 := by simp
  have h2 : ((w.alloc (.cells #[.int .u8 (k : Int), .int .u8 (m : Int), .int .u8 (f : Int)] 59)).alloc (.cells #[.int .i64 0, .string ⟨#[]⟩] 37)).heap.size = w.heap.size + 1 + 1 := by simp
  have h3 : (((w.alloc (.cells #[.int .u8 (k : Int), .int .u8 (m : Int), .int .u8 (f : Int)] 59)).alloc (.cells #[.int .i64 0, .string ⟨#[]⟩] 37)).alloc (.cells #[.int .i64 2, .string ⟨#[]⟩] 37)).heap.size = w.heap.size + 1 + 1 + 1 := by simp
  have HA : Hid (((((w.alloc (.cells #[.int .u8 (k : Int), .int .u8 (m : Int), .int .u8 (f : Int)] 59)).alloc (.cells #[.int .i64 0, .string ⟨#[]⟩] 37)).alloc (.cells #[.int .i64 2, .string ⟨#[]⟩] 37)).alloc (.cells (filC N 0 (f : Int)) 5)).heap[w.heap.size]? = some (.cells #[.int .u8 (k : Int), .int .u8 (m : Int), .int .u8 (f : Int)] 59 (0, 0))) := hp_up (hp_up (hp_up (hp_new rfl)))
  have HC : Hid (((((w.alloc (.cells #[.int .u8 (k : Int), .int .u8 (m : Int), .int .u8 (f : Int)] 59)).alloc (.cells #[.int .i64 0, .string ⟨#[]⟩] 37)).alloc (.cells #[.int .i64 2, .string ⟨#[]⟩] 37)).alloc (.cells (filC N 0 (f : Int)) 5)).heap[w.heap.size + 1]? = some (.cells #[.int .i64 0, .string ⟨#[]⟩] 37 (0, 0))) := hp_up (hp_up (hp_new h1.symm))
  have HD : Hid (((((w.alloc (.cells #[.int .u8 (k : Int), .int .u8 (m : Int), .int .u8 (f : Int)] 59)).alloc (.cells #[.int .i64 0, .string ⟨#[]⟩] 37)).alloc (.cells #[.int .i64 2, .string ⟨#[]⟩] 37)).alloc (.cells (filC N 0 (f : Int)) 5)).heap[w.heap.size + 1 + 1]? = some (.cells #[.int .i64 2, .string ⟨#[]⟩] 37 (0, 0))) := hp_up (hp_new h2.symm)
  have HE : Hid (((((w.alloc (.cells #[.int .u8 (k : Int), .int .u8 (m : Int), .int .u8 (f : Int)] 59)).alloc (.cells #[.int .i64 0, .string ⟨#[]⟩] 37)).alloc (.cells #[.int .i64 2, .string ⟨#[]⟩] 37)).alloc (.cells (filC N 0 (f : Int)) 5)).heap[w.heap.size + 1 + 1 + 1]? = some (.cells (filC N 0 (f : Int)) 5 (0, 0))) := hp_new h3.symm
  have b1 : Below w.heap.size w (w.alloc (.cells #[.int .u8 (k : Int), .int .u8 (m : Int), .int .u8 (f : Int)] 59)) := (Below.refl _ _).alloc (Nat.le_refl _) _
  have b2 := b1.alloc b1.size (.cells #[.int .i64 0, .string ⟨#[]⟩] 37)
  have b3 := b2.alloc b2.size (.cells #[.int .i64 2, .string ⟨#[]⟩] 37)
  have HB : Hid (Below w.heap.size w ((((w.alloc (.cells #[.int .u8 (k : Int), .int .u8 (m : Int), .int .u8 (f : Int)] 59)).alloc (.cells #[.int .i64 0, .string ⟨#[]⟩] 37)).alloc (.cells #[.int .i64 2, .string ⟨#[]⟩] 37)).alloc (.cells (filC N 0 (f : Int)) 5))) := b3.alloc b3.size _
  clear h1 h2 h3 b1 b2 b3
  go_enter Tryd.func29, Tryd.ntmps29
  go_wp2
  generalize (((w.alloc (.cells #[.int .u8 (k : Int), .int .u8 (m : Int), .int .u8 (f : Int)] 59)).alloc (.cells #[.int .i64 0, .string ⟨#[]⟩] 37)).alloc (.cells #[.int .i64 2, .string ⟨#[]⟩] 37)).alloc (.cells (filC N 0 (f : Int)) 5) = V at *
  have HL : Hid (w.heap.size + 1 + 1 + 1 < V.heap.size) := (Array.getElem?_eq_some_iff.mp HE.out).1
  clear hmk
  go_loopw [6] (fun t wr => ∃ j : Nat, t = .int .i64 (j : Int) ∧ j ≤ N ∧ wr.heap[w.heap.size + 1 + 1 + 1]? = some (.cells (filC N j (f : Int)) 5 (0, 0)) ∧ Beside (w.heap.size + 1 + 1 + 1) (w.heap.size + 1 + 1 + 1) V wr) (fun t _ => N - (match t with | .int _ n => n.toNat | _ => 0))
  case atStart => exact ⟨0, rfl, by omega, HE.out, Beside.refl V⟩
  case round =>
    obtain ⟨j, rfl, hj, hrow, hbs⟩ := hrel
    have HROW : Hid (wr.heap[w.heap.size + 1 + 1 + 1]? = some (.cells (filC N j (f : Int)) 5 (0, 0))) := hrow
    have HBS : Hid (Beside (w.heap.size + 1 + 1 + 1) (w.heap.size + 1 + 1 + 1) V wr) := hbs
    have HA2 : Hid (wr.heap[w.heap.size]? = some (.cells #[.int .u8 (k : Int), .int .u8 (m : Int), .int .u8 (f : Int)] 59 (0, 0))) := (hbs.block _ (by have := HL.out; omega) (by omega) (by omega)).trans HA.out
    have HC2 : Hid (wr.heap[w.heap.size + 1]? = some (.cells #[.int .i64 0, .string ⟨#[]⟩] 37 (0, 0))) := (hbs.block _ (by have := HL.out; omega) (by omega) (by omega)).trans HC.out
    have HD2 : Hid (wr.heap[w.heap.size + 1 + 1]? = some (.cells #[.int .i64 2, .string ⟨#[]⟩] 37 (0, 0))) := (hbs.block _ (by have := HL.out; omega) (by omega) (by omega)).trans HD.out
    clear hrow hbs
    by_cases hjN : j < N
    · have hj2 : (j : Int) < N := by omega
      obtain ⟨v, hv⟩ := filC_at N j (f : Int) hjN
      have q0 : wr.cell? ⟨w.heap.size + 1 + 1 + 1, j, none⟩ = some v := cl_row HROW.out hv
      have f0 : wr.frozen? ⟨w.heap.size + 1 + 1 + 1, j, none⟩ = false := fz_row HROW.out
      have q2 : wr.cell? ⟨w.heap.size, 2, none⟩ = some (.int .u8 (f : Int)) := cl_row HA2.out rfl
      have HNX : Hid ((wr.setCell ⟨w.heap.size + 1 + 1 + 1, j, none⟩ (.int .u8 (f : Int))).heap[w.heap.size + 1 + 1 + 1]? = some (.cells (filC N (j + 1) (f : Int)) 5 (0, 0))) := by
        have e := heap_setCell_same wr (w.heap.size + 1 + 1 + 1) j (filC N j (f : Int)) 5 (.int .u8 (f : Int)) HROW.out
        rw [filC_next N j (f : Int) hjN] at e
        exact e
      clear hv
      go_wp2
      exact ⟨⟨j + 1, by simp, by omega, HNX.out, HBS.out.trans (Beside.setp wr j _)⟩, by simp only []; omega⟩
    · obtain hjj : j = N := by omega
      have HROW2 : Hid (wr.heap[w.heap.size + 1 + 1 + 1]? = some (.cells (filC N N (f : Int)) 5 (0, 0))) := by unfold Hid; rw [HROW.out, hjj]
      have hcv := KCV.out wr _ HROW2.out
      have hj3 : ¬ ((j : Int) < N) := by omega
      have d0 : wr.cell? ⟨w.heap.size + 1 + 1, 0, none⟩ = some (.int .i64 2) := cl_row HD2.out rfl
      have d1 : wr.cell? ⟨w.heap.size + 1 + 1, 1, none⟩ = some (.string ⟨#[]⟩) := cl_row HD2.out rfl
      have dz : wr.frozen? ⟨w.heap.size + 1 + 1, 1, none⟩ = false := fz_row HD2.out
      have r0 : wr.cell? ⟨w.heap.size + 1, 0, none⟩ = some (.int .i64 0) := cl_row HC2.out rfl
      have r1 : wr.cell? ⟨w.heap.size + 1, 1, none⟩ = some (.string ⟨#[]⟩) := cl_row HC2.out rfl
      have z0 : wr.frozen? ⟨w.heap.size + 1, 0, none⟩ = false := fz_row HC2.out
      have z1 : wr.frozen? ⟨w.heap.size + 1, 1, none⟩ = false := fz_row HC2.out
      have HBW : Hid (Below w.heap.size w wr) := HB.out.trans (HBS.out.below (by omega) (by omega) (by have := HL.out; omega))
      clear hjj HROW HROW2 HA2 HC2 HD2 hjN
      go_wp2
      refine bodyPost_ret (v := .agg #[.int .i64 2, .string body]) (by simp [results, Tryd.results29, go_sem, r0, r1]) rfl ⟨rfl, ?_⟩
      exact ((HBW.out.setCell (p := ⟨w.heap.size + 1 + 1, 1, none⟩) (by simp; omega) _).setCell (p := ⟨w.heap.size + 1, 0, none⟩) (by simp) _).setCell (p := ⟨w.heap.size + 1, 1, none⟩) (by simp) _
set_option maxRecDepth 100000 in
set_option maxHeartbeats 800000 in
theorem of_2 (k m f : Nat) (w : World) (hk : k < 256) (hm : m < 256) (hf : f < 256) (hr : k % 5 = 2) :
    Calls Tryd.prog 29 #[.agg #[.int .u8 (k : Int), .int .u8 (m : Int), .int .u8 (f : Int)]] w fun e w' => e = .returned (.agg #[.int .i64 3, .string ⟨(List.replicate (2 + m) (UInt8.ofNat f)).toArray⟩]) ∧ Below w.heap.size w w' := by
  have e1 : (k : Int) % 5 = 2 := by omega
  have e2 : (k : Int) < 256 := by omega
  have e3 : (m : Int) < 256 := by omega
  have e4 : (f : Int) < 256 := by omega
  obtain ⟨N, hN⟩ : ∃ N, N = 2 + m := ⟨_, rfl⟩
  rw [← hN]
  have hN1 : N ≤ 1000 := by omega
  have hN2 : (2 : Int) + m = (N : Int) := by omega
  have hmk : ∀ w : World, (Instr.makeSlice 43 (.int .i64 (N : Int)) (.int .i64 (N : Int))).run Tryd.prog w = .ok (.slice (some ⟨w.heap.size, 0, none⟩) N N) (w.alloc (.cells (filC N 0 (f : Int)) 5)) := made_bytes N hN1 (f : Int)
  clear hN hr hk hm
  have KCV : Hid (∀ wr g, wr.heap[g]? = some (.cells (filC N N (f : Int)) 5 (0, 0)) → (convert 43 9 (.slice (some ⟨g, 0, none⟩) N N)).run Tryd.prog wr = .ok (.string ⟨(List.replicate (N) (UInt8.ofNat f)).toArray⟩) wr) := fun wr g h => conv_fil h hf
  generalize (⟨(List.replicate (N) (UInt8.ofNat f)).toArray⟩ : ByteArray) = body at *
  clear hf
  have h1 : (w.alloc (.cells #[.int .u8 (k : Int), .int .u8 (m : Int), .int .u8 (f : Int)] 59)).heap.size = w.heap.size + 1 := by simp
  have h2 : ((w.alloc (.cells #[.int .u8 (k : Int), .int .u8 (m : Int), .int .u8 (f : Int)] 59)).alloc (.cells #[.int .i64 0, .string ⟨#[]⟩] 37)).heap.size = w.heap.size + 1 + 1 := by simp
  have h3 : (((w.alloc (.cells #[.int .u8 (k : Int), .int .u8 (m : Int), .int .u8 (f : Int)] 59)).alloc (.cells #[.int .i64 0, .string ⟨#[]⟩] 37)).alloc (.cells #[.int .i64 3, .string ⟨#[]⟩] 37)).heap.size = w.heap.size + 1 + 1 + 1 := by simp
  have HA : Hid (((((w.alloc (.cells #[.int .u8 (k : Int), .int .u8 (m : Int), .int .u8 (f : Int)] 59)).alloc (.cells #[.int .i64 0, .string ⟨#[]⟩] 37)).alloc (.cells #[.int .i64 3, .string ⟨#[]⟩] 37)).alloc (.cells (filC N 0 (f : Int)) 5)).heap[w.heap.size]? = some (.cells #[.int .u8 (k : Int), .int .u8 (m : Int), .int .u8 (f : Int)] 59 (0, 0))) := hp_up (hp_up (hp_up (hp_new rfl)))
  have HC : Hid (((((w.alloc (.cells #[.int .u8 (k : Int), .int .u8 (m : Int), .int .u8 (f : Int)] 59)).alloc (.cells #[.int .i64 0, .string ⟨#[]⟩] 37)).alloc (.cells #[.int .i64 3, .string ⟨#[]⟩] 37)).alloc (.cells (filC N 0 (f : Int)) 5)).heap[w.heap.size + 1]? = some (.cells #[.int .i64 0, .string ⟨#[]⟩] 37 (0, 0))) := hp_up (hp_up (hp_new h1.symm))
  have HD : Hid (((((w.alloc (.cells #[.int .u8 (k : Int), .int .u8 (m : Int), .int .u8 (f : Int)] 59)).alloc (.cells #[.int .i64 0, .string ⟨#[]⟩] 37)).alloc (.cells #[.int .i64 3, .string ⟨#[]⟩] 37)).alloc (.cells (filC N 0 (f : Int)) 5)).heap[w.heap.size + 1 + 1]? = some (.cells #[.int .i64 3, .string ⟨#[]⟩] 37 (0, 0))) := hp_up (hp_new h2.symm)
  have HE : Hid (((((w.alloc (.cells #[.int .u8 (k : Int), .int .u8 (m : Int), .int .u8 (f : Int)] 59)).alloc (.cells #[.int .i64 0, .string ⟨#[]⟩] 37)).alloc (.cells #[.int .i64 3, .string ⟨#[]⟩] 37)).alloc (.cells (filC N 0 (f : Int)) 5)).heap[w.heap.size + 1 + 1 + 1]? = some (.cells (filC N 0 (f : Int)) 5 (0, 0))) := hp_new h3.symm
  have b1 : Below w.heap.size w (w.alloc (.cells #[.int .u8 (k : Int), .int .u8 (m : Int), .int .u8 (f : Int)] 59)) := (Below.refl _ _).alloc (Nat.le_refl _) _
  have b2 := b1.alloc b1.size (.cells #[.int .i64 0, .string ⟨#[]⟩] 37)
  have b3 := b2.alloc b2.size (.cells #[.int .i64 3, .string ⟨#[]⟩] 37)
  have HB : Hid (Below w.heap.size w ((((w.alloc (.cells #[.int .u8 (k : Int), .int .u8 (m : Int), .int .u8 (f : Int)] 59)).alloc (.cells #[.int .i64 0, .string ⟨#[]⟩] 37)).alloc (.cells #[.int .i64 3, .string ⟨#[]⟩] 37)).alloc (.cells (filC N 0 (f : Int)) 5))) := b3.alloc b3.size _
  clear h1 h2 h3 b1 b2 b3
  go_enter Tryd.func29, Tryd.ntmps29
  go_wp2
  generalize (((w.alloc (.cells #[.int .u8 (k : Int), .int .u8 (m : Int), .int .u8 (f : Int)] 59)).alloc (.cells #[.int .i64 0, .string ⟨#[]⟩] 37)).alloc (.cells #[.int .i64 3, .string ⟨#[]⟩] 37)).alloc (.cells (filC N 0 (f : Int)) 5) = V at *
  have HL : Hid (w.heap.size + 1 + 1 + 1 < V.heap.size) := (Array.getElem?_eq_some_iff.mp HE.out).1
  clear hmk
  go_loopw [6] (fun t wr => ∃ j : Nat, t = .int .i64 (j : Int) ∧ j ≤ N ∧ wr.heap[w.heap.size + 1 + 1 + 1]? = some (.cells (filC N j (f : Int)) 5 (0, 0)) ∧ Beside (w.heap.size + 1 + 1 + 1) (w.heap.size + 1 + 1 + 1) V wr) (fun t _ => N - (match t with | .int _ n => n.toNat | _ => 0))
  case atStart => exact ⟨0, rfl, by omega, HE.out, Beside.refl V⟩
  case round =>
    obtain ⟨j, rfl, hj, hrow, hbs⟩ := hrel
    have HROW : Hid (wr.heap[w.heap.size + 1 + 1 + 1]? = some (.cells (filC N j (f : Int)) 5 (0, 0))) := hrow
    have HBS : Hid (Beside (w.heap.size + 1 + 1 + 1) (w.heap.size + 1 + 1 + 1) V wr) := hbs
    have HA2 : Hid (wr.heap[w.heap.size]? = some (.cells #[.int .u8 (k : Int), .int .u8 (m : Int), .int .u8 (f : Int)] 59 (0, 0))) := (hbs.block _ (by have := HL.out; omega) (by omega) (by omega)).trans HA.out
    have HC2 : Hid (wr.heap[w.heap.size + 1]? = some (.cells #[.int .i64 0, .string ⟨#[]⟩] 37 (0, 0))) := (hbs.block _ (by have := HL.out; omega) (by omega) (by omega)).trans HC.out
    have HD2 : Hid (wr.heap[w.heap.size + 1 + 1]? = some (.cells #[.int .i64 3, .string ⟨#[]⟩] 37 (0, 0))) := (hbs.block _ (by have := HL.out; omega) (by omega) (by omega)).trans HD.out
    clear hrow hbs
    by_cases hjN : j < N
    · have hj2 : (j : Int) < N := by omega
      obtain ⟨v, hv⟩ := filC_at N j (f : Int) hjN
      have q0 : wr.cell? ⟨w.heap.size + 1 + 1 + 1, j, none⟩ = some v := cl_row HROW.out hv
      have f0 : wr.frozen? ⟨w.heap.size + 1 + 1 + 1, j, none⟩ = false := fz_row HROW.out
      have q2 : wr.cell? ⟨w.heap.size, 2, none⟩ = some (.int .u8 (f : Int)) := cl_row HA2.out rfl
      have HNX : Hid ((wr.setCell ⟨w.heap.size + 1 + 1 + 1, j, none⟩ (.int .u8 (f : Int))).heap[w.heap.size + 1 + 1 + 1]? = some (.cells (filC N (j + 1) (f : Int)) 5 (0, 0))) := by
        have e := heap_setCell_same wr (w.heap.size + 1 + 1 + 1) j (filC N j (f : Int)) 5 (.int .u8 (f : Int)) HROW.out
        rw [filC_next N j (f : Int) hjN] at e
        exact e
      clear hv
      go_wp2
      exact ⟨⟨j + 1, by simp, by omega, HNX.out, HBS.out.trans (Beside.setp wr j _)⟩, by simp only []; omega⟩
    · obtain hjj : j = N := by omega
      have HROW2 : Hid (wr.heap[w.heap.size + 1 + 1 + 1]? = some (.cells (filC N N (f : Int)) 5 (0, 0))) := by unfold Hid; rw [HROW.out, hjj]
      have hcv := KCV.out wr _ HROW2.out
      have hj3 : ¬ ((j : Int) < N) := by omega
      have d0 : wr.cell? ⟨w.heap.size + 1 + 1, 0, none⟩ = some (.int .i64 3) := cl_row HD2.out rfl
      have d1 : wr.cell? ⟨w.heap.size + 1 + 1, 1, none⟩ = some (.string ⟨#[]⟩) := cl_row HD2.out rfl
      have dz : wr.frozen? ⟨w.heap.size + 1 + 1, 1, none⟩ = false := fz_row HD2.out
      have r0 : wr.cell? ⟨w.heap.size + 1, 0, none⟩ = some (.int .i64 0) := cl_row HC2.out rfl
      have r1 : wr.cell? ⟨w.heap.size + 1, 1, none⟩ = some (.string ⟨#[]⟩) := cl_row HC2.out rfl
      have z0 : wr.frozen? ⟨w.heap.size + 1, 0, none⟩ = false := fz_row HC2.out
      have z1 : wr.frozen? ⟨w.heap.size + 1, 1, none⟩ = false := fz_row HC2.out
      have HBW : Hid (Below w.heap.size w wr) := HB.out.trans (HBS.out.below (by omega) (by omega) (by have := HL.out; omega))
      clear hjj HROW HROW2 HA2 HC2 HD2 hjN
      go_wp2
      refine bodyPost_ret (v := .agg #[.int .i64 3, .string body]) (by simp [results, Tryd.results29, go_sem, r0, r1]) rfl ⟨rfl, ?_⟩
      exact ((HBW.out.setCell (p := ⟨w.heap.size + 1 + 1, 1, none⟩) (by simp; omega) _).setCell (p := ⟨w.heap.size + 1, 0, none⟩) (by simp) _).setCell (p := ⟨w.heap.size + 1, 1, none⟩) (by simp) _
set_option maxRecDepth 100000 in
set_option maxHeartbeats 800000 in
theorem of_3 (k m f : Nat) (w : World) (hk : k < 256) (hm : m < 256) (hf : f < 256) (hr : k % 5 = 3) :
    Calls Tryd.prog 29 #[.agg #[.int .u8 (k : Int), .int .u8 (m : Int), .int .u8 (f : Int)]] w fun e w' => e = .returned (.agg #[.int .i64 4, .string ⟨(List.replicate (0) (UInt8.ofNat f)).toArray⟩]) ∧ Below w.heap.size w w' := by
  have e1 : (k : Int) % 5 = 3 := by omega
  have e2 : (k : Int) < 256 := by omega
  have e3 : (m : Int) < 256 := by omega
  have e4 : (f : Int) < 256 := by omega
  obtain ⟨N, hN⟩ : ∃ N, N = 0 := ⟨_, rfl⟩
  rw [← hN]
  have hN1 : N ≤ 1000 := by omega
  subst hN
  have hmk : ∀ w : World, (Instr.makeSlice 43 (.int .i64 0) (.int .i64 0)).run Tryd.prog w = .ok (.slice (some ⟨w.heap.size, 0, none⟩) 0 0) (w.alloc (.cells (filC 0 0 (f : Int)) 5)) := made_bytes 0 hN1 (f : Int)
  clear hr hk hm
  have KCV : Hid (∀ wr g, wr.heap[g]? = some (.cells (filC 0 0 (f : Int)) 5 (0, 0)) → (convert 43 9 (.slice (some ⟨g, 0, none⟩) 0 0)).run Tryd.prog wr = .ok (.string ⟨(List.replicate (0) (UInt8.ofNat f)).toArray⟩) wr) := fun wr g h => conv_fil h hf
  generalize (⟨(List.replicate (0) (UInt8.ofNat f)).toArray⟩ : ByteArray) = body at *
  clear hf
  have h1 : (w.alloc (.cells #[.int .u8 (k : Int), .int .u8 (m : Int), .int .u8 (f : Int)] 59)).heap.size = w.heap.size + 1 := by simp
  have h2 : ((w.alloc (.cells #[.int .u8 (k : Int), .int .u8 (m : Int), .int .u8 (f : Int)] 59)).alloc (.cells #[.int .i64 0, .string ⟨#[]⟩] 37)).heap.size = w.heap.size + 1 + 1 := by simp
  have h3 : (((w.alloc (.cells #[.int .u8 (k : Int), .int .u8 (m : Int), .int .u8 (f : Int)] 59)).alloc (.cells #[.int .i64 0, .string ⟨#[]⟩] 37)).alloc (.cells #[.int .i64 4, .string ⟨#[]⟩] 37)).heap.size = w.heap.size + 1 + 1 + 1 := by simp
  have HA : Hid (((((w.alloc (.cells #[.int .u8 (k : Int), .int .u8 (m : Int), .int .u8 (f : Int)] 59)).alloc (.cells #[.int .i64 0, .string ⟨#[]⟩] 37)).alloc (.cells #[.int .i64 4, .string ⟨#[]⟩] 37)).alloc (.cells (filC 0 0 (f : Int)) 5)).heap[w.heap.size]? = some (.cells #[.int .u8 (k : Int), .int .u8 (m : Int), .int .u8 (f : Int)] 59 (0, 0))) := hp_up (hp_up (hp_up (hp_new rfl)))
  have HC : Hid (((((w.alloc (.cells #[.int .u8 (k : Int), .int .u8 (m : Int), .int .u8 (f : Int)] 59)).alloc (.cells #[.int .i64 0, .string ⟨#[]⟩] 37)).alloc (.cells #[.int .i64 4, .string ⟨#[]⟩] 37)).alloc (.cells (filC 0 0 (f : Int)) 5)).heap[w.heap.size + 1]? = some (.cells #[.int .i64 0, .string ⟨#[]⟩] 37 (0, 0))) := hp_up (hp_up (hp_new h1.symm))
  have HD : Hid (((((w.alloc (.cells #[.int .u8 (k : Int), .int .u8 (m : Int), .int .u8 (f : Int)] 59)).alloc (.cells #[.int .i64 0, .string ⟨#[]⟩] 37)).alloc (.cells #[.int .i64 4, .string ⟨#[]⟩] 37)).alloc (.cells (filC 0 0 (f : Int)) 5)).heap[w.heap.size + 1 + 1]? = some (.cells #[.int .i64 4, .string ⟨#[]⟩] 37 (0, 0))) := hp_up (hp_new h2.symm)
  have HE : Hid (((((w.alloc (.cells #[.int .u8 (k : Int), .int .u8 (m : Int), .int .u8 (f : Int)] 59)).alloc (.cells #[.int .i64 0, .string ⟨#[]⟩] 37)).alloc (.cells #[.int .i64 4, .string ⟨#[]⟩] 37)).alloc (.cells (filC 0 0 (f : Int)) 5)).heap[w.heap.size + 1 + 1 + 1]? = some (.cells (filC 0 0 (f : Int)) 5 (0, 0))) := hp_new h3.symm
  have b1 : Below w.heap.size w (w.alloc (.cells #[.int .u8 (k : Int), .int .u8 (m : Int), .int .u8 (f : Int)] 59)) := (Below.refl _ _).alloc (Nat.le_refl _) _
  have b2 := b1.alloc b1.size (.cells #[.int .i64 0, .string ⟨#[]⟩] 37)
  have b3 := b2.alloc b2.size (.cells #[.int .i64 4, .string ⟨#[]⟩] 37)
  have HB : Hid (Below w.heap.size w ((((w.alloc (.cells #[.int .u8 (k : Int), .int .u8 (m : Int), .int .u8 (f : Int)] 59)).alloc (.cells #[.int .i64 0, .string ⟨#[]⟩] 37)).alloc (.cells #[.int .i64 4, .string ⟨#[]⟩] 37)).alloc (.cells (filC 0 0 (f : Int)) 5))) := b3.alloc b3.size _
  clear h1 h2 h3 b1 b2 b3
  go_enter Tryd.func29, Tryd.ntmps29
  go_wp2
  generalize (((w.alloc (.cells #[.int .u8 (k : Int), .int .u8 (m : Int), .int .u8 (f : Int)] 59)).alloc (.cells #[.int .i64 0, .string ⟨#[]⟩] 37)).alloc (.cells #[.int .i64 4, .string ⟨#[]⟩] 37)).alloc (.cells (filC 0 0 (f : Int)) 5) = V at *
  have HL : Hid (w.heap.size + 1 + 1 + 1 < V.heap.size) := (Array.getElem?_eq_some_iff.mp HE.out).1
  clear hmk
  go_loopw [6] (fun t wr => ∃ j : Nat, t = .int .i64 (j : Int) ∧ j ≤ 0 ∧ wr.heap[w.heap.size + 1 + 1 + 1]? = some (.cells (filC 0 j (f : Int)) 5 (0, 0)) ∧ Beside (w.heap.size + 1 + 1 + 1) (w.heap.size + 1 + 1 + 1) V wr) (fun t _ => 0 - (match t with | .int _ n => n.toNat | _ => 0))
  case atStart => exact ⟨0, rfl, by omega, HE.out, Beside.refl V⟩
  case round =>
    obtain ⟨j, rfl, hj, hrow, hbs⟩ := hrel
    have HROW : Hid (wr.heap[w.heap.size + 1 + 1 + 1]? = some (.cells (filC 0 j (f : Int)) 5 (0, 0))) := hrow
    have HBS : Hid (Beside (w.heap.size + 1 + 1 + 1) (w.heap.size + 1 + 1 + 1) V wr) := hbs
    have HA2 : Hid (wr.heap[w.heap.size]? = some (.cells #[.int .u8 (k : Int), .int .u8 (m : Int), .int .u8 (f : Int)] 59 (0, 0))) := (hbs.block _ (by have := HL.out; omega) (by omega) (by omega)).trans HA.out
    have HC2 : Hid (wr.heap[w.heap.size + 1]? = some (.cells #[.int .i64 0, .string ⟨#[]⟩] 37 (0, 0))) := (hbs.block _ (by have := HL.out; omega) (by omega) (by omega)).trans HC.out
    have HD2 : Hid (wr.heap[w.heap.size + 1 + 1]? = some (.cells #[.int .i64 4, .string ⟨#[]⟩] 37 (0, 0))) := (hbs.block _ (by have := HL.out; omega) (by omega) (by omega)).trans HD.out
    clear hrow hbs
    by_cases hjN : j < 0
    · exact absurd hjN (by omega)
    · obtain hjj : j = 0 := by omega
      have HROW2 : Hid (wr.heap[w.heap.size + 1 + 1 + 1]? = some (.cells (filC 0 0 (f : Int)) 5 (0, 0))) := by unfold Hid; rw [HROW.out, hjj]
      have hcv := KCV.out wr _ HROW2.out
      have hj3 : ¬ ((j : Int) < 0) := by omega
      have d0 : wr.cell? ⟨w.heap.size + 1 + 1, 0, none⟩ = some (.int .i64 4) := cl_row HD2.out rfl
      have d1 : wr.cell? ⟨w.heap.size + 1 + 1, 1, none⟩ = some (.string ⟨#[]⟩) := cl_row HD2.out rfl
      have dz : wr.frozen? ⟨w.heap.size + 1 + 1, 1, none⟩ = false := fz_row HD2.out
      have r0 : wr.cell? ⟨w.heap.size + 1, 0, none⟩ = some (.int .i64 0) := cl_row HC2.out rfl
      have r1 : wr.cell? ⟨w.heap.size + 1, 1, none⟩ = some (.string ⟨#[]⟩) := cl_row HC2.out rfl
      have z0 : wr.frozen? ⟨w.heap.size + 1, 0, none⟩ = false := fz_row HC2.out
      have z1 : wr.frozen? ⟨w.heap.size + 1, 1, none⟩ = false := fz_row HC2.out
      have HBW : Hid (Below w.heap.size w wr) := HB.out.trans (HBS.out.below (by omega) (by omega) (by have := HL.out; omega))
      clear hjj HROW HROW2 HA2 HC2 HD2 hjN
      go_wp2
      refine bodyPost_ret (v := .agg #[.int .i64 4, .string body]) (by simp [results, Tryd.results29, go_sem, r0, r1]) rfl ⟨rfl, ?_⟩
      exact ((HBW.out.setCell (p := ⟨w.heap.size + 1 + 1, 1, none⟩) (by simp; omega) _).setCell (p := ⟨w.heap.size + 1, 0, none⟩) (by simp) _).setCell (p := ⟨w.heap.size + 1, 1, none⟩) (by simp) _
set_option maxRecDepth 100000 in
set_option maxHeartbeats 800000 in
theorem of_4 (k m f : Nat) (w : World) (hk : k < 256) (hm : m < 256) (hf : f < 256) (hr : k % 5 = 4) :
    Calls Tryd.prog 29 #[.agg #[.int .u8 (k : Int), .int .u8 (m : Int), .int .u8 (f : Int)]] w fun e w' => e = .returned (.agg #[.int .i64 5, .string ⟨(List.replicate (4) (UInt8.ofNat f)).toArray⟩]) ∧ Below w.heap.size w w' := by
  have e1 : (k : Int) % 5 = 4 := by omega
  have e2 : (k : Int) < 256 := by omega
  have e3 : (m : Int) < 256 := by omega
  have e4 : (f : Int) < 256 := by omega
  obtain ⟨N, hN⟩ : ∃ N, N = 4 := ⟨_, rfl⟩
  rw [← hN]
  have hN1 : N ≤ 1000 := by omega
  subst hN
  have hmk : ∀ w : World, (Instr.makeSlice 43 (.int .i64 4) (.int .i64 4)).run Tryd.prog w = .ok (.slice (some ⟨w.heap.size, 0, none⟩) 4 4) (w.alloc (.cells (filC 4 0 (f : Int)) 5)) := made_bytes 4 hN1 (f : Int)
  clear hr hk hm
  have KCV : Hid (∀ wr g, wr.heap[g]? = some (.cells (filC 4 4 (f : Int)) 5 (0, 0)) → (convert 43 9 (.slice (some ⟨g, 0, none⟩) 4 4)).run Tryd.prog wr = .ok (.string ⟨(List.replicate (4) (UInt8.ofNat f)).toArray⟩) wr) := fun wr g h => conv_fil h hf
  generalize (⟨(List.replicate (4) (UInt8.ofNat f)).toArray⟩ : ByteArray) = body at *
  clear hf
  have h1 : (w.alloc (.cells #[.int .u8 (k : Int), .int .u8 (m : Int), .int .u8 (f : Int)] 59)).heap.size = w.heap.size + 1 := by simp
  have h2 : ((w.alloc (.cells #[.int .u8 (k : Int), .int .u8 (m : Int), .int .u8 (f : Int)] 59)).alloc (.cells #[.int .i64 0, .string ⟨#[]⟩] 37)).heap.size = w.heap.size + 1 + 1 := by simp
  have h3 : (((w.alloc (.cells #[.int .u8 (k : Int), .int .u8 (m : Int), .int .u8 (f : Int)] 59)).alloc (.cells #[.int .i64 0, .string ⟨#[]⟩] 37)).alloc (.cells #[.int .i64 5, .string ⟨#[]⟩] 37)).heap.size = w.heap.size + 1 + 1 + 1 := by simp
  have HA : Hid (((((w.alloc (.cells #[.int .u8 (k : Int), .int .u8 (m : Int), .int .u8 (f : Int)] 59)).alloc (.cells #[.int .i64 0, .string ⟨#[]⟩] 37)).alloc (.cells #[.int .i64 5, .string ⟨#[]⟩] 37)).alloc (.cells (filC 4 0 (f : Int)) 5)).heap[w.heap.size]? = some (.cells #[.int .u8 (k : Int), .int .u8 (m : Int), .int .u8 (f : Int)] 59 (0, 0))) := hp_up (hp_up (hp_up (hp_new rfl)))
  have HC : Hid (((((w.alloc (.cells #[.int .u8 (k : Int), .int .u8 (m : Int), .int .u8 (f : Int)] 59)).alloc (.cells #[.int .i64 0, .string ⟨#[]⟩] 37)).alloc (.cells #[.int .i64 5, .string ⟨#[]⟩] 37)).alloc (.cells (filC 4 0 (f : Int)) 5)).heap[w.heap.size + 1]? = some (.cells #[.int .i64 0, .string ⟨#[]⟩] 37 (0, 0))) := hp_up (hp_up (hp_new h1.symm))
  have HD : Hid (((((w.alloc (.cells #[.int .u8 (k : Int), .int .u8 (m : Int), .int .u8 (f : Int)] 59)).alloc (.cells #[.int .i64 0, .string ⟨#[]⟩] 37)).alloc (.cells #[.int .i64 5, .string ⟨#[]⟩] 37)).alloc (.cells (filC 4 0 (f : Int)) 5)).heap[w.heap.size + 1 + 1]? = some (.cells #[.int .i64 5, .string ⟨#[]⟩] 37 (0, 0))) := hp_up (hp_new h2.symm)
  have HE : Hid (((((w.alloc (.cells #[.int .u8 (k : Int), .int .u8 (m : Int), .int .u8 (f : Int)] 59)).alloc (.cells #[.int .i64 0, .string ⟨#[]⟩] 37)).alloc (.cells #[.int .i64 5, .string ⟨#[]⟩] 37)).alloc (.cells (filC 4 0 (f : Int)) 5)).heap[w.heap.size + 1 + 1 + 1]? = some (.cells (filC 4 0 (f : Int)) 5 (0, 0))) := hp_new h3.symm
  have b1 : Below w.heap.size w (w.alloc (.cells #[.int .u8 (k : Int), .int .u8 (m : Int), .int .u8 (f : Int)] 59)) := (Below.refl _ _).alloc (Nat.le_refl _) _
  have b2 := b1.alloc b1.size (.cells #[.int .i64 0, .string ⟨#[]⟩] 37)
  have b3 := b2.alloc b2.size (.cells #[.int .i64 5, .string ⟨#[]⟩] 37)
  have HB : Hid (Below w.heap.size w ((((w.alloc (.cells #[.int .u8 (k : Int), .int .u8 (m : Int), .int .u8 (f : Int)] 59)).alloc (.cells #[.int .i64 0, .string ⟨#[]⟩] 37)).alloc (.cells #[.int .i64 5, .string ⟨#[]⟩] 37)).alloc (.cells (filC 4 0 (f : Int)) 5))) := b3.alloc b3.size _
  clear h1 h2 h3 b1 b2 b3
  go_enter Tryd.func29, Tryd.ntmps29
  go_wp2
  generalize (((w.alloc (.cells #[.int .u8 (k : Int), .int .u8 (m : Int), .int .u8 (f : Int)] 59)).alloc (.cells #[.int .i64 0, .string ⟨#[]⟩] 37)).alloc (.cells #[.int .i64 5, .string ⟨#[]⟩] 37)).alloc (.cells (filC 4 0 (f : Int)) 5) = V at *
  have HL : Hid (w.heap.size + 1 + 1 + 1 < V.heap.size) := (Array.getElem?_eq_some_iff.mp HE.out).1
  clear hmk
  go_loopw [6] (fun t wr => ∃ j : Nat, t = .int .i64 (j : Int) ∧ j ≤ 4 ∧ wr.heap[w.heap.size + 1 + 1 + 1]? = some (.cells (filC 4 j (f : Int)) 5 (0, 0)) ∧ Beside (w.heap.size + 1 + 1 + 1) (w.heap.size + 1 + 1 + 1) V wr) (fun t _ => 4 - (match t with | .int _ n => n.toNat | _ => 0))
  case atStart => exact ⟨0, rfl, by omega, HE.out, Beside.refl V⟩
  case round =>
    obtain ⟨j, rfl, hj, hrow, hbs⟩ := hrel
    have HROW : Hid (wr.heap[w.heap.size + 1 + 1 + 1]? = some (.cells (filC 4 j (f : Int)) 5 (0, 0))) := hrow
    have HBS : Hid (Beside (w.heap.size + 1 + 1 + 1) (w.heap.size + 1 + 1 + 1) V wr) := hbs
    have HA2 : Hid (wr.heap[w.heap.size]? = some (.cells #[.int .u8 (k : Int), .int .u8 (m : Int), .int .u8 (f : Int)] 59 (0, 0))) := (hbs.block _ (by have := HL.out; omega) (by omega) (by omega)).trans HA.out
    have HC2 : Hid (wr.heap[w.heap.size + 1]? = some (.cells #[.int .i64 0, .string ⟨#[]⟩] 37 (0, 0))) := (hbs.block _ (by have := HL.out; omega) (by omega) (by omega)).trans HC.out
    have HD2 : Hid (wr.heap[w.heap.size + 1 + 1]? = some (.cells #[.int .i64 5, .string ⟨#[]⟩] 37 (0, 0))) := (hbs.block _ (by have := HL.out; omega) (by omega) (by omega)).trans HD.out
    clear hrow hbs
    by_cases hjN : j < 4
    · have hj2 : (j : Int) < 4 := by omega
      obtain ⟨v, hv⟩ := filC_at 4 j (f : Int) hjN
      have q0 : wr.cell? ⟨w.heap.size + 1 + 1 + 1, j, none⟩ = some v := cl_row HROW.out hv
      have f0 : wr.frozen? ⟨w.heap.size + 1 + 1 + 1, j, none⟩ = false := fz_row HROW.out
      have q2 : wr.cell? ⟨w.heap.size, 2, none⟩ = some (.int .u8 (f : Int)) := cl_row HA2.out rfl
      have HNX : Hid ((wr.setCell ⟨w.heap.size + 1 + 1 + 1, j, none⟩ (.int .u8 (f : Int))).heap[w.heap.size + 1 + 1 + 1]? = some (.cells (filC 4 (j + 1) (f : Int)) 5 (0, 0))) := by
        have e := heap_setCell_same wr (w.heap.size + 1 + 1 + 1) j (filC 4 j (f : Int)) 5 (.int .u8 (f : Int)) HROW.out
        rw [filC_next 4 j (f : Int) hjN] at e
        exact e
      clear hv
      go_wp2
      exact ⟨⟨j + 1, by simp, by omega, HNX.out, HBS.out.trans (Beside.setp wr j _)⟩, by simp only []; omega⟩
    · obtain hjj : j = 4 := by omega
      have HROW2 : Hid (wr.heap[w.heap.size + 1 + 1 + 1]? = some (.cells (filC 4 4 (f : Int)) 5 (0, 0))) := by unfold Hid; rw [HROW.out, hjj]
      have hcv := KCV.out wr _ HROW2.out
      have hj3 : ¬ ((j : Int) < 4) := by omega
      have d0 : wr.cell? ⟨w.heap.size + 1 + 1, 0, none⟩ = some (.int .i64 5) := cl_row HD2.out rfl
      have d1 : wr.cell? ⟨w.heap.size + 1 + 1, 1, none⟩ = some (.string ⟨#[]⟩) := cl_row HD2.out rfl
      have dz : wr.frozen? ⟨w.heap.size + 1 + 1, 1, none⟩ = false := fz_row HD2.out
      have r0 : wr.cell? ⟨w.heap.size + 1, 0, none⟩ = some (.int .i64 0) := cl_row HC2.out rfl
      have r1 : wr.cell? ⟨w.heap.size + 1, 1, none⟩ = some (.string ⟨#[]⟩) := cl_row HC2.out rfl
      have z0 : wr.frozen? ⟨w.heap.size + 1, 0, none⟩ = false := fz_row HC2.out
      have z1 : wr.frozen? ⟨w.heap.size + 1, 1, none⟩ = false := fz_row HC2.out
      have HBW : Hid (Below w.heap.size w wr) := HB.out.trans (HBS.out.below (by omega) (by omega) (by have := HL.out; omega))
      clear hjj HROW HROW2 HA2 HC2 HD2 hjN
      go_wp2
      refine bodyPost_ret (v := .agg #[.int .i64 5, .string body]) (by simp [results, Tryd.results29, go_sem, r0, r1]) rfl ⟨rfl, ?_⟩
      exact ((HBW.out.setCell (p := ⟨w.heap.size + 1 + 1, 1, none⟩) (by simp; omega) _).setCell (p := ⟨w.heap.size + 1, 0, none⟩) (by simp) _).setCell (p := ⟨w.heap.size + 1, 1, none⟩) (by simp) _
theorem of_any (t : Tl) (w : World) (h : TlOk t) : Calls Tryd.prog 29 #[.agg #[.int .u8 (t.k : Int), .int .u8 (t.m : Int), .int .u8 (t.f : Int)]] w fun e w' => e = .returned (.agg #[.int .i64 ((ofI t).k : Int), .string ⟨(ofI t).b.toArray⟩]) ∧ Below w.heap.size w w' := by
  obtain ⟨hk, hm, hf⟩ := h
  obtain ⟨k, m, f⟩ := t
  simp only at hk hm hf
  have hr : k % 5 = 0 ∨ k % 5 = 1 ∨ k % 5 = 2 ∨ k % 5 = 3 ∨ k % 5 = 4 := by omega
  rcases hr with hr | hr | hr | hr | hr
  · simp only [ofI, nI, hr]; exact of_0 k m f w hk hm hf hr
  · simp only [ofI, nI, hr]; exact of_1 k m f w hk hm hf hr
  · simp only [ofI, nI, hr]; exact of_2 k m f w hk hm hf hr
  · simp only [ofI, nI, hr]; exact of_3 k m f w hk hm hf hr
  · simp only [ofI, nI, hr]; exact of_4 k m f w hk hm hf hr
end Go.Proofs.YtlinoklgchfedaaDoor
