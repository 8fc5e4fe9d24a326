/-
  The reference's bytes of one told prefix: a way of it.
-/
import Derived.Test.YtfhbgpepkplbaaaGreatDoorH2
namespace Go.Proofs.YtfhbgpepkplbaaaGreatDoor
open Go.RowKit
set_option maxRecDepth 100000 in
set_option maxHeartbeats 3200000 in
theorem one_tn (f : Int) (r : Nat) (s : ByteArray) (l id lb : Nat) (w : World) (hl : l ≤ 8 * s.size) (hs : s.size ≤ 16) (hid : id < 4294967296) (hlb : lb ≤ 1048575) (hr : r < 18446744073709551616) (hlab : lab f = false) (hdst : dst f = false) :
    Calls Tryz.prog 26 #[.agg #[.int .i64 f, .int .u64 (r : Int), .string s, .int .i64 (l : Int), .int .u32 (id : Int), .int .u32 (lb : Int)], .bool true] w fun e w' => e = .returned (.string ⟨(nlE f true r s l id lb).toArray⟩) ∧ Below w.heap.size w w' := by
  have hex : exN f ≤ 88 := by unfold exN lbN rdN; rw [hlab, hdst]; decide
  obtain ⟨ct, hct⟩ : ∃ ct, ct = l + exN f := ⟨_, rfl⟩
  obtain ⟨lv, hlv⟩ : ∃ lv, lv = lb * 16 + 1 := ⟨_, rfl⟩
  obtain ⟨rh, hrh⟩ : ∃ rh, rh = r / 4294967296 := ⟨_, rfl⟩
  obtain ⟨rl, hrl⟩ : ∃ rl, rl = r % 4294967296 := ⟨_, rfl⟩
  obtain ⟨nb, hnb⟩ : ∃ nb, nb = (l + 7) / 8 := ⟨_, rfl⟩
  have hlv0 : lv < 16777216 := by omega
  have KA : Hid (∀ w, Calls Tryz.prog 51 #[.int .i64 f] w fun e w' => e = .returned (.int .i64 (exN f : Nat)) ∧ w' = w) := ahead_any f
  have KL : Hid (∀ w, Calls Tryz.prog 49 #[.int .i64 f] w fun e w' => e = .returned (.bool false) ∧ w' = w) := by have := rlabd f; rw [hlab] at this; exact this
  have KD : Hid (∀ w, Calls Tryz.prog 52 #[.int .i64 f] w fun e w' => e = .returned (.bool false) ∧ w' = w) := by have := rdst_any f; rw [hdst] at this; exact this
  have KF : Hid (∀ w, Calls Tryz.prog 50 #[.int .u32 (id : Int)] w fun e w' => e = .returned (.string ⟨(laid id 4).toArray⟩) ∧ Below w.heap.size w w') := fun w => four_any id w hid
  have KH : Hid (∀ w, Calls Tryz.prog 50 #[.int .u32 (rh : Int)] w fun e w' => e = .returned (.string ⟨(laid rh 4).toArray⟩) ∧ Below w.heap.size w w') := fun w => four_any rh w (by omega)
  have KW : Hid (∀ w, Calls Tryz.prog 50 #[.int .u32 (rl : Int)] w fun e w' => e = .returned (.string ⟨(laid rl 4).toArray⟩) ∧ Below w.heap.size w w') := fun w => four_any rl w (by omega)
  have hw2 : IntKind.i64.wrap ((l : Int) + (exN f : Nat)) = (ct : Int) := by rw [IntKind.wrap_i64]; omega
  have hw3 : IntKind.u8.wrap (ct : Int) = ((ct % 256 : Nat) : Int) := by rw [IntKind.wrap_u8]; omega
  have HE : Hid (nlE f true r s l id lb = (laid id 4 ++ laid ct 1) ++ s.data.toList.take nb) := by
    unfold Hid nlE idN lbN rdN; rw [hlab, hdst, hct, hnb]; (try rw [hlv]); (try rw [hrh, hrl]); (try simp only [if_true]; rw [laid8 r]); simp [laid]
  have HR : Hid ((r : Int) / 4294967296 = (rh : Int) ∧ (rh : Int) % 4294967296 = (rh : Int) ∧ (r : Int) % 4294967296 = (rl : Int)) := by unfold Hid; omega
  have HN : Hid (wrap64 ((l : Int) + 7) = (l : Int) + 7 ∧ wrap64 (((l : Int) + 7).tdiv 8) = (nb : Int) ∧ nb ≤ s.size ∧ s.size ≤ 16) := by
    have e1 : ((l : Int) + 7).tdiv 8 = (nb : Int) := by rw [Int.tdiv_eq_ediv_of_nonneg (by omega)]; omega
    refine ⟨by unfold wrap64; omega, ?_, by omega, hs⟩
    rw [e1]; unfold wrap64; omega
  clear hl hs hid hlab hdst hct hex hrh hrl hnb
  go_enter Tryz.func26, Tryz.ntmps26
  go_wp2_with fail
  refine Calls.mono (KF.out _) ?_
  rintro e w1 ⟨rfl, hb1⟩
  have p0 : w1.cell? ⟨w.heap.size, 0, none⟩ = some (.int .i64 f) := cell2 hb1 (by simp)
  have p1 : w1.cell? ⟨w.heap.size, 1, none⟩ = some (.int .u64 (r : Int)) := cell2 hb1 (by simp)
  have p2 : w1.cell? ⟨w.heap.size, 2, none⟩ = some (.string s) := cell2 hb1 (by simp)
  have p3 : w1.cell? ⟨w.heap.size, 3, none⟩ = some (.int .i64 (l : Int)) := cell2 hb1 (by simp)
  have p5 : w1.cell? ⟨w.heap.size, 5, none⟩ = some (.int .u32 (lb : Int)) := cell2 hb1 (by simp)
  have HB1 : Hid (Below w.heap.size w w1) := ((Below.refl _ _).alloc (Nat.le_refl _) _).trans (hb1.mono (by simp))
  clear hb1
  have HLn : Hid ((laid id 4).length = 4) := laid_length _ _
  generalize laid id 4 = A1 at *
  have HB2 : Hid (Below w.heap.size w (w1.alloc (.cells #[.int .i64 f, .int .u64 (r : Int), .string s, .int .i64 (l : Int)] 24))) := HB1.out.alloc HB1.out.size _
  go_wp2
  have q0 : (w1.alloc (.cells #[.int .i64 f, .int .u64 (r : Int), .string s, .int .i64 (l : Int)] 24)).cell? ⟨w1.heap.size, 0, none⟩ = some (.int .i64 f) := by simp
  have q1 : (w1.alloc (.cells #[.int .i64 f, .int .u64 (r : Int), .string s, .int .i64 (l : Int)] 24)).cell? ⟨w1.heap.size, 1, none⟩ = some (.int .u64 (r : Int)) := by simp
  have q2 : (w1.alloc (.cells #[.int .i64 f, .int .u64 (r : Int), .string s, .int .i64 (l : Int)] 24)).cell? ⟨w1.heap.size, 2, none⟩ = some (.string s) := by simp
  have q3 : (w1.alloc (.cells #[.int .i64 f, .int .u64 (r : Int), .string s, .int .i64 (l : Int)] 24)).cell? ⟨w1.heap.size, 3, none⟩ = some (.int .i64 (l : Int)) := by simp
  have q5 : (w1.alloc (.cells #[.int .i64 f, .int .u64 (r : Int), .string s, .int .i64 (l : Int)] 24)).cell? ⟨w.heap.size, 5, none⟩ = some (.int .u32 (lb : Int)) := below_cell ((Below.refl _ _).alloc (Nat.le_refl _) _) p5
  clear p0 p1 p2 p3 p5
  generalize w1.alloc (.cells #[.int .i64 f, .int .u64 (r : Int), .string s, .int .i64 (l : Int)] 24) = W at *
  generalize w1.heap.size = b at *
  have hb : ∀ wx : World, (convert 60 9 (.slice (some ⟨wx.heap.size, 0, none⟩) 1 1)).run Tryz.prog (wx.alloc (.cells #[.int .u8 ((ct : Int) % 256)] 5)).drew = .ok (.string ⟨(laid ct 1).toArray⟩) (wx.alloc (.cells #[.int .u8 ((ct : Int) % 256)] 5)).drew := fun wx => back1 ct wx.drew
  have HLc : Hid ((laid ct 1).length = 1) := laid_length _ _
  have ha : ∀ wx : World, (Op.stringOp .add ⟨A1.toArray⟩ ⟨(laid ct 1).toArray⟩).run Tryz.prog wx = .ok (.string ⟨(A1 ++ laid ct 1).toArray⟩) wx := fun wx => add_l A1 (laid ct 1) (by rw [HLn.out]; omega) (by rw [laid_length]; omega) wx
  generalize laid ct 1 = A2 at *
  go_region_held (fun w' => w'.cell? ⟨b, 0, none⟩ = some (.int .i64 f) ∧ w'.cell? ⟨b, 1, none⟩ = some (.int .u64 (r : Int)) ∧ w'.cell? ⟨b, 2, none⟩ = some (.string s) ∧ w'.cell? ⟨b, 3, none⟩ = some (.int .i64 (l : Int)) ∧ w'.cell? ⟨w.heap.size, 5, none⟩ = some (.int .u32 (lb : Int))) (go_keep)
    (first | (go_at_call 51; refine Calls.mono (KA.out _) ?_; rintro e w4 ⟨rfl, rfl⟩))
  have hbx : Below W.heap.size W (W.alloc (.cells #[.int .u8 ((ct : Int) % 256)] 5)).drew := ((Below.refl _ _).alloc (Nat.le_refl _) _).drew
  have r0 := below_cell hbx q0
  have r1 := below_cell hbx q1
  have r2 := below_cell hbx q2
  have r3 := below_cell hbx q3
  have r5 := below_cell hbx q5
  have HB3 : Hid (Below w.heap.size w (W.alloc (.cells #[.int .u8 ((ct : Int) % 256)] 5)).drew) := HB2.out.trans (hbx.mono HB2.out.size)
  clear q0 q1 q2 q3 q5 hbx HB2 HB1 hb ha
  generalize (W.alloc (.cells #[.int .u8 ((ct : Int) % 256)] 5)).drew = W3 at *
  have HL3 : Hid ((A1 ++ A2).length ≤ 5) := by unfold Hid; rw [List.length_append, HLc.out, HLn.out]; omega
  generalize A1 ++ A2 = A3 at *
  clear hlv
  go_wp2_with fail
  refine Calls.mono (KL.out _) ?_
  rintro e w5 ⟨rfl, hw5⟩
  obtain rfl : W3 = w5 := hw5.symm
  clear hw5
  go_wp2_with fail
  refine Calls.mono (KD.out _) ?_
  rintro e w5 ⟨rfl, hw5⟩
  obtain rfl : W3 = w5 := hw5.symm
  clear hw5
  have t2 := r2
  have t3 := r3
  clear r0 r1 r2 r3 r5
  have hn1 := HN.out.1
  have hn2 := HN.out.2.1
  have hn3 := HN.out.2.2.1
  have hn4 := HN.out.2.2.2
  have hn5 := HL3.out
  go_wp2
  go_ret
  exact ⟨by rw [HE.out, cat_take A3 s nb]; rfl, HB3.out⟩
end Go.Proofs.YtfhbgpepkplbaaaGreatDoor
