/-
  Bytes of opens: what they say of restarts and of path ids.
-/
import Derived.Test.YtlhnfejgkhilkaaGreatDoorP1
import Derived.Laws.Bits64b
set_option linter.unusedVariables false
set_option linter.unusedSimpArgs false
namespace Go.Proofs.YtlhnfejgkhilkaaGreatDoor
open Go.RowKit
def kpN (k : Kp) : Nat := if k.k = true then 128 else 0
def kpL (L : List Kp) : List UInt8 := L.flatMap fun k => entL k.f (kpN k)
theorem kpL_length (L : List Kp) : (kpL L).length = 4 * L.length := by
  induction L with
  | nil => rfl
  | cons k L ih => simp [kpL] at ih ⊢; rw [entL_length]; omega
def tmN (t : Nat) (again : Bool) : Nat := t + if again = true then 32768 else 0
def restL (t : Nat) (again : Bool) (L : List Kp) : List UInt8 := laid (tmN t again) 2 ++ kpL L
theorem or_tm (t : Nat) (again : Bool) (h : t ≤ 4095) : bits .or .u64 (t : Int) (flN again 32768) = ((tmN t again : Nat) : Int) := by
  unfold tmN flN
  cases again with
  | false =>
    have := bits_or_u64_nat t 0 (by omega) (by omega)
    simpa using this
  | true =>
    have := bits_or_u64_nat t 32768 (by omega) (by omega)
    simp only [if_true]
    rw [show ((32768 : Nat) : Int) = 32768 from rfl] at this
    rw [this]
    congr 1
    have h2 := Nat.two_pow_add_eq_or_of_lt (i := 15) (show t < 2 ^ 15 by omega) 1
    rw [show 2 ^ 15 * 1 = 32768 from rfl] at h2
    rw [Nat.or_comm, ← h2]; omega
theorem tmN_bd (t : Nat) (again : Bool) (h : t ≤ 4095) : tmN t again < 65536 := by unfold tmN; split <;> omega
def adN (a : Ad) : Nat := (if a.t = true then 1 else 0) + if a.s = true then 2 else 0
def adL (L : List Ad) : List UInt8 := L.flatMap fun a => entL a.f (adN a)
theorem adL_length (L : List Ad) : (adL L).length = 4 * L.length := by
  induction L with
  | nil => rfl
  | cons k L ih => simp [adL] at ih ⊢; rw [entL_length]; omega
theorem or_ad (s t : Bool) : bits .or .u64 (flN t 1) (flN s 2) = (((if t = true then 1 else 0) + if s = true then 2 else 0 : Nat) : Int) := by
  cases s <;> cases t <;> decide
set_option maxRecDepth 100000 in
set_option maxHeartbeats 1600000 in
theorem restartOf_any (o : Opn) (vf va vk : Value) (w : World) (hg : FamSizes w) (hk : KeptsAt w vk o.kept) (t : Nat) (ht : o.time = (t : Int)) (ht2 : t ≤ 4095) (hlen : o.kept.length ≤ 5) :
    Calls Tryz.prog 51 #[opV o vf va vk] w fun e w' => e = .returned (.string ⟨(restL t o.again o.kept).toArray⟩) ∧ Below w.heap.size w w' := by
  obtain ⟨asn, hold, id, fams, four, refr, adds, gr, again, time, kept⟩ := o
  obtain ⟨ad, b, off, cap, rfl, had, hcap, hrow⟩ := hk
  dsimp only at *
  subst ht
  have hba : Below w.heap.size w (w.alloc (.cells #[.int .u32 asn, .int .i64 hold, .int .u32 id, vf, .bool four, .bool refr, va, .bool gr, .bool again, .int .i64 (t : Int), .slice ad kept.length cap] 27)) := (Below.refl _ _).alloc (Nat.le_refl _) _
  have HR : Hid (_ : Prop) := hrow
  have HG : Hid (FamSizes w) := hg
  have HBA : Hid (Below _ _ _) := hba
  have hor := or_tm t again ht2
  have hw1 : IntKind.u64.wrap (t : Int) = (t : Int) := by simp [IntKind.wrap, IntKind.signed, IntKind.bits]; omega
  have KP : Hid (∀ X, Calls Tryz.prog 38 #[.string ⟨#[]⟩, .int .u64 (tmN t again : Int), .int .i64 2] X fun e w' => e = .returned (.string ⟨(laid (tmN t again) 2).toArray⟩) ∧ Below X.heap.size X w') := fun X => put_l [] _ 2 X (by omega) (by omega) (by have := tmN_bd t again ht2; omega) (by simp)
  have HL : Hid (restL t again kept = laid (tmN t again) 2 ++ kpL kept) := rfl
  have HLL : Hid ((laid (tmN t again) 2).length = 2) := laid_length _ _
  generalize restL t again kept = RES at *
  generalize laid (tmN t again) 2 = A at *
  generalize (tmN t again) = tm at *
  clear hg hrow hba
  unfold opV opC
  go_enter Tryz.func51, Tryz.ntmps51
  go_wp2
  have q9 : (w.alloc (.cells #[.int .u32 asn, .int .i64 hold, .int .u32 id, vf, .bool four, .bool refr, va, .bool gr, .bool again, .int .i64 (t : Int), .slice ad kept.length cap] 27)).cell? ⟨w.heap.size, 9, none⟩ = some (.int .i64 (t : Int)) := by simp
  have q8 : (w.alloc (.cells #[.int .u32 asn, .int .i64 hold, .int .u32 id, vf, .bool four, .bool refr, va, .bool gr, .bool again, .int .i64 (t : Int), .slice ad kept.length cap] 27)).cell? ⟨w.heap.size, 8, none⟩ = some (.bool again) := by simp
  have q10 : (w.alloc (.cells #[.int .u32 asn, .int .i64 hold, .int .u32 id, vf, .bool four, .bool refr, va, .bool gr, .bool again, .int .i64 (t : Int), .slice ad kept.length cap] 27)).cell? ⟨w.heap.size, 10, none⟩ = some (.slice ad kept.length cap) := by simp
  have hz : (w.alloc (.cells #[.int .u32 asn, .int .i64 hold, .int .u32 id, vf, .bool four, .bool refr, va, .bool gr, .bool again, .int .i64 (t : Int), .slice ad kept.length cap] 27)).heap.size = w.heap.size + 1 := by simp
  have HZ : Hid (_ = _) := hz
  have HQ : Hid (_ = _) := q10
  clear hz q10
  generalize w.alloc (.cells #[.int .u32 asn, .int .i64 hold, .int .u32 id, vf, .bool four, .bool refr, va, .bool gr, .bool again, .int .i64 (t : Int), .slice ad kept.length cap] 27) = W0 at *
  have HB0 : Hid (Below w.heap.size w W0.drew) := HBA.out.drew
  go_region_held (fun w' => w'.cell? ⟨w.heap.size, 9, none⟩ = some (.int .i64 (t : Int)) ∧ w'.cell? ⟨w.heap.size, 8, none⟩ = some (.bool again)) (go_keep)
    (first | (go_at_call 66; refine (flag_any _ _ _).mono ?_; rintro e wa ⟨rfl, hwa⟩; obtain rfl := hwa) | (go_at_call 38; (try rw [hor]); refine Calls.mono (KP.out _) ?_; rintro e wb ⟨rfl, hbb⟩; have q9 := below_cell hbb q9; have q8 := below_cell hbb q8))
  have HB1 : Hid (Below w.heap.size w wb) := HB0.out.trans (hbb.mono HB0.out.size)
  have q10 := below_cell hbb HQ.out
  clear hbb hor hw1 KP HB0 HQ HZ HBA q9 q8
  go_wp2
  go_loopw [3, 17] (fun s i wr => ∃ k : Nat, k ≤ kept.length ∧ i = .int .i64 k ∧ s = .string ⟨(A ++ kpL (kept.take k)).toArray⟩ ∧ Below w.heap.size w wr) (fun _ i _ => kept.length - (intOf i).toNat)
  case atStart => exact ⟨0, Nat.zero_le _, rfl, by simp [kpL], HB1.out⟩
  case round =>
    obtain ⟨k, hk, rfl, rfl, hb⟩ := hrel
    have HB : Hid (Below w.heap.size w wr) := hb
    clear hb HB1
    by_cases hlt : k < kept.length
    · obtain rfl : ad = some ⟨b, off, none⟩ := by
        rcases had with h | h
        · exact h
        · omega
      have c0 := (HB.out.cell (p := ⟨b, off + k * 2, none⟩) (lt_of_cell (HR.out k hlt).1)).trans (HR.out k hlt).1
      have c1 := (HB.out.cell (p := ⟨b, off + k * 2 + 1, none⟩) (lt_of_cell (HR.out k hlt).2)).trans (HR.out k hlt).2
      have HT : Hid (kpL (kept.take (k + 1)) = kpL (kept.take k) ++ entL kept[k].f (kpN kept[k])) := by
        unfold Hid
        unfold kpL
        rw [List.take_succ_eq_append_getElem hlt, List.flatMap_append, List.flatMap_singleton]
      have HN : Hid ((kpN kept[k] : Int) = flN kept[k].k 128) := by unfold Hid kpN flN; split <;> rfl
      have HNB : Hid (kpN kept[k] < 256) := by unfold Hid kpN; split <;> omega
      have HTL : Hid ((A ++ kpL (kept.take k)).length ≤ 1000) := by unfold Hid; rw [List.length_append, HLL.out, kpL_length]; simp; omega
      have KE : Hid (∀ X, Below w.heap.size w X → Calls Tryz.prog 67 #[.int .i64 kept[k].f, .int .u64 (flN kept[k].k 128)] X fun e w' => e = .returned (.string ⟨(entL kept[k].f (kpN kept[k])).toArray⟩) ∧ Below X.heap.size X w') := fun X hX => by
        have := entry_any kept[k].f (kpN kept[k]) X (HG.out.below hX) HNB.out
        rw [HN.out] at this
        exact this
      have hadd : ∀ X : World, (Op.stringOp .add ⟨(A ++ kpL (kept.take k)).toArray⟩ ⟨(entL kept[k].f (kpN kept[k])).toArray⟩).run Tryz.prog X = .ok (.string ⟨(A ++ kpL (kept.take (k + 1))).toArray⟩) X := fun X => by
        rw [HT.out, ← List.append_assoc]
        exact add_l _ _ (by have := HTL.out; omega) (by rw [entL_length]; omega) X
      have KF : Hid (∀ X, Calls Tryz.prog 66 #[.bool kept[k].k, .int .u64 128] X fun e w' => e = .returned (.int .u64 (flN kept[k].k 128)) ∧ w' = X) := fun X => flag_any _ _ X
      clear HT HTL HN HNB
      generalize A ++ kpL (kept.take k) = S0 at *
      obtain ⟨S1, hS1⟩ : ∃ S1, S1 = A ++ kpL (kept.take (k + 1)) := ⟨_, rfl⟩
      have HS1 : Hid (S1 = A ++ kpL (kept.take (k + 1))) := hS1
      rw [← hS1] at hadd
      clear hS1
      generalize entL kept[k].f (kpN kept[k]) = E at *
      generalize flN kept[k].k 128 = fl at *
      generalize kept[k].f = f at *
      generalize kept[k].k = z at *
      have ha : Below wr.heap.size wr (wr.alloc (.cells #[.int .i64 f, .bool z] 40)) := (Below.refl _ _).alloc (Nat.le_refl _) _
      have q0 : (wr.alloc (.cells #[.int .i64 f, .bool z] 40)).cell? ⟨wr.heap.size, 0, none⟩ = some (.int .i64 f) := by simp
      have q1 : (wr.alloc (.cells #[.int .i64 f, .bool z] 40)).cell? ⟨wr.heap.size, 1, none⟩ = some (.bool z) := by simp
      have HB1 : Hid (Below w.heap.size w (wr.alloc (.cells #[.int .i64 f, .bool z] 40)).drew) := (HB.out.trans (ha.mono HB.out.size)).drew
      go_wp2
      clear c0 c1 ha
      generalize wr.alloc (.cells #[.int .i64 f, .bool z] 40) = W1 at *
      go_region_held (fun w' => w'.cell? ⟨wr.heap.size, 0, none⟩ = some (.int .i64 f) ∧ w'.cell? ⟨wr.heap.size, 1, none⟩ = some (.bool z)) (go_keep)
        (first | (go_at_call 66; refine Calls.mono (KF.out _) ?_; rintro e wa ⟨rfl, hwa⟩; obtain rfl := hwa) | (go_at_call 67; refine Calls.mono (KE.out _ HB1.out) ?_; rintro e wb ⟨rfl, hbb⟩; have q0 := below_cell hbb q0; have q1 := below_cell hbb q1))
      have HB2 : Hid (Below w.heap.size w wb) := HB1.out.trans (hbb.mono HB1.out.size)
      clear hbb q0 q1
      go_wp2
      go_roundw
      case rel => exact ⟨k + 1, by omega, by go_num, by rw [HS1.out], HB2.out⟩
      case measure => simp [intOf]; omega
    · obtain rfl : k = kept.length := by omega
      rw [List.take_of_length_le (Nat.le_refl _), ← HL.out]
      go_wp2
      go_ret
      exact ⟨rfl, HB.out⟩
set_option maxRecDepth 100000 in
set_option maxHeartbeats 1600000 in
theorem addsOf_any (o : Opn) (vf va vk : Value) (w : World) (hg : FamSizes w) (hk : AddsAt w va o.adds) (hlen : o.adds.length ≤ 5) :
    Calls Tryz.prog 52 #[opV o vf va vk] w fun e w' => e = .returned (.string ⟨(adL o.adds).toArray⟩) ∧ Below w.heap.size w w' := by
  obtain ⟨asn, hold, id, fams, four, refr, adds, gr, again, time, kept⟩ := o
  obtain ⟨ad, b, off, cap, rfl, had, hcap, hrow⟩ := hk
  dsimp only at *
  have hba : Below w.heap.size w (w.alloc (.cells #[.int .u32 asn, .int .i64 hold, .int .u32 id, vf, .bool four, .bool refr, .slice ad adds.length cap, .bool gr, .bool again, .int .i64 time, vk] 27)) := (Below.refl _ _).alloc (Nat.le_refl _) _
  have HR : Hid (_ : Prop) := hrow
  have HG : Hid (FamSizes w) := hg
  have HBA : Hid (Below _ _ _) := hba
  clear hg hrow hba
  unfold opV opC
  go_enter Tryz.func52, Tryz.ntmps52
  go_wp2
  generalize w.alloc (.cells #[.int .u32 asn, .int .i64 hold, .int .u32 id, vf, .bool four, .bool refr, .slice ad adds.length cap, .bool gr, .bool again, .int .i64 time, vk] 27) = W0 at *
  go_loopw [3, 9] (fun s i wr => ∃ k : Nat, k ≤ adds.length ∧ i = .int .i64 k ∧ s = .string ⟨(adL (adds.take k)).toArray⟩ ∧ Below w.heap.size w wr) (fun _ i _ => adds.length - (intOf i).toNat)
  case atStart => exact ⟨0, Nat.zero_le _, rfl, by simp [adL], HBA.out⟩
  case round =>
    obtain ⟨k, hk, rfl, rfl, hb⟩ := hrel
    have HB : Hid (Below w.heap.size w wr) := hb
    clear hb HBA
    by_cases hlt : k < adds.length
    · obtain rfl : ad = some ⟨b, off, none⟩ := by
        rcases had with h | h
        · exact h
        · omega
      have c0 := (HB.out.cell (p := ⟨b, off + k * 3, none⟩) (lt_of_cell (HR.out k hlt).1)).trans (HR.out k hlt).1
      have c1 := (HB.out.cell (p := ⟨b, off + k * 3 + 1, none⟩) (lt_of_cell (HR.out k hlt).2.1)).trans (HR.out k hlt).2.1
      have c2 := (HB.out.cell (p := ⟨b, off + k * 3 + 2, none⟩) (lt_of_cell (HR.out k hlt).2.2)).trans (HR.out k hlt).2.2
      have HT : Hid (adL (adds.take (k + 1)) = adL (adds.take k) ++ entL adds[k].f (adN adds[k])) := by
        unfold Hid
        unfold adL
        rw [List.take_succ_eq_append_getElem hlt, List.flatMap_append, List.flatMap_singleton]
      have hor : bits .or .u64 (flN adds[k].t 1) (flN adds[k].s 2) = (adN adds[k] : Int) := or_ad _ _
      have HNB : Hid (adN adds[k] < 256) := by unfold Hid adN; (repeat' split) <;> omega
      have HTL : Hid ((adL (adds.take k)).length ≤ 1000) := by unfold Hid; rw [adL_length]; simp; omega
      have KE : Hid (∀ X, Below w.heap.size w X → Calls Tryz.prog 67 #[.int .i64 adds[k].f, .int .u64 (adN adds[k] : Int)] X fun e w' => e = .returned (.string ⟨(entL adds[k].f (adN adds[k])).toArray⟩) ∧ Below X.heap.size X w') := fun X hX => entry_any adds[k].f (adN adds[k]) X (HG.out.below hX) HNB.out
      have hadd : ∀ X : World, (Op.stringOp .add ⟨(adL (adds.take k)).toArray⟩ ⟨(entL adds[k].f (adN adds[k])).toArray⟩).run Tryz.prog X = .ok (.string ⟨(adL (adds.take (k + 1))).toArray⟩) X := fun X => by
        rw [HT.out]
        exact add_l _ _ (by have := HTL.out; omega) (by rw [entL_length]; omega) X
      have KF : Hid (∀ X, Calls Tryz.prog 66 #[.bool adds[k].t, .int .u64 1] X fun e w' => e = .returned (.int .u64 (flN adds[k].t 1)) ∧ w' = X) := fun X => flag_any _ _ X
      have KF2 : Hid (∀ X, Calls Tryz.prog 66 #[.bool adds[k].s, .int .u64 2] X fun e w' => e = .returned (.int .u64 (flN adds[k].s 2)) ∧ w' = X) := fun X => flag_any _ _ X
      clear HT HTL HNB
      generalize adL (adds.take k) = S0 at *
      obtain ⟨S1, hS1⟩ : ∃ S1, S1 = adL (adds.take (k + 1)) := ⟨_, rfl⟩
      have HS1 : Hid (S1 = adL (adds.take (k + 1))) := hS1
      rw [← hS1] at hadd
      clear hS1
      generalize entL adds[k].f (adN adds[k]) = E at *
      generalize flN adds[k].t 1 = fl at *
      generalize flN adds[k].s 2 = fl2 at *
      generalize adN adds[k] = nn at *
      generalize adds[k].f = f at *
      generalize adds[k].s = z at *
      generalize adds[k].t = y at *
      have ha : Below wr.heap.size wr (wr.alloc (.cells #[.int .i64 f, .bool z, .bool y] 52)) := (Below.refl _ _).alloc (Nat.le_refl _) _
      have q0 : (wr.alloc (.cells #[.int .i64 f, .bool z, .bool y] 52)).cell? ⟨wr.heap.size, 0, none⟩ = some (.int .i64 f) := by simp
      have q1 : (wr.alloc (.cells #[.int .i64 f, .bool z, .bool y] 52)).cell? ⟨wr.heap.size, 1, none⟩ = some (.bool z) := by simp
      have q2 : (wr.alloc (.cells #[.int .i64 f, .bool z, .bool y] 52)).cell? ⟨wr.heap.size, 2, none⟩ = some (.bool y) := by simp
      have HB1 : Hid (Below w.heap.size w (wr.alloc (.cells #[.int .i64 f, .bool z, .bool y] 52)).drew) := (HB.out.trans (ha.mono HB.out.size)).drew
      go_wp2
      clear c0 c1 c2 ha
      generalize wr.alloc (.cells #[.int .i64 f, .bool z, .bool y] 52) = W1 at *
      go_region_held (fun w' => w'.cell? ⟨wr.heap.size, 0, none⟩ = some (.int .i64 f) ∧ w'.cell? ⟨wr.heap.size, 1, none⟩ = some (.bool z) ∧ w'.cell? ⟨wr.heap.size, 2, none⟩ = some (.bool y)) (go_keep)
        (first | (go_at_call 66; refine Calls.mono (KF.out _) ?_; rintro e wa ⟨rfl, hwa⟩; obtain rfl := hwa) | (go_at_call 66; refine Calls.mono (KF2.out _) ?_; rintro e wa ⟨rfl, hwa⟩; obtain rfl := hwa) | (go_at_call 67; (try rw [hor]); refine Calls.mono (KE.out _ HB1.out) ?_; rintro e wb ⟨rfl, hbb⟩; have q0 := below_cell hbb q0; have q1 := below_cell hbb q1; have q2 := below_cell hbb q2))
      all_goals
        have HB2 : Hid (Below w.heap.size w wb) := HB1.out.trans (hbb.mono HB1.out.size)
        clear hbb q0 q1 q2
        go_wp2
        go_roundw
        case rel => exact ⟨k + 1, by omega, by go_num, by rw [HS1.out], HB2.out⟩
        case measure => simp [intOf]; omega
    · obtain rfl : k = adds.length := by omega
      rw [List.take_of_length_le (Nat.le_refl _)]
      go_wp2
      go_ret
      exact ⟨rfl, HB.out⟩
end Go.Proofs.YtlhnfejgkhilkaaGreatDoor
