/-
  The reference's pair of a value, and families with ids.
-/
import Derived.Test.YtjliopclpjeieaaDoorFR2
import Derived.Deep.QuietTactic
import Derived.BigQuiet
namespace Go.Proofs.YtjliopclpjeieaaDoor
open Go.RowKit
theorem rhas_any (f : Int) (v : Value) (L : List Int) (w : World) (hv : IntsAt w v L) (hl : L.length ≤ 1000000000) :
    Calls Tryd.prog 43 #[v, .int .i64 f] w fun e w' => e = .returned (.bool (decide (f ∈ L))) ∧ w' = w := by
  obtain ⟨ad, b, off, cap, rfl, had, hcap, hrow⟩ := hv
  have HR : Hid (∀ j (h : j < L.length), w.cell? ⟨b, off + j, none⟩ = some (.int .i64 L[j])) := hrow
  clear hrow
  go_enter Tryd.func43, Tryd.ntmps43
  go_wp2
  go_loop [5] (fun i => ∃ k : Nat, k ≤ L.length ∧ i = .int .i64 k ∧ ∀ j (h : j < L.length), j < k → L[j] ≠ f) (fun i => L.length - (intOf i).toNat)
  case atStart => exact ⟨0, Nat.zero_le _, rfl, fun j _ hj => absurd hj (by omega)⟩
  case round =>
    obtain ⟨k, hk, rfl, hno⟩ := hrel
    have HN : Hid (∀ j (h : j < L.length), j < k → L[j] ≠ f) := hno
    clear hno
    by_cases hlt : k < L.length
    · obtain rfl : ad = some ⟨b, off, none⟩ := by rcases had with h | h; exact h; omega
      have c := HR.out k hlt
      by_cases he : f = L[k]
      · have HI : Hid (decide (f ∈ L) = true) := by unfold Hid; rw [decide_eq_true_iff, he]; exact List.getElem_mem hlt
        rw [← he] at c
        clear he
        go_wp2
        go_ret
        exact ⟨ret_bool HI.out.symm, rfl⟩
      · have he' : (L[k] == f) = false := by simpa using fun h => he h.symm
        have HE : Hid (f ≠ L[k]) := he
        clear he
        go_wp2
        go_round
        case rel => exact ⟨k + 1, by omega, by go_num, fun j hj hjk => by
          by_cases e : j = k
          · subst e; exact fun h => HE.out h.symm
          · exact HN.out j hj (by omega)⟩
        case measure => simp [intOf]; omega
    · have HI : Hid (decide (f ∈ L) = false) := by
        unfold Hid
        rw [decide_eq_false_iff_not]
        intro hm
        obtain ⟨j, hj, e⟩ := List.mem_iff_getElem.mp hm
        exact HN.out j hj (by omega) e
      go_wp2
      go_ret
      exact ⟨ret_bool HI.out.symm, rfl⟩
theorem two_worth (a b : UInt8) : worth [a, b] = a.toNat * 256 + b.toNat := by
  simp only [worth, List.foldl_cons, List.foldl_nil]
  omega
/-- The worth of two bytes. -/
theorem rvalue2 (a b : UInt8) (w : World) : Calls Tryd.prog 60 #[.string ⟨#[a, b]⟩] w fun e w' => e = .returned (.int .u64 ((a.toNat * 256 + b.toNat : Nat) : Int)) ∧ w' = w := by
  have ha := a.toNat_lt
  have hb := b.toNat_lt
  go_enter Tryd.func60, Tryd.ntmps60
  go_wp2
  refine wp_loop_rounds 3 ?_
  rw [rounds_succ]
  go_wp2
  rw [rounds_succ]
  go_wp2
  rw [rounds_succ]
  go_wp2
  go_ret
  refine ⟨ret_int ?_, rfl⟩
  show IntKind.u64.wrap (IntKind.u64.wrap (IntKind.u64.wrap (IntKind.u64.wrap (a.toNat : Int)) * 256) + IntKind.u64.wrap (b.toNat : Int)) = _
  simp only [IntKind.wrap_u64]
  omega
theorem rpair_short (l : List UInt8) (w : World) (h : l.length < 3) : Calls Tryd.prog 41 #[.string ⟨l.toArray⟩] w fun e w' => e = .returned (.tuple #[.int .i64 0, .int .i64 4]) ∧ Below w.heap.size w w' := by
  go_enter Tryd.func41, Tryd.ntmps41
  go_wp2
  go_ret2
  exact ⟨rfl, Below.refl _ _⟩
theorem tpF_three (a b c : UInt8) (r : List UInt8) : tpF (a :: b :: c :: r) = fmN ((a.toNat * 256 + b.toNat : Nat) : Int) (c.toNat : Int) := by
  unfold tpF
  have ha := a.toNat_lt
  have hb := b.toNat_lt
  have hc := c.toNat_lt
  have e : worth ((a :: b :: c :: r).take 3) = (a.toNat * 256 + b.toNat) * 256 + c.toNat := by
    simp only [List.take_succ_cons, List.take_zero, worth, List.foldl_cons, List.foldl_nil]
    omega
  rw [e, show ((a.toNat * 256 + b.toNat) * 256 + c.toNat) / 256 = a.toNat * 256 + b.toNat by omega, show ((a.toNat * 256 + b.toNat) * 256 + c.toNat) % 256 = c.toNat by omega]
set_option maxRecDepth 100000 in
set_option maxHeartbeats 1600000 in
theorem rpair_any (l : List UInt8) (w : World) (h : 3 ≤ l.length) (hle : l.length ≤ 2000000) : Calls Tryd.prog 41 #[.string ⟨l.toArray⟩] w fun e w' => e = (if tpF l = 0 then .returned (.tuple #[.int .i64 0, .int .i64 5]) else .returned (.tuple #[.int .i64 (tpF l), .int .i64 0])) ∧ Below w.heap.size w w' := by
  obtain ⟨a, b, c, r, rfl⟩ : ∃ a b c r, l = a :: b :: c :: r := by
    match l, h with
    | a :: b :: c :: r, _ => exact ⟨a, b, c, r, rfl⟩
  have HF : Hid (_ = _) := tpF_three a b c r
  have ha := a.toNat_lt
  have hb := b.toNat_lt
  have hsl : (⟨(a :: b :: c :: r).toArray⟩ : ByteArray).extract 0 2 = ⟨#[a, b]⟩ := by apply ByteArray.ext; simp
  have KV : Hid (∀ w, Calls Tryd.prog 60 #[.string ⟨#[a, b]⟩] w fun e w' => e = .returned (.int .u64 ((a.toNat * 256 + b.toNat : Nat) : Int)) ∧ w' = w) := rvalue2 a b
  have hix : (⟨(a :: b :: c :: r).toArray⟩ : ByteArray)[2]'(by rw [list_size]; simp) = c := rfl
  have hv16 : a.toNat * 256 + b.toNat < 65536 := by omega
  generalize a.toNat * 256 + b.toNat = v at *
  have KF : Hid (∀ w, Calls Tryd.prog 12 #[.int .u16 (v : Int), .int .u8 (c.toNat : Int)] w fun e w' => e = .returned (.int .i64 (tpF (a :: b :: c :: r))) ∧ w' = w) := fun w => by rw [HF.out]; exact rfam_any _ _ w
  have e1 : IntKind.u16.wrap (v : Int) = v := by rw [IntKind.wrap_u16]; omega
  have h3 : (3 : Int) ≤ ((a :: b :: c :: r).length : Int) := by simp; omega
  have h2 : (2 : Int) < ((a :: b :: c :: r).length : Int) := by simp; omega
  have h2s : (2 : Int) < ((⟨(a :: b :: c :: r).toArray⟩ : ByteArray).size : Int) := by rw [list_size]; exact h2
  have h2n : 2 < (⟨(a :: b :: c :: r).toArray⟩ : ByteArray).size := by rw [list_size]; omega
  generalize tpF (a :: b :: c :: r) = g at *
  by_cases hf : g = 0
  · rw [if_pos hf]
    subst hf
    go_enter Tryd.func41, Tryd.ntmps41
    go_wp2
    go_quiet ((first | (go_at_call 60; refine Calls.quiet_of_same (KV.out _)) | (go_at_call 12; refine Calls.quiet_of_same (KF.out _))))
    go_wp2
    go_ret2
    exact ⟨rfl, below_drewN (Below.refl _ _) _⟩
  · rw [if_neg hf]
    have hf' : (g == 0) = false := by simpa using hf
    clear hf
    go_enter Tryd.func41, Tryd.ntmps41
    go_wp2
    go_quiet ((first | (go_at_call 60; refine Calls.quiet_of_same (KV.out _)) | (go_at_call 12; refine Calls.quiet_of_same (KF.out _))))
    go_wp2
    go_ret2
    exact ⟨rfl, below_drewN (Below.refl _ _) _⟩
end Go.Proofs.YtjliopclpjeieaaDoor
