/-
  The reference's Number, Read, Split.
-/
import Derived.Test.YtjchobcmbkiilaaGreatDoorQ2
import Derived.Deep.RegionHeld
set_option linter.unusedVariables false
set_option linter.unusedSimpArgs false
set_option maxRecDepth 100000
namespace Go.Proofs.YtjchobcmbkiilaaGreatDoor.Rf
open Go.RowKit
def digB (n : Nat) : ByteArray := ⟨(Lib.decDigits n).toArray⟩
theorem ret_str {a b : ByteArray} (h : a = b) : Ending.returned (.string a) = .returned (.string b) := by rw [h]
theorem news1 (w : World) (v : Value) (t : TypeId) : ∀ (j : Nat) (u : Value), [v][j]? = some u → (w.alloc (.cells #[v] t)).cell? (Addr.add ⟨w.heap.size, 0, none⟩ j) = some u := by
  intro j u h
  cases j with
  | zero => simp at h; subst h; simp [Addr.add]
  | succ j => simp at h
theorem one_u32 (n : Int) : ∀ u ∈ [Value.int .u32 n], u.oneCell' = true := by
  intro u h; simp at h; subst h; rfl
theorem slice_of_owns {w : World} {base : Nat} {e : TypeId} {size : Nat} {v : Value} {n : Nat} {xs : List Value} (h : w.ownsRow base e size v n xs) : ∃ ad c, v = .slice ad n c := by
  obtain ⟨_, h | ⟨g, cap, cur, h, _⟩⟩ := h
  · exact ⟨none, 0, by rw [h.1, h.2]⟩
  · exact ⟨_, _, h⟩
def hexS : ByteArray := ⟨#[48, 49, 50, 51, 52, 53, 54, 55, 56, 57, 97, 98, 99, 100, 101, 102]⟩
theorem hex_at (d : Nat) (h : d < 10) : hexS.extract d (d + 1) = ⟨#[UInt8.ofNat (48 + d)]⟩ := by
  rcases (show d = 0 ∨ d = 1 ∨ d = 2 ∨ d = 3 ∨ d = 4 ∨ d = 5 ∨ d = 6 ∨ d = 7 ∨ d = 8 ∨ d = 9 by omega) with rfl | rfl | rfl | rfl | rfl | rfl | rfl | rfl | rfl | rfl <;> decide +kernel
theorem digB_small (u : Nat) (h : u < 10) : digB u = ⟨#[UInt8.ofNat (48 + u)]⟩ := by
  unfold digB; rw [Lib.decDigits, dif_pos h]
theorem digB_great (u : Nat) (h : ¬ u < 10) : digB u = digB (u / 10) ++ ⟨#[UInt8.ofNat (48 + u % 10)]⟩ := by
  unfold digB; rw [Lib.decDigits, dif_neg h]
  apply ByteArray.ext; simp
set_option maxRecDepth 100000 in
theorem rnumber (u : Nat) (hu : u < 18446744073709551616) (w : World) :
    Calls Tryz.prog 57 #[.int .u64 (u : Int), .int .u64 10] w fun e w' => e = .returned (.string (digB u)) ∧ Below w.heap.size w w' := by
  induction u using Nat.strongRecOn generalizing w with
  | _ u ih =>
    have hsl : ∀ W, (Instr.slice 9 (.string ⟨#[48, 49, 50, 51, 52, 53, 54, 55, 56, 57, 97, 98, 99, 100, 101, 102]⟩) (some (.int .u64 ((u : Int) % 10))) (some (.int .u64 ((u : Int) % 10 + 1))) none).run Tryz.prog W = .ok (.string ⟨#[UInt8.ofNat (48 + u % 10)]⟩) W := fun W => by
      rw [run_slice_string W 9 _ .u64 .u64 ((u : Int) % 10) ((u : Int) % 10 + 1) Tryz.underlying9 (by omega) (by omega) (by show _ ≤ (16 : Int); omega), show ((u : Int) % 10).toNat = u % 10 by omega, show ((u : Int) % 10 + 1).toNat = u % 10 + 1 by omega]
      rw [show (⟨#[48, 49, 50, 51, 52, 53, 54, 55, 56, 57, 97, 98, 99, 100, 101, 102]⟩ : ByteArray) = hexS from rfl, hex_at _ (by omega)]
    by_cases h10 : u < 10
    · have HE : Hid ((⟨#[UInt8.ofNat (48 + u % 10)]⟩ : ByteArray) = digB u) := by unfold Hid; rw [digB_small u h10, Nat.mod_eq_of_lt h10]
      have h10i : (u : Int) < 10 := by omega
      clear ih
      generalize (⟨#[UInt8.ofNat (48 + u % 10)]⟩ : ByteArray) = one at *
      go_enter Tryz.func57, Tryz.ntmps57
      go_wp2
      go_quiet (fail)
      go_wp2
      go_ret
      exact ⟨ret_str HE.out, below_drewN' (Below.refl _ _) _⟩
    · have h10i : ¬ ((u : Int) < 10) := by omega
      have HE : Hid (digB (u / 10) ++ ⟨#[UInt8.ofNat (48 + u % 10)]⟩ = digB u) := (digB_great u h10).symm
      have HI : Hid (∀ W, Calls Tryz.prog 57 #[.int .u64 ((u : Int) / 10), .int .u64 10] W fun e w' => e = .returned (.string (digB (u / 10))) ∧ Below W.heap.size W w') := fun W => by
        have := ih (u / 10) (by omega) (by omega) W
        rw [show ((u / 10 : Nat) : Int) = (u : Int) / 10 by omega] at this
        exact this
      have hsz : (digB (u / 10)).size ≤ 20 := dig_le _ (by omega)
      have ha : ∀ W, (Op.stringOp .add (digB (u / 10)) ⟨#[UInt8.ofNat (48 + u % 10)]⟩).run Tryz.prog W = .ok (.string (digB (u / 10) ++ ⟨#[UInt8.ofNat (48 + u % 10)]⟩)) W := fun W => run_string_add_sum W _ _ (by rw [show (ByteArray.mk #[UInt8.ofNat (48 + u % 10)]).size = 1 from rfl]; omega)
      clear ih
      generalize digB (u / 10) ++ ⟨#[UInt8.ofNat (48 + u % 10)]⟩ = res at *
      generalize digB (u / 10) = s1 at *
      generalize (⟨#[UInt8.ofNat (48 + u % 10)]⟩ : ByteArray) = one at *
      go_enter Tryz.func57, Tryz.ntmps57
      go_wp2
      go_quiet (fail)
      go_wp2_with fail
      refine (HI.out _).mono ?_
      rintro e w1 ⟨rfl, hb⟩
      go_wp2
      go_ret
      exact ⟨ret_str HE.out, (below_drewN' (Below.refl _ _) _).trans (hb.mono (Nat.le_refl _))⟩
def pv (l : List UInt8) (i : Nat) : Nat := (l.take i).foldl (fun a c => a * 10 + (c.toNat - 48)) 0
theorem pv_succ (l : List UInt8) (i : Nat) (h : i < l.length) : pv l (i + 1) = pv l i * 10 + (l[i].toNat - 48) := by
  unfold pv; rw [List.take_succ_eq_append_getElem h, List.foldl_append]; rfl
theorem pv_all (u : Nat) : pv (Lib.decDigits u) (Lib.decDigits u).length = u ∧ ∀ i, pv (Lib.decDigits u) i ≤ u := by
  induction u using Nat.strongRecOn with
  | _ u ih =>
    by_cases h : u < 10
    · have e : Lib.decDigits u = [UInt8.ofNat (48 + u)] := by rw [Lib.decDigits, dif_pos h]
      rw [e]
      refine ⟨by simp [pv]; omega, fun i => ?_⟩
      cases i with
      | zero => simp [pv]
      | succ i => simp [pv]; omega
    · have e : Lib.decDigits u = Lib.decDigits (u / 10) ++ [UInt8.ofNat (48 + u % 10)] := by rw [Lib.decDigits, dif_neg h]
      obtain ⟨h1, h2⟩ := ih (u / 10) (by omega)
      have hfull : pv (Lib.decDigits u) (Lib.decDigits u).length = u := by
        unfold pv at h1 ⊢
        rw [List.take_length] at h1 ⊢
        rw [e, List.foldl_append, h1]
        simp
        omega
      refine ⟨hfull, fun i => ?_⟩
      by_cases hi : i ≤ (Lib.decDigits (u / 10)).length
      · have : pv (Lib.decDigits u) i = pv (Lib.decDigits (u / 10)) i := by unfold pv; rw [e, List.take_append_of_le_length hi]
        rw [this]
        have := h2 i
        omega
      · have : pv (Lib.decDigits u) i = u := by
          have hl : (Lib.decDigits u).length ≤ i := by rw [e]; simp; omega
          unfold pv at hfull ⊢
          rw [List.take_length] at hfull
          rw [List.take_of_length_le hl]
          exact hfull
        omega
theorem digB_list {s : ByteArray} {u : Nat} (h : s = digB u) : s.data.toList = Lib.decDigits u := by rw [h]; simp [digB]
/-- What Read answers. -/
def ReadOk (s : ByteArray) (w : World) (e : Ending) (w' : World) : Prop :=
  ∃ (v : Nat) (b : Bool), v < 4294967296 ∧ e = .returned (.tuple #[.int .u64 (v : Int), .bool b]) ∧ Below w.heap.size w w' ∧ (b = true → s = digB v) ∧ ∀ u, u < 4294967296 → s = digB u → v = u ∧ b = true
set_option maxRecDepth 100000 in
set_option maxHeartbeats 1600000 in
theorem read_any (s : ByteArray) (w : World) (hs : s.size ≤ 281474976710656) :
    Calls Tryz.prog 61 #[.string s, .int .u64 10, .int .u64 4294967295] w (ReadOk s w) := by
  by_cases h0 : s.size = 0
  · have HE : Hid (ReadOk s w (.returned (.tuple #[.int .u64 0, .bool false])) w) := ⟨0, false, by omega, rfl, Below.refl _ _, (fun h => by cases h), fun u _ h => by
      have := congrArg List.length (digB_list h)
      have h2 : s.data.toList.length = s.size := by simp
      have := List.length_pos_iff.mpr (digits_ne u)
      omega⟩
    have h0i : (s.size : Int) = 0 := by omega
    go_enter Tryz.func61, Tryz.ntmps61
    go_wp2
    go_ret2
    exact HE.out
  by_cases h20 : 20 < s.size
  · have HE : Hid (ReadOk s w (.returned (.tuple #[.int .u64 0, .bool false])) w) := ⟨0, false, by omega, rfl, Below.refl _ _, (fun h => by cases h), fun u hu h => by
      have := congrArg List.length (digB_list h)
      have h2 : s.data.toList.length = s.size := by simp
      have := dig_le u (by omega)
      omega⟩
    have h0i : ¬ ((s.size : Int) = 0) := by omega
    have h20i : (20 : Int) < (s.size : Int) := by omega
    go_enter Tryz.func61, Tryz.ntmps61
    go_wp2
    go_ret2
    exact HE.out
  have h0i : ¬ ((s.size : Int) = 0) := by omega
  have h20i : ¬ ((20 : Int) < (s.size : Int)) := by omega
  have HNo : Hid (∀ w', Below w.heap.size w w' → (∀ u, u < 4294967296 → ¬ (s = digB u)) → ReadOk s w (.returned (.tuple #[.int .u64 0, .bool false])) w') := fun w' hb h => ⟨0, false, by omega, rfl, hb, (fun h => by cases h), fun u hu e => absurd e (h u hu)⟩
  go_enter Tryz.func61, Tryz.ntmps61
  go_wp2
  clear h0i h20i
  go_loopw [8, 9] (fun t i wr => ∃ (k v : Nat), k ≤ s.size ∧ i = .int .i64 k ∧ t = .int .u64 (v : Int) ∧ v ≤ 4294967295 ∧ v = pv s.data.toList k ∧ Below w.heap.size w wr) (fun _ i _ => s.size - (intOf i).toNat)
  case atStart => exact ⟨0, 0, by omega, rfl, rfl, by omega, by simp [pv], Below.refl _ _⟩
  case round =>
    obtain ⟨k, v, hk, rfl, rfl, hv, hpv, hb⟩ := hrel
    have HB : Hid (Below w.heap.size w wr) := hb
    have HPV : Hid (v = pv s.data.toList k) := hpv
    clear hb hpv
    by_cases hlt : k < s.size
    · have hll : k < s.data.toList.length := by simpa using hlt
      have HS : Hid (pv s.data.toList (k + 1) = pv s.data.toList k * 10 + (s[k].toNat - 48)) := pv_succ _ k hll
      have HDig : Hid (∀ u, s = digB u → 48 ≤ s[k].toNat ∧ s[k].toNat ≤ 57) := fun u e => by
        have hm : s[k] ∈ s.data.toList := by
          have : s.data.toList[k] = s[k] := rfl
          rw [← this]; exact List.getElem_mem hll
        rw [digB_list e] at hm
        exact digits_are u _ hm
      have HLe : Hid (∀ u, s = digB u → pv s.data.toList (k + 1) ≤ u) := fun u e => by rw [digB_list e]; exact (pv_all u).2 _
      have h8 := s[k].toNat_lt
      by_cases hd : 48 ≤ s[k].toNat ∧ s[k].toNat ≤ 57
      · have g1 : (48 : Int) ≤ (s[k].toNat : Int) := by omega
        have g2 : (s[k].toNat : Int) ≤ 57 := by omega
        by_cases hgt : (4294967295 - (s[k].toNat - 48)) / 10 < v
        · have HNN : Hid (∀ u, u < 4294967296 → ¬ (s = digB u)) := fun u hu e => by
            have h1 := HLe.out u e
            have h2 := HS.out
            have h3 := HPV.out
            omega
          have g3 : (4294967295 - ((s[k].toNat : Int) - 48)) / 10 < (v : Int) := by omega
          have g4 : ¬ (10 ≤ (s[k].toNat : Int) - 48) := by omega
          go_wp2
          go_ret2
          exact HNo.out _ HB.out HNN.out
        · have g3 : ¬ ((4294967295 - ((s[k].toNat : Int) - 48)) / 10 < (v : Int)) := by omega
          have g4 : ¬ (10 ≤ (s[k].toNat : Int) - 48) := by omega
          have HV : Hid (v * 10 + (s[k].toNat - 48) = pv s.data.toList (k + 1)) := by unfold Hid; rw [HS.out, ← HPV.out]
          go_wp2
          go_roundw
          case rel => exact ⟨k + 1, v * 10 + (s[k].toNat - 48), by omega, by go_num, by go_num, by omega, HV.out, HB.out⟩
          case measure => simp [intOf]; omega
      · have HNN : Hid (∀ u, u < 4294967296 → ¬ (s = digB u)) := fun u _ e => hd (HDig.out u e)
        by_cases h48 : s[k].toNat < 48
        · have g1 : ¬ ((48 : Int) ≤ (s[k].toNat : Int)) := by omega
          have g2 : ¬ ((97 : Int) ≤ (s[k].toNat : Int)) := by omega
          go_wp2
          go_ret2
          exact HNo.out _ HB.out HNN.out
        · have g1 : (48 : Int) ≤ (s[k].toNat : Int) := by omega
          have g2 : ¬ ((s[k].toNat : Int) ≤ 57) := by omega
          by_cases h97 : 97 ≤ s[k].toNat ∧ s[k].toNat ≤ 102
          · have g3 : (97 : Int) ≤ (s[k].toNat : Int) := by omega
            have g4 : (s[k].toNat : Int) ≤ 102 := by omega
            have g5 : (10 : Int) ≤ (s[k].toNat : Int) - 97 + 10 := by omega
            go_wp2
            go_ret2
            exact HNo.out _ HB.out HNN.out
          · by_cases h97' : s[k].toNat < 97
            · have g3 : ¬ ((97 : Int) ≤ (s[k].toNat : Int)) := by omega
              go_wp2
              go_ret2
              exact HNo.out _ HB.out HNN.out
            · have g3 : (97 : Int) ≤ (s[k].toNat : Int) := by omega
              have g4 : ¬ ((s[k].toNat : Int) ≤ 102) := by omega
              go_wp2
              go_ret2
              exact HNo.out _ HB.out HNN.out
    · obtain rfl : k = s.size := by omega
      have HFin : Hid (∀ w', Below w.heap.size w w' → ReadOk s w (.returned (.tuple #[.int .u64 (v : Int), .bool ((digB v).toList == s.toList)])) w') := fun w' hb => ⟨v, _, by omega, rfl, hb, (fun h => by
        rw [beq_iff_eq, ByteArray.toList_eq, ByteArray.toList_eq] at h
        apply ByteArray.ext; apply Array.toList_inj.1; exact h.symm), fun u _ e => by
        have h1 := HPV.out
        have h2 : s.size = (Lib.decDigits u).length := by rw [← digB_list e]; simp
        rw [h2, digB_list e, (pv_all u).1] at h1
        subst h1
        exact ⟨rfl, by rw [e]; simp⟩⟩
      go_wp2_with fail
      refine (rnumber v (by omega) wr).mono ?_
      rintro e w1 ⟨rfl, hb1⟩
      generalize digB v = dg at *
      go_wp2
      go_ret2
      exact HFin.out _ (HB.out.trans (hb1.mono HB.out.size))
/-- What is split off when i places have been looked at, and where the next piece begins. -/
def splTo (l : List UInt8) : Nat → List (List UInt8) × Nat
  | 0 => ([], 0)
  | i + 1 => if i = l.length ∨ l[i]? = some 32 then ((splTo l i).1 ++ [(l.take i).drop (splTo l i).2], i + 1) else splTo l i
theorem splTo_at (l : List UInt8) (i : Nat) (h : i = l.length ∨ l[i]? = some 32) : splTo l (i + 1) = ((splTo l i).1 ++ [(l.take i).drop (splTo l i).2], i + 1) := by rw [splTo, if_pos h]
theorem splTo_no (l : List UInt8) (i : Nat) (h : ¬ (i = l.length ∨ l[i]? = some 32)) : splTo l (i + 1) = splTo l i := by rw [splTo, if_neg h]
theorem splTo_le (l : List UInt8) (i : Nat) : (splTo l i).2 ≤ i ∧ (splTo l i).1.length ≤ i := by
  induction i with
  | zero => simp [splTo]
  | succ i ih =>
    unfold splTo
    split
    · simp; omega
    · omega
theorem splTo_mem (l : List UInt8) (i : Nat) : ∀ x ∈ (splTo l i).1, x.length ≤ l.length := by
  induction i with
  | zero => simp [splTo]
  | succ i ih =>
    unfold splTo
    split
    · intro x hx
      rcases List.mem_append.mp hx with h | h
      · exact ih x h
      · simp at h; subst h; simp; omega
    · exact ih
/-- The cells of texts. -/
def cellsT (l : List (List UInt8)) : List Value := l.map fun x => .string ⟨x.toArray⟩
theorem infoT : (Tryz.prog.info? 9).map (fun i => (i.zero, i.size, i.bytes)) = some (some (.string ⟨#[]⟩), 1, 16) := by kernel_rfl
theorem one_str (s : ByteArray) : ∀ u ∈ [Value.string s], u.oneCell' = true := by
  intro u h; simp at h; subst h; rfl
theorem sub_bytes (s : ByteArray) (a b : Nat) : s.extract a b = ⟨((s.data.toList.take b).drop a).toArray⟩ := by
  apply ByteArray.ext
  apply Array.toList_inj.mp
  simp [List.drop_take]
set_option maxRecDepth 100000 in
set_option maxHeartbeats 1600000 in
theorem split_any (s : ByteArray) (w : World) (hs : s.size ≤ 4294967296) :
    Calls Tryz.prog 60 #[.string s, .int .u8 32] w fun e w' => ∃ v, e = .returned v ∧ w'.ownsRow w.heap.size 9 1 v (splTo s.data.toList (s.size + 1)).1.length (cellsT (splTo s.data.toList (s.size + 1)).1) ∧ Below w.heap.size w w' := by
  obtain ⟨i0, hi, hz0, hz1, hz2⟩ := info_parts infoT
  go_enter Tryz.func60, Tryz.ntmps60
  go_wp2
  go_loopw [5, 6, 7] (fun t st i wr => ∃ k : Nat, k ≤ s.size + 1 ∧ i = .int .i64 k ∧ st = .int .i64 ((splTo s.data.toList k).2 : Int) ∧ wr.ownsRow w.heap.size 9 1 t (splTo s.data.toList k).1.length (cellsT (splTo s.data.toList k).1) ∧ Below w.heap.size w wr) (fun _ _ i _ => s.size + 1 - (intOf i).toNat)
  case atStart => exact ⟨0, by omega, rfl, rfl, World.ownsRow_nil _ _ _ _, Below.refl _ _⟩
  case round =>
    obtain ⟨k, hk, rfl, rfl, hown, hb⟩ := hrel
    obtain ⟨ad, c, rfl⟩ := slice_of_owns hown
    have HO : Hid (World.ownsRow _ _ _ _ _ _ _) := hown
    have HB : Hid (Below w.heap.size w wr) := hb
    have hle := splTo_le s.data.toList k
    have hll : s.data.toList.length = s.size := by simp
    clear hown hb
    by_cases hlt : k ≤ s.size
    · have hlti : (k : Int) ≤ (s.size : Int) := by omega
      by_cases hat : k = s.data.toList.length ∨ s.data.toList[k]? = some 32
      · have HE : Hid (_ = _) := splTo_at s.data.toList k hat
        have hsb := sub_bytes s (splTo s.data.toList k).2 k
        have hsl : ∀ W, (Instr.slice 9 (.string s) (some (.int .i64 ((splTo s.data.toList k).2 : Int))) (some (.int .i64 (k : Int))) none).run Tryz.prog W = .ok (.string ⟨((s.data.toList.take k).drop (splTo s.data.toList k).2).toArray⟩) W := fun W => by
          rw [run_slice_string W 9 _ .i64 .i64 ((splTo s.data.toList k).2 : Int) (k : Int) Tryz.underlying9 (by omega) (by omega) (by omega), Int.toNat_natCast, Int.toNat_natCast, hsb]
        clear hsb
        generalize (s.data.toList.take k).drop (splTo s.data.toList k).2 = piece at *
        generalize splTo s.data.toList k = sp at *
        obtain ⟨acc, st⟩ := sp
        simp only at *
        have hs0 := HB.out.size
        by_cases hend : k = s.size
        · subst hend
          go_wp2_with (at_builtin; refine wpList_append_own _ rfl _ _ 82 rfl w.heap.size 9 i0 (.string ⟨#[]⟩) 1 16 Tryz.underlying82 hi hz0 hz1 hz2 rfl (by decide) _ _ _ rfl (HO.out.alloc _) ⟨wr.heap.size, 0, none⟩ 1 1 [.string ⟨piece.toArray⟩] rfl rfl (news1 wr _ 9) (one_str _) (by unfold maxLen; omega) (by omega) (Nat.le_trans hs0 (by simp)) ?_; intro v5 w5 hown5 hgrow5 _)
          have hg5 := (World.grownBy_alloc wr _ _).trans hgrow5
          have HO5 : Hid (w5.ownsRow w.heap.size 9 1 v5 (acc ++ [piece]).length (cellsT (acc ++ [piece]))) := by
            unfold Hid
            rw [List.length_append, List.length_singleton, show cellsT (acc ++ [piece]) = cellsT acc ++ [.string ⟨piece.toArray⟩] by simp [cellsT]]
            exact hown5
          have HB5 : Hid (Below w.heap.size w w5) := HB.out.grown hg5 hs0 (fun j hj => (HO.out.lt j hj).1)
          clear hown5 hgrow5 hg5
          try go_wp2
          go_roundw
          case rel => exact ⟨s.size + 1, by omega, by go_num, by rw [HE.out]; go_num, by rw [HE.out]; exact HO5.out, HB5.out⟩
          case measure => simp [intOf] <;> omega
        · have hk2 : k < s.size := by omega
          have hne : ¬ ((k : Int) = (s.size : Int)) := by omega
          have h58 : (s[k].toNat : Int) = 32 := by
            rcases hat with h | h
            · omega
            · obtain ⟨hlt2, h⟩ := List.getElem?_eq_some_iff.mp h
              have : s[k] = 32 := h
              rw [this]; rfl
          go_wp2_with (at_builtin; refine wpList_append_own _ rfl _ _ 82 rfl w.heap.size 9 i0 (.string ⟨#[]⟩) 1 16 Tryz.underlying82 hi hz0 hz1 hz2 rfl (by decide) _ _ _ rfl (HO.out.alloc _) ⟨wr.heap.size, 0, none⟩ 1 1 [.string ⟨piece.toArray⟩] rfl rfl (news1 wr _ 9) (one_str _) (by unfold maxLen; omega) (by omega) (Nat.le_trans hs0 (by simp)) ?_; intro v5 w5 hown5 hgrow5 _)
          have hg5 := (World.grownBy_alloc wr _ _).trans hgrow5
          have HO5 : Hid (w5.ownsRow w.heap.size 9 1 v5 (acc ++ [piece]).length (cellsT (acc ++ [piece]))) := by
            unfold Hid
            rw [List.length_append, List.length_singleton, show cellsT (acc ++ [piece]) = cellsT acc ++ [.string ⟨piece.toArray⟩] by simp [cellsT]]
            exact hown5
          have HB5 : Hid (Below w.heap.size w w5) := HB.out.grown hg5 hs0 (fun j hj => (HO.out.lt j hj).1)
          clear hown5 hgrow5 hg5
          try go_wp2
          go_roundw
          case rel => exact ⟨k + 1, by omega, by go_num, by rw [HE.out]; go_num, by rw [HE.out]; exact HO5.out, HB5.out⟩
          case measure => simp [intOf] <;> omega
      · have HE : Hid (_ = _) := splTo_no s.data.toList k hat
        have hk2 : k < s.size := by
          have : ¬ (k = s.data.toList.length) := fun h => hat (Or.inl h)
          omega
        have hne : ¬ ((k : Int) = (s.size : Int)) := by omega
        have h58 : ¬ ((s[k].toNat : Int) = 32) := fun h => by
          refine hat (Or.inr ?_)
          rw [List.getElem?_eq_some_iff]
          refine ⟨by omega, ?_⟩
          show s[k] = 32
          apply UInt8.toNat_inj.mp
          have : (32 : UInt8).toNat = 32 := rfl
          omega
        have hneb : ((k : Int) == (s.size : Int)) = false := by rw [beq_eq_false_iff_ne]; exact hne
        have h58b : ((s[k].toNat : Int) == 32) = false := by rw [beq_eq_false_iff_ne]; exact h58
        generalize splTo s.data.toList k = sp at *
        go_wp2
        go_roundw
        case rel => exact ⟨k + 1, by omega, by go_num, by rw [HE.out], by rw [HE.out]; exact HO.out, HB.out⟩
        case measure => simp [intOf] <;> omega
    · obtain rfl : k = s.size + 1 := by omega
      have hge : ¬ ((s.size : Int) + 1 ≤ (s.size : Int)) := by omega
      go_wp2
      go_ret
      exact ⟨_, rfl, HO.out, HB.out⟩
end Go.Proofs.YtjchobcmbkiilaaGreatDoor.Rf
