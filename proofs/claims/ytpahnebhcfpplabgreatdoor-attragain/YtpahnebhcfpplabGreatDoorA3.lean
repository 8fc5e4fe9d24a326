/-
  The order of large communities.
-/
import Derived.Test.YtpahnebhcfpplabGreatDoorA2
import Derived.Deep.RegionHeld
namespace Go.Proofs.YtpahnebhcfpplabGreatDoor
open Go.RowKit
/-- The first one that is not nought. -/
def firstNZ : List Int → Int
  | [] => 0
  | x :: l => if x = 0 then firstNZ l else x
theorem firstNZ_drop (l : List Int) (k : Nat) (h : k < l.length) (h0 : l[k] = 0) : firstNZ (l.drop k) = firstNZ (l.drop (k + 1)) := by
  rw [List.drop_eq_getElem_cons h]; simp [firstNZ, h0]
theorem firstNZ_at (l : List Int) (k : Nat) (h : k < l.length) (h0 : ¬ l[k] = 0) : firstNZ (l.drop k) = l[k] := by
  rw [List.drop_eq_getElem_cons h]; simp [firstNZ, h0]
theorem or_any (b cap : Nat) (l : List Int) (w : World) (hl : l.length ≤ 1000) (hr : ∀ j (h : j < l.length), w.cell? ⟨b, j, none⟩ = some (.int .i64 l[j])) :
    Calls Tryz.prog 85 #[.slice (some ⟨b, 0, none⟩) l.length cap] w fun e w' => e = .returned (.int .i64 (firstNZ l)) ∧ w' = w := by
  have HR : Hid (∀ j (h : j < l.length), w.cell? ⟨b, j, none⟩ = some (.int .i64 l[j])) := hr
  clear hr
  go_enter Tryz.func85, Tryz.ntmps85
  go_wp2
  go_loopw [8] (fun i wr => ∃ k : Nat, k ≤ l.length ∧ i = .int .i64 k ∧ wr = w ∧ firstNZ (l.drop k) = firstNZ l) (fun i _ => l.length - (intOf i).toNat)
  case atStart => exact ⟨0, Nat.zero_le _, rfl, rfl, by simp⟩
  case round =>
    obtain ⟨k, hk, rfl, rfl, hn⟩ := hrel
    have HN : Hid (firstNZ (l.drop k) = firstNZ l) := hn
    clear hn
    by_cases hlt : k < l.length
    · have c1 := HR.out k hlt
      by_cases h0 : l[k] = 0
      · have HE : Hid (firstNZ (l.drop (k + 1)) = firstNZ l) := by unfold Hid; rw [← firstNZ_drop l k hlt h0]; exact HN.out
        rw [h0] at c1
        clear h0
        go_wp2
        go_roundw
        case rel => exact ⟨k + 1, by omega, by go_num, trivial, HE.out⟩
        case measure => simp [intOf]; omega
      · have HE : Hid (l[k] = firstNZ l) := by unfold Hid; rw [← firstNZ_at l k hlt h0]; exact HN.out
        generalize l[k] = x at *
        go_wp2
        go_ret
        exact ⟨ret_int HE.out, rfl⟩
    · obtain rfl : k = l.length := by omega
      have HE : Hid (0 = firstNZ l) := by unfold Hid; rw [← HN.out]; simp [firstNZ]
      go_wp2
      go_ret
      exact ⟨ret_int HE.out, rfl⟩
def cellsL (a : Lg) : Array Value := #[.int .u32 (a.1 : Int), .int .u32 (a.2.1 : Int), .int .u32 (a.2.2 : Int)]
/-- What a comparison of large communities tells. -/
def cmpLg (a b : Lg) : Int := firstNZ [cmpI a.1 b.1, cmpI a.2.1 b.2.1, cmpI a.2.2 b.2.2]
set_option maxRecDepth 100000 in
set_option maxHeartbeats 1600000 in
theorem cmpL (a b : Lg) (w : World) : Calls Tryz.prog 111 #[.agg (cellsL a), .agg (cellsL b)] w fun e w' => e = .returned (.int .i64 (cmpLg a b)) ∧ Below w.heap.size w w' := by
  obtain ⟨a1, a2, a3⟩ := a
  obtain ⟨b1, b2, b3⟩ := b
  unfold cellsL
  go_enter Tryz.func111, Tryz.ntmps111
  go_wp2_with fail
  have hb0 : Below w.heap.size w ((w.alloc (.cells #[.int .u32 (a1 : Int), .int .u32 (a2 : Int), .int .u32 (a3 : Int)] 52)).alloc (.cells #[.int .u32 (b1 : Int), .int .u32 (b2 : Int), .int .u32 (b3 : Int)] 52)) :=
    ((Below.refl _ _).alloc (Nat.le_refl _) _).alloc (by simp) _
  have c1 : ((w.alloc (.cells #[.int .u32 (a1 : Int), .int .u32 (a2 : Int), .int .u32 (a3 : Int)] 52)).alloc (.cells #[.int .u32 (b1 : Int), .int .u32 (b2 : Int), .int .u32 (b3 : Int)] 52)).cell? ⟨w.heap.size, 0, none⟩ = some (.int .u32 (a1 : Int)) := by
    rw [World.cell?_alloc_past _ _ _ (by simp), World.cell?_alloc_at _ _ _ _ rfl]; rfl
  have c2 : ((w.alloc (.cells #[.int .u32 (a1 : Int), .int .u32 (a2 : Int), .int .u32 (a3 : Int)] 52)).alloc (.cells #[.int .u32 (b1 : Int), .int .u32 (b2 : Int), .int .u32 (b3 : Int)] 52)).cell? ⟨w.heap.size, 1, none⟩ = some (.int .u32 (a2 : Int)) := by
    rw [World.cell?_alloc_past _ _ _ (by simp), World.cell?_alloc_at _ _ _ _ rfl]; rfl
  have c3 : ((w.alloc (.cells #[.int .u32 (a1 : Int), .int .u32 (a2 : Int), .int .u32 (a3 : Int)] 52)).alloc (.cells #[.int .u32 (b1 : Int), .int .u32 (b2 : Int), .int .u32 (b3 : Int)] 52)).cell? ⟨w.heap.size, 2, none⟩ = some (.int .u32 (a3 : Int)) := by
    rw [World.cell?_alloc_past _ _ _ (by simp), World.cell?_alloc_at _ _ _ _ rfl]; rfl
  have d1 : ((w.alloc (.cells #[.int .u32 (a1 : Int), .int .u32 (a2 : Int), .int .u32 (a3 : Int)] 52)).alloc (.cells #[.int .u32 (b1 : Int), .int .u32 (b2 : Int), .int .u32 (b3 : Int)] 52)).cell? ⟨w.heap.size + 1, 0, none⟩ = some (.int .u32 (b1 : Int)) := by
    rw [World.cell?_alloc_at _ _ _ _ (by simp)]; rfl
  have d2 : ((w.alloc (.cells #[.int .u32 (a1 : Int), .int .u32 (a2 : Int), .int .u32 (a3 : Int)] 52)).alloc (.cells #[.int .u32 (b1 : Int), .int .u32 (b2 : Int), .int .u32 (b3 : Int)] 52)).cell? ⟨w.heap.size + 1, 1, none⟩ = some (.int .u32 (b2 : Int)) := by
    rw [World.cell?_alloc_at _ _ _ _ (by simp)]; rfl
  have d3 : ((w.alloc (.cells #[.int .u32 (a1 : Int), .int .u32 (a2 : Int), .int .u32 (a3 : Int)] 52)).alloc (.cells #[.int .u32 (b1 : Int), .int .u32 (b2 : Int), .int .u32 (b3 : Int)] 52)).cell? ⟨w.heap.size + 1, 2, none⟩ = some (.int .u32 (b3 : Int)) := by
    rw [World.cell?_alloc_at _ _ _ _ (by simp)]; rfl
  generalize ((w.alloc (.cells #[.int .u32 (a1 : Int), .int .u32 (a2 : Int), .int .u32 (a3 : Int)] 52)).alloc (.cells #[.int .u32 (b1 : Int), .int .u32 (b2 : Int), .int .u32 (b3 : Int)] 52)) = W at *
  have HB : Hid (Below w.heap.size w W) := hb0
  clear hb0
  have HO : Hid (Calls Tryz.prog 85 #[.slice (some ⟨W.heap.size, 0, none⟩) 3 3] (W.alloc (.cells #[.int .i64 (cmpI a1 b1), .int .i64 (cmpI a2 b2), .int .i64 (cmpI a3 b3)] 3)).drew fun e w' => e = .returned (.int .i64 (cmpLg (a1, a2, a3) (b1, b2, b3))) ∧ w' = (W.alloc (.cells #[.int .i64 (cmpI a1 b1), .int .i64 (cmpI a2 b2), .int .i64 (cmpI a3 b3)] 3)).drew) :=
    or_any W.heap.size 3 [cmpI a1 b1, cmpI a2 b2, cmpI a3 b3] _ (by simp) (by
      intro j hj
      simp only [List.length_cons, List.length_nil] at hj
      rw [World.cell?_drew, World.cell?_alloc_at _ _ _ _ rfl]
      rcases j with _ | _ | _ | j
      · rfl
      · rfl
      · rfl
      · omega)
  generalize hr : cmpLg (a1, a2, a3) (b1, b2, b3) = r at HO
  have HRE : Hid (cmpLg (a1, a2, a3) (b1, b2, b3) = r) := hr
  clear hr
  have HP : Hid (∀ o, Below w.heap.size w (W.alloc o).drew) := fun o => (HB.out.alloc HB.out.size _).drew
  generalize hp : w.heap.size = p at c1 c2 c3 d1 d2 d3 ⊢
  clear hp
  go_region_held (fun w' => w'.cell? ⟨p, 0, none⟩ = some (.int .u32 (a1 : Int)) ∧ w'.cell? ⟨p, 1, none⟩ = some (.int .u32 (a2 : Int)) ∧ w'.cell? ⟨p, 2, none⟩ = some (.int .u32 (a3 : Int)) ∧ w'.cell? ⟨p + 1, 0, none⟩ = some (.int .u32 (b1 : Int)) ∧ w'.cell? ⟨p + 1, 1, none⟩ = some (.int .u32 (b2 : Int)) ∧ w'.cell? ⟨p + 1, 2, none⟩ = some (.int .u32 (b3 : Int))) (go_keep)
    (first | (go_at_call 44; refine (cmpU _ _ _).mono ?_; rintro e w2 ⟨rfl, rfl⟩) | (go_at_call 85; refine HO.out.mono ?_; rintro e w2 ⟨rfl, rfl⟩))
  clear c1 c2 c3 d1 d2 d3 HO
  go_wp2
  go_ret
  exact ⟨ret_int HRE.out.symm, HP.out _⟩
theorem cmpLg_lt (a b : Lg) : (cmpLg a b < 0) ↔ ltL a b = true := by
  obtain ⟨a1, a2, a3⟩ := a
  obtain ⟨b1, b2, b3⟩ := b
  have e1 : cmpI (a1 : Int) b1 = 0 ↔ a1 = b1 := by unfold cmpI; split <;> (try split) <;> simp <;> omega
  have e2 : cmpI (a2 : Int) b2 = 0 ↔ a2 = b2 := by unfold cmpI; split <;> (try split) <;> simp <;> omega
  have l1 : cmpI (a1 : Int) b1 < 0 ↔ a1 < b1 := by unfold cmpI; split <;> (try split) <;> simp <;> omega
  have l2 : cmpI (a2 : Int) b2 < 0 ↔ a2 < b2 := by unfold cmpI; split <;> (try split) <;> simp <;> omega
  have l3 : cmpI (a3 : Int) b3 < 0 ↔ a3 < b3 := by unfold cmpI; split <;> (try split) <;> simp <;> omega
  simp only [cmpLg, firstNZ, ltL]
  by_cases h1 : a1 = b1
  · rw [if_pos (e1.mpr h1)]
    by_cases h2 : a2 = b2
    · rw [if_pos (e2.mpr h2)]
      by_cases h3 : cmpI (a3 : Int) b3 = 0
      · rw [if_pos h3]
        have : ¬ a3 < b3 := fun h => by have := l3.mpr h; omega
        simp [h1, h2, this]
      · rw [if_neg h3, l3]; simp [h1, h2]
    · rw [if_neg (fun h => h2 (e2.mp h)), l2]; simp [h1, h2]
  · rw [if_neg (fun h => h1 (e1.mp h)), l1]; simp [h1]
end Go.Proofs.YtpahnebhcfpplabGreatDoor
