/-
  Atoms and patterns that may be.
-/
import Derived.Test.YthaebbmekonacaaGreatDoorX1
set_option linter.unusedVariables false
set_option linter.unusedSimpArgs false
set_option maxRecDepth 100000
namespace Go.Proofs.YthaebbmekonacaaGreatDoor
open Go.RowKit
theorem ret_bool {a b : Bool} (h : a = b) : Ending.returned (.bool a) = .returned (.bool b) := by rw [h]
theorem new_cell (w : World) (v : Value) (t : TypeId) : (w.alloc (.cells #[v] t)).cell? ⟨w.heap.size, 0, none⟩ = some v := by
  rw [World.cell?_alloc_new]; rfl
/-- An atom as a value. -/
def atV (a : Atm) : Value := .agg #[.int .i64 a.1, .int .u32 (a.2 : Int)]
theorem below_box (w : World) (o : Obj) : Below w.heap.size w (w.alloc o) := (Below.refl _ _).alloc (Nat.le_refl _) _
set_option maxHeartbeats 1000000 in
theorem mayAtom_any (a : Atm) (w : World) : Calls Tryz.prog 177 #[atV a] w fun e w' => e = .returned (.bool (okA a)) ∧ Below w.heap.size w w' := by
  obtain ⟨k, n⟩ := a
  have HREF : Hid (okA (k, n) = if k = 1 then decide (0 < n) else if k = 2 ∨ k = 3 then decide (n = 0) else false) := rfl
  have HB : Hid (Below _ _ _) := below_box w (.cells #[.int .i64 k, .int .u32 (n : Int)] 55)
  generalize okA (k, n) = r at *
  unfold atV
  dsimp only
  by_cases h : k = 1
  · subst h
    go_enter Tryz.func177, Tryz.ntmps177
    go_wp2
    go_ret
    exact ⟨ret_bool (by rw [HREF.out]; simp), HB.out⟩
  · rw [if_neg h] at HREF
    by_cases h2 : k = 2
    · subst h2
      go_enter Tryz.func177, Tryz.ntmps177
      go_wp2
      go_ret
      exact ⟨ret_bool (by rw [HREF.out]; simp; rw [Bool.eq_iff_iff, beq_iff_eq, decide_eq_true_eq]; omega), HB.out⟩
    · by_cases h3 : k = 3
      · subst h3
        go_enter Tryz.func177, Tryz.ntmps177
        go_wp2
        go_ret
        exact ⟨ret_bool (by rw [HREF.out]; simp; rw [Bool.eq_iff_iff, beq_iff_eq, decide_eq_true_eq]; omega), HB.out⟩
      · rw [if_neg (by omega)] at HREF
        go_enter Tryz.func177, Tryz.ntmps177
        go_wp2
        go_ret
        exact ⟨ret_bool HREF.out.symm, HB.out⟩
set_option maxHeartbeats 1000000 in
/-- The closure of all: not what may says. -/
theorem notAtom_any (a : Atm) (b : Nat) (w : World) (hc : w.cell? ⟨b, 0, none⟩ = some (.func (.func 177) #[] #[])) : Calls Tryz.prog 197 #[atV a, .pointer (some ⟨b, 0, none⟩)] w fun e w' => e = .returned (.bool (!okA a)) ∧ Below w.heap.size w w' := by
  have HB : Hid (Below _ _ _) := below_box w (.cells #[.int .i64 a.1, .int .u32 (a.2 : Int)] 55)
  have c1 := below_cell HB.out hc
  have HK : Hid (Calls Tryz.prog 177 #[.agg #[.int .i64 a.1, .int .u32 (a.2 : Int)]] (w.alloc (.cells #[.int .i64 a.1, .int .u32 (a.2 : Int)] 55)) _) := mayAtom_any a _
  unfold atV
  generalize okA a = r at *
  go_enter Tryz.func197, Tryz.ntmps197
  go_wp2_with (go_at_call 177; refine Calls.mono HK.out ?_; rintro e w2 ⟨rfl, hb2⟩)
  go_ret
  exact ⟨rfl, HB.out.trans (hb2.mono HB.out.size)⟩
set_option maxHeartbeats 1600000 in
theorem indexAtom_any (v : Value) (L : List Atm) (b : Nat) (w : World) (hv : AtAt w v L) (hc : w.cell? ⟨b, 0, none⟩ = some (.func (.func 177) #[] #[])) (hlen : L.length ≤ 1000) :
    Calls Tryz.prog 210 #[v, .func (.func 197) #[] #[.pointer (some ⟨b, 0, none⟩)]] w fun e w' => (∃ n : Int, e = .returned (.int .i64 n) ∧ decide (0 ≤ n) = !L.all okA) ∧ Below w.heap.size w w' := by
  obtain ⟨ad, bb, off, cap, rfl, had, hcap, hrow⟩ := hv
  have HR : Hid (_ : Prop) := hrow
  have HC : Hid (_ = _) := hc
  clear hrow hc
  go_enter Tryz.func210, Tryz.ntmps210
  go_wp2
  go_loopw [8] (fun i wr => ∃ (k : Nat), k ≤ L.length ∧ i = .int .i64 k ∧ Below w.heap.size w wr ∧ L.all okA = (L.drop k).all okA) (fun i _ => L.length - (intOf i).toNat)
  case atStart => exact ⟨0, Nat.zero_le _, rfl, Below.refl _ _, rfl⟩
  case round =>
    obtain ⟨k, hk, rfl, hb, hany⟩ := hrel
    have HB : Hid (Below w.heap.size w wr) := hb
    have HRI : Hid (_ = _) := hany
    clear hb hany
    by_cases hlt : k < L.length
    · obtain rfl : ad = some ⟨bb, off, none⟩ := by
        rcases had with h | h
        · exact h
        · omega
      have c0 := below_cell HB.out (HR.out k hlt).1
      have c1 := below_cell HB.out (HR.out k hlt).2
      have HD : Hid ((L.drop k).all okA = (okA L[k] && (L.drop (k + 1)).all okA)) := by
        unfold Hid
        rw [List.drop_eq_getElem_cons hlt, List.all_cons]
      rw [HD.out] at HRI
      clear HD
      have HK : Hid (Calls Tryz.prog 197 #[.agg #[.int .i64 L[k].1, .int .u32 (L[k].2 : Int)], .pointer (some ⟨b, 0, none⟩)] wr _) := notAtom_any L[k] b wr (below_cell HB.out HC.out)
      generalize okA L[k] = z at *
      generalize L[k].1 = f at *
      generalize L[k].2 = s at *
      cases z with
      | false =>
        go_wp2_with (go_at_call 197; refine Calls.mono HK.out ?_; rintro e w2 ⟨rfl, hb2⟩)
        go_ret
        exact ⟨⟨_, rfl, by rw [HRI.out]; simp⟩, HB.out.trans (hb2.mono HB.out.size)⟩
      | true =>
        go_wp2_with (go_at_call 197; refine Calls.mono HK.out ?_; rintro e w2 ⟨rfl, hb2⟩)
        go_roundw
        case rel => exact ⟨k + 1, by omega, by go_num, HB.out.trans (hb2.mono HB.out.size), by rw [HRI.out]; rfl⟩
        case measure => simp [intOf]; omega
    · obtain rfl : k = L.length := by omega
      rw [List.drop_eq_nil_of_le (by simp)] at HRI
      go_wp2
      go_ret
      exact ⟨⟨_, rfl, by rw [HRI.out]; rfl⟩, HB.out⟩
theorem containsAtom_any (v : Value) (L : List Atm) (b : Nat) (w : World) (hv : AtAt w v L) (hc : w.cell? ⟨b, 0, none⟩ = some (.func (.func 177) #[] #[])) (hlen : L.length ≤ 1000) :
    Calls Tryz.prog 196 #[v, .func (.func 197) #[] #[.pointer (some ⟨b, 0, none⟩)]] w fun e w' => e = .returned (.bool (!L.all okA)) ∧ Below w.heap.size w w' := by
  have HK : Hid (_ : Prop) := indexAtom_any v L b w hv hc hlen
  clear hv hc
  go_enter Tryz.func196, Tryz.ntmps196
  go_wp2_with (go_at_call 210; refine Calls.mono HK.out ?_; rintro e w2 ⟨⟨n, rfl, hn⟩, hb2⟩)
  go_ret
  first | exact ⟨rfl, hb2⟩ | exact ⟨ret_bool hn, hb2⟩
theorem allAtom_any (v : Value) (L : List Atm) (w : World) (hv : AtAt w v L) (hlen : L.length ≤ 1000) :
    Calls Tryz.prog 176 #[v, .func (.func 177) #[] #[]] w fun e w' => e = .returned (.bool (L.all okA)) ∧ Below w.heap.size w w' := by
  have HB : Hid (Below _ _ _) := below_box w (.cells #[.func (.func 177) #[] #[]] 235)
  have HK : Hid (_ : Prop) := containsAtom_any v L w.heap.size _ (hv.below HB.out) (new_cell w _ _) hlen
  clear hv
  go_enter Tryz.func176, Tryz.ntmps176
  go_wp2_with (go_at_call 196; refine Calls.mono HK.out ?_; rintro e w2 ⟨rfl, hb2⟩)
  go_ret
  exact ⟨ret_bool (by simp), HB.out.trans (hb2.mono HB.out.size)⟩
set_option maxHeartbeats 1000000 in
theorem mayPattern_any (v : Value) (L : List Atm) (w : World) (hv : AtAt w v L) (hlen : L.length < 9223372036854775808) :
    Calls Tryz.prog 152 #[v] w fun e w' => e = .returned (.bool (okP L)) ∧ Below w.heap.size w w' := by
  have hv0 := hv
  obtain ⟨ad, cap, rfl⟩ := hv.len
  have HREF : Hid (okP L = (decide (L.length ≤ 64) && L.all okA)) := rfl
  generalize okP L = r at *
  by_cases h : L.length ≤ 64
  · have HK : Hid (_ : Prop) := allAtom_any _ L w hv0 (by omega)
    rw [decide_eq_true h, Bool.true_and] at HREF
    clear hv hv0
    generalize L.all okA = z at *
    go_enter Tryz.func152, Tryz.ntmps152
    go_wp2_with (go_at_call 176; refine Calls.mono HK.out ?_; rintro e w2 ⟨rfl, hb2⟩)
    go_ret
    exact ⟨ret_bool HREF.out.symm, hb2⟩
  · rw [decide_eq_false h, Bool.false_and] at HREF
    clear hv hv0
    go_enter Tryz.func152, Tryz.ntmps152
    go_wp2
    go_ret
    exact ⟨ret_bool HREF.out.symm, Below.refl _ _⟩
end Go.Proofs.YthaebbmekonacaaGreatDoor
