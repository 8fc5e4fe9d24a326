/-
  Lists of items, of ASs, of patterns, asked one by one.
-/
import Derived.Test.YthaebbmekonacaaGreatDoorZ2
set_option linter.unusedVariables false
set_option linter.unusedSimpArgs false
set_option maxRecDepth 100000
namespace Go.Proofs.YthaebbmekonacaaGreatDoor
open Go.RowKit
/-- A slice of items. -/
def ItsAt (w : World) (v : Value) (L : List Itm) : Prop :=
  ∃ (ad : Option Addr) (b off cap : Nat), v = .slice ad L.length cap ∧ (ad = some ⟨b, off, none⟩ ∨ L.length = 0) ∧ L.length ≤ cap ∧ ∀ j (h : j < L.length), w.cell? ⟨b, off + j * 6, none⟩ = some (.int .i64 L[j].f) ∧ w.cell? ⟨b, off + j * 6 + 1, none⟩ = some (.int .u64 L[j].r) ∧ w.cell? ⟨b, off + j * 6 + 2, none⟩ = some (.string L[j].s) ∧ w.cell? ⟨b, off + j * 6 + 3, none⟩ = some (.int .i64 L[j].l) ∧ w.cell? ⟨b, off + j * 6 + 4, none⟩ = some (.int .i64 L[j].lo) ∧ w.cell? ⟨b, off + j * 6 + 5, none⟩ = some (.int .i64 L[j].hi)
/-- A slice of patterns. -/
def PsAt (w : World) (v : Value) (L : List (List Atm)) : Prop :=
  ∃ (ad : Option Addr) (b off cap : Nat), v = .slice ad L.length cap ∧ (ad = some ⟨b, off, none⟩ ∨ L.length = 0) ∧ L.length ≤ cap ∧ ∀ j (h : j < L.length), ∃ y, w.cell? ⟨b, off + j, none⟩ = some y ∧ AtAt w y L[j]
theorem ItsAt.len {w : World} {v : Value} {L : List Itm} (h : ItsAt w v L) : ∃ ad cap, v = .slice ad L.length cap := by
  obtain ⟨ad, b, off, cap, h1, _⟩ := h
  exact ⟨ad, cap, h1⟩
theorem PsAt.len {w : World} {v : Value} {L : List (List Atm)} (h : PsAt w v L) : ∃ ad cap, v = .slice ad L.length cap := by
  obtain ⟨ad, b, off, cap, h1, _⟩ := h
  exact ⟨ad, cap, h1⟩
theorem ItsAt.below {w w' : World} {v : Value} {L : List Itm} (h : ItsAt w v L) (hb : Below w.heap.size w w') : ItsAt w' v L := by
  obtain ⟨ad, b, off, cap, h1, h2, h3, h4⟩ := h
  exact ⟨ad, b, off, cap, h1, h2, h3, fun j hj => ⟨below_cell hb (h4 j hj).1, below_cell hb (h4 j hj).2.1, below_cell hb (h4 j hj).2.2.1, below_cell hb (h4 j hj).2.2.2.1, below_cell hb (h4 j hj).2.2.2.2.1, below_cell hb (h4 j hj).2.2.2.2.2⟩⟩
theorem PsAt.below {w w' : World} {v : Value} {L : List (List Atm)} (h : PsAt w v L) (hb : Below w.heap.size w w') : PsAt w' v L := by
  obtain ⟨ad, b, off, cap, h1, h2, h3, h4⟩ := h
  refine ⟨ad, b, off, cap, h1, h2, h3, fun j hj => ?_⟩
  obtain ⟨y, k1, k2⟩ := h4 j hj
  exact ⟨y, below_cell hb k1, k2.below hb⟩
set_option maxHeartbeats 1600000 in
theorem indexItem (v : Value) (L : List Itm) (g1 : Value) (q : Itm → Bool) (w : World) (hv : ItsAt w v L) (hlen : L.length ≤ 1000000)
    (HC : ∀ k (h : k < L.length) (y : Value) (X : World), Below w.heap.size w X → y = itV L[k] → Calls Tryz.prog 172 #[y, g1] X fun e w' => e = .returned (.bool (q L[k])) ∧ Below X.heap.size X w') :
    Calls Tryz.prog 193 #[v, .func (.func 172) #[] #[g1]] w fun e w' => (∃ n : Int, e = .returned (.int .i64 n) ∧ decide (0 ≤ n) = L.any q) ∧ Below w.heap.size w w' := by
  obtain ⟨ad, bb, off, cap, rfl, had, hcap, hrow⟩ := hv
  have HR : Hid (_ : Prop) := hrow
  have HCC : Hid (_ : Prop) := HC
  clear hrow HC
  go_enter Tryz.func193, Tryz.ntmps193
  go_wp2
  go_loopw [8] (fun i wr => ∃ (k : Nat), k ≤ L.length ∧ i = .int .i64 k ∧ Below w.heap.size w wr ∧ L.any q = (L.drop k).any q) (fun i _ => L.length - (intOf i).toNat)
  case atStart => exact ⟨0, Nat.zero_le _, rfl, Below.refl _ _, rfl⟩
  case round =>
    obtain ⟨k, hk, rfl, hb, hany⟩ := hrel
    have HB : Hid (Below w.heap.size w wr) := hb
    have HRI : Hid (_ = _) := hany
    clear hb hany
    by_cases hlt : k < L.length
    · obtain rfl : ad = some ⟨bb, off, none⟩ := by
        rcases had with h | h
        · exact h
        · omega
      have c0 := below_cell HB.out (HR.out k hlt).1
      have c1 := below_cell HB.out (HR.out k hlt).2.1
      have c2 := below_cell HB.out (HR.out k hlt).2.2.1
      have c3 := below_cell HB.out (HR.out k hlt).2.2.2.1
      have c4 := below_cell HB.out (HR.out k hlt).2.2.2.2.1
      have c5 := below_cell HB.out (HR.out k hlt).2.2.2.2.2
      have HD : Hid ((L.drop k).any q = (q L[k] || (L.drop (k + 1)).any q)) := by
        unfold Hid
        rw [List.drop_eq_getElem_cons hlt, List.any_cons]
      rw [HD.out] at HRI
      clear HD
      have HK : Hid (Calls Tryz.prog 172 #[.agg #[.int .i64 L[k].f, .int .u64 L[k].r, .string L[k].s, .int .i64 L[k].l, .int .i64 L[k].lo, .int .i64 L[k].hi], g1] wr _) := HCC.out k hlt _ wr HB.out rfl
      generalize q L[k] = z at *
      generalize L[k].f = xf at *
      generalize L[k].r = xr at *
      generalize L[k].s = xs at *
      generalize L[k].l = xl at *
      generalize L[k].lo = xlo at *
      generalize L[k].hi = xhi at *
      cases z with
      | true =>
        go_wp2_with (go_at_call 172; refine Calls.mono HK.out ?_; rintro e w2 ⟨rfl, hb2⟩)
        go_ret
        exact ⟨⟨_, rfl, by rw [HRI.out]; simp⟩, HB.out.trans (hb2.mono HB.out.size)⟩
      | false =>
        go_wp2_with (go_at_call 172; refine Calls.mono HK.out ?_; rintro e w2 ⟨rfl, hb2⟩)
        go_roundw
        case rel => exact ⟨k + 1, by omega, by go_num, HB.out.trans (hb2.mono HB.out.size), by rw [HRI.out]; rfl⟩
        case measure => simp [intOf]; omega
    · obtain rfl : k = L.length := by omega
      rw [List.drop_eq_nil_of_le (by simp)] at HRI
      go_wp2
      go_ret
      exact ⟨⟨_, rfl, by rw [HRI.out]; rfl⟩, HB.out⟩
theorem containsItem (v : Value) (L : List Itm) (g1 : Value) (q : Itm → Bool) (w : World) (hv : ItsAt w v L) (hlen : L.length ≤ 1000000)
    (HC : ∀ k (h : k < L.length) (y : Value) (X : World), Below w.heap.size w X → y = itV L[k] → Calls Tryz.prog 172 #[y, g1] X fun e w' => e = .returned (.bool (q L[k])) ∧ Below X.heap.size X w') :
    Calls Tryz.prog 171 #[v, .func (.func 172) #[] #[g1]] w fun e w' => e = .returned (.bool (L.any q)) ∧ Below w.heap.size w w' := by
  have HK : Hid (_ : Prop) := indexItem v L g1 q w hv hlen HC
  clear hv HC
  go_enter Tryz.func171, Tryz.ntmps171
  go_wp2_with (go_at_call 193; refine Calls.mono HK.out ?_; rintro e w2 ⟨⟨n, rfl, hn⟩, hb2⟩)
  go_ret
  first | exact ⟨rfl, hb2⟩ | exact ⟨ret_bool hn, hb2⟩
set_option maxHeartbeats 1000000 in
theorem notItem (y : Value) (z : Bool) (b : Nat) (w : World) (hy : ∃ x, y = itV x) (hc : w.cell? ⟨b, 0, none⟩ = some (.func (.func 149) #[] #[]))
    (HM : ∀ X, Below w.heap.size w X → Calls Tryz.prog 149 #[y] X fun e w' => e = .returned (.bool z) ∧ Below X.heap.size X w') :
    Calls Tryz.prog 172 #[y, .pointer (some ⟨b, 0, none⟩)] w fun e w' => e = .returned (.bool (!z)) ∧ Below w.heap.size w w' := by
  obtain ⟨x, rfl⟩ := hy
  obtain ⟨f, r, s, l, lo, hi⟩ := x
  have HB : Hid (Below _ _ _) := below_box w (.cells #[.int .i64 f, .int .u64 r, .string s, .int .i64 l, .int .i64 lo, .int .i64 hi] 52)
  have c1 := below_cell HB.out hc
  have HK : Hid (_ : Prop) := HM _ HB.out
  unfold itV at HK ⊢
  dsimp only at HK ⊢
  clear HM hc
  go_enter Tryz.func172, Tryz.ntmps172
  go_wp2_with (go_at_call 149; refine Calls.mono HK.out ?_; rintro e w2 ⟨rfl, hb2⟩)
  go_ret
  exact ⟨rfl, HB.out.trans (hb2.mono HB.out.size)⟩
/-- all, by its closure. -/
theorem allItem (v : Value) (L : List Itm) (q : Itm → Bool) (w : World) (hv : ItsAt w v L) (hlen : L.length ≤ 1000000)
    (HM : ∀ k (h : k < L.length) (y : Value) (X : World), Below w.heap.size w X → y = itV L[k] → Calls Tryz.prog 149 #[y] X fun e w' => e = .returned (.bool (q L[k])) ∧ Below X.heap.size X w') :
    Calls Tryz.prog 148 #[v, .func (.func 149) #[] #[]] w fun e w' => e = .returned (.bool (L.all q)) ∧ Below w.heap.size w w' := by
  have HB : Hid (Below _ _ _) := below_box w (.cells #[.func (.func 149) #[] #[]] 205)
  have c0 := new_cell w (.func (.func 149) #[] #[]) 205
  have HK : Hid (Calls Tryz.prog 171 #[v, .func (.func 172) #[] #[.pointer (some ⟨w.heap.size, 0, none⟩)]] (w.alloc (.cells #[.func (.func 149) #[] #[]] 205)) fun e w' => e = .returned (.bool (L.any fun x => !q x)) ∧ Below (w.alloc (.cells #[.func (.func 149) #[] #[]] 205)).heap.size (w.alloc (.cells #[.func (.func 149) #[] #[]] 205)) w') :=
    containsItem v L _ (fun x => !q x) _ (hv.below HB.out) hlen fun k h y X hX hy => notItem y (q L[k]) _ X (by exact ⟨_, hy⟩) (below_cell hX c0) fun Y hY => HM k h y Y (HB.out.trans ((hX.mono HB.out.size).trans (hY.mono (Nat.le_trans HB.out.size hX.size)))) hy
  have hneg : (!(L.any fun x => !q x)) = L.all q := by rw [List.not_any_eq_all_not]; simp
  clear hv HM c0
  generalize (L.any fun x => !q x) = z at *
  go_enter Tryz.func148, Tryz.ntmps148
  go_wp2_with (go_at_call 171; refine Calls.mono HK.out ?_; rintro e w2 ⟨rfl, hb2⟩)
  go_ret
  first | exact ⟨rfl, HB.out.trans (hb2.mono HB.out.size)⟩ | exact ⟨ret_bool hneg, HB.out.trans (hb2.mono HB.out.size)⟩
set_option maxHeartbeats 1600000 in
theorem indexPath (v : Value) (L : List (List Atm)) (g1 : Value) (q : (List Atm) → Bool) (w : World) (hv : PsAt w v L) (hlen : L.length ≤ 1000000)
    (HC : ∀ k (h : k < L.length) (y : Value) (X : World), Below w.heap.size w X → AtAt X y L[k] → Calls Tryz.prog 175 #[y, g1] X fun e w' => e = .returned (.bool (q L[k])) ∧ Below X.heap.size X w') :
    Calls Tryz.prog 195 #[v, .func (.func 175) #[] #[g1]] w fun e w' => (∃ n : Int, e = .returned (.int .i64 n) ∧ decide (0 ≤ n) = L.any q) ∧ Below w.heap.size w w' := by
  obtain ⟨ad, bb, off, cap, rfl, had, hcap, hrow⟩ := hv
  have HR : Hid (_ : Prop) := hrow
  have HCC : Hid (_ : Prop) := HC
  clear hrow HC
  go_enter Tryz.func195, Tryz.ntmps195
  go_wp2
  go_loopw [8] (fun i wr => ∃ (k : Nat), k ≤ L.length ∧ i = .int .i64 k ∧ Below w.heap.size w wr ∧ L.any q = (L.drop k).any q) (fun i _ => L.length - (intOf i).toNat)
  case atStart => exact ⟨0, Nat.zero_le _, rfl, Below.refl _ _, rfl⟩
  case round =>
    obtain ⟨k, hk, rfl, hb, hany⟩ := hrel
    have HB : Hid (Below w.heap.size w wr) := hb
    have HRI : Hid (_ = _) := hany
    clear hb hany
    by_cases hlt : k < L.length
    · obtain rfl : ad = some ⟨bb, off, none⟩ := by
        rcases had with h | h
        · exact h
        · omega
      obtain ⟨y, c0', hy⟩ := HR.out k hlt
      have c0 := below_cell HB.out c0'
      clear c0'
      have HD : Hid ((L.drop k).any q = (q L[k] || (L.drop (k + 1)).any q)) := by
        unfold Hid
        rw [List.drop_eq_getElem_cons hlt, List.any_cons]
      rw [HD.out] at HRI
      clear HD
      have HK : Hid (Calls Tryz.prog 175 #[y, g1] wr _) := HCC.out k hlt _ wr HB.out (hy.below HB.out)
      generalize q L[k] = z at *
      obtain ⟨yad, ycap, rfl⟩ := hy.len
      clear hy
      generalize L[k].length = yn at *
      cases z with
      | true =>
        go_wp2_with (go_at_call 175; refine Calls.mono HK.out ?_; rintro e w2 ⟨rfl, hb2⟩)
        go_ret
        exact ⟨⟨_, rfl, by rw [HRI.out]; simp⟩, HB.out.trans (hb2.mono HB.out.size)⟩
      | false =>
        go_wp2_with (go_at_call 175; refine Calls.mono HK.out ?_; rintro e w2 ⟨rfl, hb2⟩)
        go_roundw
        case rel => exact ⟨k + 1, by omega, by go_num, HB.out.trans (hb2.mono HB.out.size), by rw [HRI.out]; rfl⟩
        case measure => simp [intOf]; omega
    · obtain rfl : k = L.length := by omega
      rw [List.drop_eq_nil_of_le (by simp)] at HRI
      go_wp2
      go_ret
      exact ⟨⟨_, rfl, by rw [HRI.out]; rfl⟩, HB.out⟩
theorem containsPath (v : Value) (L : List (List Atm)) (g1 : Value) (q : (List Atm) → Bool) (w : World) (hv : PsAt w v L) (hlen : L.length ≤ 1000000)
    (HC : ∀ k (h : k < L.length) (y : Value) (X : World), Below w.heap.size w X → AtAt X y L[k] → Calls Tryz.prog 175 #[y, g1] X fun e w' => e = .returned (.bool (q L[k])) ∧ Below X.heap.size X w') :
    Calls Tryz.prog 174 #[v, .func (.func 175) #[] #[g1]] w fun e w' => e = .returned (.bool (L.any q)) ∧ Below w.heap.size w w' := by
  have HK : Hid (_ : Prop) := indexPath v L g1 q w hv hlen HC
  clear hv HC
  go_enter Tryz.func174, Tryz.ntmps174
  go_wp2_with (go_at_call 195; refine Calls.mono HK.out ?_; rintro e w2 ⟨⟨n, rfl, hn⟩, hb2⟩)
  go_ret
  first | exact ⟨rfl, hb2⟩ | exact ⟨ret_bool hn, hb2⟩
set_option maxHeartbeats 1000000 in
theorem notPath (y : Value) (z : Bool) (b : Nat) (w : World) (hy : ∃ ad n cap, y = .slice ad n cap) (hc : w.cell? ⟨b, 0, none⟩ = some (.func (.func 152) #[] #[]))
    (HM : ∀ X, Below w.heap.size w X → Calls Tryz.prog 152 #[y] X fun e w' => e = .returned (.bool z) ∧ Below X.heap.size X w') :
    Calls Tryz.prog 175 #[y, .pointer (some ⟨b, 0, none⟩)] w fun e w' => e = .returned (.bool (!z)) ∧ Below w.heap.size w w' := by
  obtain ⟨ad, n, cap, rfl⟩ := hy
  have HK : Hid (∀ X, Below w.heap.size w X → _) := HM
  have HC : Hid (_ = _) := hc
  clear HM hc
  have c1 := HC.out
  go_enter Tryz.func175, Tryz.ntmps175
  go_wp2_with (go_at_call 152; refine Calls.mono (HK.out _ (Below.refl _ _)) ?_; rintro e w2 ⟨rfl, hb2⟩)
  go_ret
  exact ⟨rfl, hb2⟩
/-- all, by its closure. -/
theorem allPath (v : Value) (L : List (List Atm)) (q : (List Atm) → Bool) (w : World) (hv : PsAt w v L) (hlen : L.length ≤ 1000000)
    (HM : ∀ k (h : k < L.length) (y : Value) (X : World), Below w.heap.size w X → AtAt X y L[k] → Calls Tryz.prog 152 #[y] X fun e w' => e = .returned (.bool (q L[k])) ∧ Below X.heap.size X w') :
    Calls Tryz.prog 151 #[v, .func (.func 152) #[] #[]] w fun e w' => e = .returned (.bool (L.all q)) ∧ Below w.heap.size w w' := by
  have HB : Hid (Below _ _ _) := below_box w (.cells #[.func (.func 152) #[] #[]] 178)
  have c0 := new_cell w (.func (.func 152) #[] #[]) 178
  have HK : Hid (Calls Tryz.prog 174 #[v, .func (.func 175) #[] #[.pointer (some ⟨w.heap.size, 0, none⟩)]] (w.alloc (.cells #[.func (.func 152) #[] #[]] 178)) fun e w' => e = .returned (.bool (L.any fun x => !q x)) ∧ Below (w.alloc (.cells #[.func (.func 152) #[] #[]] 178)).heap.size (w.alloc (.cells #[.func (.func 152) #[] #[]] 178)) w') :=
    containsPath v L _ (fun x => !q x) _ (hv.below HB.out) hlen fun k h y X hX hy => notPath y (q L[k]) _ X (by obtain ⟨ad, cap, e⟩ := hy.len; exact ⟨ad, _, cap, e⟩) (below_cell hX c0) fun Y hY => HM k h y Y (HB.out.trans ((hX.mono HB.out.size).trans (hY.mono (Nat.le_trans HB.out.size hX.size)))) (hy.below hY)
  have hneg : (!(L.any fun x => !q x)) = L.all q := by rw [List.not_any_eq_all_not]; simp
  clear hv HM c0
  generalize (L.any fun x => !q x) = z at *
  go_enter Tryz.func151, Tryz.ntmps151
  go_wp2_with (go_at_call 174; refine Calls.mono HK.out ?_; rintro e w2 ⟨rfl, hb2⟩)
  go_ret
  first | exact ⟨rfl, HB.out.trans (hb2.mono HB.out.size)⟩ | exact ⟨ret_bool hneg, HB.out.trans (hb2.mono HB.out.size)⟩
end Go.Proofs.YthaebbmekonacaaGreatDoor
