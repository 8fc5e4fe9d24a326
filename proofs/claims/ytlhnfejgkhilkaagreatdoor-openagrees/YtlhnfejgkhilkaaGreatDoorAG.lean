/-
  What is in both lists; what an open's entries say; what it says of restarts.
-/
import Derived.Test.YtlhnfejgkhilkaaGreatDoorR1
import Derived.OwnWalk
set_option linter.unusedVariables false
namespace Go.Proofs.YtlhnfejgkhilkaaGreatDoor
open Go.RowKit
theorem infoI : (Tryz.prog.info? 3).map (fun i => (i.zero, i.size, i.bytes)) = some (some (.int .i64 0), 1, 8) := by kernel_rfl
theorem news1 (w : World) (v : Value) (t : TypeId) : ∀ (j : Nat) (u : Value), [v][j]? = some u → (w.alloc (.cells #[v] t)).cell? (Addr.add ⟨w.heap.size, 0, none⟩ j) = some u := by
  intro j u h
  cases j with
  | zero => simp at h; subst h; simp [Addr.add]
  | succ j => simp at h
theorem news2 (w : World) (a b : Value) (t : TypeId) : ∀ (j : Nat) (u : Value), [a, b][j]? = some u → (w.alloc (.cells #[a, b] t)).cell? (Addr.add ⟨w.heap.size, 0, none⟩ j) = some u := by
  intro j u h
  match j with
  | 0 => simp at h; subst h; simp [Addr.add]
  | 1 => simp at h; subst h; simp [Addr.add]
  | j + 2 => simp at h
theorem one_i64 (n : Int) : ∀ u ∈ [Value.int .i64 n], u.oneCell' = true := by
  intro u h; simp at h; subst h; rfl
theorem two_kp (n : Int) (b : Bool) : ∀ u ∈ [Value.int .i64 n, .bool b], u.oneCell' = true := by
  intro u h; simp at h; rcases h with h | h <;> subst h <;> rfl
theorem take_snoc {α : Type} (l : List α) (n : Nat) (h : n < l.length) : l.take (n + 1) = l.take n ++ [l[n]] := by
  rw [List.take_add_one, List.getElem?_eq_getElem h]; rfl
/-- Where a number stands first; -1, if it does not. -/
def idxOf (f : Int) (L : List Int) : Int := if f ∈ L then (L.idxOf f : Nat) else -1
theorem index_int (f : Int) (v : Value) (L : List Int) (w : World) (hv : IntsAt w v L) (hl : L.length ≤ 1000000000) :
    Calls Tryz.prog 49 #[v, .int .i64 f] w fun e w' => e = .returned (.int .i64 (idxOf f L)) ∧ w' = w := by
  obtain ⟨ad, b, off, cap, rfl, had, hcap, hrow⟩ := hv
  have HR : Hid (∀ j (h : j < L.length), w.cell? ⟨b, off + j, none⟩ = some (.int .i64 L[j])) := hrow
  clear hrow
  go_enter Tryz.func49, Tryz.ntmps49
  go_wp2
  go_loop [8] (fun i => ∃ k : Nat, k ≤ L.length ∧ i = .int .i64 k ∧ ∀ j (h : j < L.length), j < k → L[j] ≠ f) (fun i => L.length - (intOf i).toNat)
  case atStart => exact ⟨0, Nat.zero_le _, rfl, fun j _ hj => absurd hj (by omega)⟩
  case round =>
    obtain ⟨k, hk, rfl, hno⟩ := hrel
    have HN : Hid (∀ j (h : j < L.length), j < k → L[j] ≠ f) := hno
    clear hno
    by_cases hlt : k < L.length
    · obtain rfl : ad = some ⟨b, off, none⟩ := by rcases had with h | h; exact h; omega
      have c := HR.out k hlt
      by_cases he : f = L[k]
      · have HI : Hid (idxOf f L = k) := by
          unfold Hid idxOf
          rw [if_pos (by rw [he]; exact List.getElem_mem hlt)]
          have : L.idxOf f = k := by
            have h1 : L.idxOf f ≤ k := by
              rcases Nat.lt_or_ge k (L.idxOf f) with h | h
              · have := List.not_of_lt_findIdx (p := (· == f)) (xs := L) (i := k) h
                exact absurd he.symm (by simpa using this)
              · exact h
            rcases Nat.lt_or_ge (L.idxOf f) k with h | h
            · have h2 : L.idxOf f < L.length := by omega
              exact absurd (List.getElem_idxOf h2) (HN.out _ h2 h)
            · omega
          rw [this]
        rw [← he] at c
        clear he
        go_wp2
        go_ret
        exact ⟨ret_int HI.out.symm, rfl⟩
      · have he' : (f == L[k]) = false := by simpa using he
        have HE : Hid (f ≠ L[k]) := he
        clear he
        go_wp2
        go_round
        case rel => exact ⟨k + 1, by omega, by go_num, fun j hj hjk => by
          by_cases e : j = k
          · subst e; exact fun h => HE.out h.symm
          · exact HN.out j hj (by omega)⟩
        case measure => simp [intOf]; omega
    · have HI : Hid (idxOf f L = -1) := by
        unfold Hid idxOf
        rw [if_neg]
        intro hm
        obtain ⟨j, hj, e⟩ := List.mem_iff_getElem.mp hm
        exact HN.out j hj (by omega) e
      go_wp2
      go_ret
      exact ⟨ret_int HI.out.symm, rfl⟩
theorem idx_pos (f : Int) (L : List Int) : decide (0 ≤ idxOf f L) = decide (f ∈ L) := by
  unfold idxOf
  split
  · rename_i h; simp [h]
  · rename_i h; simp [h]
theorem contains_any (f : Int) (v : Value) (L : List Int) (w : World) (hv : IntsAt w v L) (hl : L.length ≤ 1000000000) :
    Calls Tryz.prog 36 #[v, .int .i64 f] w fun e w' => e = .returned (.bool (decide (f ∈ L))) ∧ w' = w := by
  have HK : Hid (_ : Prop) := index_int f v L w hv hl
  have HI : Hid (_ = _) := idx_pos f L
  clear hv hl
  go_enter Tryz.func36, Tryz.ntmps36
  go_wp2_with fail
  refine Calls.mono HK.out ?_
  rintro e w1 ⟨rfl, rfl⟩
  go_wp2
  go_ret
  exact ⟨ret_bool HI.out, rfl⟩
/-- What is in both, in the order of the first one. -/
def both (A B : List Int) : List Int := A.filter fun f => decide (f ∈ B)
/-- A list of whole numbers of one's own. -/
def OwnI (w : World) (base : Nat) (v : Value) (L : List Int) : Prop := w.ownsRow base 3 1 v L.length (intsC L)
theorem intsC_snoc (l : List Int) (x : Int) : intsC (l ++ [x]) = intsC l ++ [.int .i64 x] := by simp [intsC]
set_option maxRecDepth 100000 in
set_option maxHeartbeats 800000 in
theorem common_any (va vb : Value) (A B : List Int) (w : World) (ha : IntsAt w va A) (hb : IntsAt w vb B) (lA : A.length ≤ 1000000) (lB : B.length ≤ 1000000) :
    Calls Tryz.prog 13 #[va, vb] w fun e w' => (∃ v, e = .returned v ∧ OwnI w' w.heap.size v (both A B)) ∧ Below w.heap.size w w' := by
  obtain ⟨i0, hi, hz0, hz1, hz2⟩ := info_parts infoI
  have KC : Hid (∀ X f, Below w.heap.size w X → Calls Tryz.prog 36 #[vb, .int .i64 f] X fun e w' => e = .returned (.bool (decide (f ∈ B))) ∧ w' = X) := fun X f hX => contains_any f vb B X (hb.below hX) (by omega)
  clear hb
  obtain ⟨ad, b, off, cap, rfl, had, hcap, hrow⟩ := ha
  have HR : Hid (∀ j (h : j < A.length), w.cell? ⟨b, off + j, none⟩ = some (.int .i64 A[j])) := hrow
  clear hrow
  go_enter Tryz.func13, Tryz.ntmps13
  go_wp2
  go_loopw [5, 10] (fun t i wr => ∃ n : Nat, n ≤ A.length ∧ i = .int .i64 n ∧ OwnI wr w.heap.size t (both (A.take n) B) ∧ Below w.heap.size w wr) (fun _ i _ => A.length - (intOf i).toNat)
  case atStart => exact ⟨0, Nat.zero_le _, rfl, World.ownsRow_nil _ _ _ _, Below.refl _ _⟩
  case round =>
    obtain ⟨n, hn, rfl, hown, hb⟩ := hrel
    have HB : Hid (Below _ _ _) := hb
    have HO : Hid (OwnI _ _ _ _) := hown
    by_cases hlt : n < A.length
    · obtain rfl : ad = some ⟨b, off, none⟩ := by rcases had with h | h; exact h; omega
      have c := below_cell hb (HR.out n hlt)
      have HX : Hid (both (A.take (n + 1)) B = both (A.take n) B ++ if A[n] ∈ B then [A[n]] else []) := by
        unfold Hid both
        rw [take_snoc A n hlt, List.filter_append]
        by_cases h : A[n] ∈ B <;> simp [h]
      have KX : Hid (_ : Prop) := KC.out wr A[n] hb
      have hF : (both (A.take n) B).length ≤ 1000000 := by
        have := List.length_filter_le (fun f => decide (f ∈ B)) (A.take n)
        unfold both
        simp at this ⊢
        omega
      clear hb had hown KC
      generalize A[n] = x at *
      generalize both (A.take n) B = F at *
      have hsz := HB.out.size
      by_cases hx : x ∈ B
      · rw [if_pos hx] at HX
        rw [decide_eq_true hx] at KX
        go_wp2_with fail
        refine Calls.mono KX.out ?_
        rintro e w1 ⟨rfl, hw1⟩
        obtain rfl : wr = w1 := hw1.symm
        clear hw1
        go_wp2_with (at_builtin; refine wpList_append_own _ rfl _ _ 23 rfl w.heap.size 3 i0 (.int .i64 0) 1 8 Tryz.underlying23 hi hz0 hz1 hz2 rfl (by decide) _ _ _ rfl (World.ownsRow.alloc HO.out _) ⟨wr.heap.size, 0, none⟩ 1 1 [.int .i64 x] rfl rfl (news1 wr _ 3) (one_i64 _) (by unfold maxLen; omega) (by omega) (Nat.le_trans hsz (by simp)) ?_; intro v3 w3 hown3 hgrow3 _)
        have HO3 : Hid (OwnI w3 w.heap.size v3 (both (A.take (n + 1)) B)) := by
          unfold Hid OwnI
          rw [HX.out, List.length_append, intsC_snoc]
          exact hown3
        have HB3 : Hid (Below w.heap.size w w3) := (HB.out.alloc hsz _).grown hgrow3 (Nat.le_trans hsz (by simp)) (fun j e => (HO.out.lt j e).1)
        clear hown3 hgrow3
        go_roundw
        case rel => exact ⟨n + 1, by omega, by go_num, HO3.out, HB3.out⟩
        case measure => simp [intOf]; omega
      · rw [if_neg hx, List.append_nil] at HX
        rw [decide_eq_false hx] at KX
        go_wp2_with fail
        refine Calls.mono KX.out ?_
        rintro e w1 ⟨rfl, hw1⟩
        obtain rfl : wr = w1 := hw1.symm
        clear hw1
        go_wp2
        go_roundw
        case rel => exact ⟨n + 1, by omega, by go_num, by rw [HX.out]; exact HO.out, HB.out⟩
        case measure => simp [intOf]; omega
    · obtain rfl : n = A.length := by omega
      rw [List.take_length] at HO
      clear hb hown
      go_wp2
      go_ret
      exact ⟨⟨_, rfl, HO.out⟩, HB.out⟩
end Go.Proofs.YtlhnfejgkhilkaaGreatDoor

set_option linter.unusedVariables false
namespace Go.Proofs.YtlhnfejgkhilkaaGreatDoor
open Go.RowKit
theorem infoK : (Tryz.prog.info? 40).map (fun i => (i.zero, i.size, i.bytes)) = some (some (.agg #[.int .i64 0, .bool false]), 2, 16) := by kernel_rfl
theorem sends_any (f : Int) (s t : Bool) (w : World) : Calls Tryz.prog 15 #[.agg #[.int .i64 f, .bool s, .bool t]] w fun e w' => e = .returned (.bool s) ∧ Below w.heap.size w w' := by
  go_enter Tryz.func15, Tryz.ntmps15
  go_wp2
  go_ret
  exact ⟨rfl, (Below.refl _ _).alloc (Nat.le_refl _) _⟩
theorem takes_any (f : Int) (s t : Bool) (w : World) : Calls Tryz.prog 16 #[.agg #[.int .i64 f, .bool s, .bool t]] w fun e w' => e = .returned (.bool t) ∧ Below w.heap.size w w' := by
  go_enter Tryz.func16, Tryz.ntmps16
  go_wp2
  go_ret
  exact ⟨rfl, (Below.refl _ _).alloc (Nat.le_refl _) _⟩
theorem enter15 (args : Array Value) (W : World) : (callFunc 15 args).run Tryz.prog W = .ok (.enter 15 args) W := by kernel_rfl
theorem enter16 (args : Array Value) (W : World) : (callFunc 16 args).run Tryz.prog W = .ok (.enter 16 args) W := by kernel_rfl
/-- The families of the entries that are picked. -/
def addsL (sel : Ad → Bool) (L : List Ad) : List Int := (L.filter sel).map (·.f)
theorem OwnI.below {w w' : World} {base : Nat} {v : Value} {L : List Int} (h : OwnI w base v L) (hb : Below w.heap.size w w') : OwnI w' base v L := owns_below h hb
set_option maxRecDepth 100000 in
set_option maxHeartbeats 1600000 in
theorem addsThat_any (g : Nat) (sel : Ad → Bool) (hen : ∀ (args : Array Value) (W : World), (callFunc g args).run Tryz.prog W = .ok (.enter g args) W)
    (hs : ∀ (a : Ad) X, Calls Tryz.prog g #[.agg #[.int .i64 a.f, .bool a.s, .bool a.t]] X fun e w' => e = .returned (.bool (sel a)) ∧ Below X.heap.size X w')
    (o : Opn) (vf va vk : Value) (w : World) (ha : AddsAt w va o.adds) (lA : o.adds.length ≤ 1000000) :
    Calls Tryz.prog 14 #[.func (.func g) #[] #[], opV o vf va vk] w fun e w' => (∃ v, e = .returned v ∧ OwnI w' w.heap.size v (addsL sel o.adds)) ∧ Below w.heap.size w w' := by
  obtain ⟨i0, hi, hz0, hz1, hz2⟩ := info_parts infoI
  obtain ⟨asn, hold, id, fams, four, refr, A, gr, again, time, kept⟩ := o
  have KS : Hid (_ : Prop) := hs
  clear hs
  obtain ⟨ad, b, off, cap, rfl, had, hcap, hrow⟩ := ha
  have HR : Hid (_ : Prop) := hrow
  clear hrow
  unfold opV opC
  dsimp only at lA had hcap HR ⊢
  have HB0 : Hid (Below w.heap.size w (w.alloc (.cells #[.int .u32 asn, .int .i64 hold, .int .u32 id, vf, .bool four, .bool refr, .slice ad A.length cap, .bool gr, .bool again, .int .i64 time, vk] 27))) := (Below.refl _ _).alloc (Nat.le_refl _) _
  go_enter Tryz.func14, Tryz.ntmps14
  go_wp2
  go_loopw [5, 11] (fun t i wr => ∃ n : Nat, n ≤ A.length ∧ i = .int .i64 n ∧ OwnI wr w.heap.size t (addsL sel (A.take n)) ∧ Below w.heap.size w wr) (fun _ i _ => A.length - (intOf i).toNat)
  case atStart => exact ⟨0, Nat.zero_le _, rfl, World.ownsRow_nil _ _ _ _, HB0.out⟩
  case round =>
    obtain ⟨n, hn, rfl, hown, hb⟩ := hrel
    have HB : Hid (Below _ _ _) := hb
    have HO : Hid (OwnI _ _ _ _) := hown
    by_cases hlt : n < A.length
    · obtain rfl : ad = some ⟨b, off, none⟩ := by rcases had with h | h; exact h; omega
      have c0 := (HB.out.cell (p := ⟨b, off + n * 3, none⟩) (lt_of_cell (HR.out n hlt).1)).trans (HR.out n hlt).1
      have c1 := (HB.out.cell (p := ⟨b, off + n * 3 + 1, none⟩) (lt_of_cell (HR.out n hlt).2.1)).trans (HR.out n hlt).2.1
      have c2 := (HB.out.cell (p := ⟨b, off + n * 3 + 2, none⟩) (lt_of_cell (HR.out n hlt).2.2)).trans (HR.out n hlt).2.2
      have HX : Hid (addsL sel (A.take (n + 1)) = addsL sel (A.take n) ++ if sel A[n] then [A[n].f] else []) := by
        unfold Hid addsL
        rw [take_snoc A n hlt, List.filter_append, List.map_append]
        by_cases h : sel A[n] = true <;> simp [h]
      have hF : (addsL sel (A.take n)).length ≤ 1000000 := by
        have := List.length_filter_le sel (A.take n)
        unfold addsL
        simp at this ⊢
        omega
      have KX : Hid (∀ X, Calls Tryz.prog g #[.agg #[.int .i64 A[n].f, .bool A[n].s, .bool A[n].t]] X fun e w' => e = .returned (.bool (sel A[n])) ∧ Below X.heap.size X w') := KS.out A[n]
      clear hb had hown KS
      generalize sel A[n] = z at *
      generalize A[n].f = f at *
      generalize A[n].s = s at *
      generalize A[n].t = t at *
      generalize addsL sel (A.take n) = F at *
      have hsz := HB.out.size
      have hba : Below wr.heap.size wr (wr.alloc (.cells #[.int .i64 f, .bool s, .bool t] 52)) := (Below.refl _ _).alloc (Nat.le_refl _) _
      have HBA : Hid (Below _ _ _) := hba
      have HBW : Hid (Below w.heap.size w (wr.alloc (.cells #[.int .i64 f, .bool s, .bool t] 52))) := HB.out.trans (hba.mono hsz)
      have HOA : Hid (OwnI (wr.alloc (.cells #[.int .i64 f, .bool s, .bool t] 52)) w.heap.size _ F) := HO.out.below hba
      clear hba
      cases z with
      | true =>
        rw [if_pos rfl] at HX
        go_wp2_with fail
        refine Calls.mono (KX.out _) ?_
        rintro e w1 ⟨rfl, hb1⟩
        have cf : w1.cell? ⟨wr.heap.size, 0, none⟩ = some (.int .i64 f) := (hb1.cell (p := ⟨wr.heap.size, 0, none⟩) (by simp)).trans (by simp)
        have HB1 : Hid (Below w.heap.size w w1) := HBW.out.trans (hb1.mono HBW.out.size)
        have HO1 : Hid (OwnI w1 w.heap.size _ F) := HOA.out.below hb1
        clear hb1 HOA
        have hsz1 := HB1.out.size
        go_wp2_with (at_builtin; refine wpList_append_own _ rfl _ _ 23 rfl w.heap.size 3 i0 (.int .i64 0) 1 8 Tryz.underlying23 hi hz0 hz1 hz2 rfl (by decide) _ _ _ rfl (World.ownsRow.alloc HO1.out _) ⟨w1.heap.size, 0, none⟩ 1 1 [.int .i64 f] rfl rfl (news1 w1 _ 3) (one_i64 _) (by unfold maxLen; omega) (by omega) (Nat.le_trans hsz1 (by simp)) ?_; intro v3 w3 hown3 hgrow3 _)
        have HO3 : Hid (OwnI w3 w.heap.size v3 (addsL sel (A.take (n + 1)))) := by
          unfold Hid OwnI
          rw [HX.out, List.length_append, intsC_snoc]
          exact hown3
        have HB3 : Hid (Below w.heap.size w w3) := (HB1.out.alloc hsz1 _).grown hgrow3 (Nat.le_trans hsz1 (by simp)) (fun j e => (HO1.out.lt j e).1)
        clear hown3 hgrow3
        go_roundw
        case rel => exact ⟨n + 1, by omega, by go_num, HO3.out, HB3.out⟩
        case measure => simp [intOf]; omega
      | false =>
        rw [if_neg (by simp), List.append_nil] at HX
        go_wp2_with fail
        refine Calls.mono (KX.out _) ?_
        rintro e w1 ⟨rfl, hb1⟩
        have HB1 : Hid (Below w.heap.size w w1) := HBW.out.trans (hb1.mono HBW.out.size)
        have HO1 : Hid (OwnI w1 w.heap.size _ F) := HOA.out.below hb1
        clear hb1
        go_wp2
        go_roundw
        case rel => exact ⟨n + 1, by omega, by go_num, by rw [HX.out]; exact HO1.out, HB1.out⟩
        case measure => simp [intOf]; omega
    · obtain rfl : n = A.length := by omega
      rw [List.take_length] at HO
      clear hb hown
      go_wp2
      go_ret
      exact ⟨⟨_, rfl, HO.out⟩, HB.out⟩
/-- A list of restarts of one's own. -/
def OwnK (w : World) (base : Nat) (v : Value) (L : List Kp) : Prop := w.ownsRow base 40 2 v L.length (keptC L)
theorem OwnK.below {w w' : World} {base : Nat} {v : Value} {L : List Kp} (h : OwnK w base v L) (hb : Below w.heap.size w w') : OwnK w' base v L := owns_below h hb
theorem keptC_snoc (l : List Kp) (x : Kp) : keptC (l ++ [x]) = keptC l ++ [.int .i64 x.f, .bool x.k] := by simp [keptC]
/-- What is said of these families' restarts. -/
def keptL (L : List Kp) (F : List Int) : List Kp := L.filter fun k => decide (k.f ∈ F)
set_option maxRecDepth 100000 in
set_option maxHeartbeats 1600000 in
theorem keptOf_any (o : Opn) (vf va vk vb : Value) (B : List Int) (w : World) (ha : KeptsAt w vk o.kept) (hbB : IntsAt w vb B) (lA : o.kept.length ≤ 1000000) (lB : B.length ≤ 1000000) :
    Calls Tryz.prog 17 #[opV o vf va vk, vb] w fun e w' => (∃ v, e = .returned v ∧ OwnK w' w.heap.size v (keptL o.kept B)) ∧ Below w.heap.size w w' := by
  obtain ⟨i0, hi, hz0, hz1, hz2⟩ := info_parts infoK
  obtain ⟨asn, hold, id, fams, four, refr, adds, gr, again, time, A⟩ := o
  have KC : Hid (∀ X f, Below w.heap.size w X → Calls Tryz.prog 36 #[vb, .int .i64 f] X fun e w' => e = .returned (.bool (decide (f ∈ B))) ∧ w' = X) := fun X f hX => contains_any f vb B X (hbB.below hX) (by omega)
  clear hbB
  obtain ⟨ad, b, off, cap, rfl, had, hcap, hrow⟩ := ha
  have HR : Hid (_ : Prop) := hrow
  clear hrow
  unfold opV opC
  dsimp only at lA had hcap HR ⊢
  have HB0 : Hid (Below w.heap.size w (w.alloc (.cells #[.int .u32 asn, .int .i64 hold, .int .u32 id, vf, .bool four, .bool refr, va, .bool gr, .bool again, .int .i64 time, .slice ad A.length cap] 27))) := (Below.refl _ _).alloc (Nat.le_refl _) _
  go_enter Tryz.func17, Tryz.ntmps17
  go_wp2
  go_loopw [5, 11] (fun t i wr => ∃ n : Nat, n ≤ A.length ∧ i = .int .i64 n ∧ OwnK wr w.heap.size t (keptL (A.take n) B) ∧ Below w.heap.size w wr) (fun _ i _ => A.length - (intOf i).toNat)
  case atStart => exact ⟨0, Nat.zero_le _, rfl, World.ownsRow_nil _ _ _ _, HB0.out⟩
  case round =>
    obtain ⟨n, hn, rfl, hown, hb⟩ := hrel
    have HB : Hid (Below _ _ _) := hb
    have HO : Hid (OwnK _ _ _ _) := hown
    by_cases hlt : n < A.length
    · obtain rfl : ad = some ⟨b, off, none⟩ := by rcases had with h | h; exact h; omega
      have c0 := (HB.out.cell (p := ⟨b, off + n * 2, none⟩) (lt_of_cell (HR.out n hlt).1)).trans (HR.out n hlt).1
      have c1 := (HB.out.cell (p := ⟨b, off + n * 2 + 1, none⟩) (lt_of_cell (HR.out n hlt).2)).trans (HR.out n hlt).2
      have HX : Hid (keptL (A.take (n + 1)) B = keptL (A.take n) B ++ if A[n].f ∈ B then [⟨A[n].f, A[n].k⟩] else []) := by
        unfold Hid keptL
        rw [take_snoc A n hlt, List.filter_append]
        by_cases h : A[n].f ∈ B <;> simp [h]
      have hF : (keptL (A.take n) B).length ≤ 1000000 := by
        have := List.length_filter_le (fun k : Kp => decide (k.f ∈ B)) (A.take n)
        unfold keptL
        simp at this ⊢
        omega
      clear had hown
      generalize A[n].f = f at *
      generalize A[n].k = k at *
      generalize keptL (A.take n) B = F at *
      have hsz := HB.out.size
      have hba : Below wr.heap.size wr (wr.alloc (.cells #[.int .i64 f, .bool k] 40)) := (Below.refl _ _).alloc (Nat.le_refl _) _
      have HBA : Hid (Below _ _ _) := hba
      have HBW : Hid (Below w.heap.size w (wr.alloc (.cells #[.int .i64 f, .bool k] 40))) := HB.out.trans (hba.mono hsz)
      have HOA : Hid (OwnK (wr.alloc (.cells #[.int .i64 f, .bool k] 40)) w.heap.size _ F) := HO.out.below hba
      have KX : Hid (_ : Prop) := KC.out _ f HBW.out
      clear hba hb KC
      by_cases hx : f ∈ B
      · rw [if_pos hx] at HX
        rw [decide_eq_true hx] at KX
        go_wp2_with fail
        refine Calls.mono KX.out ?_
        rintro e w1 ⟨rfl, hw1⟩
        have q0 : w1.cell? ⟨wr.heap.size, 0, none⟩ = some (.int .i64 f) := by rw [hw1]; simp
        have q1 : w1.cell? ⟨wr.heap.size, 1, none⟩ = some (.bool k) := by rw [hw1]; simp
        rw [← hw1] at HBW HOA
        clear hw1 KX HBA c0 c1
        have hsz1 := HBW.out.size
        go_wp2_with (at_builtin; refine wpList_append_own _ rfl _ _ 25 rfl w.heap.size 40 i0 (.agg #[.int .i64 0, .bool false]) 2 16 Tryz.underlying25 hi hz0 hz1 hz2 rfl (by decide) _ _ _ rfl (World.ownsRow.alloc HOA.out _) ⟨w1.heap.size, 0, none⟩ 1 1 [.int .i64 f, .bool k] rfl rfl (news2 w1 _ _ 40) (two_kp _ _) (by unfold maxLen; omega) (by omega) (Nat.le_trans hsz1 (by simp)) ?_; intro v3 w3 hown3 hgrow3 _)
        have HO3 : Hid (OwnK w3 w.heap.size v3 (keptL (A.take (n + 1)) B)) := by
          unfold Hid OwnK
          rw [HX.out, List.length_append, keptC_snoc]
          exact hown3
        have HB3 : Hid (Below w.heap.size w w3) := (HBW.out.alloc hsz1 _).grown hgrow3 (Nat.le_trans hsz1 (by simp)) (fun j e => (HOA.out.lt j e).1)
        clear hown3 hgrow3
        go_roundw
        case rel => exact ⟨n + 1, by omega, by go_num, HO3.out, HB3.out⟩
        case measure => simp [intOf]; omega
      · rw [if_neg hx, List.append_nil] at HX
        rw [decide_eq_false hx] at KX
        go_wp2_with fail
        refine Calls.mono KX.out ?_
        rintro e w1 ⟨rfl, rfl⟩
        go_wp2
        go_roundw
        case rel => exact ⟨n + 1, by omega, by go_num, by rw [HX.out]; exact HOA.out, HBW.out⟩
        case measure => simp [intOf]; omega
    · obtain rfl : n = A.length := by omega
      rw [List.take_length] at HO
      clear hb hown
      go_wp2
      go_ret
      exact ⟨⟨_, rfl, HO.out⟩, HB.out⟩
end Go.Proofs.YtlhnfejgkhilkaaGreatDoor
