/-
  ReachPuts' walk.
-/
import Derived.Test.YtjliopclpjeieaaDoorFR2
import Derived.Test.YtjliopclpjeieaaDoorFS
namespace Go.Proofs.YtjliopclpjeieaaDoor
open Go.RowKit
set_option maxRecDepth 100000 in
set_option maxHeartbeats 6400000 in
theorem puts_N (F : Int) (nx : List UInt8) (rl cap : Nat) (vl : Value) (R' : List Nl) (add : Bool) (W : World) (hT : Tb W) (hvl : vl = .slice none R'.length cap) (h0 : rl = 0) (h0r : R'.length = 0) (hR : NlsAt W vl R') (hlen : R'.length ≤ 30000) (hw : ∀ n ∈ R', NlWf n) :
    Calls Tryd.prog 4 #[.agg #[.int .i64 F, .string ⟨nx.toArray⟩, .slice none rl cap], .bool add] W fun e w' => e = .returned (.bool true) ∧ Below W.heap.size W w' := by
  have HNL0 : Hid (NlsAt W vl R') := hR
  have HWF : Hid (∀ n ∈ R', NlWf n) := hw
  have HLEN : Hid (R'.length ≤ 30000) := hlen
  have HT : Hid (Tb W) := hT
  have HVL : Hid (vl = .slice none R'.length cap) := hvl
  clear hw hT hvl hR hlen
  subst h0
  rw [h0r] at HVL
  have hm0 : (min 0 2000 : Int) = 0 := by decide
  clear h0r
  have hb0 : Below W.heap.size W (W.alloc (.cells #[.int .i64 F, .string ⟨nx.toArray⟩, .slice none 0 cap] 30)) := (Below.refl _ _).alloc (Nat.le_refl _) _
  have q0 : (W.alloc (.cells #[.int .i64 F, .string ⟨nx.toArray⟩, .slice none 0 cap] 30)).cell? ⟨W.heap.size, 0, none⟩ = some (.int .i64 F) := by simp
  have q1 : (W.alloc (.cells #[.int .i64 F, .string ⟨nx.toArray⟩, .slice none 0 cap] 30)).cell? ⟨W.heap.size, 1, none⟩ = some (.string ⟨nx.toArray⟩) := by simp
  have HQ : Hid (_ ∧ _) := ⟨q0, q1⟩
  have HB0 : Hid (Below _ _ _) := hb0
  have K0 : Hid (_ : Prop) := own_any vl R' _ (HNL0.out.below hb0) HLEN.out
  clear hb0 q0 q1
  go_enter Tryd.func4, Tryd.ntmps4
  go_wp2_with fail
  generalize W.alloc (.cells #[.int .i64 F, .string ⟨nx.toArray⟩, .slice none 0 cap] 30) = X0 at *
  rw [← HVL.out]
  refine Calls.mono K0.out ?_
  rintro e w1 ⟨ad1, cap1, rfl, hk1, hb1⟩
  have HB1 : Hid (Below W.heap.size W w1) := HB0.out.trans (hb1.mono HB0.out.size)
  have HK1 : Hid (KeptAt w1 ad1 cap1 R') := hk1
  have c0 := below_cell hb1 HQ.out.1
  have c1 := below_cell hb1 HQ.out.2
  clear hb1 HQ HB0 K0 hk1
  have KT : Hid (∀ X, Below W.heap.size W X → Tb X ∧ NlsAt X vl R') := fun X hX => ⟨HT.out.below hX, HNL0.out.below hX⟩
  have K1 : Hid (_ : Prop) := putAll F nx (.slice ad1 R'.length cap1) add R' w1 (KT.out _ HB1.out).1.sizes (KT.out _ HB1.out).1.rds HK1.out.list HWF.out HLEN.out
  have K2 : Hid (∀ X, Below W.heap.size W X → Calls Tryd.prog 16 #[.int .i64 F, .string ⟨nx.toArray⟩, vl, .bool add] X fun e w' => e = .returned (.tuple #[.string ⟨(pS F nx add R').toArray⟩, .int .i64 (pE F nx add R')]) ∧ Below X.heap.size X w') := fun X hX => rputAll F nx vl add R' X (KT.out _ hX).2 HWF.out HLEN.out
  have K3 : Hid (∀ X, Below W.heap.size W X → KeptAt X ad1 cap1 R' → Calls Tryd.prog 17 #[.int .i64 F, .slice ad1 R'.length cap1, .bool add] X fun e w' => e = .returned (.tuple #[.string ⟨(gS F add R').toArray⟩, .int .i64 (gE F add R')]) ∧ Below X.heap.size X w') := fun X hX hk => goneAll F _ add R' X (KT.out _ hX).1.sizes (KT.out _ hX).1.rds hk.list HWF.out HLEN.out
  have K4 : Hid (∀ X, Below W.heap.size W X → Calls Tryd.prog 18 #[.int .i64 F, vl, .bool add] X fun e w' => e = .returned (.tuple #[.string ⟨(gS F add R').toArray⟩, .int .i64 (gE F add R')]) ∧ Below X.heap.size X w') := fun X hX => rgoneAll F vl add R' X (KT.out _ hX).2 HWF.out HLEN.out
  generalize pS F nx add R' = S at *
  generalize pE F nx add R' = E at *
  generalize gS F add R' = T at *
  generalize gE F add R' = G at *
  go_wp2_with fail
  refine Calls.mono K1.out ?_
  rintro e w2 ⟨rfl, hb2⟩
  have HB2 : Hid (Below W.heap.size W w2) := HB1.out.trans (hb2.mono HB1.out.size)
  have HK2 : Hid (KeptAt w2 ad1 cap1 R') := HK1.out.below hb2
  have d0 := below_cell hb2 c0
  have d1 := below_cell hb2 c1
  clear hb2 c0 c1 K1 HB1 HK1
  go_wp2_with fail
  refine Calls.mono (K2.out _ HB2.out) ?_
  rintro e w3 ⟨rfl, hb3⟩
  have HB3 : Hid (Below W.heap.size W w3) := HB2.out.trans (hb3.mono HB2.out.size)
  have HK3 : Hid (KeptAt w3 ad1 cap1 R') := HK2.out.below hb3
  have c0 := below_cell hb3 d0
  clear hb3 d0 d1 K2 HB2 HK2
  go_wp2_with fail
  refine Calls.mono (K3.out _ HB3.out HK3.out) ?_
  rintro e w4 ⟨rfl, hb4⟩
  have HB4 : Hid (Below W.heap.size W w4) := HB3.out.trans (hb4.mono HB3.out.size)
  have HK4 : Hid (KeptAt w4 ad1 cap1 R') := HK3.out.below hb4
  have d0 := below_cell hb4 c0
  clear hb4 c0 K3 HB3 HK3
  go_wp2_with fail
  refine Calls.mono (K4.out _ HB4.out) ?_
  rintro e w5 ⟨rfl, hb5⟩
  have HB5 : Hid (Below W.heap.size W w5) := HB4.out.trans (hb5.mono HB4.out.size)
  have HK5 : Hid (KeptAt w5 ad1 cap1 R') := HK4.out.below hb5
  clear hb5 d0 K4 HB4 HK4
  have K5 : Hid (_ : Prop) := kept_any ad1 cap1 vl R' w5 HK5.out (KT.out _ HB5.out).2 HLEN.out
  go_wp2_with fail
  refine Calls.mono K5.out ?_
  rintro e w6 ⟨rfl, hb6⟩
  have HB6 : Hid (Below W.heap.size W w6) := HB5.out.trans (hb6.mono HB5.out.size)
  clear hb6 K5 HB5 HK5
  go_wp2_with fail
  refine (works_any w6 (KT.out _ HB6.out).1).mono ?_
  rintro e w7 ⟨rfl, hb7⟩
  have HB7 : Hid (Below W.heap.size W w7) := HB6.out.trans (hb7.mono HB6.out.size)
  clear hb7
  go_wp2
  go_ret
  exact ⟨rfl, HB7.out⟩
set_option maxRecDepth 100000 in
set_option maxHeartbeats 6400000 in
theorem puts_S (F : Int) (nx : List UInt8) (a : Addr) (rl cap : Nat) (vl : Value) (R' : List Nl) (add : Bool) (W : World) (hT : Tb W) (hvl : vl = .slice (some a) R'.length cap) (hm : min (rl : Int) 2000 = (R'.length : Int)) (hkc : (R'.length : Int) ≤ cap) (hR : NlsAt W vl R') (hlen : R'.length ≤ 30000) (hw : ∀ n ∈ R', NlWf n) :
    Calls Tryd.prog 4 #[.agg #[.int .i64 F, .string ⟨nx.toArray⟩, .slice (some a) rl cap], .bool add] W fun e w' => e = .returned (.bool true) ∧ Below W.heap.size W w' := by
  have HNL0 : Hid (NlsAt W vl R') := hR
  have HWF : Hid (∀ n ∈ R', NlWf n) := hw
  have HLEN : Hid (R'.length ≤ 30000) := hlen
  have HT : Hid (Tb W) := hT
  have HVL : Hid (vl = .slice (some a) R'.length cap) := hvl
  clear hw hT hvl hR hlen
  have hb0 : Below W.heap.size W (W.alloc (.cells #[.int .i64 F, .string ⟨nx.toArray⟩, .slice (some a) rl cap] 30)) := (Below.refl _ _).alloc (Nat.le_refl _) _
  have q0 : (W.alloc (.cells #[.int .i64 F, .string ⟨nx.toArray⟩, .slice (some a) rl cap] 30)).cell? ⟨W.heap.size, 0, none⟩ = some (.int .i64 F) := by simp
  have q1 : (W.alloc (.cells #[.int .i64 F, .string ⟨nx.toArray⟩, .slice (some a) rl cap] 30)).cell? ⟨W.heap.size, 1, none⟩ = some (.string ⟨nx.toArray⟩) := by simp
  have HQ : Hid (_ ∧ _) := ⟨q0, q1⟩
  have HB0 : Hid (Below _ _ _) := hb0
  have K0 : Hid (_ : Prop) := own_any vl R' _ (HNL0.out.below hb0) HLEN.out
  clear hb0 q0 q1
  go_enter Tryd.func4, Tryd.ntmps4
  go_wp2_with fail
  generalize W.alloc (.cells #[.int .i64 F, .string ⟨nx.toArray⟩, .slice (some a) rl cap] 30) = X0 at *
  rw [← HVL.out]
  refine Calls.mono K0.out ?_
  rintro e w1 ⟨ad1, cap1, rfl, hk1, hb1⟩
  have HB1 : Hid (Below W.heap.size W w1) := HB0.out.trans (hb1.mono HB0.out.size)
  have HK1 : Hid (KeptAt w1 ad1 cap1 R') := hk1
  have c0 := below_cell hb1 HQ.out.1
  have c1 := below_cell hb1 HQ.out.2
  clear hb1 HQ HB0 K0 hk1
  have KT : Hid (∀ X, Below W.heap.size W X → Tb X ∧ NlsAt X vl R') := fun X hX => ⟨HT.out.below hX, HNL0.out.below hX⟩
  have K1 : Hid (_ : Prop) := putAll F nx (.slice ad1 R'.length cap1) add R' w1 (KT.out _ HB1.out).1.sizes (KT.out _ HB1.out).1.rds HK1.out.list HWF.out HLEN.out
  have K2 : Hid (∀ X, Below W.heap.size W X → Calls Tryd.prog 16 #[.int .i64 F, .string ⟨nx.toArray⟩, vl, .bool add] X fun e w' => e = .returned (.tuple #[.string ⟨(pS F nx add R').toArray⟩, .int .i64 (pE F nx add R')]) ∧ Below X.heap.size X w') := fun X hX => rputAll F nx vl add R' X (KT.out _ hX).2 HWF.out HLEN.out
  have K3 : Hid (∀ X, Below W.heap.size W X → KeptAt X ad1 cap1 R' → Calls Tryd.prog 17 #[.int .i64 F, .slice ad1 R'.length cap1, .bool add] X fun e w' => e = .returned (.tuple #[.string ⟨(gS F add R').toArray⟩, .int .i64 (gE F add R')]) ∧ Below X.heap.size X w') := fun X hX hk => goneAll F _ add R' X (KT.out _ hX).1.sizes (KT.out _ hX).1.rds hk.list HWF.out HLEN.out
  have K4 : Hid (∀ X, Below W.heap.size W X → Calls Tryd.prog 18 #[.int .i64 F, vl, .bool add] X fun e w' => e = .returned (.tuple #[.string ⟨(gS F add R').toArray⟩, .int .i64 (gE F add R')]) ∧ Below X.heap.size X w') := fun X hX => rgoneAll F vl add R' X (KT.out _ hX).2 HWF.out HLEN.out
  generalize pS F nx add R' = S at *
  generalize pE F nx add R' = E at *
  generalize gS F add R' = T at *
  generalize gE F add R' = G at *
  go_wp2_with fail
  refine Calls.mono K1.out ?_
  rintro e w2 ⟨rfl, hb2⟩
  have HB2 : Hid (Below W.heap.size W w2) := HB1.out.trans (hb2.mono HB1.out.size)
  have HK2 : Hid (KeptAt w2 ad1 cap1 R') := HK1.out.below hb2
  have d0 := below_cell hb2 c0
  have d1 := below_cell hb2 c1
  clear hb2 c0 c1 K1 HB1 HK1
  go_wp2_with fail
  refine Calls.mono (K2.out _ HB2.out) ?_
  rintro e w3 ⟨rfl, hb3⟩
  have HB3 : Hid (Below W.heap.size W w3) := HB2.out.trans (hb3.mono HB2.out.size)
  have HK3 : Hid (KeptAt w3 ad1 cap1 R') := HK2.out.below hb3
  have c0 := below_cell hb3 d0
  clear hb3 d0 d1 K2 HB2 HK2
  go_wp2_with fail
  refine Calls.mono (K3.out _ HB3.out HK3.out) ?_
  rintro e w4 ⟨rfl, hb4⟩
  have HB4 : Hid (Below W.heap.size W w4) := HB3.out.trans (hb4.mono HB3.out.size)
  have HK4 : Hid (KeptAt w4 ad1 cap1 R') := HK3.out.below hb4
  have d0 := below_cell hb4 c0
  clear hb4 c0 K3 HB3 HK3
  go_wp2_with fail
  refine Calls.mono (K4.out _ HB4.out) ?_
  rintro e w5 ⟨rfl, hb5⟩
  have HB5 : Hid (Below W.heap.size W w5) := HB4.out.trans (hb5.mono HB4.out.size)
  have HK5 : Hid (KeptAt w5 ad1 cap1 R') := HK4.out.below hb5
  clear hb5 d0 K4 HB4 HK4
  have K5 : Hid (_ : Prop) := kept_any ad1 cap1 vl R' w5 HK5.out (KT.out _ HB5.out).2 HLEN.out
  go_wp2_with fail
  refine Calls.mono K5.out ?_
  rintro e w6 ⟨rfl, hb6⟩
  have HB6 : Hid (Below W.heap.size W w6) := HB5.out.trans (hb6.mono HB5.out.size)
  clear hb6 K5 HB5 HK5
  go_wp2_with fail
  refine (works_any w6 (KT.out _ HB6.out).1).mono ?_
  rintro e w7 ⟨rfl, hb7⟩
  have HB7 : Hid (Below W.heap.size W w7) := HB6.out.trans (hb7.mono HB6.out.size)
  clear hb7
  go_wp2
  go_ret
  exact ⟨rfl, HB7.out⟩
/-- ReachPuts, over the table of families. -/
theorem puts_walk (F : Int) (nx : List UInt8) (v0 : Value) (R : List Nl) (add : Bool) (W : World) (hT : Tb W) (hR : NlsAt W v0 R) (hw : ∀ n ∈ R, NlWf n) :
    Calls Tryd.prog 4 #[.agg #[.int .i64 F, .string ⟨nx.toArray⟩, v0], .bool add] W fun e w' => e = .returned (.bool true) ∧ Below W.heap.size W w' := by
  obtain ⟨ad, b, off, cap, rfl, had, hcap, hrow⟩ := hR
  have h1 := NlsAt.cut had hcap hrow 2000
  have h2 : (R.take 2000).length ≤ 30000 := by simp; omega
  have h3 : ∀ n ∈ R.take 2000, NlWf n := fun n hn => hw n (List.mem_of_mem_take hn)
  have h4 : min (R.length : Int) 2000 = ((R.take 2000).length : Int) := by simp; omega
  have h5 : ((R.take 2000).length : Int) ≤ cap := Int.ofNat_le.2 (Nat.le_trans (by simp; omega) hcap)
  cases ad with
  | none =>
    have h0 : R.length = 0 := by rcases had with h | h; cases h; exact h
    have h0r : (R.take 2000).length = 0 := by simp [h0]
    exact puts_N F nx R.length cap _ _ add W hT rfl h0 h0r h1 h2 h3
  | some a => exact puts_S F nx a R.length cap _ _ add W hT rfl h4 h5 h1 h2 h3
end Go.Proofs.YtjliopclpjeieaaDoor
