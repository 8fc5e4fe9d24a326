/-
  CommLays.
-/
import Derived.Test.YteldgfmcfkmpdaaDoorE1
import Derived.Test.YteldgfmcfkmpdaaDoorB3
import Derived.Test.YteldgfmcfkmpdaaDoorB4
namespace Go.Proofs.YteldgfmcfkmpdaaDoor
open Go.RowKit
theorem SlAt.first {α : Type} {R : Nat → Nat → List α → Prop} (hR : ∀ b off l k, R b off l → R b off (l.take k)) {ad : Option Addr} {n cap : Nat} {l : List α} (h : SlAt R (.slice ad n cap) l) (k : Nat) (hk : k ≤ l.length) : SlAt R (.slice ad k cap) (l.take k) := by
  obtain ⟨ad', b, off, cap', h1, h2, h3, h4⟩ := h
  simp only [Value.slice.injEq] at h1
  obtain ⟨rfl, rfl, rfl⟩ := h1
  have hl : (l.take k).length = k := by simp; omega
  refine ⟨ad, b, off, cap, by rw [hl], ?_, ⟨by omega, by omega⟩, hR _ _ _ _ h4⟩
  rcases h2 with h2 | h2
  · exact Or.inl h2
  · right; omega
theorem RowQ.first {q : IntKind} {m : Nat} {w : World} (b off : Nat) (l : List Nat) (k : Nat) (h : RowQ q m w b off l) : RowQ q m w b off (l.take k) := by
  intro j hj
  have := h j (by simp at hj; omega)
  rw [List.getElem_take]; exact this
theorem RowL.first {w : World} (b off : Nat) (l : List Lg) (k : Nat) (h : RowL w b off l) : RowL w b off (l.take k) := by
  intro j hj
  have := h j (by simp at hj; omega)
  rw [List.getElem_take]; exact this
theorem encAns_form (m : Bool) (b : ByteArray) : ∃ (s : ByteArray) (e : Int), encAns m b = .tuple #[.string s, .int .i64 e] := by
  cases m
  · exact ⟨_, _, rfl⟩
  · exact ⟨_, _, rfl⟩
set_option maxRecDepth 100000 in
set_option maxHeartbeats 1600000 in
theorem lays_walk (v1 v2 v3 : Value) (A B : List Nat) (C : List Lg) (w : World) (hA : PlainAt w v1 A) (hB : ExtsAt w v2 B) (hC : LargesAt w v3 C) (ht : Tabs w) :
    Calls Tryd.prog 4 #[.agg #[v1, v2, v3]] w fun e w' => e = .returned (.bool true) ∧ Below w.heap.size w w' := by
  obtain ⟨ad1, b1, o1, c1, rfl, x11, ⟨hc1, x12⟩, x13⟩ := id hA
  clear x11 x12 x13
  obtain ⟨ad2, b2, o2, c2, rfl, x11, ⟨hc2, x12⟩, x13⟩ := id hB
  clear x11 x12 x13
  obtain ⟨ad3, b3, o3, c3, rfl, x11, ⟨hc3, x12⟩, x13⟩ := id hC
  clear x11 x12 x13
  obtain ⟨k1, hk1, hk1e⟩ : ∃ k1 : Nat, k1 ≤ A.length ∧ min (A.length : Int) 90 = (k1 : Int) := ⟨min A.length 90, by omega, by omega⟩
  obtain ⟨k2, hk2, hk2e⟩ : ∃ k2 : Nat, k2 ≤ B.length ∧ min (B.length : Int) 90 = (k2 : Int) := ⟨min B.length 90, by omega, by omega⟩
  obtain ⟨k3, hk3, hk3e⟩ : ∃ k3 : Nat, k3 ≤ C.length ∧ min (C.length : Int) 90 = (k3 : Int) := ⟨min C.length 90, by omega, by omega⟩
  have HA : Hid (PlainAt w _ _) := SlAt.first RowQ.first hA k1 hk1
  have HB : Hid (ExtsAt w _ _) := SlAt.first RowQ.first hB k2 hk2
  have HC : Hid (LargesAt w _ _) := SlAt.first RowL.first hC k3 hk3
  have hcc1 : k1 ≤ c1 := by omega
  have hcc2 : k2 ≤ c2 := by omega
  have hcc3 : k3 ≤ c3 := by omega
  have HT : Hid (Tabs w) := ht
  clear hA hB hC ht
  generalize A.take k1 = A' at *
  generalize B.take k2 = B' at *
  generalize C.take k3 = C' at *
  have HB0 : Hid (Below w.heap.size w (w.alloc (.cells #[.slice ad1 A.length c1, .slice ad2 B.length c2, .slice ad3 C.length c3] 36))) := (Below.refl _ _).alloc (Nat.le_refl _) _
  have q1 : (w.alloc (.cells #[.slice ad1 A.length c1, .slice ad2 B.length c2, .slice ad3 C.length c3] 36)).cell? ⟨w.heap.size, 0, none⟩ = some (.slice ad1 A.length c1) := by
    rw [World.cell?_alloc_at _ _ _ _ rfl]; rfl
  have q2 : (w.alloc (.cells #[.slice ad1 A.length c1, .slice ad2 B.length c2, .slice ad3 C.length c3] 36)).cell? ⟨w.heap.size, 1, none⟩ = some (.slice ad2 B.length c2) := by
    rw [World.cell?_alloc_at _ _ _ _ rfl]; rfl
  have q3 : (w.alloc (.cells #[.slice ad1 A.length c1, .slice ad2 B.length c2, .slice ad3 C.length c3] 36)).cell? ⟨w.heap.size, 2, none⟩ = some (.slice ad3 C.length c3) := by
    rw [World.cell?_alloc_at _ _ _ _ rfl]; rfl
  generalize hW0 : w.alloc (.cells #[.slice ad1 A.length c1, .slice ad2 B.length c2, .slice ad3 C.length c3] 36) = W0 at HB0 q1 q2 q3
  have HW0 : Hid (_ = W0) := hW0
  clear hW0
  go_enter Tryd.func4, Tryd.ntmps4
  go_wp2_with fail
  rw [HW0.out]
  refine (EncU _ A' W0 (HA.out.below HB0.out)).mono ?_
  rintro e w1 ⟨rfl, hb1⟩
  obtain ⟨s1, e1, he1⟩ := encAns_form (mayL ltN A') (bytesN 4 A')
  have HE1 : Hid (_ = _) := he1
  clear he1
  rw [HE1.out]
  have HB1 : Hid (Below w.heap.size w w1) := HB0.out.trans (hb1.mono HB0.out.size)
  have c11 := below_cell hb1 q1
  have c12 := below_cell hb1 q2
  have c13 := below_cell hb1 q3
  clear hb1 q1 q2 q3
  go_wp2_with fail
  refine (rencU _ A' w1 (HA.out.below HB1.out)).mono ?_
  rintro e w2 ⟨rfl, hb2⟩
  rw [HE1.out]
  have HB2 : Hid (Below w.heap.size w w2) := HB1.out.trans (hb2.mono HB1.out.size)
  have c21 := below_cell hb2 c11
  have c22 := below_cell hb2 c12
  have c23 := below_cell hb2 c13
  clear hb2 c11 c12 c13
  go_wp2_with fail
  refine (EncX _ B' w2 (HB.out.below HB2.out)).mono ?_
  rintro e w3 ⟨rfl, hb3⟩
  obtain ⟨s2, e2, he2⟩ := encAns_form (mayL ltN B') (bytesN 8 B')
  have HE2 : Hid (_ = _) := he2
  clear he2
  rw [HE2.out]
  have HB3 : Hid (Below w.heap.size w w3) := HB2.out.trans (hb3.mono HB2.out.size)
  have c31 := below_cell hb3 c21
  have c32 := below_cell hb3 c22
  have c33 := below_cell hb3 c23
  clear hb3 c21 c22 c23
  go_wp2_with fail
  refine (rencX _ B' w3 (HB.out.below HB3.out)).mono ?_
  rintro e w4 ⟨rfl, hb4⟩
  rw [HE2.out]
  have HB4 : Hid (Below w.heap.size w w4) := HB3.out.trans (hb4.mono HB3.out.size)
  have c41 := below_cell hb4 c31
  have c42 := below_cell hb4 c32
  have c43 := below_cell hb4 c33
  clear hb4 c31 c32 c33
  go_wp2_with fail
  refine (EncL _ C' w4 (HC.out.below HB4.out)).mono ?_
  rintro e w5 ⟨rfl, hb5⟩
  obtain ⟨s3, e3, he3⟩ := encAns_form (mayL ltL C') (bytesL C')
  have HE3 : Hid (_ = _) := he3
  clear he3
  rw [HE3.out]
  have HB5 : Hid (Below w.heap.size w w5) := HB4.out.trans (hb5.mono HB4.out.size)
  have c51 := below_cell hb5 c41
  have c52 := below_cell hb5 c42
  have c53 := below_cell hb5 c43
  clear hb5 c41 c42 c43
  go_wp2_with fail
  refine (rencL _ C' w5 (HC.out.below HB5.out)).mono ?_
  rintro e w6 ⟨rfl, hb6⟩
  rw [HE3.out]
  have HB6 : Hid (Below w.heap.size w w6) := HB5.out.trans (hb6.mono HB5.out.size)
  have c61 := below_cell hb6 c51
  have c62 := below_cell hb6 c52
  have c63 := below_cell hb6 c53
  clear hb6 c51 c52 c53
  go_wp2_with (go_at_call 18; refine (works_any w6 (HT.out.below HB6.out)).mono ?_; rintro e w7 ⟨rfl, hb7⟩)
  go_ret
  exact ⟨rfl, HB6.out.trans (hb7.mono HB6.out.size)⟩
end Go.Proofs.YteldgfmcfkmpdaaDoor
