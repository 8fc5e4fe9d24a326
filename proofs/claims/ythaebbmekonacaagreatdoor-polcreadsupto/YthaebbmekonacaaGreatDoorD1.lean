/-
  Conditions, actions and terms in memory; asked one by one.
-/
import Derived.Test.YthaebbmekonacaaGreatDoorMX
import Derived.Laws.StructEq
set_option linter.unusedVariables false
set_option linter.unusedSimpArgs false
set_option maxRecDepth 100000
namespace Go.Proofs.YthaebbmekonacaaGreatDoor
open Go.RowKit
/-- A condition. -/
structure Cd where
  k : Int
  nt : Bool
  nm : ByteArray
  n : Int
/-- An action. -/
structure Ac where
  k : Int
  nm : ByteArray
  n : Nat
  ad : ByteArray
/-- A term. -/
structure Tm where
  cs : List Cd
  acs : List Ac
def cdV (c : Cd) : Value := .agg #[.int .i64 c.k, .bool c.nt, .string c.nm, .int .i64 c.n]
def acV (a : Ac) : Value := .agg #[.int .i64 a.k, .string a.nm, .int .u32 (a.n : Int), .string a.ad]
def CdAt (w : World) (v : Value) (L : List Cd) : Prop :=
  ∃ (ad : Option Addr) (b off cap : Nat), v = .slice ad L.length cap ∧ (ad = some ⟨b, off, none⟩ ∨ L.length = 0) ∧ L.length ≤ cap ∧ ∀ j (h : j < L.length), w.cell? ⟨b, off + j * 4, none⟩ = some (.int .i64 L[j].k) ∧ w.cell? ⟨b, off + j * 4 + 1, none⟩ = some (.bool L[j].nt) ∧ w.cell? ⟨b, off + j * 4 + 2, none⟩ = some (.string L[j].nm) ∧ w.cell? ⟨b, off + j * 4 + 3, none⟩ = some (.int .i64 L[j].n)
def AcAt (w : World) (v : Value) (L : List Ac) : Prop :=
  ∃ (ad : Option Addr) (b off cap : Nat), v = .slice ad L.length cap ∧ (ad = some ⟨b, off, none⟩ ∨ L.length = 0) ∧ L.length ≤ cap ∧ ∀ j (h : j < L.length), w.cell? ⟨b, off + j * 4, none⟩ = some (.int .i64 L[j].k) ∧ w.cell? ⟨b, off + j * 4 + 1, none⟩ = some (.string L[j].nm) ∧ w.cell? ⟨b, off + j * 4 + 2, none⟩ = some (.int .u32 (L[j].n : Int)) ∧ w.cell? ⟨b, off + j * 4 + 3, none⟩ = some (.string L[j].ad)
def TmAt (w : World) (v : Value) (T : Tm) : Prop := ∃ vc va, v = .agg #[vc, va] ∧ CdAt w vc T.cs ∧ AcAt w va T.acs
def TsAt (w : World) (v : Value) (L : List Tm) : Prop :=
  ∃ (ad : Option Addr) (b off cap : Nat), v = .slice ad L.length cap ∧ (ad = some ⟨b, off, none⟩ ∨ L.length = 0) ∧ L.length ≤ cap ∧ ∀ j (h : j < L.length), ∃ vc va, w.cell? ⟨b, off + j * 2, none⟩ = some vc ∧ w.cell? ⟨b, off + j * 2 + 1, none⟩ = some va ∧ CdAt w vc L[j].cs ∧ AcAt w va L[j].acs
theorem CdAt.len {w : World} {v : Value} {L : List Cd} (h : CdAt w v L) : ∃ ad cap, v = .slice ad L.length cap := by
  obtain ⟨ad, b, off, cap, h1, _⟩ := h
  exact ⟨ad, cap, h1⟩
theorem AcAt.len {w : World} {v : Value} {L : List Ac} (h : AcAt w v L) : ∃ ad cap, v = .slice ad L.length cap := by
  obtain ⟨ad, b, off, cap, h1, _⟩ := h
  exact ⟨ad, cap, h1⟩
theorem TsAt.len {w : World} {v : Value} {L : List Tm} (h : TsAt w v L) : ∃ ad cap, v = .slice ad L.length cap := by
  obtain ⟨ad, b, off, cap, h1, _⟩ := h
  exact ⟨ad, cap, h1⟩
theorem CdAt.below {w w' : World} {v : Value} {L : List Cd} (h : CdAt w v L) (hb : Below w.heap.size w w') : CdAt w' v L := by
  obtain ⟨ad, b, off, cap, h1, h2, h3, h4⟩ := h
  exact ⟨ad, b, off, cap, h1, h2, h3, fun j hj => ⟨below_cell hb (h4 j hj).1, below_cell hb (h4 j hj).2.1, below_cell hb (h4 j hj).2.2.1, below_cell hb (h4 j hj).2.2.2⟩⟩
theorem AcAt.below {w w' : World} {v : Value} {L : List Ac} (h : AcAt w v L) (hb : Below w.heap.size w w') : AcAt w' v L := by
  obtain ⟨ad, b, off, cap, h1, h2, h3, h4⟩ := h
  exact ⟨ad, b, off, cap, h1, h2, h3, fun j hj => ⟨below_cell hb (h4 j hj).1, below_cell hb (h4 j hj).2.1, below_cell hb (h4 j hj).2.2.1, below_cell hb (h4 j hj).2.2.2⟩⟩
theorem TmAt.below {w w' : World} {v : Value} {T : Tm} (h : TmAt w v T) (hb : Below w.heap.size w w') : TmAt w' v T := by
  obtain ⟨vc, va, e, h1, h2⟩ := h
  exact ⟨vc, va, e, h1.below hb, h2.below hb⟩
theorem TsAt.below {w w' : World} {v : Value} {L : List Tm} (h : TsAt w v L) (hb : Below w.heap.size w w') : TsAt w' v L := by
  obtain ⟨ad, b, off, cap, h1, h2, h3, h4⟩ := h
  refine ⟨ad, b, off, cap, h1, h2, h3, fun j hj => ?_⟩
  obtain ⟨vc, va, k1, k2, k3, k4⟩ := h4 j hj
  exact ⟨vc, va, below_cell hb k1, below_cell hb k2, k3.below hb, k4.below hb⟩
set_option maxHeartbeats 1600000 in
theorem indexCd (v : Value) (L : List Cd) (g1 : Value) (q : Cd → Bool) (w : World) (hv : CdAt w v L) (hlen : L.length ≤ 1000000)
    (HC : ∀ k (h : k < L.length) (y : Value) (X : World), Below w.heap.size w X → y = cdV L[k] → Calls Tryz.prog 116 #[y, g1] X fun e w' => e = .returned (.bool (q L[k])) ∧ Below X.heap.size X w') :
    Calls Tryz.prog 156 #[v, .func (.func 116) #[] #[g1]] w fun e w' => (∃ n : Int, e = .returned (.int .i64 n) ∧ decide (0 ≤ n) = L.any q) ∧ Below w.heap.size w w' := by
  obtain ⟨ad, bb, off, cap, rfl, had, hcap, hrow⟩ := hv
  have HR : Hid (_ : Prop) := hrow
  have HCC : Hid (_ : Prop) := HC
  clear hrow HC
  go_enter Tryz.func156, Tryz.ntmps156
  go_wp2
  go_loopw [8] (fun i wr => ∃ (k : Nat), k ≤ L.length ∧ i = .int .i64 k ∧ Below w.heap.size w wr ∧ L.any q = (L.drop k).any q) (fun i _ => L.length - (intOf i).toNat)
  case atStart => exact ⟨0, Nat.zero_le _, rfl, Below.refl _ _, rfl⟩
  case round =>
    obtain ⟨k, hk, rfl, hb, hany⟩ := hrel
    have HB : Hid (Below w.heap.size w wr) := hb
    have HRI : Hid (_ = _) := hany
    clear hb hany
    by_cases hlt : k < L.length
    · obtain rfl : ad = some ⟨bb, off, none⟩ := by
        rcases had with h | h
        · exact h
        · omega
      have c0 := below_cell HB.out (HR.out k hlt).1
      have c1 := below_cell HB.out (HR.out k hlt).2.1
      have c2 := below_cell HB.out (HR.out k hlt).2.2.1
      have c3 := below_cell HB.out (HR.out k hlt).2.2.2
      have HD : Hid ((L.drop k).any q = (q L[k] || (L.drop (k + 1)).any q)) := by
        unfold Hid
        rw [List.drop_eq_getElem_cons hlt, List.any_cons]
      rw [HD.out] at HRI
      clear HD
      have HK : Hid (Calls Tryz.prog 116 #[.agg #[.int .i64 L[k].k, .bool L[k].nt, .string L[k].nm, .int .i64 L[k].n], g1] wr _) := HCC.out k hlt _ wr HB.out rfl
      generalize q L[k] = z at *
      generalize L[k].k = xk at *
      generalize L[k].nt = xnt at *
      generalize L[k].nm = xnm at *
      generalize L[k].n = xn at *
      cases z with
      | true =>
        go_wp2_with (go_at_call 116; refine Calls.mono HK.out ?_; rintro e w2 ⟨rfl, hb2⟩)
        go_ret
        exact ⟨⟨_, rfl, by rw [HRI.out]; simp⟩, HB.out.trans (hb2.mono HB.out.size)⟩
      | false =>
        go_wp2_with (go_at_call 116; refine Calls.mono HK.out ?_; rintro e w2 ⟨rfl, hb2⟩)
        go_roundw
        case rel => exact ⟨k + 1, by omega, by go_num, HB.out.trans (hb2.mono HB.out.size), by rw [HRI.out]; rfl⟩
        case measure => simp [intOf]; omega
    · obtain rfl : k = L.length := by omega
      rw [List.drop_eq_nil_of_le (by simp)] at HRI
      go_wp2
      go_ret
      exact ⟨⟨_, rfl, by rw [HRI.out]; rfl⟩, HB.out⟩
theorem containsCd (v : Value) (L : List Cd) (g1 : Value) (q : Cd → Bool) (w : World) (hv : CdAt w v L) (hlen : L.length ≤ 1000000)
    (HC : ∀ k (h : k < L.length) (y : Value) (X : World), Below w.heap.size w X → y = cdV L[k] → Calls Tryz.prog 116 #[y, g1] X fun e w' => e = .returned (.bool (q L[k])) ∧ Below X.heap.size X w') :
    Calls Tryz.prog 115 #[v, .func (.func 116) #[] #[g1]] w fun e w' => e = .returned (.bool (L.any q)) ∧ Below w.heap.size w w' := by
  have HK : Hid (_ : Prop) := indexCd v L g1 q w hv hlen HC
  clear hv HC
  go_enter Tryz.func115, Tryz.ntmps115
  go_wp2_with (go_at_call 156; refine Calls.mono HK.out ?_; rintro e w2 ⟨⟨n, rfl, hn⟩, hb2⟩)
  go_ret
  first | exact ⟨rfl, hb2⟩ | exact ⟨ret_bool hn, hb2⟩
set_option maxHeartbeats 1000000 in
theorem notCd (y : Value) (z : Bool) (bx : Nat) (w : World) (hy : ∃ (a : Int) (b : Bool) (c : ByteArray) (d : Int), y = .agg #[.int .i64 a, .bool b, .string c, .int .i64 d]) (hc : w.cell? ⟨bx, 0, none⟩ = some (.func (.func 70) #[] #[]))
    (HM : ∀ X, Below w.heap.size w X → Calls Tryz.prog 70 #[y] X fun e w' => e = .returned (.bool z) ∧ Below X.heap.size X w') :
    Calls Tryz.prog 116 #[y, .pointer (some ⟨bx, 0, none⟩)] w fun e w' => e = .returned (.bool (!z)) ∧ Below w.heap.size w w' := by
  obtain ⟨a, b, c, d, rfl⟩ := hy
  have HB : Hid (Below _ _ _) := below_box w (.cells #[.int .i64 a, .bool b, .string c, .int .i64 d] 37)
  have c1 := below_cell HB.out hc
  have HK : Hid (_ : Prop) := HM _ HB.out
  clear HM hc
  go_enter Tryz.func116, Tryz.ntmps116
  go_wp2_with (go_at_call 70; refine Calls.mono HK.out ?_; rintro e w2 ⟨rfl, hb2⟩)
  go_ret
  exact ⟨rfl, HB.out.trans (hb2.mono HB.out.size)⟩
/-- all, by its closure. -/
theorem allCd (v : Value) (L : List Cd) (q : Cd → Bool) (w : World) (hv : CdAt w v L) (hlen : L.length ≤ 1000000)
    (HM : ∀ k (h : k < L.length) (y : Value) (X : World), Below w.heap.size w X → y = cdV L[k] → Calls Tryz.prog 70 #[y] X fun e w' => e = .returned (.bool (q L[k])) ∧ Below X.heap.size X w') :
    Calls Tryz.prog 69 #[v, .func (.func 70) #[] #[]] w fun e w' => e = .returned (.bool (L.all q)) ∧ Below w.heap.size w w' := by
  have HB : Hid (Below _ _ _) := below_box w (.cells #[.func (.func 70) #[] #[]] 129)
  have c0 := new_cell w (.func (.func 70) #[] #[]) 129
  have HK : Hid (Calls Tryz.prog 115 #[v, .func (.func 116) #[] #[.pointer (some ⟨w.heap.size, 0, none⟩)]] (w.alloc (.cells #[.func (.func 70) #[] #[]] 129)) fun e w' => e = .returned (.bool (L.any fun x => !q x)) ∧ Below (w.alloc (.cells #[.func (.func 70) #[] #[]] 129)).heap.size (w.alloc (.cells #[.func (.func 70) #[] #[]] 129)) w') :=
    containsCd v L _ (fun x => !q x) _ (hv.below HB.out) hlen fun k h y X hX hy => notCd y (q L[k]) _ X (by exact ⟨_, _, _, _, hy⟩) (below_cell hX c0) fun Y hY => HM k h y Y (HB.out.trans ((hX.mono HB.out.size).trans (hY.mono (Nat.le_trans HB.out.size hX.size)))) hy
  have hneg : (!(L.any fun x => !q x)) = L.all q := by rw [List.not_any_eq_all_not]; simp
  clear hv HM c0
  generalize (L.any fun x => !q x) = z at *
  go_enter Tryz.func69, Tryz.ntmps69
  go_wp2_with (go_at_call 115; refine Calls.mono HK.out ?_; rintro e w2 ⟨rfl, hb2⟩)
  go_ret
  first | exact ⟨rfl, HB.out.trans (hb2.mono HB.out.size)⟩ | exact ⟨ret_bool hneg, HB.out.trans (hb2.mono HB.out.size)⟩
set_option maxHeartbeats 1600000 in
theorem indexAc (v : Value) (L : List Ac) (g1 : Value) (q : Ac → Bool) (w : World) (hv : AcAt w v L) (hlen : L.length ≤ 1000000)
    (HC : ∀ k (h : k < L.length) (y : Value) (X : World), Below w.heap.size w X → y = acV L[k] → Calls Tryz.prog 119 #[y, g1] X fun e w' => e = .returned (.bool (q L[k])) ∧ Below X.heap.size X w') :
    Calls Tryz.prog 157 #[v, .func (.func 119) #[] #[g1]] w fun e w' => (∃ n : Int, e = .returned (.int .i64 n) ∧ decide (0 ≤ n) = L.any q) ∧ Below w.heap.size w w' := by
  obtain ⟨ad, bb, off, cap, rfl, had, hcap, hrow⟩ := hv
  have HR : Hid (_ : Prop) := hrow
  have HCC : Hid (_ : Prop) := HC
  clear hrow HC
  go_enter Tryz.func157, Tryz.ntmps157
  go_wp2
  go_loopw [8] (fun i wr => ∃ (k : Nat), k ≤ L.length ∧ i = .int .i64 k ∧ Below w.heap.size w wr ∧ L.any q = (L.drop k).any q) (fun i _ => L.length - (intOf i).toNat)
  case atStart => exact ⟨0, Nat.zero_le _, rfl, Below.refl _ _, rfl⟩
  case round =>
    obtain ⟨k, hk, rfl, hb, hany⟩ := hrel
    have HB : Hid (Below w.heap.size w wr) := hb
    have HRI : Hid (_ = _) := hany
    clear hb hany
    by_cases hlt : k < L.length
    · obtain rfl : ad = some ⟨bb, off, none⟩ := by
        rcases had with h | h
        · exact h
        · omega
      have c0 := below_cell HB.out (HR.out k hlt).1
      have c1 := below_cell HB.out (HR.out k hlt).2.1
      have c2 := below_cell HB.out (HR.out k hlt).2.2.1
      have c3 := below_cell HB.out (HR.out k hlt).2.2.2
      have HD : Hid ((L.drop k).any q = (q L[k] || (L.drop (k + 1)).any q)) := by
        unfold Hid
        rw [List.drop_eq_getElem_cons hlt, List.any_cons]
      rw [HD.out] at HRI
      clear HD
      have HK : Hid (Calls Tryz.prog 119 #[.agg #[.int .i64 L[k].k, .string L[k].nm, .int .u32 (L[k].n : Int), .string L[k].ad], g1] wr _) := HCC.out k hlt _ wr HB.out rfl
      generalize q L[k] = z at *
      generalize L[k].k = xk at *
      generalize L[k].nm = xnm at *
      generalize L[k].n = xn at *
      generalize L[k].ad = xad at *
      cases z with
      | true =>
        go_wp2_with (go_at_call 119; refine Calls.mono HK.out ?_; rintro e w2 ⟨rfl, hb2⟩)
        go_ret
        exact ⟨⟨_, rfl, by rw [HRI.out]; simp⟩, HB.out.trans (hb2.mono HB.out.size)⟩
      | false =>
        go_wp2_with (go_at_call 119; refine Calls.mono HK.out ?_; rintro e w2 ⟨rfl, hb2⟩)
        go_roundw
        case rel => exact ⟨k + 1, by omega, by go_num, HB.out.trans (hb2.mono HB.out.size), by rw [HRI.out]; rfl⟩
        case measure => simp [intOf]; omega
    · obtain rfl : k = L.length := by omega
      rw [List.drop_eq_nil_of_le (by simp)] at HRI
      go_wp2
      go_ret
      exact ⟨⟨_, rfl, by rw [HRI.out]; rfl⟩, HB.out⟩
theorem containsAc (v : Value) (L : List Ac) (g1 : Value) (q : Ac → Bool) (w : World) (hv : AcAt w v L) (hlen : L.length ≤ 1000000)
    (HC : ∀ k (h : k < L.length) (y : Value) (X : World), Below w.heap.size w X → y = acV L[k] → Calls Tryz.prog 119 #[y, g1] X fun e w' => e = .returned (.bool (q L[k])) ∧ Below X.heap.size X w') :
    Calls Tryz.prog 118 #[v, .func (.func 119) #[] #[g1]] w fun e w' => e = .returned (.bool (L.any q)) ∧ Below w.heap.size w w' := by
  have HK : Hid (_ : Prop) := indexAc v L g1 q w hv hlen HC
  clear hv HC
  go_enter Tryz.func118, Tryz.ntmps118
  go_wp2_with (go_at_call 157; refine Calls.mono HK.out ?_; rintro e w2 ⟨⟨n, rfl, hn⟩, hb2⟩)
  go_ret
  first | exact ⟨rfl, hb2⟩ | exact ⟨ret_bool hn, hb2⟩
set_option maxHeartbeats 1000000 in
theorem notAc (y : Value) (z : Bool) (bx : Nat) (w : World) (hy : ∃ (a : Int) (b : ByteArray) (c : Nat) (d : ByteArray), y = .agg #[.int .i64 a, .string b, .int .u32 (c : Int), .string d]) (hc : w.cell? ⟨bx, 0, none⟩ = some (.func (.func 72) #[] #[]))
    (HM : ∀ X, Below w.heap.size w X → Calls Tryz.prog 72 #[y] X fun e w' => e = .returned (.bool z) ∧ Below X.heap.size X w') :
    Calls Tryz.prog 119 #[y, .pointer (some ⟨bx, 0, none⟩)] w fun e w' => e = .returned (.bool (!z)) ∧ Below w.heap.size w w' := by
  obtain ⟨a, b, c, d, rfl⟩ := hy
  have HB : Hid (Below _ _ _) := below_box w (.cells #[.int .i64 a, .string b, .int .u32 (c : Int), .string d] 40)
  have c1 := below_cell HB.out hc
  have HK : Hid (_ : Prop) := HM _ HB.out
  clear HM hc
  go_enter Tryz.func119, Tryz.ntmps119
  go_wp2_with (go_at_call 72; refine Calls.mono HK.out ?_; rintro e w2 ⟨rfl, hb2⟩)
  go_ret
  exact ⟨rfl, HB.out.trans (hb2.mono HB.out.size)⟩
/-- all, by its closure. -/
theorem allAc (v : Value) (L : List Ac) (q : Ac → Bool) (w : World) (hv : AcAt w v L) (hlen : L.length ≤ 1000000)
    (HM : ∀ k (h : k < L.length) (y : Value) (X : World), Below w.heap.size w X → y = acV L[k] → Calls Tryz.prog 72 #[y] X fun e w' => e = .returned (.bool (q L[k])) ∧ Below X.heap.size X w') :
    Calls Tryz.prog 71 #[v, .func (.func 72) #[] #[]] w fun e w' => e = .returned (.bool (L.all q)) ∧ Below w.heap.size w w' := by
  have HB : Hid (Below _ _ _) := below_box w (.cells #[.func (.func 72) #[] #[]] 131)
  have c0 := new_cell w (.func (.func 72) #[] #[]) 131
  have HK : Hid (Calls Tryz.prog 118 #[v, .func (.func 119) #[] #[.pointer (some ⟨w.heap.size, 0, none⟩)]] (w.alloc (.cells #[.func (.func 72) #[] #[]] 131)) fun e w' => e = .returned (.bool (L.any fun x => !q x)) ∧ Below (w.alloc (.cells #[.func (.func 72) #[] #[]] 131)).heap.size (w.alloc (.cells #[.func (.func 72) #[] #[]] 131)) w') :=
    containsAc v L _ (fun x => !q x) _ (hv.below HB.out) hlen fun k h y X hX hy => notAc y (q L[k]) _ X (by exact ⟨_, _, _, _, hy⟩) (below_cell hX c0) fun Y hY => HM k h y Y (HB.out.trans ((hX.mono HB.out.size).trans (hY.mono (Nat.le_trans HB.out.size hX.size)))) hy
  have hneg : (!(L.any fun x => !q x)) = L.all q := by rw [List.not_any_eq_all_not]; simp
  clear hv HM c0
  generalize (L.any fun x => !q x) = z at *
  go_enter Tryz.func71, Tryz.ntmps71
  go_wp2_with (go_at_call 118; refine Calls.mono HK.out ?_; rintro e w2 ⟨rfl, hb2⟩)
  go_ret
  first | exact ⟨rfl, HB.out.trans (hb2.mono HB.out.size)⟩ | exact ⟨ret_bool hneg, HB.out.trans (hb2.mono HB.out.size)⟩
set_option maxHeartbeats 1000000 in
theorem notGo (y : Value) (z : Bool) (bx : Nat) (w : World) (hy : ∃ (a : Int) (b : ByteArray) (c : Nat) (d : ByteArray), y = .agg #[.int .i64 a, .string b, .int .u32 (c : Int), .string d]) (hc : w.cell? ⟨bx, 0, none⟩ = some (.func (.func 73) #[] #[]))
    (HM : ∀ X, Below w.heap.size w X → Calls Tryz.prog 73 #[y] X fun e w' => e = .returned (.bool z) ∧ Below X.heap.size X w') :
    Calls Tryz.prog 119 #[y, .pointer (some ⟨bx, 0, none⟩)] w fun e w' => e = .returned (.bool (!z)) ∧ Below w.heap.size w w' := by
  obtain ⟨a, b, c, d, rfl⟩ := hy
  have HB : Hid (Below _ _ _) := below_box w (.cells #[.int .i64 a, .string b, .int .u32 (c : Int), .string d] 40)
  have c1 := below_cell HB.out hc
  have HK : Hid (_ : Prop) := HM _ HB.out
  clear HM hc
  go_enter Tryz.func119, Tryz.ntmps119
  go_wp2_with (go_at_call 73; refine Calls.mono HK.out ?_; rintro e w2 ⟨rfl, hb2⟩)
  go_ret
  exact ⟨rfl, HB.out.trans (hb2.mono HB.out.size)⟩
/-- all, by its closure. -/
theorem allGo (v : Value) (L : List Ac) (q : Ac → Bool) (w : World) (hv : AcAt w v L) (hlen : L.length ≤ 1000000)
    (HM : ∀ k (h : k < L.length) (y : Value) (X : World), Below w.heap.size w X → y = acV L[k] → Calls Tryz.prog 73 #[y] X fun e w' => e = .returned (.bool (q L[k])) ∧ Below X.heap.size X w') :
    Calls Tryz.prog 71 #[v, .func (.func 73) #[] #[]] w fun e w' => e = .returned (.bool (L.all q)) ∧ Below w.heap.size w w' := by
  have HB : Hid (Below _ _ _) := below_box w (.cells #[.func (.func 73) #[] #[]] 131)
  have c0 := new_cell w (.func (.func 73) #[] #[]) 131
  have HK : Hid (Calls Tryz.prog 118 #[v, .func (.func 119) #[] #[.pointer (some ⟨w.heap.size, 0, none⟩)]] (w.alloc (.cells #[.func (.func 73) #[] #[]] 131)) fun e w' => e = .returned (.bool (L.any fun x => !q x)) ∧ Below (w.alloc (.cells #[.func (.func 73) #[] #[]] 131)).heap.size (w.alloc (.cells #[.func (.func 73) #[] #[]] 131)) w') :=
    containsAc v L _ (fun x => !q x) _ (hv.below HB.out) hlen fun k h y X hX hy => notGo y (q L[k]) _ X (by exact ⟨_, _, _, _, hy⟩) (below_cell hX c0) fun Y hY => HM k h y Y (HB.out.trans ((hX.mono HB.out.size).trans (hY.mono (Nat.le_trans HB.out.size hX.size)))) hy
  have hneg : (!(L.any fun x => !q x)) = L.all q := by rw [List.not_any_eq_all_not]; simp
  clear hv HM c0
  generalize (L.any fun x => !q x) = z at *
  go_enter Tryz.func71, Tryz.ntmps71
  go_wp2_with (go_at_call 118; refine Calls.mono HK.out ?_; rintro e w2 ⟨rfl, hb2⟩)
  go_ret
  first | exact ⟨rfl, HB.out.trans (hb2.mono HB.out.size)⟩ | exact ⟨ret_bool hneg, HB.out.trans (hb2.mono HB.out.size)⟩
end Go.Proofs.YthaebbmekonacaaGreatDoor
