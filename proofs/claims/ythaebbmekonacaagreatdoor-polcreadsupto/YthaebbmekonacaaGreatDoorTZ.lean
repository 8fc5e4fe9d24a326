/-
  Lists of conditions and of actions as texts; terms as texts.
-/
import Derived.Test.YthaebbmekonacaaGreatDoorTYC
import Derived.Deep.OwnRows
set_option linter.unusedVariables false
set_option linter.unusedSimpArgs false
set_option maxRecDepth 100000
namespace Go.Proofs.YthaebbmekonacaaGreatDoor
open Go.RowKit
/-- Words, written up to the k-th. -/
structure Wds (w wr : World) (n : Nat) (xs : List (List UInt8)) (k : Nat) : Prop where
  bel : Below w.heap.size w wr
  lt : w.heap.size < wr.heap.size
  row : ∀ j x, j < k → xs[j]? = some x → wr.cell? ⟨w.heap.size, j, none⟩ = some (.string ⟨x.toArray⟩)
  old : ∀ j, j < n → ∃ v, wr.cell? ⟨w.heap.size, j, none⟩ = some v
  fz : ∀ j, wr.frozen? ⟨w.heap.size, j, none⟩ = false
theorem Wds.below {w wr w' : World} {n : Nat} {xs : List (List UInt8)} {k : Nat} (h : Wds w wr n xs k) (hb : Below wr.heap.size wr w') : Wds w w' n xs k := by
  have hfz : ∀ j, w'.frozen? ⟨w.heap.size, j, none⟩ = false := fun j => by
    rw [← h.fz j]; unfold World.frozen?; rw [hb.block _ h.lt]
  have hc : ∀ j, w'.cell? ⟨w.heap.size, j, none⟩ = wr.cell? ⟨w.heap.size, j, none⟩ := fun j => hb.cell (p := ⟨w.heap.size, j, none⟩) h.lt
  refine ⟨h.bel.trans (hb.mono h.bel.size), Nat.lt_of_lt_of_le h.lt hb.size, fun j x hj hx => (hc _).trans (h.row j x hj hx), fun j hj => ?_, hfz⟩
  obtain ⟨v, hv⟩ := h.old j hj
  exact ⟨v, (hc _).trans hv⟩
theorem Wds.put {w wr : World} {n : Nat} {xs : List (List UInt8)} {k : Nat} (h : Wds w wr n xs k) (hk : k < n) (x : List UInt8) (hx : xs[k]? = some x) : Wds w (wr.setCell ⟨w.heap.size, k, none⟩ (.string ⟨x.toArray⟩)) n xs (k + 1) := by
  obtain ⟨v0, hv0⟩ := h.old k hk
  refine ⟨?_, by simpa using h.lt, ?_, ?_, ?_⟩
  · exact ⟨h.bel.os, h.bel.tape, h.bel.output, by simpa using h.bel.size, fun b hb => by
      rw [← h.bel.block b hb]
      simp only [World.setCell, Array.getElem?_modify]
      rw [if_neg (by omega)]⟩
  · intro j y hj hy
    by_cases e : j = k
    · subst e
      rw [hx] at hy
      injection hy with hy
      subst hy
      exact World.cell?_setCell_same _ _ _ hv0
    · rw [World.cell?_setCell_other _ _ _ _ (by intro q; injection q with _ q _; omega)]
      exact h.row j y (by omega) hy
  · intro j hj
    by_cases e : j = k
    · subst e; exact ⟨_, World.cell?_setCell_same _ _ _ hv0⟩
    · rw [World.cell?_setCell_other _ _ _ _ (by intro q; injection q with _ q _; omega)]
      exact h.old j hj
  · intro j
    rw [World.frozen?_setCell]; exact h.fz j
theorem info9 : (Tryz.prog.info? 9).map (fun i => (i.zero, i.size, i.bytes)) = some (some (.string ⟨#[]⟩), 1, 16) := by kernel_rfl
theorem mk105 (n : Nat) (hn : n ≤ 64) (w : World) : (Instr.makeSlice 105 (.int .i64 (n : Int)) (.int .i64 (n : Int))).run Tryz.prog w = .ok (.slice (some ⟨w.heap.size, 0, none⟩) n n) (w.alloc (.cells (madeCells #[.string ⟨#[]⟩] n) 9)) :=
  run_make_row' 105 9 (.string ⟨#[]⟩) 16 Tryz.underlying105 info9 rfl .i64 .i64 n (by omega) (by omega) w
theorem Wds.start (w : World) (n : Nat) (xs : List (List UInt8)) : Wds w (w.alloc (.cells (madeCells #[.string ⟨#[]⟩] n) 9)) n xs 0 := by
  refine ⟨(Below.refl _ _).alloc (Nat.le_refl _) _, by simp, fun j x hj => by omega, fun j hj => ?_, fun j => World.frozen?_alloc_new _ _ _ _⟩
  rw [World.cell?_alloc_new]
  exact ⟨_, Array.getElem?_eq_getElem (by rw [size_madeCells]; exact hj)⟩
def andT : List UInt8 := [32, 97, 110, 100, 32]
set_option maxHeartbeats 2000000 in
theorem joinedA (v : Value) (L : List Ac) (f : Ac → List UInt8) (w : World) (hv : AcAt w v L) (hlen : L.length ≤ 64) (hfl : ∀ a ∈ L, (f a).length ≤ 48)
    (HC : ∀ k (h : k < L.length) (X : World), Below w.heap.size w X → Calls Tryz.prog 42 #[acV L[k]] X fun e w' => e = .returned (.string ⟨(f L[k]).toArray⟩) ∧ Below X.heap.size X w') :
    Calls Tryz.prog 41 #[v, .func (.func 42) #[] #[]] w fun e w' => e = .returned (.string ⟨(Lib.join (L.map f) andT).toArray⟩) ∧ Below w.heap.size w w' := by
  obtain ⟨ad, b, off, cap, rfl, had, hcap, hrow⟩ := hv
  have HR : Hid (_ : Prop) := hrow
  have HCC : Hid (_ : Prop) := HC
  have hmk := mk105 L.length hlen w
  have HW : Hid (Wds w (w.alloc (.cells (madeCells #[.string ⟨#[]⟩] L.length) 9)) L.length (L.map f) 0) := Wds.start w L.length (L.map f)
  have HJ : Hid (∀ wr, Wds w wr L.length (L.map f) L.length → Calls Tryz.prog 74 #[.slice (some ⟨w.heap.size, 0, none⟩) L.length L.length, .string ⟨#[32, 97, 110, 100, 32]⟩] wr fun e w' => e = .returned (.string ⟨(Lib.join (L.map f) andT).toArray⟩) ∧ Below wr.heap.size wr w') := by
    intro wr hw
    have hmap : ((L.map fun a => (⟨(f a).toArray⟩ : ByteArray)).map (·.data.toList)) = L.map f := by rw [List.map_map]; apply List.map_congr_left; intro a _; simp
    have h := Tryz.strings_Join w.heap.size 0 L.length (L.map fun a => ⟨(f a).toArray⟩) ⟨#[32, 97, 110, 100, 32]⟩ wr (fun j x hx => by
      rw [Nat.zero_add]
      rw [List.getElem?_map] at hx
      obtain ⟨a, ha, rfl⟩ := Option.map_eq_some_iff.1 hx
      exact hw.row j (f a) (List.getElem?_eq_some_iff.1 ha).1 (by rw [List.getElem?_map, ha]; rfl)) hw.lt (by rw [List.length_map]; omega) (by rw [List.length_map]; exact Nat.le_refl _) (by
        rw [hmap]
        refine Nat.le_trans (join_le (L.map f) _ 48 ?_) ?_
        · intro y hy
          obtain ⟨a, ha, rfl⟩ := List.mem_map.1 hy
          exact hfl a ha
        · rw [List.length_map]
          show L.length * (48 + 5) ≤ _
          omega)
    rw [hmap, List.length_map] at h
    exact h
  clear hrow HC hfl
  obtain ⟨n, hn⟩ : ∃ n, L.length = n := ⟨_, rfl⟩
  have HN : Hid (L.length = n) := hn
  rw [hn] at hmk HW HJ had hcap hlen ⊢
  clear hn
  obtain ⟨xs, hxs⟩ : ∃ xs, L.map f = xs := ⟨_, rfl⟩
  have HX : Hid (_ = xs) := hxs
  rw [hxs] at HW HJ ⊢
  clear hxs
  generalize Lib.join xs andT = r at *
  go_enter Tryz.func41, Tryz.ntmps41
  go_wp2_with fail
  generalize w.alloc (.cells (madeCells #[.string ⟨#[]⟩] n) 9) = W0 at *
  clear hmk
  go_loopw [6, 7, 13] (fun x6 x7 i wr => ∃ (k : Nat), k ≤ n ∧ i = .int .i64 k ∧ Wds w wr n xs k) (fun _ _ i _ => n - (intOf i).toNat)
  case atStart => exact ⟨0, Nat.zero_le _, rfl, HW.out⟩
  case round =>
    obtain ⟨k, hk, rfl, hw⟩ := hrel
    have HB : Hid (Wds w wr n xs k) := hw
    clear hw HW
    by_cases hlt : k < n
    · obtain rfl : ad = some ⟨b, off, none⟩ := by
        rcases had with h | h
        · exact h
        · omega
      have k1 : k < L.length := by rw [HN.out]; exact hlt
      have c0 := below_cell HB.out.bel (HR.out k k1).1
      have c1 := below_cell HB.out.bel (HR.out k k1).2.1
      have c2 := below_cell HB.out.bel (HR.out k k1).2.2.1
      have c3 := below_cell HB.out.bel (HR.out k k1).2.2.2
      have HQ : Hid (xs[k]? = some (f L[k])) := by unfold Hid; rw [← HX.out, List.getElem?_map, List.getElem?_eq_getElem k1]; rfl
      have HK : Hid (∀ X, Below w.heap.size w X → Calls Tryz.prog 42 #[.agg #[.int .i64 L[k].k, .string L[k].nm, .int .u32 (L[k].n : Int), .string L[k].ad]] X fun e w' => e = .returned (.string ⟨(f L[k]).toArray⟩) ∧ Below X.heap.size X w') := fun X hX => HCC.out k k1 X hX
      generalize f L[k] = t at *
      generalize L[k].k = xk at *
      generalize L[k].nm = xnm at *
      generalize L[k].n = xn at *
      generalize L[k].ad = xad at *
      have HA : Hid (∀ A, Below wr.heap.size wr (wr.alloc (.cells A 40))) := fun A => (Below.refl _ _).alloc (Nat.le_refl _) _
      clear k1
      go_wp2_with (go_at_call 42; refine Calls.mono (HK.out _ (HB.out.bel.trans ((HA.out _).mono HB.out.bel.size))) ?_; rintro e w2 ⟨rfl, hb2⟩; have HB2 : Hid (Wds w w2 n xs k) := (HB.out.below (HA.out _)).below hb2; obtain ⟨v0, hv0⟩ := HB2.out.old k hlt; have hz := HB2.out.fz k)
      go_roundw
      case rel => exact ⟨k + 1, by omega, by go_num, HB2.out.put hlt _ HQ.out⟩
      case measure => simp [intOf]; omega
    · obtain rfl : k = n := by omega
      go_wp2_with fail
      refine Calls.mono (HJ.out _ HB.out) ?_
      rintro e w2 ⟨rfl, hb2⟩
      go_wp2
      go_ret
      exact ⟨rfl, HB.out.bel.trans (hb2.mono HB.out.bel.size)⟩
set_option maxHeartbeats 2000000 in
theorem joinedC (v : Value) (L : List Cd) (f : Cd → List UInt8) (w : World) (hv : CdAt w v L) (hlen : L.length ≤ 64) (hfl : ∀ a ∈ L, (f a).length ≤ 48)
    (HC : ∀ k (h : k < L.length) (X : World), Below w.heap.size w X → Calls Tryz.prog 44 #[cdV L[k]] X fun e w' => e = .returned (.string ⟨(f L[k]).toArray⟩) ∧ Below X.heap.size X w') :
    Calls Tryz.prog 43 #[v, .func (.func 44) #[] #[]] w fun e w' => e = .returned (.string ⟨(Lib.join (L.map f) andT).toArray⟩) ∧ Below w.heap.size w w' := by
  obtain ⟨ad, b, off, cap, rfl, had, hcap, hrow⟩ := hv
  have HR : Hid (_ : Prop) := hrow
  have HCC : Hid (_ : Prop) := HC
  have hmk := mk105 L.length hlen w
  have HW : Hid (Wds w (w.alloc (.cells (madeCells #[.string ⟨#[]⟩] L.length) 9)) L.length (L.map f) 0) := Wds.start w L.length (L.map f)
  have HJ : Hid (∀ wr, Wds w wr L.length (L.map f) L.length → Calls Tryz.prog 74 #[.slice (some ⟨w.heap.size, 0, none⟩) L.length L.length, .string ⟨#[32, 97, 110, 100, 32]⟩] wr fun e w' => e = .returned (.string ⟨(Lib.join (L.map f) andT).toArray⟩) ∧ Below wr.heap.size wr w') := by
    intro wr hw
    have hmap : ((L.map fun a => (⟨(f a).toArray⟩ : ByteArray)).map (·.data.toList)) = L.map f := by rw [List.map_map]; apply List.map_congr_left; intro a _; simp
    have h := Tryz.strings_Join w.heap.size 0 L.length (L.map fun a => ⟨(f a).toArray⟩) ⟨#[32, 97, 110, 100, 32]⟩ wr (fun j x hx => by
      rw [Nat.zero_add]
      rw [List.getElem?_map] at hx
      obtain ⟨a, ha, rfl⟩ := Option.map_eq_some_iff.1 hx
      exact hw.row j (f a) (List.getElem?_eq_some_iff.1 ha).1 (by rw [List.getElem?_map, ha]; rfl)) hw.lt (by rw [List.length_map]; omega) (by rw [List.length_map]; exact Nat.le_refl _) (by
        rw [hmap]
        refine Nat.le_trans (join_le (L.map f) _ 48 ?_) ?_
        · intro y hy
          obtain ⟨a, ha, rfl⟩ := List.mem_map.1 hy
          exact hfl a ha
        · rw [List.length_map]
          show L.length * (48 + 5) ≤ _
          omega)
    rw [hmap, List.length_map] at h
    exact h
  clear hrow HC hfl
  obtain ⟨n, hn⟩ : ∃ n, L.length = n := ⟨_, rfl⟩
  have HN : Hid (L.length = n) := hn
  rw [hn] at hmk HW HJ had hcap hlen ⊢
  clear hn
  obtain ⟨xs, hxs⟩ : ∃ xs, L.map f = xs := ⟨_, rfl⟩
  have HX : Hid (_ = xs) := hxs
  rw [hxs] at HW HJ ⊢
  clear hxs
  generalize Lib.join xs andT = r at *
  go_enter Tryz.func43, Tryz.ntmps43
  go_wp2_with fail
  generalize w.alloc (.cells (madeCells #[.string ⟨#[]⟩] n) 9) = W0 at *
  clear hmk
  go_loopw [6, 7, 13] (fun x6 x7 i wr => ∃ (k : Nat), k ≤ n ∧ i = .int .i64 k ∧ Wds w wr n xs k) (fun _ _ i _ => n - (intOf i).toNat)
  case atStart => exact ⟨0, Nat.zero_le _, rfl, HW.out⟩
  case round =>
    obtain ⟨k, hk, rfl, hw⟩ := hrel
    have HB : Hid (Wds w wr n xs k) := hw
    clear hw HW
    by_cases hlt : k < n
    · obtain rfl : ad = some ⟨b, off, none⟩ := by
        rcases had with h | h
        · exact h
        · omega
      have k1 : k < L.length := by rw [HN.out]; exact hlt
      have c0 := below_cell HB.out.bel (HR.out k k1).1
      have c1 := below_cell HB.out.bel (HR.out k k1).2.1
      have c2 := below_cell HB.out.bel (HR.out k k1).2.2.1
      have c3 := below_cell HB.out.bel (HR.out k k1).2.2.2
      have HQ : Hid (xs[k]? = some (f L[k])) := by unfold Hid; rw [← HX.out, List.getElem?_map, List.getElem?_eq_getElem k1]; rfl
      have HK : Hid (∀ X, Below w.heap.size w X → Calls Tryz.prog 44 #[.agg #[.int .i64 L[k].k, .bool L[k].nt, .string L[k].nm, .int .i64 L[k].n]] X fun e w' => e = .returned (.string ⟨(f L[k]).toArray⟩) ∧ Below X.heap.size X w') := fun X hX => HCC.out k k1 X hX
      generalize f L[k] = t at *
      generalize L[k].k = xk at *
      generalize L[k].nt = xnt at *
      generalize L[k].nm = xnm at *
      generalize L[k].n = xn at *
      have HA : Hid (∀ A, Below wr.heap.size wr (wr.alloc (.cells A 37))) := fun A => (Below.refl _ _).alloc (Nat.le_refl _) _
      clear k1
      go_wp2_with (go_at_call 44; refine Calls.mono (HK.out _ (HB.out.bel.trans ((HA.out _).mono HB.out.bel.size))) ?_; rintro e w2 ⟨rfl, hb2⟩; have HB2 : Hid (Wds w w2 n xs k) := (HB.out.below (HA.out _)).below hb2; obtain ⟨v0, hv0⟩ := HB2.out.old k hlt; have hz := HB2.out.fz k)
      go_roundw
      case rel => exact ⟨k + 1, by omega, by go_num, HB2.out.put hlt _ HQ.out⟩
      case measure => simp [intOf]; omega
    · obtain rfl : k = n := by omega
      go_wp2_with fail
      refine Calls.mono (HJ.out _ HB.out) ?_
      rintro e w2 ⟨rfl, hb2⟩
      go_wp2
      go_ret
      exact ⟨rfl, HB.out.bel.trans (hb2.mono HB.out.bel.size)⟩
/-- A term's text. -/
def tT (T : Tm) : List UInt8 := (if T.cs = [] then [] else [105, 102, 32] ++ (Lib.join (T.cs.map cT) andT ++ [32])) ++ ([116, 104, 101, 110, 32] ++ Lib.join (T.acs.map aT) andT)
theorem join_cs (L : List Cd) (hl : L.length ≤ 64) (h : ∀ c ∈ L, okC c = true) : (Lib.join (L.map cT) andT).length ≤ 10000 := by
  refine Nat.le_trans (join_le _ _ 27 ?_) ?_
  · intro y hy
    obtain ⟨a, ha, rfl⟩ := List.mem_map.1 hy
    exact cT_len a (h a ha)
  · rw [List.length_map]
    show L.length * (27 + 5) ≤ _
    omega
theorem join_as (L : List Ac) (hl : L.length ≤ 64) (h : ∀ c ∈ L, okA' c = true) (hn : ∀ c ∈ L, c.n < 4294967296) : (Lib.join (L.map aT) andT).length ≤ 10000 := by
  refine Nat.le_trans (join_le _ _ 48 ?_) ?_
  · intro y hy
    obtain ⟨a, ha, rfl⟩ := List.mem_map.1 hy
    exact aT_len a (h a ha) (hn a ha)
  · rw [List.length_map]
    show L.length * (48 + 5) ≤ _
    omega
theorem ok_term {T : Tm} (h : okT T = true) : T.cs.length ≤ 64 ∧ 1 ≤ T.acs.length ∧ T.acs.length ≤ 64 ∧ (∀ c ∈ T.cs, okC c = true) ∧ (∀ a ∈ T.acs, okA' a = true) ∧ (∀ a ∈ T.acs.dropLast, goB a = true) := by
  unfold okT at h
  simp only [Bool.and_eq_true, decide_eq_true_eq, List.all_eq_true] at h
  exact ⟨h.1.1, h.1.2.1, h.1.2.2, h.2.1, h.2.2.1, h.2.2.2⟩
/-- What TermText answers. -/
def ttE (T : Tm) : Int := if okT T then 0 else 2
def ttS (T : Tm) : List UInt8 := if okT T then tT T else []
set_option maxHeartbeats 2000000 in
theorem termText_any (v : Value) (T : Tm) (w : World) (he : EnvX w) (hv : TmAt w v T) (hs : SmT T) (hn : ∀ a ∈ T.acs, a.n < 4294967296) : Calls Tryz.prog 20 #[v] w fun e w' => e = .returned (.tuple #[.string ⟨(ttS T).toArray⟩, .int .i64 (ttE T)]) ∧ Below w.heap.size w w' := by
  have HM : Hid (∀ X, Below w.heap.size w X → Calls Tryz.prog 40 #[v] X fun e w' => e = .returned (.bool (okT T)) ∧ Below X.heap.size X w') := fun X hX => mayTerm_any v T X (he.below hX).e (hv.below hX) hs
  have HE1 : Hid (ttE T = if okT T then 0 else 2) := rfl
  have HE2 : Hid (ttS T = if okT T then tT T else []) := rfl
  have HO : Hid (okT T = true → _) := ok_term
  have HT : Hid (tT T = (if T.cs = [] then [] else [105, 102, 32] ++ (Lib.join (T.cs.map cT) andT ++ [32])) ++ ([116, 104, 101, 110, 32] ++ Lib.join (T.acs.map aT) andT)) := rfl
  obtain ⟨vc, va, rfl, hc, ha⟩ := hv
  obtain ⟨cs, acs⟩ := T
  dsimp only at hc ha HO HT hn
  have hc0 := hc
  have ha0 := ha
  obtain ⟨adc, capc, rfl⟩ := hc.len
  obtain ⟨ada, capa, rfl⟩ := ha.len
  have HB : Hid (Below _ _ _) := below_box w (.cells #[.slice adc cs.length capc, .slice ada acs.length capa] 63)
  generalize ttE ⟨cs, acs⟩ = re at *
  generalize ttS ⟨cs, acs⟩ = rs at *
  generalize tT ⟨cs, acs⟩ = tx at *
  cases hz : okT ⟨cs, acs⟩
  · rw [hz] at HM HE1 HE2
    clear hc ha hs he HO HT hn hc0 ha0
    generalize cs.length = n1 at *
    generalize acs.length = n2 at *
    go_enter Tryz.func20, Tryz.ntmps20
    go_wp2_with (go_at_call 40; refine Calls.mono (HM.out _ HB.out) ?_; rintro e w2 ⟨rfl, hb2⟩)
    go_ret2
    exact ⟨by rw [HE1.out, HE2.out]; rfl, HB.out.trans (hb2.mono HB.out.size)⟩
  · obtain ⟨o1, o2, o3, o4, o5, _⟩ := HO.out hz
    rw [hz] at HM
    have HE1 : Hid (re = 0) := HE1.out.trans (by rw [hz]; rfl)
    have HE2 : Hid (rs = tx) := HE2.out.trans (by rw [hz]; rfl)
    have HA : Hid (∀ X, Below w.heap.size w X → Calls Tryz.prog 41 #[.slice ada acs.length capa, .func (.func 42) #[] #[]] X fun e w' => e = .returned (.string ⟨(Lib.join (acs.map aT) andT).toArray⟩) ∧ Below X.heap.size X w') := fun X hX => joinedA _ acs aT X (ha.below hX) o3 (fun a h => aT_len a (o5 a h) (hn a h)) fun k hk Y hY => actionText_any _ (o5 _ (List.getElem_mem hk)) (hn _ (List.getElem_mem hk)) Y (he.below (hX.trans (hY.mono hX.size)))
    have HC : Hid (∀ X, Below w.heap.size w X → Calls Tryz.prog 43 #[.slice adc cs.length capc, .func (.func 44) #[] #[]] X fun e w' => e = .returned (.string ⟨(Lib.join (cs.map cT) andT).toArray⟩) ∧ Below X.heap.size X w') := fun X hX => joinedC _ cs cT X (hc.below hX) o1 (fun a h => Nat.le_trans (cT_len a (o4 a h)) (by decide)) fun k hk Y hY => condText_any _ (o4 _ (List.getElem_mem hk)) Y (he.below (hX.trans (hY.mono hX.size)))
    have hla := join_as acs o3 o5 hn
    have hlc := join_cs cs o1 o4
    have HZ : Hid (cs = [] ↔ ¬ 0 < cs.length) := by unfold Hid; rw [List.length_pos_iff]; simp
    have HX : Hid (∀ X, Below (w.alloc (.cells #[.slice adc cs.length capc, .slice ada acs.length capa] 63)).heap.size (w.alloc (.cells #[.slice adc cs.length capc, .slice ada acs.length capa] 63)) X → X.cell? ⟨w.heap.size, 0, none⟩ = some (.slice adc cs.length capc) ∧ X.cell? ⟨w.heap.size, 1, none⟩ = some (.slice ada acs.length capa)) := fun X hX => ⟨below_cell hX (by rw [World.cell?_alloc_new]; rfl), below_cell hX (by rw [World.cell?_alloc_new]; rfl)⟩
    clear hc ha hs he HO hn hc0 ha0 o4 o5 hz
    generalize Lib.join (acs.map aT) andT = A at *
    generalize Lib.join (cs.map cT) andT = C at *
    have a1 : ∀ W, (Op.stringOp .add (⟨#[116, 104, 101, 110, 32]⟩ : ByteArray) ⟨A.toArray⟩).run Tryz.prog W = .ok (.string ⟨([116, 104, 101, 110, 32] ++ A).toArray⟩) W := fun W => add_l [116, 104, 101, 110, 32] A (by simp; omega) W
    have h1 : ([116, 104, 101, 110, 32] ++ A).length ≤ 10005 := by simp; omega
    generalize [116, 104, 101, 110, 32] ++ A = A1 at *
    have a2 : ∀ W, (Op.stringOp .add (⟨#[105, 102, 32]⟩ : ByteArray) ⟨C.toArray⟩).run Tryz.prog W = .ok (.string ⟨([105, 102, 32] ++ C).toArray⟩) W := fun W => add_l [105, 102, 32] C (by simp; omega) W
    have h2 : ([105, 102, 32] ++ C).length ≤ 10003 := by simp; omega
    rw [← List.append_assoc [105, 102, 32] C [32]] at HT
    generalize [105, 102, 32] ++ C = C1 at *
    have a3 : ∀ W, (Op.stringOp .add (⟨C1.toArray⟩ : ByteArray) ⟨#[32]⟩).run Tryz.prog W = .ok (.string ⟨(C1 ++ [32]).toArray⟩) W := fun W => add_l C1 [32] (by simp; omega) W
    have h3 : (C1 ++ [32]).length ≤ 10004 := by simp; omega
    generalize C1 ++ [32] = C2 at *
    have a4 := add_l C2 A1 (by omega)
    clear h1 h2 h3 hla hlc
    by_cases hcs : 0 < cs.length
    · have hcs' : (0 : Int) < (cs.length : Int) := by omega
      rw [if_neg (fun e => (HZ.out.1 e) hcs)] at HT
      clear HZ
      generalize cs.length = n1 at *
      generalize acs.length = n2 at *
      go_enter Tryz.func20, Tryz.ntmps20
      go_wp2_with (go_at_call 40; refine Calls.mono (HM.out _ HB.out) ?_; rintro e w2 ⟨rfl, hb2⟩; obtain ⟨c0, c1⟩ := HX.out w2 hb2; have HB2 : Hid (Below w.heap.size w w2) := HB.out.trans (hb2.mono HB.out.size))
      refine Calls.mono (HA.out _ HB2.out) ?_
      rintro e w3 ⟨rfl, hb3⟩
      have c0 := below_cell hb3 c0
      have HB3 : Hid (Below w.heap.size w w3) := HB2.out.trans (hb3.mono HB2.out.size)
      clear c1 hb3
      go_wp2_with fail
      refine Calls.mono (HC.out _ HB3.out) ?_
      rintro e w4 ⟨rfl, hb4⟩
      go_wp2
      go_ret2
      exact ⟨by rw [HE1.out, HE2.out, HT.out]; rfl, HB3.out.trans (hb4.mono HB3.out.size)⟩
    · have hcs' : ¬ (0 : Int) < (cs.length : Int) := by omega
      rw [if_pos (HZ.out.2 hcs), List.nil_append] at HT
      clear HZ
      generalize cs.length = n1 at *
      generalize acs.length = n2 at *
      go_enter Tryz.func20, Tryz.ntmps20
      go_wp2_with (go_at_call 40; refine Calls.mono (HM.out _ HB.out) ?_; rintro e w2 ⟨rfl, hb2⟩; obtain ⟨c0, c1⟩ := HX.out w2 hb2; have HB2 : Hid (Below w.heap.size w w2) := HB.out.trans (hb2.mono HB.out.size))
      refine Calls.mono (HA.out _ HB2.out) ?_
      rintro e w3 ⟨rfl, hb3⟩
      have c0 := below_cell hb3 c0
      have HB3 : Hid (Below w.heap.size w w3) := HB2.out.trans (hb3.mono HB2.out.size)
      clear c1 hb3
      go_wp2
      go_ret2
      exact ⟨by rw [HE1.out, HE2.out, HT.out]; rfl, HB3.out⟩
end Go.Proofs.YthaebbmekonacaaGreatDoor
