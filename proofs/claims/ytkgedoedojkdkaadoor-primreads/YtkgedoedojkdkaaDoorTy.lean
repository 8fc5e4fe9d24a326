/-
  Addresses read: a style of every text.
-/
import Derived.Test.YtkgedoedojkdkaaDoorTsv
import Derived.Test.YtkgedoedojkdkaaDoorTs
import Derived.Laws.AppendOwn
import Derived.Test.YtkgedoedojkdkaaDoorB22
import Derived.Lib.BufferRead
import Derived.Laws.MakeOwn
set_option linter.unusedVariables false
set_option linter.unusedSimpArgs false
set_option maxRecDepth 100000
namespace Go.Proofs.YtkgedoedojkdkaaDoor
open Go.RowKit
structure EnvE (w : World) : Prop where
  t : EnvT w
  e : ErrsAt w
theorem EnvE.below {w w' : World} (h : EnvE w) (hb : Below w.heap.size w w') : EnvE w' := ⟨h.t.below hb, h.e.below hb⟩
theorem info5c : (Tryd.prog.info? 5).map (fun i => (i.zero, i.size, i.bytes)) = some (some (.int .u8 0), 1, 1) := by kernel_rfl
theorem news1 (w : World) (v : Value) (t : TypeId) : ∀ (j : Nat) (u : Value), [v][j]? = some u → (w.alloc (.cells #[v] t)).cell? (Addr.add ⟨w.heap.size, 0, none⟩ j) = some u := by
  intro j u h
  cases j with
  | zero => simp at h; subst h; simp [Addr.add]
  | succ j => simp at h
theorem slice_of_owns {w : World} {base : Nat} {e : TypeId} {size : Nat} {v : Value} {n : Nat} {xs : List Value} (h : w.ownsRow base e size v n xs) : ∃ ad c, v = .slice ad n c := by
  obtain ⟨_, h | ⟨g, cap, cur, h, _⟩⟩ := h
  · exact ⟨none, 0, by rw [h.1, h.2]⟩
  · exact ⟨_, _, h⟩
/-- Bytes in a row of their own. -/
def byV (l : List UInt8) : List Value := l.map fun c => .int .u8 (c.toNat : Int)
theorem byV_app (l : List UInt8) (c : UInt8) : byV (l ++ [c]) = byV l ++ [.int .u8 (c.toNat : Int)] := by simp [byV]
/-- All of them read. -/
def AllRd (f : List UInt8 → Option Nat) (P : List ByteArray) (ns : List Nat) (k : Nat) : Prop := ns.length = k ∧ k ≤ P.length ∧ ∀ j (h : j < ns.length) (h2 : j < P.length), f P[j].data.toList = some ns[j]
theorem AllRd.next {f : List UInt8 → Option Nat} {P : List ByteArray} {ns : List Nat} {k : Nat} (h : AllRd f P ns k) (hk : k < P.length) {n : Nat} (hn : f P[k].data.toList = some n) : AllRd f P (ns ++ [n]) (k + 1) := by
  obtain ⟨h1, h2, h3⟩ := h
  refine ⟨by simp [h1], hk, fun j hj hj2 => ?_⟩
  by_cases e : j < ns.length
  · rw [List.getElem_append_left e]; exact h3 j e hj2
  · simp at hj
    obtain rfl : j = ns.length := by omega
    rw [List.getElem_concat_length rfl]
    subst h1; exact hn
def enc1 (ns : List Nat) : List UInt8 := ns.map UInt8.ofNat
def enc2 (ns : List Nat) : List UInt8 := ns.flatMap fun n => [UInt8.ofNat (n / 256), UInt8.ofNat (n % 256)]
theorem enc1_app (ns : List Nat) (n : Nat) : enc1 (ns ++ [n]) = enc1 ns ++ [UInt8.ofNat n] := by simp [enc1]
theorem enc2_app (ns : List Nat) (n : Nat) : enc2 (ns ++ [n]) = (enc2 ns ++ [UInt8.ofNat (n / 256)]) ++ [UInt8.ofNat (n % 256)] := by simp [enc2]
theorem enc1_len (ns : List Nat) : (enc1 ns).length = ns.length := by simp [enc1]
theorem enc2_len (ns : List Nat) : (enc2 ns).length = 2 * ns.length := by
  induction ns with
  | nil => rfl
  | cons n ns ih => simp [enc2] at ih ⊢; omega
/-- What a style answers. -/
def StA (f : List UInt8 → Option Nat) (en : List Nat → List UInt8) (cnt : Nat) (P : List ByteArray) (e : Ending) : Prop :=
  (∃ ns, P.length = cnt ∧ AllRd f P ns cnt ∧ e = .returned (.tuple #[.string ⟨(en ns).toArray⟩, .bool true])) ∨
  ((P.length ≠ cnt ∨ ∃ (j : Nat) (h : j < P.length), f P[j].data.toList = none) ∧ e = .returned (.tuple #[.string ⟨#[]⟩, .bool false]))
theorem back_owned {w : World} {base : Nat} {v : Value} (l : List UInt8) (h : w.ownsRow base 5 1 v l.length (byV l)) :
    (convert 59 9 v).run Tryd.prog w = .ok (.string ⟨l.toArray⟩) w := by
  by_cases h0 : l.length = 0
  · obtain rfl : l = [] := List.length_eq_zero_iff.mp h0
    rcases h.2 with ⟨rfl, _⟩ | ⟨g, cap, cur, rfl, hg, hh, r⟩
    · exact Go.Lib.run_convert_nil_bytes (P := Tryd.prog) w 59 9 5 0 Tryd.underlying59 Tryd.underlying5 Tryd.underlying9
    · exact run_convert_bytes_back (P := Tryd.prog) w 59 9 5 ⟨g, 0, none⟩ cap [] Tryd.underlying59 Tryd.underlying5 Tryd.underlying9 (fun j hj => by simp at hj)
  · obtain ⟨g, cap, rfl, hc⟩ := owned_bytes l h0 h
    exact run_convert_bytes_back (P := Tryd.prog) w 59 9 5 ⟨g, 0, none⟩ cap l Tryd.underlying59 Tryd.underlying5 Tryd.underlying9 hc
/-- A piece is no longer than the text. -/
theorem splitB_small (c : UInt8) : ∀ (k : Nat) (s : ByteArray), ∀ x ∈ Lib.splitB ⟨#[c]⟩ 0 k s, x.size ≤ s.size
  | 0, s, x, hx => by simp [Lib.splitB] at hx; rw [hx]; exact Nat.le_refl _
  | k + 1, s, x, hx => by
    unfold Lib.splitB at hx
    split at hx
    · simp at hx; rw [hx]; exact Nat.le_refl _
    · rcases List.mem_cons.1 hx with e | e
      · rw [e]; simp; omega
      · have := splitB_small c k _ x e
        simp at this
        omega
set_option maxHeartbeats 4000000 in
theorem read4 (s : ByteArray) (hs : s.size < 140737488351233) (w : World) (hE : EnvE w) :
    Calls Tryd.prog 51 #[.agg #[.string ⟨#[46]⟩, .int .i64 4, .int .i64 1, .int .i64 10], .string s] w fun e w' => StA (fun l => rdN Lib.decDigits (o10 8 l) l) enc1 4 (Lib.splitB ⟨#[46]⟩ 0 (min 5 (s.size + 1) - 1) s) e ∧ Below w.heap.size w w' := by
  obtain ⟨i0, hi, hz0, hz1, hz2⟩ := info_parts info5c
  have HB0 : Hid (Below w.heap.size w (w.alloc (.cells #[.string ⟨#[46]⟩, .int .i64 4, .int .i64 1, .int .i64 10] 72))) := (Below.refl _ _).alloc (Nat.le_refl _) _
  have HE0 : Hid (EnvE (w.alloc (.cells #[.string ⟨#[46]⟩, .int .i64 4, .int .i64 1, .int .i64 10] 72))) := hE.below HB0.out
  have HSp : Hid (∀ (m : Int) (W : World), W.cell? ⟨3, 0, none⟩ = some (Value.int .i64 m) → _) := fun m W hm => splitN_c s 46 5 hs (by decide) (by decide) W
  have HPs : Hid (∀ x ∈ Lib.splitB ⟨#[46]⟩ 0 (min 5 (s.size + 1) - 1) s, x.size ≤ 281474976710656) := by
    intro x hx
    have := splitB_small 46 _ s x hx
    omega
  have HN : Hid (∀ x : ByteArray, x.size ≤ 281474976710656 → ∀ W, EnvE W → _) := fun x hx W h => rn8 x hx W h.e h.t.p
  have hcap : (Lib.splitB ⟨#[46]⟩ 0 (min 5 (s.size + 1) - 1) s).length ≤ min 5 (s.size + 1) := by
    have := Lib.splitB_length_le ⟨#[46]⟩ 0 (min 5 (s.size + 1) - 1) s
    omega
  have hcb : min 5 (s.size + 1) ≤ 5 := Nat.min_le_left _ _
  generalize Lib.splitB ⟨#[46]⟩ 0 (min 5 (s.size + 1) - 1) s = P at *
  generalize min 5 (s.size + 1) = cap at *
  clear hE hs
  go_enter Tryd.func51, Tryd.ntmps51
  go_wp2_with fail
  obtain ⟨m, hm⟩ := HE0.out.t.t.max
  refine (HSp.out m _ hm).mono ?_
  rintro e w1 ⟨rfl, hw1⟩
  clear HSp hm
  have HC : Hid (∀ j (h : j < P.length), w1.cell? ⟨w.heap.size + 1, j, none⟩ = some (.string P[j])) := fun j h => by
    rw [hw1]
    have hsz : (w.alloc (.cells #[.string ⟨#[46]⟩, .int .i64 4, .int .i64 1, .int .i64 10] 72)).heap.size = w.heap.size + 1 := by simp
    rw [← hsz, World.cell?_alloc_new]
    unfold Lib.cellsOf
    simp [List.getElem?_append_left, h]
  have HBx : Hid (∀ j v, (#[.string ⟨#[46]⟩, .int .i64 4, .int .i64 1, .int .i64 10] : Array Value)[j]? = some v → w1.cell? ⟨w.heap.size, j, none⟩ = some v) := fun j v h => by
    rw [hw1, World.cell?_alloc_old _ _ _ (by simp), World.cell?_alloc_new]; exact h
  have HB1 : Hid (Below w.heap.size w w1) := by unfold Hid; rw [hw1]; exact HB0.out.alloc (by simp) _
  have HE1 : Hid (EnvE w1) := by unfold Hid; rw [hw1]; exact HE0.out.below ((Below.refl _ _).alloc (Nat.le_refl _) _)
  have hsz1 : w1.heap.size = w.heap.size + 1 + 1 := by rw [hw1]; simp
  have HSZ : Hid (_ = _) := hsz1
  have c0 := HBx.out 0 _ rfl
  have c1 := HBx.out 1 _ rfl
  have c2 := HBx.out 2 _ rfl
  have c3 := HBx.out 3 _ rfl
  clear hw1 HB0 HE0 hsz1
  by_cases hlen : P.length = 4
  · have hl1 : ((P.length : Int) == 4) = true := by rw [beq_iff_eq]; omega
    have hl2 : (P.length : Int) = 4 := by omega
    have HLn : Hid (P.length = 4) := hlen
    clear hcap hcb hlen
    go_wp2_with fail
    clear c0 c1 c2 c3
    go_loopw [7, 9, 10, 11, 12, 27] (fun x7 x9 x10 x11 x12 x27 wr => ∃ (k : Nat) (ns : List Nat), x27 = .int .i64 (k : Int) ∧ k ≤ 4 ∧ AllRd (fun l => rdN Lib.decDigits (o10 8 l) l) P ns k ∧ wr.ownsRow w1.heap.size 5 1 x7 (enc1 ns).length (byV (enc1 ns)) ∧ Below w1.heap.size w1 wr) (fun _ _ _ _ _ x27 _ => 4 - (intOf x27).toNat)
    case atStart => exact ⟨0, [], rfl, Nat.zero_le _, ⟨rfl, Nat.zero_le _, fun j h => by simp at h⟩, World.ownsRow_nil _ _ _ _, Below.refl _ _⟩
    case round =>
      obtain ⟨k, ns, rfl, hk, hall, hown, hbel⟩ := hrel
      obtain ⟨ad, c, rfl⟩ := slice_of_owns hown
      have HA : Hid (AllRd _ _ _ _) := hall
      have HO : Hid (World.ownsRow _ _ _ _ _ _ _) := hown
      have HW : Hid (Below w1.heap.size w1 wr) := hbel
      have HSe : Hid (w.heap.size + 1 < w1.heap.size) := by unfold Hid; rw [HSZ.out]; omega
      have HWr : Hid (EnvE wr) := HE1.out.below hbel
      clear hall hown hbel
      have hlen4 : ns.length = k := HA.out.1
      by_cases hlt : k < 4
      · have hkP : k < P.length := by rw [HLn.out]; exact hlt
        have cw := (HW.out.cell (p := ⟨w.heap.size + 1, k, none⟩) HSe.out).trans (HC.out k hkP)
        have hlb : w.heap.size < w1.heap.size := by have := HSe.out; omega
        have d1 := (HW.out.cell (p := ⟨w.heap.size, 1, none⟩) hlb).trans (HBx.out 1 _ rfl)
        have d2 := (HW.out.cell (p := ⟨w.heap.size, 2, none⟩) hlb).trans (HBx.out 2 _ rfl)
        have d3 := (HW.out.cell (p := ⟨w.heap.size, 3, none⟩) hlb).trans (HBx.out 3 _ rfl)
        have hNx := HN.out P[k] (HPs.out _ (List.getElem_mem hkP)) wr HWr.out
        obtain ⟨o, ho⟩ : ∃ o, (fun l => rdN Lib.decDigits (o10 8 l) l) P[k].data.toList = o := ⟨_, rfl⟩
        have HF1 : Hid (o = none → ∃ (j : Nat) (h : j < P.length), (fun l => rdN Lib.decDigits (o10 8 l) l) P[j].data.toList = none) := fun e => ⟨k, hkP, ho.trans e⟩
        have HF2 : Hid (∀ n, o = some n → AllRd (fun l => rdN Lib.decDigits (o10 8 l) l) P (ns ++ [n]) (k + 1)) := fun n e => HA.out.next hkP (ho.trans e)
        have HF3 : Hid (∀ n, o = some n → n ≤ 255) := fun n e => ((rd8 P[k].data.toList).sound n (ho.trans e)).2
        simp only [] at ho
        rw [ho] at hNx
        have HNx : Hid (_ : Prop) := hNx
        clear hNx ho hlb
        generalize P[k] = word at *
        have hlti : (k : Int) < 4 := by omega
        have hlenN : Hid (ns.length = k) := hlen4
        clear hlen4
        go_wp2_with fail
        refine Calls.mono HNx.out ?_
        rintro e w2 ⟨he, hb2⟩
        have HW2 : Hid (Below w1.heap.size w1 w2) := HW.out.trans (hb2.mono HW.out.size)
        have hown2 := ownsRow_below HO.out hb2
        have hlb : w.heap.size < w1.heap.size := by have := HSe.out; omega
        have t2 := (HW2.out.cell (p := ⟨w.heap.size, 2, none⟩) hlb).trans (HBx.out 2 _ rfl)
        have hsz2 : w1.heap.size ≤ w2.heap.size := HW2.out.size
        clear hb2 d1 d2 d3 cw HO HW HWr HNx hlb
        cases o with
        | none =>
          obtain rfl : e = .returned (.tuple #[.int .u64 0, .bool false]) := he
          clear hown2 t2 hsz2
          go_wp2
          go_ret2
          exact ⟨Or.inr ⟨Or.inr (HF1.out (by trivial)), rfl⟩, HB1.out.trans (HW2.out.mono HB1.out.size)⟩
        | some n =>
          obtain rfl : e = .returned (.tuple #[.int .u64 (n : Int), .bool true]) := he
          have HAll := HF2.out n rfl
          have HA2 : Hid (AllRd _ _ _ _) := HAll
          have hn := HF3.out n rfl
          clear HAll HF1 HF2 HF3 HA
          have hlx : (enc1 ns).length ≤ 100 := by rw [enc1_len, hlenN.out]; omega
          have HBy : Hid (byV (enc1 (ns ++ [n])) = byV (enc1 ns) ++ [.int .u8 (n : Int)]) := by
            unfold Hid
            rw [enc1_app, byV_app, UInt8.toNat_ofNat', Nat.mod_eq_of_lt (by omega)]
          have HLe : Hid ((enc1 (ns ++ [n])).length = (enc1 ns).length + 1) := by unfold Hid; rw [enc1_app]; simp
          go_wp2_with fail
          refine wp_loop_rounds 2 ?_
          rw [rounds_succ]
          go_wp2_with (at_builtin; refine wpList_append_own _ rfl _ _ 59 rfl w1.heap.size 5 i0 (.int .u8 0) 1 1 Tryd.underlying59 hi hz0 hz1 hz2 rfl (by decide) _ _ _ rfl (hown2.alloc _) ⟨w2.heap.size, 0, none⟩ 1 1 [.int .u8 (n : Int)] rfl rfl (cell_new1 _ _ _) (one_u8 _) (by unfold maxLen; omega) (by omega) (by simp; omega) ?_; intro v' w3 hown3 hgrow _)
          have HW3 : Hid (Below w1.heap.size w1 w3) := (HW2.out.alloc hsz2 _).grown hgrow (by simp; omega) (fun j e => (hown2.lt j e).1)
          have HO3 : Hid (w3.ownsRow w1.heap.size 5 1 v' (enc1 (ns ++ [n])).length (byV (enc1 (ns ++ [n])))) := by unfold Hid; rw [HBy.out, HLe.out]; exact hown3
          clear hgrow hown2 hown3 t2 hsz2
          rw [rounds_succ]
          go_wp2
          go_roundw
          case rel => exact ⟨k + 1, ns ++ [n], by go_num, by omega, HA2.out, HO3.out, HW3.out⟩
          case measure => simp [intOf]; omega
      · obtain rfl : k = 4 := by omega
        have hcv := back_owned _ HO.out
        clear hlen4
        go_wp2
        go_ret2
        exact ⟨Or.inl ⟨ns, HLn.out, HA.out, rfl⟩, HB1.out.trans (HW.out.mono HB1.out.size)⟩
  · have hl1 : ((P.length : Int) == 4) = false := by rw [beq_eq_false_iff_ne]; omega
    have HL : Hid (P.length ≠ 4) := hlen
    clear hlen hi hz0 hz1 hz2 hcap hcb
    go_wp2
    go_ret2
    exact ⟨Or.inr ⟨Or.inl HL.out, rfl⟩, HB1.out⟩
set_option maxHeartbeats 4000000 in
theorem read16 (s : ByteArray) (hs : s.size < 140737488351233) (w : World) (hE : EnvE w) :
    Calls Tryd.prog 51 #[.agg #[.string ⟨#[58]⟩, .int .i64 8, .int .i64 2, .int .i64 16], .string s] w fun e w' => StA (fun l => rdN hexD (o16 l) l) enc2 8 (Lib.splitB ⟨#[58]⟩ 0 (min 9 (s.size + 1) - 1) s) e ∧ Below w.heap.size w w' := by
  obtain ⟨i0, hi, hz0, hz1, hz2⟩ := info_parts info5c
  have HB0 : Hid (Below w.heap.size w (w.alloc (.cells #[.string ⟨#[58]⟩, .int .i64 8, .int .i64 2, .int .i64 16] 72))) := (Below.refl _ _).alloc (Nat.le_refl _) _
  have HE0 : Hid (EnvE (w.alloc (.cells #[.string ⟨#[58]⟩, .int .i64 8, .int .i64 2, .int .i64 16] 72))) := hE.below HB0.out
  have HSp : Hid (∀ (m : Int) (W : World), W.cell? ⟨3, 0, none⟩ = some (Value.int .i64 m) → _) := fun m W hm => splitN_c s 58 9 hs (by decide) (by decide) W
  have HPs : Hid (∀ x ∈ Lib.splitB ⟨#[58]⟩ 0 (min 9 (s.size + 1) - 1) s, x.size ≤ 281474976710656) := by
    intro x hx
    have := splitB_small 58 _ s x hx
    omega
  have HN : Hid (∀ x : ByteArray, x.size ≤ 281474976710656 → ∀ W, EnvE W → _) := fun x hx W h => rn16 x hx W h.e h.t.d
  have hcap : (Lib.splitB ⟨#[58]⟩ 0 (min 9 (s.size + 1) - 1) s).length ≤ min 9 (s.size + 1) := by
    have := Lib.splitB_length_le ⟨#[58]⟩ 0 (min 9 (s.size + 1) - 1) s
    omega
  have hcb : min 9 (s.size + 1) ≤ 9 := Nat.min_le_left _ _
  generalize Lib.splitB ⟨#[58]⟩ 0 (min 9 (s.size + 1) - 1) s = P at *
  generalize min 9 (s.size + 1) = cap at *
  clear hE hs
  go_enter Tryd.func51, Tryd.ntmps51
  go_wp2_with fail
  obtain ⟨m, hm⟩ := HE0.out.t.t.max
  refine (HSp.out m _ hm).mono ?_
  rintro e w1 ⟨rfl, hw1⟩
  clear HSp hm
  have HC : Hid (∀ j (h : j < P.length), w1.cell? ⟨w.heap.size + 1, j, none⟩ = some (.string P[j])) := fun j h => by
    rw [hw1]
    have hsz : (w.alloc (.cells #[.string ⟨#[58]⟩, .int .i64 8, .int .i64 2, .int .i64 16] 72)).heap.size = w.heap.size + 1 := by simp
    rw [← hsz, World.cell?_alloc_new]
    unfold Lib.cellsOf
    simp [List.getElem?_append_left, h]
  have HBx : Hid (∀ j v, (#[.string ⟨#[58]⟩, .int .i64 8, .int .i64 2, .int .i64 16] : Array Value)[j]? = some v → w1.cell? ⟨w.heap.size, j, none⟩ = some v) := fun j v h => by
    rw [hw1, World.cell?_alloc_old _ _ _ (by simp), World.cell?_alloc_new]; exact h
  have HB1 : Hid (Below w.heap.size w w1) := by unfold Hid; rw [hw1]; exact HB0.out.alloc (by simp) _
  have HE1 : Hid (EnvE w1) := by unfold Hid; rw [hw1]; exact HE0.out.below ((Below.refl _ _).alloc (Nat.le_refl _) _)
  have hsz1 : w1.heap.size = w.heap.size + 1 + 1 := by rw [hw1]; simp
  have HSZ : Hid (_ = _) := hsz1
  have c0 := HBx.out 0 _ rfl
  have c1 := HBx.out 1 _ rfl
  have c2 := HBx.out 2 _ rfl
  have c3 := HBx.out 3 _ rfl
  clear hw1 HB0 HE0 hsz1
  by_cases hlen : P.length = 8
  · have hl1 : ((P.length : Int) == 8) = true := by rw [beq_iff_eq]; omega
    have hl2 : (P.length : Int) = 8 := by omega
    have HLn : Hid (P.length = 8) := hlen
    clear hcap hcb hlen
    go_wp2_with fail
    clear c0 c1 c2 c3
    go_loopw [7, 9, 10, 11, 12, 27] (fun x7 x9 x10 x11 x12 x27 wr => ∃ (k : Nat) (ns : List Nat), x27 = .int .i64 (k : Int) ∧ k ≤ 8 ∧ AllRd (fun l => rdN hexD (o16 l) l) P ns k ∧ wr.ownsRow w1.heap.size 5 1 x7 (enc2 ns).length (byV (enc2 ns)) ∧ Below w1.heap.size w1 wr) (fun _ _ _ _ _ x27 _ => 8 - (intOf x27).toNat)
    case atStart => exact ⟨0, [], rfl, Nat.zero_le _, ⟨rfl, Nat.zero_le _, fun j h => by simp at h⟩, World.ownsRow_nil _ _ _ _, Below.refl _ _⟩
    case round =>
      obtain ⟨k, ns, rfl, hk, hall, hown, hbel⟩ := hrel
      obtain ⟨ad, c, rfl⟩ := slice_of_owns hown
      have HA : Hid (AllRd _ _ _ _) := hall
      have HO : Hid (World.ownsRow _ _ _ _ _ _ _) := hown
      have HW : Hid (Below w1.heap.size w1 wr) := hbel
      have HSe : Hid (w.heap.size + 1 < w1.heap.size) := by unfold Hid; rw [HSZ.out]; omega
      have HWr : Hid (EnvE wr) := HE1.out.below hbel
      clear hall hown hbel
      have hlen4 : ns.length = k := HA.out.1
      by_cases hlt : k < 8
      · have hkP : k < P.length := by rw [HLn.out]; exact hlt
        have cw := (HW.out.cell (p := ⟨w.heap.size + 1, k, none⟩) HSe.out).trans (HC.out k hkP)
        have hlb : w.heap.size < w1.heap.size := by have := HSe.out; omega
        have d1 := (HW.out.cell (p := ⟨w.heap.size, 1, none⟩) hlb).trans (HBx.out 1 _ rfl)
        have d2 := (HW.out.cell (p := ⟨w.heap.size, 2, none⟩) hlb).trans (HBx.out 2 _ rfl)
        have d3 := (HW.out.cell (p := ⟨w.heap.size, 3, none⟩) hlb).trans (HBx.out 3 _ rfl)
        have hNx := HN.out P[k] (HPs.out _ (List.getElem_mem hkP)) wr HWr.out
        obtain ⟨o, ho⟩ : ∃ o, (fun l => rdN hexD (o16 l) l) P[k].data.toList = o := ⟨_, rfl⟩
        have HF1 : Hid (o = none → ∃ (j : Nat) (h : j < P.length), (fun l => rdN hexD (o16 l) l) P[j].data.toList = none) := fun e => ⟨k, hkP, ho.trans e⟩
        have HF2 : Hid (∀ n, o = some n → AllRd (fun l => rdN hexD (o16 l) l) P (ns ++ [n]) (k + 1)) := fun n e => HA.out.next hkP (ho.trans e)
        have HF3 : Hid (∀ n, o = some n → n ≤ 65535) := fun n e => ((rd16 P[k].data.toList).sound n (ho.trans e)).2
        simp only [] at ho
        rw [ho] at hNx
        have HNx : Hid (_ : Prop) := hNx
        clear hNx ho hlb
        generalize P[k] = word at *
        have hlti : (k : Int) < 8 := by omega
        have hlenN : Hid (ns.length = k) := hlen4
        clear hlen4
        go_wp2_with fail
        refine Calls.mono HNx.out ?_
        rintro e w2 ⟨he, hb2⟩
        have HW2 : Hid (Below w1.heap.size w1 w2) := HW.out.trans (hb2.mono HW.out.size)
        have hown2 := ownsRow_below HO.out hb2
        have hlb : w.heap.size < w1.heap.size := by have := HSe.out; omega
        have t2 := (HW2.out.cell (p := ⟨w.heap.size, 2, none⟩) hlb).trans (HBx.out 2 _ rfl)
        have hsz2 : w1.heap.size ≤ w2.heap.size := HW2.out.size
        clear hb2 d1 d2 d3 cw HO HW HWr HNx hlb
        cases o with
        | none =>
          obtain rfl : e = .returned (.tuple #[.int .u64 0, .bool false]) := he
          clear hown2 t2 hsz2
          go_wp2
          go_ret2
          exact ⟨Or.inr ⟨Or.inr (HF1.out (by trivial)), rfl⟩, HB1.out.trans (HW2.out.mono HB1.out.size)⟩
        | some n =>
          obtain rfl : e = .returned (.tuple #[.int .u64 (n : Int), .bool true]) := he
          have HAll := HF2.out n rfl
          have HA2 : Hid (AllRd _ _ _ _) := HAll
          have hn := HF3.out n rfl
          clear HAll HF1 HF2 HF3 HA
          have hlx : (enc2 ns).length ≤ 100 := by rw [enc2_len, hlenN.out]; omega
          have HBy : Hid (byV (enc2 (ns ++ [n])) = (byV (enc2 ns) ++ [.int .u8 ((n / 256 : Nat) : Int)]) ++ [.int .u8 ((n % 256 : Nat) : Int)]) := by
            unfold Hid
            rw [enc2_app, byV_app, byV_app, UInt8.toNat_ofNat', UInt8.toNat_ofNat', Nat.mod_eq_of_lt (a := n / 256) (by omega), Nat.mod_mod]
          have HLe : Hid ((enc2 (ns ++ [n])).length = (enc2 ns).length + 1 + 1) := by unfold Hid; rw [enc2_app]; simp
          have hh : IntKind.u8.wrap ((n : Int) / 256) = ((n / 256 : Nat) : Int) := by rw [IntKind.wrap_u8]; omega
          have hl : IntKind.u8.wrap (n : Int) = ((n % 256 : Nat) : Int) := by rw [IntKind.wrap_u8]; omega
          generalize n / 256 = na at *
          generalize n % 256 = nb at *
          go_wp2_with fail
          refine wp_loop_rounds 3 ?_
          rw [rounds_succ]
          go_wp2_with (at_builtin; refine wpList_append_own _ rfl _ _ 59 rfl w1.heap.size 5 i0 (.int .u8 0) 1 1 Tryd.underlying59 hi hz0 hz1 hz2 rfl (by decide) _ _ _ rfl (hown2.alloc _) ⟨w2.heap.size, 0, none⟩ 1 1 [.int .u8 (na : Int)] rfl rfl (cell_new1 _ _ _) (one_u8 _) (by unfold maxLen; omega) (by omega) (by simp; omega) ?_; intro v' w3 hown3 hgrow _)
          have HW3 : Hid (Below w1.heap.size w1 w3) := (HW2.out.alloc hsz2 _).grown hgrow (by simp; omega) (fun j e => (hown2.lt j e).1)
          have hsz3 : w1.heap.size ≤ w3.heap.size := HW3.out.size
          clear hgrow hown2 t2 hsz2 HW2
          rw [rounds_succ]
          go_wp2_with (at_builtin; refine wpList_append_own _ rfl _ _ 59 rfl w1.heap.size 5 i0 (.int .u8 0) 1 1 Tryd.underlying59 hi hz0 hz1 hz2 rfl (by decide) _ _ _ rfl (hown3.alloc _) ⟨w3.heap.size, 0, none⟩ 1 1 [.int .u8 (nb : Int)] rfl rfl (cell_new1 _ _ _) (one_u8 _) (by unfold maxLen; omega) (by omega) (by simp; omega) ?_; intro v'' w4 hown4 hgrow4 _)
          have HW4 : Hid (Below w1.heap.size w1 w4) := (HW3.out.alloc hsz3 _).grown hgrow4 (by simp; omega) (fun j e => (hown3.lt j e).1)
          have HO4 : Hid (w4.ownsRow w1.heap.size 5 1 v'' (enc2 (ns ++ [n])).length (byV (enc2 (ns ++ [n])))) := by unfold Hid; rw [HBy.out, HLe.out]; exact hown4
          clear hgrow4 hown3 hown4 hsz3
          rw [rounds_succ]
          go_wp2
          go_roundw
          case rel => exact ⟨k + 1, ns ++ [n], by go_num, by omega, HA2.out, HO4.out, HW4.out⟩
          case measure => simp [intOf]; omega
      · obtain rfl : k = 8 := by omega
        have hcv := back_owned _ HO.out
        clear hlen4
        go_wp2
        go_ret2
        exact ⟨Or.inl ⟨ns, HLn.out, HA.out, rfl⟩, HB1.out.trans (HW.out.mono HB1.out.size)⟩
  · have hl1 : ((P.length : Int) == 8) = false := by rw [beq_eq_false_iff_ne]; omega
    have HL : Hid (P.length ≠ 8) := hlen
    clear hlen hi hz0 hz1 hz2 hcap hcb
    go_wp2
    go_ret2
    exact ⟨Or.inr ⟨Or.inl HL.out, rfl⟩, HB1.out⟩
end Go.Proofs.YtkgedoedojkdkaaDoor
