/-
  PrimKnown answers true: the chapter's examples.
-/
import Derived.Test.YtkgedoedojkdkabDoorTcf
import Derived.Test.YtkgedoedojkdkabDoorB25
import Derived.Laws.StructEq
set_option linter.unusedVariables false
set_option linter.unusedSimpArgs false
set_option maxRecDepth 100000
namespace Go.Proofs.YtkgedoedojkdkabDoor
open Go.RowKit
def gL : List (List UInt8) := [[118, 52, 32, 49, 48, 46, 48, 46, 48, 46, 48, 47, 56], [118, 54, 32, 49, 58, 48, 58, 48, 58, 48, 58, 48, 58, 48, 58, 48, 58, 48, 47, 51, 50], [108, 52, 32, 48, 46, 48, 46, 48, 46, 48, 47, 48], [118, 112, 110, 54, 32, 49, 56, 52, 52, 54, 55, 52, 52, 48, 55, 51, 55, 48, 57, 53, 53, 49, 54, 49, 53, 32, 48, 58, 48, 58, 48, 58, 48, 58, 48, 58, 48, 58, 48, 58, 48, 47, 48], [118, 52, 32, 50, 53, 53, 46, 50, 53, 53, 46, 50, 53, 53, 46, 50, 53, 53, 47, 51, 50]]
def nL : List (List UInt8) := [[118, 52, 32, 49, 48, 46, 48, 46, 48, 46, 49, 47, 56], [118, 52, 32, 49, 48, 46, 48, 46, 48, 46, 48, 47, 51, 51], [118, 52, 32, 48, 49, 48, 46, 48, 46, 48, 46, 48, 47, 56], [118, 53, 32, 49, 48, 46, 48, 46, 48, 46, 48, 47, 56], [118, 112, 110, 52, 32, 49, 48, 46, 48, 46, 48, 46, 48, 47, 56], [118, 52, 32, 55, 32, 49, 48, 46, 48, 46, 48, 46, 48, 47, 56], [118, 54, 32, 49, 48, 46, 48, 46, 48, 46, 48, 47, 56], [118, 52, 32, 49, 48, 46, 48, 46, 48, 46, 48], [118, 52, 32, 49, 48, 46, 48, 46, 48, 46, 48, 47, 56, 32], [], [118, 112, 110, 52, 32, 49, 56, 52, 52, 54, 55, 52, 52, 48, 55, 51, 55, 48, 57, 53, 53, 49, 54, 49, 54, 32, 49, 48, 46, 48, 46, 48, 46, 48, 47, 56], [118, 52, 32, 49, 48, 46, 48, 46, 48, 46, 48, 47, 48, 56]]
def aL : List (List UInt8) := [[49, 46, 50, 46, 51], [50, 53, 54, 46, 48, 46, 48, 46, 48], [48, 58, 48, 58, 48, 58, 48, 58, 48, 58, 48, 58, 48, 58, 71], [48, 48, 58, 48, 58, 48, 58, 48, 58, 48, 58, 48, 58, 48, 58, 48], [], [48, 58, 48, 58, 48, 58, 48, 58, 48, 58, 48, 58, 48, 58, 49, 48, 48, 48, 48], [58, 58, 49], [49, 46, 50, 46, 51, 46, 52, 46, 53]]
theorem g_all : gL.all (fun x => (pfC x).isSome) = true := by decide +kernel
theorem n_all : nL.all (fun x => (pfC x).isNone) = true := by decide +kernel
theorem a_all : aL.all (fun x => (adC x).isNone) = true := by decide +kernel
theorem g_len : gL.all (fun x => decide (x.length ≤ 100)) = true ∧ nL.all (fun x => decide (x.length ≤ 100)) = true ∧ aL.all (fun x => decide (x.length ≤ 100)) = true := by decide +kernel
theorem g_is {x : List UInt8} (h : x ∈ gL) : x.length ≤ 100 ∧ ∃ f r b k, (∀ o, PfP o x → o = some (f, r, b, k)) ∧ r < 18446744073709551616 ∧ chk f (r : Nat) b k = 0 ∧ x = pfT f r b k.toNat := by
  refine ⟨of_decide_eq_true (List.all_eq_true.1 g_len.1 x h), ?_⟩
  have h1 := List.all_eq_true.1 g_all x h
  cases hp : pfC x with
  | none => rw [hp] at h1; cases h1
  | some q =>
    obtain ⟨f, r, b, k⟩ := q
    have hP := pfC_P x
    rw [hp] at hP
    obtain ⟨q1, q2, q3⟩ := hP.sound f r b k rfl
    exact ⟨f, r, b, k, fun o ho => ho.one hP, q1, q2, q3⟩
theorem n_is {x : List UInt8} (h : x ∈ nL) : x.length ≤ 100 ∧ ∀ o, PfP o x → o = none := by
  refine ⟨of_decide_eq_true (List.all_eq_true.1 g_len.2.1 x h), fun o ho => ?_⟩
  have h1 := List.all_eq_true.1 n_all x h
  rw [ho.one (pfC_P x)]
  exact Option.isNone_iff_eq_none.1 h1
theorem a_is {x : List UInt8} (h : x ∈ aL) : x.length ≤ 100 ∧ ∀ o, AdP o x → o = none := by
  refine ⟨of_decide_eq_true (List.all_eq_true.1 g_len.2.2 x h), fun o ho => ?_⟩
  have h1 := List.all_eq_true.1 a_all x h
  rw [ho.one (adC_P x)]
  exact Option.isNone_iff_eq_none.1 h1
/-- What lies in memory while a list of texts is gone through. -/
structure KnW (w : World) (g : Nat) (X : List (List UInt8)) (wr : World) : Prop where
  e : EnvE wr
  b : Below w.heap.size w wr
  r : ∀ k x, X[k]? = some x → wr.cell? ⟨g, k, none⟩ = some (.string ⟨x.toArray⟩)
  g : g < wr.heap.size
theorem KnW.next {w : World} {g : Nat} {X : List (List UInt8)} {wr w' : World} (h : KnW w g X wr) (hb : Below wr.heap.size wr w') : KnW w g X w' :=
  ⟨h.e.below hb, h.b.trans (hb.mono h.b.size), fun k x hx => (hb.cell (p := ⟨g, k, none⟩) h.g).trans (h.r k x hx), Nat.lt_of_lt_of_le h.g hb.size⟩
theorem KnW.start {w wr : World} (he : EnvE wr) (hb : Below w.heap.size w wr) (X : List (List UInt8)) (C : Array Value) (hC : C = (X.map fun x => Value.string ⟨x.toArray⟩).toArray) : KnW w wr.heap.size X (wr.alloc (.cells C 9)) := by
  subst hC
  refine ⟨he.below ((Below.refl _ _).alloc (Nat.le_refl _) _), hb.alloc hb.size _, fun k x hx => ?_, by simp⟩
  rw [World.cell?_alloc_new]
  simp [hx]
def tenS : ByteArray := ⟨#[10, 1, 0, 0]⟩
structure KE (w : World) (bp bq : Nat) (wr : World) : Prop where
  e : EnvE wr
  b : Below w.heap.size w wr
  p : PfxAt wr bp 1 0 ⟨#[10, 1, 0, 0]⟩ 16
  q : PfxAt wr bq 3 0 ⟨#[10, 1, 0, 0]⟩ 16
theorem KE.next {w : World} {bp bq : Nat} {wr w' : World} (h : KE w bp bq wr) (hb : Below wr.heap.size wr w') : KE w bp bq w' :=
  ⟨h.e.below hb, h.b.trans (hb.mono h.b.size), h.p.kept hb (lt_of_cell h.p.c0), h.q.kept hb (lt_of_cell h.q.c0)⟩
theorem p_is (o : Option (Int × Nat × ByteArray × Int)) (h : PfP o [118, 52, 32, 49, 48, 46, 49, 46, 48, 46, 48, 47, 49, 54]) : o = some (1, 0, ⟨#[10, 1, 0, 0]⟩, 16) := h.full 1 0 ⟨#[10, 1, 0, 0]⟩ 16 (by decide) (by decide +kernel) (by decide +kernel)
theorem q_is (o : Option (Int × Nat × ByteArray × Int)) (h : PfP o [108, 52, 32, 49, 48, 46, 49, 46, 48, 46, 48, 47, 49, 54]) : o = some (3, 0, ⟨#[10, 1, 0, 0]⟩, 16) := h.full 3 0 ⟨#[10, 1, 0, 0]⟩ 16 (by decide) (by decide +kernel) (by decide +kernel)
set_option maxHeartbeats 8000000 in
theorem known_walk (w : World) (hE : EnvE w) : Calls Tryd.prog 3 #[] w fun e w' => e = .returned (.bool true) ∧ Below w.heap.size w w' := by
  have H4 : Hid (∀ (x : List UInt8), x.length ≤ 100 → ∀ W, EnvE W → _) := fun x hx W h => parse_any x (by omega) W h
  have H5 : Hid (∀ (f : Int) (r : Nat) (hr : r < 18446744073709551616) (s : ByteArray) (l : Int) W, EnvT W → _) := fun f r hr s l W h => text_any f r hr s l W h
  have H6 : Hid (∀ (x : List UInt8), x.length ≤ 100 → ∀ W, EnvE W → _) := fun x hx W h => addrL x (by omega) W h
  have K1 : Hid (KnW w w.heap.size gL _) := KnW.start hE (Below.refl _ _) gL #[.string ⟨#[118, 52, 32, 49, 48, 46, 48, 46, 48, 46, 48, 47, 56]⟩, .string ⟨#[118, 54, 32, 49, 58, 48, 58, 48, 58, 48, 58, 48, 58, 48, 58, 48, 58, 48, 47, 51, 50]⟩, .string ⟨#[108, 52, 32, 48, 46, 48, 46, 48, 46, 48, 47, 48]⟩, .string ⟨#[118, 112, 110, 54, 32, 49, 56, 52, 52, 54, 55, 52, 52, 48, 55, 51, 55, 48, 57, 53, 53, 49, 54, 49, 53, 32, 48, 58, 48, 58, 48, 58, 48, 58, 48, 58, 48, 58, 48, 58, 48, 47, 48]⟩, .string ⟨#[118, 52, 32, 50, 53, 53, 46, 50, 53, 53, 46, 50, 53, 53, 46, 50, 53, 53, 47, 51, 50]⟩] rfl
  have HLg : Hid (gL.length = 5) := rfl
  have HLn : Hid (nL.length = 12) := rfl
  have HLa : Hid (aL.length = 8) := rfl
  clear hE
  go_enter Tryd.func3, Tryd.ntmps3
  go_wp2_with fail
  refine with_world (fun wx => KnW w w.heap.size gL wx) K1.out ?_
  intro wa K2
  have KA : Hid (KnW w w.heap.size gL wa) := K2
  clear K1 K2
  go_loopw [28] (fun i wr => ∃ k : Nat, i = .int .i64 (k : Int) ∧ k ≤ 5 ∧ KnW w w.heap.size gL wr) (fun i _ => 5 - (intOf i).toNat)
  case atStart => exact ⟨0, rfl, by omega, KA.out⟩
  case round =>
    obtain ⟨k, rfl, hk, hK⟩ := hrel
    have HK : Hid (KnW _ _ _ _) := hK
    clear hK KA
    by_cases hlt : k < 5
    · obtain ⟨x, hx⟩ : ∃ x, gL[k]? = some x := ⟨gL[k]'(by rw [HLg.out]; exact hlt), List.getElem?_eq_getElem _⟩
      have cw := HK.out.r k x hx
      obtain ⟨hx1, f, r, b, m, ho, hr, hc, ht⟩ := g_is (List.mem_of_getElem? hx)
      have HO : Hid (∀ o, PfP o x → o = some (f, r, b, m)) := ho
      have HT : Hid (∀ W, EnvT W → _) := fun W h => H5.out f r hr b m W h
      rw [hc, show txA f r b m = ⟨x.toArray⟩ by unfold txA; rw [if_pos hc, ← ht]] at HT
      have hlti : (k : Int) < 5 := by omega
      have HX1 : Hid (x.length ≤ 100) := hx1
      clear hx ho hr hc ht hx1
      go_wp2_with fail
      refine Calls.mono (H4.out x HX1.out _ HK.out.e) ?_
      rintro e w1 ⟨⟨o, ho, he⟩, hb1⟩
      obtain rfl := HO.out o ho
      obtain rfl : e = .returned (.tuple #[.agg #[.int .i64 f, .int .u64 (r : Int), .string b, .int .i64 m], .int .i64 0]) := he
      have HK1 : Hid (KnW w w.heap.size gL w1) := HK.out.next hb1
      have HA1 : Hid (∀ A, Below w1.heap.size w1 (w1.alloc (.cells A 25))) := fun A => (Below.refl _ _).alloc (Nat.le_refl _) _
      clear hb1 ho HO HK cw
      go_wp2_with fail
      refine Calls.mono (HT.out _ (HK1.out.next (HA1.out _)).e.t) ?_
      rintro e w2 ⟨rfl, hb2⟩
      have HK2 : Hid (KnW w w.heap.size gL w2) := (HK1.out.next (HA1.out _)).next hb2
      clear hb2 HK1 HA1 HT
      generalize (⟨x.toArray⟩ : ByteArray) = xs at *
      go_wp2
      go_roundw
      case rel => exact ⟨k + 1, by go_num, by omega, HK2.out⟩
      case measure => simp [intOf]; omega
    · obtain rfl : k = 5 := by omega
      have K3 : Hid (KnW w wr.heap.size nL _) := KnW.start HK.out.e HK.out.b nL #[.string ⟨#[118, 52, 32, 49, 48, 46, 48, 46, 48, 46, 49, 47, 56]⟩, .string ⟨#[118, 52, 32, 49, 48, 46, 48, 46, 48, 46, 48, 47, 51, 51]⟩, .string ⟨#[118, 52, 32, 48, 49, 48, 46, 48, 46, 48, 46, 48, 47, 56]⟩, .string ⟨#[118, 53, 32, 49, 48, 46, 48, 46, 48, 46, 48, 47, 56]⟩, .string ⟨#[118, 112, 110, 52, 32, 49, 48, 46, 48, 46, 48, 46, 48, 47, 56]⟩, .string ⟨#[118, 52, 32, 55, 32, 49, 48, 46, 48, 46, 48, 46, 48, 47, 56]⟩, .string ⟨#[118, 54, 32, 49, 48, 46, 48, 46, 48, 46, 48, 47, 56]⟩, .string ⟨#[118, 52, 32, 49, 48, 46, 48, 46, 48, 46, 48]⟩, .string ⟨#[118, 52, 32, 49, 48, 46, 48, 46, 48, 46, 48, 47, 56, 32]⟩, .string ⟨#[]⟩, .string ⟨#[118, 112, 110, 52, 32, 49, 56, 52, 52, 54, 55, 52, 52, 48, 55, 51, 55, 48, 57, 53, 53, 49, 54, 49, 54, 32, 49, 48, 46, 48, 46, 48, 46, 48, 47, 56]⟩, .string ⟨#[118, 52, 32, 49, 48, 46, 48, 46, 48, 46, 48, 47, 48, 56]⟩] rfl
      clear HK hlt
      go_wp2_with fail
      refine with_world (fun wx => KnW w wr.heap.size nL wx) K3.out ?_
      intro wb K2
      have KB : Hid (KnW w wr.heap.size nL wb) := K2
      clear K3 K2
      generalize wr.heap.size = g2 at *
      go_loopw [56] (fun i wv => ∃ k : Nat, i = .int .i64 (k : Int) ∧ k ≤ 12 ∧ KnW w g2 nL wv) (fun i _ => 12 - (intOf i).toNat)
      case atStart => exact ⟨0, rfl, by omega, KB.out⟩
      case round =>
        obtain ⟨k, rfl, hk, hK⟩ := hrel
        have HK : Hid (KnW _ _ _ _) := hK
        clear hK KB
        by_cases hlt : k < 12
        · obtain ⟨x, hx⟩ : ∃ x, nL[k]? = some x := ⟨nL[k]'(by rw [HLn.out]; exact hlt), List.getElem?_eq_getElem _⟩
          have cw := HK.out.r k x hx
          obtain ⟨hx1, ho⟩ := n_is (List.mem_of_getElem? hx)
          have HO : Hid (∀ o, PfP o x → o = none) := ho
          have hlti : (k : Int) < 12 := by omega
          have HX1 : Hid (x.length ≤ 100) := hx1
          clear hx ho hx1
          go_wp2_with fail
          refine Calls.mono (H4.out x HX1.out _ HK.out.e) ?_
          rintro e w1 ⟨⟨o, ho, he⟩, hb1⟩
          obtain rfl := HO.out o ho
          obtain rfl : e = .returned (.tuple #[.agg #[.int .i64 0, .int .u64 0, .string ⟨#[]⟩, .int .i64 0], .int .i64 4]) := he
          have HK1 : Hid (KnW w g2 nL w1) := HK.out.next hb1
          have HK2 : Hid (∀ A, KnW w g2 nL (w1.alloc (.cells A 25))) := fun A => HK1.out.next ((Below.refl _ _).alloc (Nat.le_refl _) _)
          clear hb1 ho HO HK cw
          go_wp2
          go_roundw
          case rel => exact ⟨k + 1, by go_num, by omega, HK2.out _⟩
          case measure => simp [intOf]; omega
        · obtain rfl : k = 12 := by omega
          have K3 : Hid (KnW w wr.heap.size aL _) := KnW.start HK.out.e HK.out.b aL #[.string ⟨#[49, 46, 50, 46, 51]⟩, .string ⟨#[50, 53, 54, 46, 48, 46, 48, 46, 48]⟩, .string ⟨#[48, 58, 48, 58, 48, 58, 48, 58, 48, 58, 48, 58, 48, 58, 71]⟩, .string ⟨#[48, 48, 58, 48, 58, 48, 58, 48, 58, 48, 58, 48, 58, 48, 58, 48]⟩, .string ⟨#[]⟩, .string ⟨#[48, 58, 48, 58, 48, 58, 48, 58, 48, 58, 48, 58, 48, 58, 49, 48, 48, 48, 48]⟩, .string ⟨#[58, 58, 49]⟩, .string ⟨#[49, 46, 50, 46, 51, 46, 52, 46, 53]⟩] rfl
          clear HK hlt
          go_wp2_with fail
          refine with_world (fun wx => KnW w wr.heap.size aL wx) K3.out ?_
          intro wc K2
          have KC : Hid (KnW w wr.heap.size aL wc) := K2
          clear K3 K2
          generalize wr.heap.size = g3 at *
          go_loopw [75] (fun i wz => ∃ k : Nat, i = .int .i64 (k : Int) ∧ k ≤ 8 ∧ KnW w g3 aL wz) (fun i _ => 8 - (intOf i).toNat)
          case atStart => exact ⟨0, rfl, by omega, KC.out⟩
          case round =>
            obtain ⟨k, rfl, hk, hK⟩ := hrel
            have HK : Hid (KnW _ _ _ _) := hK
            clear hK KC
            by_cases hlt : k < 8
            · obtain ⟨x, hx⟩ : ∃ x, aL[k]? = some x := ⟨aL[k]'(by rw [HLa.out]; exact hlt), List.getElem?_eq_getElem _⟩
              have cw := HK.out.r k x hx
              obtain ⟨hx1, ho⟩ := a_is (List.mem_of_getElem? hx)
              have HO : Hid (∀ o, AdP o x → o = none) := ho
              have hlti : (k : Int) < 8 := by omega
              have HX1 : Hid (x.length ≤ 100) := hx1
              clear hx ho hx1
              go_wp2_with fail
              refine Calls.mono (H6.out x HX1.out _ HK.out.e) ?_
              rintro e w1 ⟨⟨o, ho, he⟩, hb1⟩
              obtain rfl := HO.out o ho
              obtain rfl : e = .returned (.tuple #[.string ⟨#[]⟩, .int .i64 4]) := he
              have HK1 : Hid (KnW w g3 aL w1) := HK.out.next hb1
              clear hb1 ho HO HK cw
              go_wp2
              go_roundw
              case rel =>
                repeat' apply Exists.intro
                refine ⟨⟨k + 1, rfl, by omega, HK1.out⟩, ?_⟩
                rfl
              case measure => simp [intOf]; omega
            · obtain rfl : k = 8 := by omega
              have HE : Hid (EnvE wr) := HK.out.e
              have HB : Hid (Below w.heap.size w wr) := HK.out.b
              clear HK hlt
              go_wp2_with fail
              have HCk : Hid (chk 1 0 ⟨#[10, 1, 0, 0]⟩ 16 = 0) := (by decide +kernel : chk 1 0 ⟨#[10, 1, 0, 0]⟩ 16 = 0)
              have HCv : Hid (covB 1 0 ⟨#[10, 1, 0, 0]⟩ 16 3 0 ⟨#[10, 1, 0, 0]⟩ 16 = false) := (by decide +kernel : covB 1 0 ⟨#[10, 1, 0, 0]⟩ 16 3 0 ⟨#[10, 1, 0, 0]⟩ 16 = false)
              have HC1 : Hid (chk 1 1 ⟨#[10, 1, 0, 0]⟩ 16 = 2) := (by decide +kernel : chk 1 1 ⟨#[10, 1, 0, 0]⟩ 16 = 2)
              have HC0 : Hid (chk 0 0 ⟨#[]⟩ 0 = 2) := (by decide +kernel : chk 0 0 ⟨#[]⟩ 0 = 2)
              have HBa : Hid (bitI ⟨#[10, 1, 0, 0]⟩ 4 = 1) := (by decide +kernel : bitI ⟨#[10, 1, 0, 0]⟩ 4 = 1)
              have HBb : Hid (bitI ⟨#[10, 1, 0, 0]⟩ 32 = 0) := (by decide +kernel : bitI ⟨#[10, 1, 0, 0]⟩ 32 = 0)
              have HBc : Hid (bitI ⟨#[10, 1, 0, 0]⟩ (-1) = 0) := (by decide +kernel : bitI ⟨#[10, 1, 0, 0]⟩ (-1) = 0)
              have HAd : Hid (adE ⟨#[49, 50, 51]⟩ = 2) := (by decide +kernel : adE ⟨#[49, 50, 51]⟩ = 2)
              refine Calls.mono (H4.out [118, 52, 32, 49, 48, 46, 49, 46, 48, 46, 48, 47, 49, 54] (by decide) _ HE.out) ?_
              rintro e w1 ⟨⟨o, ho, he⟩, hb1⟩
              obtain rfl := p_is o ho
              obtain rfl : e = .returned (.tuple #[.agg #[.int .i64 1, .int .u64 0, .string ⟨#[10, 1, 0, 0]⟩, .int .i64 16], .int .i64 0]) := he
              have HE1 : Hid (EnvE w1) := HE.out.below hb1
              have HB1 : Hid (Below w.heap.size w w1) := HB.out.trans (hb1.mono HB.out.size)
              have HA1 : Hid (Below w1.heap.size w1 (w1.alloc (.cells #[.int .i64 1, .int .u64 0, .string ⟨#[10, 1, 0, 0]⟩, .int .i64 16] 25))) := (Below.refl _ _).alloc (Nat.le_refl _) _
              have HP1 : Hid (PfxAt _ _ _ _ _ _) := PfxAt.of_alloc w1 _ 1 0 ⟨#[10, 1, 0, 0]⟩ 16 rfl
              clear hb1 ho HE HB
              go_wp2_with fail
              refine Calls.mono (H4.out [108, 52, 32, 49, 48, 46, 49, 46, 48, 46, 48, 47, 49, 54] (by decide) _ (HE1.out.below HA1.out)) ?_
              rintro e w2 ⟨⟨o, ho, he⟩, hb2⟩
              obtain rfl := q_is o ho
              obtain rfl : e = .returned (.tuple #[.agg #[.int .i64 3, .int .u64 0, .string ⟨#[10, 1, 0, 0]⟩, .int .i64 16], .int .i64 0]) := he
              have HW2 : Hid (Below w1.heap.size w1 w2) := HA1.out.trans (hb2.mono HA1.out.size)
              have HP2 : Hid (PfxAt w2 w1.heap.size 1 0 ⟨#[10, 1, 0, 0]⟩ 16) := HP1.out.kept hb2 (by simp)
              have HA2 : Hid (Below w2.heap.size w2 (w2.alloc (.cells #[.int .i64 3, .int .u64 0, .string ⟨#[10, 1, 0, 0]⟩, .int .i64 16] 25))) := (Below.refl _ _).alloc (Nat.le_refl _) _
              have HK2 : Hid (KE w w1.heap.size w2.heap.size (w2.alloc (.cells #[.int .i64 3, .int .u64 0, .string ⟨#[10, 1, 0, 0]⟩, .int .i64 16] 25))) :=
                ⟨(HE1.out.below HW2.out).below HA2.out, (HB1.out.trans (HW2.out.mono HB1.out.size)).trans (HA2.out.mono (Nat.le_trans HB1.out.size HW2.out.size)), HP2.out.kept HA2.out (lt_of_cell HP2.out.c0), PfxAt.of_alloc w2 _ 3 0 ⟨#[10, 1, 0, 0]⟩ 16 rfl⟩
              obtain ⟨c0, c1, c2, c3, _, _, _, _⟩ := HP2.out
              have hs2 : w1.heap.size < w2.heap.size := lt_of_cell c0
              clear hb2 ho HE1 HB1 HA1 HP1 HW2
              go_wp2_with fail
              refine (cut_no 1 0 ⟨#[10, 1, 0, 0]⟩ 16 17 _ HK2.out.e.t.t.sizes HK2.out.e.t.t.rds (by rintro ⟨_, _, h⟩; exact absurd h (by decide))).mono ?_
              rintro e w3 ⟨rfl, hb3⟩
              generalize w2.alloc (.cells #[.int .i64 3, .int .u64 0, .string ⟨#[10, 1, 0, 0]⟩, .int .i64 16] 25) = wq at *
              have HK3 : Hid (KE _ _ _ w3) := HK2.out.next hb3
              generalize w1.heap.size = bp at *
              generalize w2.heap.size = bq at *
              clear c0 c1 c2 c3 hs2 hb3 HK2 HP2 HA2
              obtain ⟨c0, c1, c2, c3, _, _, _, _⟩ := HK3.out.p
              have hs3 : bp < w3.heap.size := lt_of_cell c0
              have HA3 : Hid (∀ A, Below w3.heap.size w3 (w3.alloc (.cells A 25))) := fun A => (Below.refl _ _).alloc (Nat.le_refl _) _
              go_wp2_with fail
              have HK3' := HK3.out.next (HA3.out #[.int .i64 0, .int .u64 0, .string ⟨#[]⟩, .int .i64 0])
              refine (cut_no 1 0 ⟨#[10, 1, 0, 0]⟩ 16 (-1) _ HK3'.e.t.t.sizes HK3'.e.t.t.rds (by rintro ⟨_, h, _⟩; exact absurd h (by decide))).mono ?_
              rintro e w4 ⟨rfl, hb4⟩
              have HK4 : Hid (KE _ _ _ w4) := HK3'.next hb4
              clear c0 c1 c2 c3 hs3 hb4 HK3 HK3' HA3
              have HA4 : Hid (∀ A, Below w4.heap.size w4 (w4.alloc (.cells A 25))) := fun A => (Below.refl _ _).alloc (Nat.le_refl _) _
              go_wp2_with fail
              refine (addrText_any ⟨#[49, 50, 51]⟩ _ (HK4.out.next (HA4.out _)).e.t (by decide)).mono ?_
              rintro e w5 ⟨rfl, hb5⟩
              rw [HAd.out]
              have HK5 : Hid (KE _ _ _ w5) := (HK4.out.next (HA4.out _)).next hb5
              clear hb5 HK4 HA4
              obtain ⟨c0, c1, c2, c3, _, _, _, _⟩ := HK5.out.p
              obtain ⟨d0, d1, d2, d3, _, _, _, _⟩ := HK5.out.q
              have hs5 : bp < w5.heap.size := lt_of_cell c0
              have hs6 : bq < w5.heap.size := lt_of_cell d0
              have HA5 : Hid (Below w5.heap.size w5 (w5.alloc (.cells #[.int .i64 1, .int .u64 1, .string ⟨#[10, 1, 0, 0]⟩, .int .i64 16] 25))) := (Below.refl _ _).alloc (Nat.le_refl _) _
              have HZ5 : Hid (PfxAt _ _ _ _ _ _) := PfxAt.of_alloc w5 _ 1 1 ⟨#[10, 1, 0, 0]⟩ 16 rfl
              go_wp2_with fail
              have HK6 : Hid (KE _ _ _ _) := HK5.out.next HA5.out
              generalize w5.alloc (.cells #[.int .i64 1, .int .u64 1, .string ⟨#[10, 1, 0, 0]⟩, .int .i64 16] 25) = w6 at *
              generalize w5.heap.size = bb at *
              clear c0 c1 c2 c3 d0 d1 d2 d3 hs5 hs6 HK5 HA5
              refine (covers_any 1 0 ⟨#[10, 1, 0, 0]⟩ 16 3 0 ⟨#[10, 1, 0, 0]⟩ 16 _ HK6.out.e.t.t.sizes HK6.out.e.t.t.rds).mono ?_
              rintro e w7 ⟨rfl, hb7⟩
              rw [HCv.out]
              have HK7 : Hid (KE _ _ _ w7) := HK6.out.next hb7
              have HZ7 : Hid (PfxAt w7 bb 1 1 ⟨#[10, 1, 0, 0]⟩ 16) := HZ5.out.kept hb7 (lt_of_cell HZ5.out.c0)
              clear hb7 HK6 HZ5
              obtain ⟨c0, c1, c2, c3, _, _, _, _⟩ := HK7.out.p
              obtain ⟨z0, z1, z2, z3, _, _, _, _⟩ := HZ7.out
              go_wp2_with fail
              refine (bit_any ⟨#[10, 1, 0, 0]⟩ 4 _ (by decide) (by decide) (by decide)).mono ?_
              rintro e w8 ⟨rfl, hw⟩
              subst w8
              rw [HBa.out]
              go_wp2_with fail
              refine (bit_any ⟨#[10, 1, 0, 0]⟩ 32 _ (by decide) (by decide) (by decide)).mono ?_
              rintro e w8 ⟨rfl, hw⟩
              subst w8
              rw [HBb.out]
              go_wp2_with fail
              refine (bit_any ⟨#[10, 1, 0, 0]⟩ (-1) _ (by decide) (by decide) (by decide)).mono ?_
              rintro e w8 ⟨rfl, hw⟩
              subst w8
              rw [HBc.out]
              go_wp2_with fail
              refine (size_any 0 _ HK7.out.e.t.t.sizes).mono ?_
              rintro e w8 ⟨rfl, hw⟩
              subst w8
              rw [show szOf 0 = 0 from rfl]
              go_wp2_with fail
              refine (size_any 6 _ HK7.out.e.t.t.sizes).mono ?_
              rintro e w8 ⟨rfl, hw⟩
              subst w8
              rw [show szOf 6 = 0 from rfl]
              go_wp2_with fail
              refine (size_any 5 _ HK7.out.e.t.t.sizes).mono ?_
              rintro e w8 ⟨rfl, hw⟩
              subst w8
              rw [show szOf 5 = 16 from rfl]
              go_wp2_with fail
              refine (check_any 1 1 ⟨#[10, 1, 0, 0]⟩ 16 _ HK7.out.e.t.t.sizes HK7.out.e.t.t.rds).mono ?_
              rintro e w8 ⟨rfl, hb8⟩
              rw [HC1.out]
              have HK8 : Hid (KE _ _ _ w8) := HK7.out.next hb8
              clear hb8 HK7 HZ7 c0 c1 c2 c3 z0 z1 z2 z3
              go_wp2_with fail
              refine (check_any 0 0 ⟨#[]⟩ 0 _ HK8.out.e.t.t.sizes HK8.out.e.t.t.rds).mono ?_
              rintro e w9 ⟨rfl, hb9⟩
              rw [HC0.out]
              have HK9 : Hid (KE _ _ _ w9) := HK8.out.next hb9
              clear hb9 HK8
              go_wp2_with fail
              refine (works_any _ HK9.out.e.t.t).mono ?_
              rintro e w10 ⟨rfl, hb10⟩
              go_wp2
              go_ret
              exact ⟨rfl, HK9.out.b.trans (hb10.mono HK9.out.b.size)⟩
end Go.Proofs.YtkgedoedojkdkabDoor
