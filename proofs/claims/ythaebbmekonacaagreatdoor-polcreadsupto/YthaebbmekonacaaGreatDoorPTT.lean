/-
  errors.Is of a fault.
-/
import Derived.Test.YthaebbmekonacaaGreatDoorRP
import Derived.WalkKit
import Derived.LaidEql
import Derived.Stop.Asserts
import Derived.RowKitTokens
import Derived.Test.YthaebbmekonacaaGreatDoorRCz
import Derived.Test.YthaebbmekonacaaGreatDoorRAz
import Derived.Test.YthaebbmekonacaaGreatDoorQQ
import Derived.Test.YthaebbmekonacaaGreatDoorRTM
import Derived.Test.YthaebbmekonacaaGreatDoorSV
import Derived.Deep.RegionHeld
import Derived.BigQuiet
set_option linter.unusedVariables false
set_option linter.unusedSimpArgs false
set_option maxRecDepth 100000
namespace Go.Proofs.YthaebbmekonacaaGreatDoor
open Go.RowKit Go.Extern.Stop Go.Stop Go.Extern
def cmpFn : Array Value → Sem Value := Extern.ReflectliteType.method fun t => do Go.Extern.Rtype.noPackHeld "Comparable" t; pure (.bool (← typeInfo t).comparable)
theorem ei_typeOf (v : Value) (w : World) : (Extern.ReflectliteType.typeOf #[.iface 31 v]).run Tryz.prog w = .ok (.iface 164 (.agg #[.pointer (some ⟨12, 31, none⟩)])) w := by kernel_rfl
theorem ei_cmp (w : World) : ((Extern.ReflectliteType.method fun t => do Go.Extern.Rtype.noPackHeld "Comparable" t; Functor.map (fun a => Value.bool a.comparable) (typeInfo t)) #[.agg #[.pointer (some ⟨12, 31, none⟩)]]).run Tryz.prog w = .ok (.bool true) w := by kernel_rfl
theorem ei_h245 (args : Array Value) (w : World) : (callFunc 245 args).run Tryz.prog w = ((cmpFn args).run Tryz.prog w).andThen fun v w' => .ok (Next.value v) w' :=
  @run_callFunc_extern Tryz.prog 245 _ cmpFn Tryz.func245 (by kernel_rfl) (by kernel_rfl) (by kernel_rfl) (by kernel_rfl) args w
theorem ei_mC (v : Value) (w : World) : (Go.method 402 164 v "Comparable").run Tryz.prog w = .ok (245, v) w := by kernel_rfl
theorem ei_mU (v : Value) (w : World) : (Go.method 402 97 v "Unwrap").run Tryz.prog w = .ok (239, v) w := by kernel_rfl
theorem ei_noIs (v : Value) (xT : TypeId) (w : World) : (Instr.typeAssert (.iface 97 v) xT 166 true).run Tryz.prog w = .ok (.tuple #[.nilIface, .bool false]) w := run_typeAssert_lacksB Tryz.underlying166 (by kernel_rfl) (by kernel_rfl) v xT w
theorem ei_un (v : Value) (xT : TypeId) (w : World) : (Instr.typeAssert (.iface 97 v) xT 169 true).run Tryz.prog w = .ok (.tuple #[.iface 97 v, .bool true]) w := run_typeAssert_hasB Tryz.underlying169 (by kernel_rfl) v xT w
theorem ei_eq (v : Value) (w : World) : (binOp .eql 70 (.iface 97 v) (.iface 31 (.int .i64 9))).run Tryz.prog w = .ok (.bool false) w := run_eql_iface_types 97 31 v _ Tryz.underlying70 (by decide) w
theorem ei_eq2 (w : World) : (binOp .eql 70 (.iface 31 (.int .i64 9)) (.iface 31 (.int .i64 9))).run Tryz.prog w = .ok (.bool true) w := by kernel_rfl
theorem is_flt (b : Nat) (w : World) (h0 : w.cell? ⟨b, 0, none⟩ = some (.int .i64 9)) :
    Calls Tryz.prog 28 #[.iface 97 (.pointer (some ⟨b, 0, none⟩)), .iface 31 (.int .i64 9)] w fun e w' => e = .returned (.bool true) ∧ w' = w := by
  have h8 := @run_callFunc_extern Tryz.prog 58 _ Extern.ReflectliteType.typeOf Tryz.func58 (by kernel_rfl) (by kernel_rfl) (by kernel_rfl) (by kernel_rfl)
  have h32 := ei_h245
  have tT := ei_typeOf
  have cT := ei_cmp
  have nI := ei_noIs
  have uW := ei_un
  have q1 := ei_eq
  have q2 := ei_eq2
  have mC := ei_mC
  have mU := ei_mU
  unfold cmpFn at h32
  go_enter Tryz.func28, Tryz.ntmps28
  go_wp2
  refine wp_loop_rounds 2 ?_
  rw [rounds_succ]
  go_wp2
  rw [rounds_succ]
  go_wp2
  go_ret
  exact ⟨rfl, rfl⟩
end Go.Proofs.YthaebbmekonacaaGreatDoor

set_option linter.unusedVariables false
set_option linter.unusedSimpArgs false
set_option maxRecDepth 100000
namespace Go.Proofs.YthaebbmekonacaaGreatDoor
open Go.RowKit
theorem com_not (n : Nat) : ¬ (comT n = []) := by
  unfold comT
  split
  · simp
  split
  · simp
  split
  · simp
  · simp
theorem adT_not (b : ByteArray) (h : b.size = 4 ∨ b.size = 16) : ¬ (adT b = []) := by
  rcases h with h | h
  · obtain ⟨ns, h1, h2, rfl⟩ := Ad.of_four b h
    rw [Ad.adT_4 ns h1 h2]
    match ns, h1 with
    | [a, b, c, d], _ => simp [Lib.join]
  · obtain ⟨ns, h1, h2, rfl⟩ := Ad.of_sixteen b h
    rw [Ad.adT_16 ns h1 h2]
    match ns, h1 with
    | [a, b, c, d, e, f, g, i], _ => simp [Lib.join]
theorem name_not {s : ByteArray} (h : nameB s = true) : ¬ (s.data.toList = []) := fun e => by
  have : s = ⟨#[]⟩ := by apply ByteArray.ext; apply Array.toList_inj.1; exact e
  subst this
  revert h
  decide +kernel
end Go.Proofs.YthaebbmekonacaaGreatDoor
set_option linter.unusedVariables false
set_option linter.unusedSimpArgs false
set_option maxRecDepth 100000
namespace Go.Proofs.YthaebbmekonacaaGreatDoor
open Go.RowKit
theorem TsAt.one {w : World} {b : Nat} {vc va : Value} {T : Tm} (h0 : w.cell? ⟨b, 0, none⟩ = some vc) (h1 : w.cell? ⟨b, 1, none⟩ = some va) (hc : CdAt w vc T.cs) (ha : AcAt w va T.acs) : TsAt w (.slice (some ⟨b, 0, none⟩) 1 1) [T] := by
  refine ⟨_, b, 0, 1, rfl, Or.inl rfl, Nat.le_refl _, fun j hj => ?_⟩
  obtain rfl : j = 0 := by simpa using hj
  exact ⟨vc, va, h0, h1, hc, ha⟩
end Go.Proofs.YthaebbmekonacaaGreatDoor
set_option linter.unusedVariables false
set_option linter.unusedSimpArgs false
set_option maxRecDepth 100000
namespace Go.Proofs.YthaebbmekonacaaGreatDoor
open Go.RowKit
end Go.Proofs.YthaebbmekonacaaGreatDoor
set_option linter.unusedVariables false
set_option linter.unusedSimpArgs false
set_option maxRecDepth 100000
namespace Go.Proofs.YthaebbmekonacaaGreatDoor
open Go.RowKit
theorem wt_if (T : Tm) (h : T.cs ≠ []) (t : List (List UInt8)) : wT T ++ t = ifW :: flatW (T.cs.map wC) (thenW :: flatW (T.acs.map wA) t) := by
  unfold wT
  rw [if_neg h, flatW_app (T.cs.map wC) (thenW :: flatW (T.acs.map wA) t), flatW_app (T.acs.map wA) t]
  simp [ifW, ifT, thenW, thT]
theorem wt_no (T : Tm) (h : T.cs = []) (t : List (List UInt8)) : wT T ++ t = thenW :: flatW (T.acs.map wA) t := by
  unfold wT
  rw [if_pos h, flatW_app (T.acs.map wA) t]
  simp [thenW, thT]
end Go.Proofs.YthaebbmekonacaaGreatDoor

set_option linter.unusedVariables false
set_option linter.unusedSimpArgs false
set_option maxRecDepth 100000
namespace Go.Proofs.YthaebbmekonacaaGreatDoor
open Go.RowKit
theorem spl_free : ∀ (s : List UInt8), NoBl (spl s)
  | [] => by intro x hx; have : x = [] := by simpa [spl] using hx
             rw [this]; simp
  | c :: l => by
    intro x hx
    unfold spl at hx
    split at hx
    · rcases List.mem_cons.1 hx with e | e
      · rw [e]; simp
      · exact spl_free l x e
    · next hc =>
      split at hx
      · have : x = [c] := by simpa using hx
        rw [this]; simpa using fun e => hc e.symm
      · next y r hy =>
        rcases List.mem_cons.1 hx with e | e
        · have := spl_free l y (by rw [hy]; simp)
          rw [e]
          intro h
          rcases List.mem_cons.1 h with h | h
          · exact hc h.symm
          · exact this h
        · exact spl_free l x (by rw [hy]; simp [e])
theorem txt_spl : ∀ (s : List UInt8), txt (spl s) = 32 :: s
  | [] => rfl
  | c :: l => by
    have ih := txt_spl l
    unfold spl
    split
    · next hc => rw [txt_cons, ih, hc]; rfl
    · split
      · next hy => exact absurd hy (spl_ne l)
      · next y r hy =>
        rw [hy, txt_cons] at ih
        injection ih with _ ih
        rw [txt_cons, List.cons_append, ih]
theorem bs_eta (x : List UInt8) : (⟨x.toArray⟩ : ByteArray).data.toList = x := by simp
theorem free_not {x : List UInt8} (h : (32 : UInt8) ∉ x) : x ≠ [32] := fun e => by rw [e] at h; simp at h
theorem tab_not {tab : List (List UInt8)} (h : ∀ x ∈ tab, (32 : UInt8) ∉ x) {x : List UInt8} {k : Nat} (hk : plc tab x = some k) : x ≠ [32] := by
  obtain ⟨h1, h2, h3⟩ := plc_some hk
  have := tab_free h k
  rw [h2] at this
  exact free_not this
theorem rdC2_back {nt : Bool} {u r : List (List UInt8)} {c : Cd} (h : rdC2 nt u = some (c, r)) (hok : okC c = true) : c.nt = nt ∧ u = cwL.getD c.k.toNat [] :: cvT c :: r := by
  unfold rdC2 at h
  split at h
  · cases h
  · next k hk =>
    have e : u = u.headD [32] :: u.tail := hd_of rfl (tab_not cw_free hk)
    have hw := (plc_some hk).2.1
    split at h
    · next h5 =>
      subst h5
      split at h
      · cases h
      · next n hn =>
        obtain ⟨rfl, rfl⟩ := Prod.mk.inj (Option.some.inj h)
        have e2 : u.tail = u.tail.headD [32] :: u.tail.tail := hd_of rfl (tab_not ow_free hn)
        refine ⟨rfl, ?_⟩
        show u = cwL.getD 5 [] :: owL.getD ((n : Int).toNat) [] :: u.tail.tail
        rw [hw, Int.toNat_natCast, (plc_some hn).2.1, ← e2]; exact e
    split at h
    · next h6 =>
      subst h6
      split at h
      · cases h
      · next n hn =>
        obtain ⟨rfl, rfl⟩ := Prod.mk.inj (Option.some.inj h)
        have hd := (nmO_some hn).2
        have e2 : u.tail = u.tail.headD [32] :: u.tail.tail := hd_of rfl (by rw [hd]; exact free_not (dig_free n))
        refine ⟨rfl, ?_⟩
        show u = cwL.getD 6 [] :: Lib.decDigits ((n : Int).toNat) :: u.tail.tail
        rw [hw, Int.toNat_natCast, ← hd, ← e2]; exact e
    split at h
    · next h7 =>
      subst h7
      split at h
      · cases h
      · next n hn =>
        obtain ⟨rfl, rfl⟩ := Prod.mk.inj (Option.some.inj h)
        have e2 : u.tail = u.tail.headD [32] :: u.tail.tail := hd_of rfl (tab_not fw_free hn)
        refine ⟨rfl, ?_⟩
        show u = cwL.getD 7 [] :: fwL.getD ((n : Int).toNat) [] :: u.tail.tail
        rw [hw, Int.toNat_natCast, (plc_some hn).2.1, ← e2]; exact e
    · next h5 h6 h7 =>
      obtain ⟨rfl, rfl⟩ := Prod.mk.inj (Option.some.inj h)
      have hk8 : k < 8 := (plc_some hk).1
      have hnm : nameB ⟨(u.tail.headD [32]).toArray⟩ = true := by
        rcases ok_kinds hok with ⟨_, hn, _⟩ | ⟨hq, _⟩ | ⟨hq, _⟩ | ⟨hq, _⟩
        · exact hn
        all_goals (dsimp only at hq; omega)
      have hf := name_free hnm
      rw [bs_eta] at hf
      have e2 : u.tail = u.tail.headD [32] :: u.tail.tail := hd_of rfl (free_not hf)
      refine ⟨rfl, ?_⟩
      have hcv : cvT ⟨(k : Int), nt, ⟨(u.tail.headD [32]).toArray⟩, 0⟩ = u.tail.headD [32] := by
        unfold cvT
        rw [if_neg (by dsimp only; omega), if_neg (by dsimp only; omega), if_neg (by dsimp only; omega)]
      rw [hcv]
      show u = cwL.getD ((k : Int).toNat) [] :: u.tail.headD [32] :: u.tail.tail
      rw [Int.toNat_natCast, hw, ← e2]; exact e
theorem rdC_back {ws r : List (List UInt8)} {c : Cd} (h : rdC ws = some (c, r)) (hok : okC c = true) : ws = wC c ++ r := by
  unfold rdC at h
  split at h
  · next hn =>
    obtain ⟨h1, h2⟩ := rdC2_back h hok
    have e : ws = notW :: ws.tail := hd_of hn (by decide)
    unfold wC
    rw [h1, if_pos rfl, e, h2]; rfl
  · obtain ⟨h1, h2⟩ := rdC2_back h hok
    unfold wC
    rw [h1, if_neg (by simp), h2]; rfl
theorem wA_two {a : Ac} {x : List UInt8} (h : avT a = x) (hx : x ≠ []) : wA a = [awL.getD a.k.toNat [], x] := by
  unfold wA; rw [h, if_neg hx]
theorem rdA_back {cm : List UInt8 → Option Nat} {ad : List UInt8 → Option ByteArray} (K : Knows cm ad) {ws r : List (List UInt8)} {a : Ac} (h : rdA cm ad ws = some (a, r)) (hok : okA' a = true) : ws = wA a ++ r := by
  unfold rdA at h
  split at h
  · cases h
  · next k hk =>
    have e : ws = ws.headD [32] :: ws.tail := hd_of rfl (tab_not aw_free hk)
    have hw := (plc_some hk).2.1
    have hk11 : k < 11 := (plc_some hk).1
    split at h
    · next h3 =>
      split at h
      · cases h
      · next n hn =>
        obtain ⟨rfl, rfl⟩ := Prod.mk.inj (Option.some.inj h)
        have hd := (nmO_some hn).2
        have e2 : ws.tail = ws.tail.headD [32] :: ws.tail.tail := hd_of rfl (by rw [hd]; exact free_not (dig_free n))
        rw [wA_two (x := Lib.decDigits n) (by unfold avT; rw [if_pos (by dsimp only; omega)]) (digits_ne n)]
        show ws = awL.getD ((k : Int).toNat) [] :: Lib.decDigits n :: ws.tail.tail
        rw [Int.toNat_natCast, hw, ← hd, ← e2]; exact e
    split at h
    · next h6 =>
      subst h6
      split at h
      · cases h
      · next n hn =>
        obtain ⟨rfl, rfl⟩ := Prod.mk.inj (Option.some.inj h)
        have hd := (K.c1 _ _ hn).2
        have e2 : ws.tail = ws.tail.headD [32] :: ws.tail.tail := hd_of rfl (by rw [hd]; exact free_not (com_free n))
        rw [wA_two (x := comT n) (by unfold avT; rw [if_neg (by dsimp only; omega), if_pos rfl]) (com_not n)]
        show ws = awL.getD 6 [] :: comT n :: ws.tail.tail
        rw [hw, ← hd, ← e2]; exact e
    split at h
    · next h7 =>
      subst h7
      obtain ⟨rfl, rfl⟩ := Prod.mk.inj (Option.some.inj h)
      have hnm : nameB ⟨(ws.tail.headD [32]).toArray⟩ = true := by
        rcases okA_kinds hok with ⟨hq, _⟩ | ⟨hq, _⟩ | ⟨_, _, _, e1⟩ | ⟨hq, _⟩ | ⟨hq, _⟩
        · dsimp only at hq; omega
        · dsimp only at hq; omega
        · exact e1
        · dsimp only at hq; omega
        · dsimp only at hq; omega
      have hf := name_free hnm
      have hne := name_not hnm
      rw [bs_eta] at hf hne
      have e2 : ws.tail = ws.tail.headD [32] :: ws.tail.tail := hd_of rfl (free_not hf)
      rw [wA_two (x := ws.tail.headD [32]) (by unfold avT; rw [if_neg (by dsimp only; omega), if_neg (by dsimp only; omega), if_neg (by dsimp only; omega), if_neg (by dsimp only; omega)]) hne]
      show ws = awL.getD 7 [] :: ws.tail.headD [32] :: ws.tail.tail
      rw [hw, ← e2]; exact e
    split at h
    · next h9 =>
      subst h9
      split at h
      · cases h
      · next b hn =>
        obtain ⟨rfl, rfl⟩ := Prod.mk.inj (Option.some.inj h)
        obtain ⟨hs, hd⟩ := K.a1 _ _ hn
        have e2 : ws.tail = ws.tail.headD [32] :: ws.tail.tail := hd_of rfl (by rw [hd]; exact free_not (adT_free b hs))
        rw [wA_two (x := adT b) (by unfold avT; rw [if_neg (by dsimp only; omega), if_neg (by dsimp only; omega), if_pos rfl]) (adT_not b hs)]
        show ws = awL.getD 9 [] :: adT b :: ws.tail.tail
        rw [hw, ← hd, ← e2]; exact e
    split at h
    · next h10 =>
      subst h10
      split at h
      · cases h
      · next n hn =>
        obtain ⟨rfl, rfl⟩ := Prod.mk.inj (Option.some.inj h)
        have e2 : ws.tail = ws.tail.headD [32] :: ws.tail.tail := hd_of rfl (tab_not ow_free hn)
        have ho := plc_some hn
        rw [wA_two (x := owL.getD n []) (by unfold avT; rw [if_neg (by dsimp only; omega), if_neg (by dsimp only; omega), if_neg (by dsimp only; omega), if_pos rfl]) (by rw [ho.2.1]; exact ho.2.2)]
        show ws = awL.getD 10 [] :: owL.getD n [] :: ws.tail.tail
        rw [hw, ho.2.1, ← e2]; exact e
    · next h3 h6 h7 h9 h10 =>
      obtain ⟨rfl, rfl⟩ := Prod.mk.inj (Option.some.inj h)
      have hav : avT ⟨(k : Int), ⟨#[]⟩, 0, ⟨#[]⟩⟩ = [] := by
        unfold avT
        rw [if_neg (by dsimp only; omega), if_neg (by dsimp only; omega), if_neg (by dsimp only; omega), if_neg (by dsimp only; omega)]
      unfold wA
      rw [if_pos hav]
      show ws = awL.getD ((k : Int).toNat) [] :: ws.tail
      rw [Int.toNat_natCast, hw]; exact e
theorem goL_back {α : Type} {rd : List (List UInt8) → Option (α × List (List UInt8))} {P : α → Prop} {wf : α → List (List UInt8)} (hP : ∀ ws c r, rd ws = some (c, r) → P c → ws = wf c ++ r) : ∀ (f : Nat) (ws : List (List UInt8)) (L : List α) (y : List UInt8) (q : List (List UInt8)), goL rd f ws = some (L, y, q) → (∀ c ∈ L, P c) → L ≠ [] ∧ ∃ rl, ws = flatW (L.map wf) rl ∧ y = rl.headD [32] ∧ q = rl.tail
  | 0, _, _, _, _, h, _ => by cases h
  | f + 1, ws, L, y, q, h, hL => by
    unfold goL at h
    split at h
    · cases h
    · next c r hr =>
      split at h
      · next hand =>
        split at h
        · cases h
        · next l y' q' hg =>
          obtain ⟨rfl, e⟩ := Prod.mk.inj (Option.some.inj h)
          obtain ⟨rfl, rfl⟩ := Prod.mk.inj e
          have h1 := hP ws c r hr (hL c (by simp))
          obtain ⟨hne, rl, h2, h3, h4⟩ := goL_back hP f r.tail l _ _ hg (fun x hx => hL x (by simp [hx]))
          have er : r = andW :: r.tail := hd_of hand (by decide)
          refine ⟨by simp, rl, ?_, h3, h4⟩
          cases l with
          | nil => exact absurd rfl hne
          | cons b l =>
            simp only [List.map_cons] at h2 ⊢
            simp only [flatW]
            rw [h1, er, h2]
      · obtain ⟨rfl, e⟩ := Prod.mk.inj (Option.some.inj h)
        obtain ⟨rfl, rfl⟩ := Prod.mk.inj e
        exact ⟨by simp, r, hP ws c r hr (hL c (by simp)), rfl, rfl⟩
theorem NoBl.left {a b : List (List UInt8)} (h : NoBl (a ++ b)) : NoBl a := fun x hx => h x (List.mem_append.2 (Or.inl hx))
theorem NoBl.right {a b : List (List UInt8)} (h : NoBl (a ++ b)) : NoBl b := fun x hx => h x (List.mem_append.2 (Or.inr hx))
theorem rdT2_back {cm : List UInt8 → Option Nat} {ad : List UInt8 → Option ByteArray} (K : Knows cm ad) {cs : List Cd} {y : List UInt8} {q : List (List UInt8)} {T : Tm} (h : rdT2 cm ad cs y q = some T) (hf : NoBl q) : okT T = true ∧ T.cs = cs ∧ y = thenW ∧ q = flatW (T.acs.map wA) [] := by
  unfold rdT2 at h
  split at h
  · next hy =>
    split at h
    · cases h
    · next acs z q2 hg =>
      split at h
      · next hc =>
        obtain rfl := Option.some.inj h
        obtain ⟨hz, hok⟩ := hc
        obtain ⟨_, rl, h1, h2, h3⟩ := goL_back (P := fun a => okA' a = true) (wf := wA) (fun ws c r h hp => rdA_back K h hp) 64 q acs z q2 hg (fun a ha => (ok_term hok).2.2.2.2.1 a ha)
        refine ⟨hok, rfl, hy, ?_⟩
        rw [hz] at h2
        cases rl with
        | nil => exact h1
        | cons b l =>
          have hb : b = [32] := h2.symm
          rw [h1, flatW_app] at hf
          have := hf.right b (by simp)
          rw [hb] at this
          simp at this
      · cases h
  · cases h
theorem rdT_back {cm : List UInt8 → Option Nat} {ad : List UInt8 → Option ByteArray} (K : Knows cm ad) {s : List UInt8} {T : Tm} (h : rdT cm ad (spl s) = some T) : okT T = true ∧ tT T = s := by
  have hf := spl_free s
  have key : okT T = true ∧ wT T = spl s := by
    unfold rdT at h
    split at h
    · next hi =>
      have e : spl s = ifW :: (spl s).tail := hd_of hi (by decide)
      unfold rdT1 at h
      split at h
      · cases h
      · next cs y q hg =>
        have hf2 : NoBl (spl s).tail := fun x hx => hf x (List.mem_of_mem_tail hx)
        have hokc : okT T = true ∧ T.cs = cs := by
          unfold rdT2 at h
          split at h
          · split at h
            · cases h
            · split at h
              · next hc => obtain rfl := Option.some.inj h; exact ⟨hc.2, rfl⟩
              · cases h
          · cases h
        obtain ⟨hne, rl, h1, h2, h3⟩ := goL_back (P := fun c => okC c = true) (wf := wC) (fun ws c r h hp => rdC_back h hp) 64 _ cs y q hg (fun c hc => (ok_term hokc.1).2.2.2.1 c (by rw [hokc.2]; exact hc))
        have hfr : NoBl rl := by rw [h1, flatW_app] at hf2; exact hf2.right
        have hfq : NoBl q := fun x hx => hfr x (List.mem_of_mem_tail (by rw [← h3]; exact hx))
        obtain ⟨hok, hcs, hy, hq⟩ := rdT2_back K h hfq
        refine ⟨hok, ?_⟩
        have erl : rl = thenW :: q := by rw [h3]; exact hd_of (by rw [← h2]; exact hy) (by decide)
        have := wt_if T (by rw [hcs]; exact hne) []
        rw [List.append_nil] at this
        rw [this, e, h1, erl, hq, hcs]
    · next hi =>
      have hf2 : NoBl (spl s).tail := fun x hx => hf x (List.mem_of_mem_tail hx)
      obtain ⟨hok, hcs, hy, hq⟩ := rdT2_back K h hf2
      refine ⟨hok, ?_⟩
      have e : spl s = thenW :: (spl s).tail := hd_of hy (by decide)
      have := wt_no T hcs []
      rw [List.append_nil] at this
      rw [this, e, hq]
  refine ⟨key.1, ?_⟩
  have h1 := txt_t T (acs_ne key.1)
  rw [key.2, txt_spl] at h1
  injection h1 with _ h1
  exact h1.symm
end Go.Proofs.YthaebbmekonacaaGreatDoor
set_option linter.unusedVariables false
set_option linter.unusedSimpArgs false
set_option maxRecDepth 100000
namespace Go.Proofs.YthaebbmekonacaaGreatDoor
open Go.RowKit
theorem rdT_small {cm : List UInt8 → Option Nat} {ad : List UInt8 → Option ByteArray} (K : Knows cm ad) {ws : List (List UInt8)} {T : Tm} (h : rdT cm ad ws = some T) (hs : Sml ws) : SmT T ∧ ∀ a ∈ T.acs, a.n < 4294967296 := by
  have two : ∀ cs y q, rdT2 cm ad cs y q = some T → (∀ c ∈ cs, smC c) → cs.length ≤ 64 → Sml q → SmT T ∧ ∀ a ∈ T.acs, a.n < 4294967296 := fun cs y q h hc lc hq => by
    unfold rdT2 at h
    split at h
    · split at h
      · cases h
      · next acs z q2 hg =>
        split at h
        · obtain rfl := Option.some.inj h
          obtain ⟨g1, g2, _⟩ := goL_small (fun ws c r h hs => rdA_small K h hs) 64 q acs z q2 hg hq
          exact ⟨small_term hc g1 lc g2, fun a ha => (g1 a ha).2.2⟩
        · cases h
    · cases h
  unfold rdT at h
  split at h
  · unfold rdT1 at h
    split at h
    · cases h
    · next cs y q hg =>
      obtain ⟨g1, g2, g3⟩ := goL_small (P := smC) (fun ws c r h hs => rdC_small h hs) 64 _ cs y q hg hs.tl
      exact two cs y q h g1 g2 g3
  · exact two [] _ _ h (by simp) (by simp) hs.tl
end Go.Proofs.YthaebbmekonacaaGreatDoor

set_option linter.unusedVariables false
set_option linter.unusedSimpArgs false
set_option maxRecDepth 100000
namespace Go.Proofs.YthaebbmekonacaaGreatDoor
open Go.RowKit
theorem nmO_of {n : Nat} (h : n < 4294967296) : nmO (Lib.decDigits n) = some n := by
  unfold nmO
  rw [Ad.o10_full 32 (by omega) _ n (by omega) rfl]
  unfold Ad.rdN
  dsimp only
  rw [if_pos rfl]
theorem dg_one {a b : Nat} (ha : a < 4294967296) (hb : b < 4294967296) (e : Lib.decDigits a = Lib.decDigits b) : a = b := by
  have h := nmO_of ha
  rw [e, nmO_of hb] at h
  exact (Option.some.inj h).symm
theorem num_one {a b c d : Nat} (ha : a < 65536) (hb : b < 65536) (hc : c < 65536) (hd : d < 65536) (e : numT a b = numT c d) : a = c ∧ b = d := by
  have h := cut_numT a b
  rw [e, cut_numT c d] at h
  injection h with h1 h2
  injection h2 with h2 _
  exact ⟨dg_one (by omega) (by omega) h1.symm, dg_one (by omega) (by omega) h2.symm⟩
theorem com_one {c d : Nat} (hd : d < 4294967296) (hc : c < 4294967296) (e : comT d = comT c) : d = c := by
  have e' : textC d = textC c := by unfold textC; rw [e]
  rcases text_ways d with ⟨rfl, h1⟩ | ⟨rfl, h1⟩ | ⟨rfl, h1⟩ | ⟨h1, h2, h3, h4⟩
  · rcases text_ways c with ⟨rfl, k1⟩ | ⟨rfl, k1⟩ | ⟨rfl, k1⟩ | ⟨k1, k2, k3, k4⟩
    · rfl
    · rw [h1, k1] at e'; exact absurd e' (by decide +kernel)
    · rw [h1, k1] at e'; exact absurd e' (by decide +kernel)
    · exact absurd (h1.symm.trans e') k2
  · rcases text_ways c with ⟨rfl, k1⟩ | ⟨rfl, k1⟩ | ⟨rfl, k1⟩ | ⟨k1, k2, k3, k4⟩
    · rw [h1, k1] at e'; exact absurd e' (by decide +kernel)
    · rfl
    · rw [h1, k1] at e'; exact absurd e' (by decide +kernel)
    · exact absurd (h1.symm.trans e') k3
  · rcases text_ways c with ⟨rfl, k1⟩ | ⟨rfl, k1⟩ | ⟨rfl, k1⟩ | ⟨k1, k2, k3, k4⟩
    · rw [h1, k1] at e'; exact absurd e' (by decide +kernel)
    · rw [h1, k1] at e'; exact absurd e' (by decide +kernel)
    · rfl
    · exact absurd (h1.symm.trans e') k4
  · rcases text_ways c with ⟨rfl, k1⟩ | ⟨rfl, k1⟩ | ⟨rfl, k1⟩ | ⟨k1, k2, k3, k4⟩
    · exact absurd (k1.symm.trans e'.symm) h2
    · exact absurd (k1.symm.trans e'.symm) h3
    · exact absurd (k1.symm.trans e'.symm) h4
    · have h5 : numT (d / 65536) (d % 65536) = numT (c / 65536) (c % 65536) := ba_inj.1 (h1.symm.trans (e'.trans k1))
      obtain ⟨q1, q2⟩ := num_one (by omega) (by omega) (by omega) (by omega) h5
      omega
theorem adr_one {b d : ByteArray} (hd : d.size = 4 ∨ d.size = 16) (hb : b.size = 4 ∨ b.size = 16) (e : adT d = adT b) : d = b := by
  obtain ⟨o4, h4⟩ := Ad.sty_ex Ad.digs10 (by omega) (by omega) 255 4 (by omega) Ad.m46 (adT b)
  obtain ⟨o16, h16⟩ := Ad.sty_ex Ad.digs16 (by omega) (by omega) 65535 8 (by omega) Ad.m58 (adT b)
  have h := Ad.ad_of h4 h16
  have h1 := h.full b hb rfl
  rw [h.full d hd e.symm] at h1
  exact Option.some.inj h1
theorem bs_nil {s : ByteArray} (h : s.toList = []) : s = ⟨#[]⟩ := by
  rw [ByteArray.toList_eq] at h
  obtain ⟨⟨l⟩⟩ := s
  simp at h
  rw [h]
theorem bs_back (s : ByteArray) : (⟨s.data.toList.toArray⟩ : ByteArray) = s := bytes_eta s
theorem rdC2_of {c : Cd} (h : okC c = true) (r : List (List UInt8)) : rdC2 c.nt (cwL.getD c.k.toNat [] :: cvT c :: r) = some (c, r) := by
  obtain ⟨k, nt, nm, n⟩ := c
  rcases ok_kinds h with ⟨hk, hn, h0⟩ | ⟨hk, hn, h1, h2⟩ | ⟨hk, hn, h1, h2⟩ | ⟨hk, hn, h1, h2⟩
  · dsimp only at hk hn h0
    subst h0
    have hcv : cvT ⟨k, nt, nm, 0⟩ = nm.data.toList := by
      unfold cvT
      rw [if_neg (by dsimp only; omega), if_neg (by dsimp only; omega), if_neg (by dsimp only; omega)]
    rw [hcv]
    rcases hk with rfl | rfl | rfl | rfl
    all_goals
      unfold rdC2
      simp only [List.headD_cons, List.tail_cons]
      first
        | rw [show plc cwL (cwL.getD (1 : Int).toNat []) = some 1 from by decide +kernel]
        | rw [show plc cwL (cwL.getD (2 : Int).toNat []) = some 2 from by decide +kernel]
        | rw [show plc cwL (cwL.getD (3 : Int).toNat []) = some 3 from by decide +kernel]
        | rw [show plc cwL (cwL.getD (4 : Int).toNat []) = some 4 from by decide +kernel]
      dsimp only
      rw [if_neg (by omega), if_neg (by omega), if_neg (by omega), bs_back]
      rfl
  · dsimp only at hk hn h1 h2
    subst hk
    obtain rfl := bs_nil hn
    have hcv : cvT ⟨5, nt, ⟨#[]⟩, n⟩ = owL.getD n.toNat [] := by unfold cvT; rw [if_pos rfl]
    rw [hcv]
    unfold rdC2
    simp only [List.headD_cons, List.tail_cons]
    rw [show plc cwL (cwL.getD (5 : Int).toNat []) = some 5 from by decide +kernel]
    dsimp only
    rw [if_pos rfl]
    rcases (show n = 0 ∨ n = 1 ∨ n = 2 by omega) with rfl | rfl | rfl
    · rw [show plc owL (owL.getD (0 : Int).toNat []) = some 0 from by decide +kernel]; rfl
    · rw [show plc owL (owL.getD (1 : Int).toNat []) = some 1 from by decide +kernel]; rfl
    · rw [show plc owL (owL.getD (2 : Int).toNat []) = some 2 from by decide +kernel]; rfl
  · dsimp only at hk hn h1 h2
    subst hk
    obtain rfl := bs_nil hn
    have hcv : cvT ⟨6, nt, ⟨#[]⟩, n⟩ = Lib.decDigits n.toNat := by unfold cvT; rw [if_neg (by dsimp only; omega), if_pos rfl]
    rw [hcv]
    unfold rdC2
    simp only [List.headD_cons, List.tail_cons]
    rw [show plc cwL (cwL.getD (6 : Int).toNat []) = some 6 from by decide +kernel]
    dsimp only
    rw [if_neg (by omega), if_pos rfl, nmO_of (by omega)]
    dsimp only
    rw [Int.toNat_of_nonneg h1]
  · dsimp only at hk hn h1 h2
    subst hk
    obtain rfl := bs_nil hn
    have hcv : cvT ⟨7, nt, ⟨#[]⟩, n⟩ = fwL.getD n.toNat [] := by unfold cvT; rw [if_neg (by dsimp only; omega), if_neg (by dsimp only; omega), if_pos rfl]
    rw [hcv]
    unfold rdC2
    simp only [List.headD_cons, List.tail_cons]
    rw [show plc cwL (cwL.getD (7 : Int).toNat []) = some 7 from by decide +kernel]
    dsimp only
    rw [if_neg (by omega), if_neg (by omega), if_pos rfl]
    rcases (show n = 1 ∨ n = 2 ∨ n = 3 ∨ n = 4 ∨ n = 5 by omega) with rfl | rfl | rfl | rfl | rfl
    · rw [show plc fwL (fwL.getD (1 : Int).toNat []) = some 1 from by decide +kernel]; rfl
    · rw [show plc fwL (fwL.getD (2 : Int).toNat []) = some 2 from by decide +kernel]; rfl
    · rw [show plc fwL (fwL.getD (3 : Int).toNat []) = some 3 from by decide +kernel]; rfl
    · rw [show plc fwL (fwL.getD (4 : Int).toNat []) = some 4 from by decide +kernel]; rfl
    · rw [show plc fwL (fwL.getD (5 : Int).toNat []) = some 5 from by decide +kernel]; rfl
theorem cw_not {c : Cd} (h : okC c = true) : cwL.getD c.k.toNat [] ≠ notW := by
  have hk : c.k = 1 ∨ c.k = 2 ∨ c.k = 3 ∨ c.k = 4 ∨ c.k = 5 ∨ c.k = 6 ∨ c.k = 7 := by
    rcases ok_kinds h with ⟨hk, _⟩ | ⟨hk, _⟩ | ⟨hk, _⟩ | ⟨hk, _⟩ <;> omega
  rcases hk with e | e | e | e | e | e | e <;> rw [e] <;> decide
theorem rdC_of {c : Cd} (h : okC c = true) (r : List (List UInt8)) : rdC (wC c ++ r) = some (c, r) := by
  have h2 := rdC2_of h r
  unfold wC
  cases hnt : c.nt with
  | true =>
    rw [hnt] at h2
    rw [if_pos rfl]
    unfold rdC
    show (if notW = notW then _ else _) = _
    rw [if_pos rfl]
    exact h2
  | false =>
    rw [hnt] at h2
    rw [if_neg (by simp), List.nil_append]
    unfold rdC
    show (if cwL.getD c.k.toNat [] = notW then _ else _) = _
    rw [if_neg (cw_not h)]
    exact h2
theorem rdA_of {cm : List UInt8 → Option Nat} {ad : List UInt8 → Option ByteArray} (K : Knows cm ad) {a : Ac} (h : okA' a = true) (hb : a.n < 4294967296) (r : List (List UInt8)) : rdA cm ad (wA a ++ r) = some (a, r) := by
  obtain ⟨k, nm, n, adr⟩ := a
  have hcm : ∀ c, c < 4294967296 → cm (comT c) = some c := fun c hc => by
    cases e : cm (comT c) with
    | none => exact absurd rfl (K.c2 _ e c hc)
    | some d => rw [com_one (K.c1 _ _ e).1 hc (K.c1 _ _ e).2.symm]
  have had : ∀ b : ByteArray, (b.size = 4 ∨ b.size = 16) → ad (adT b) = some b := fun b hb => by
    cases e : ad (adT b) with
    | none => exact absurd rfl (K.a2 _ e b hb)
    | some d => rw [adr_one (K.a1 _ _ e).1 hb (K.a1 _ _ e).2.symm]
  have two : ∀ x, avT ⟨k, nm, n, adr⟩ = x → x ≠ [] → wA ⟨k, nm, n, adr⟩ ++ r = awL.getD k.toNat [] :: x :: r := fun x hx hne => by
    unfold wA; rw [hx, if_neg hne]; rfl
  have one : avT ⟨k, nm, n, adr⟩ = [] → wA ⟨k, nm, n, adr⟩ ++ r = awL.getD k.toNat [] :: r := fun hx => by
    unfold wA; rw [hx, if_pos rfl]; rfl
  rcases okA_kinds h with ⟨hk, hn, h0, ha⟩ | ⟨hk, hn, ha⟩ | ⟨hk, h0, ha, hnm⟩ | ⟨hk, hn, h0, ha⟩ | ⟨hk, hn, ha, h2⟩
  · dsimp only at hk hn h0 ha
    obtain rfl := bs_nil hn
    obtain rfl := bs_nil ha
    subst h0
    rw [one (by unfold avT; rw [if_neg (by dsimp only; omega), if_neg (by dsimp only; omega), if_neg (by dsimp only; omega), if_neg (by dsimp only; omega)])]
    rcases hk with rfl | rfl | rfl
    all_goals
      unfold rdA
      simp only [List.headD_cons, List.tail_cons]
      first
        | rw [show plc awL (awL.getD (1 : Int).toNat []) = some 1 from by decide +kernel]
        | rw [show plc awL (awL.getD (2 : Int).toNat []) = some 2 from by decide +kernel]
        | rw [show plc awL (awL.getD (5 : Int).toNat []) = some 5 from by decide +kernel]
      dsimp only
      rw [if_neg (by omega), if_neg (by omega), if_neg (by omega), if_neg (by omega), if_neg (by omega)]
      rfl
  · dsimp only at hk hn ha hb
    obtain rfl := bs_nil hn
    obtain rfl := bs_nil ha
    rcases (show (k = 3 ∨ k = 4 ∨ k = 8) ∨ k = 6 by omega) with hk | rfl
    · rw [two (Lib.decDigits n) (by unfold avT; rw [if_pos hk]) (digits_ne n)]
      rcases hk with rfl | rfl | rfl
      all_goals
        unfold rdA
        simp only [List.headD_cons, List.tail_cons]
        first
          | rw [show plc awL (awL.getD (3 : Int).toNat []) = some 3 from by decide +kernel]
          | rw [show plc awL (awL.getD (4 : Int).toNat []) = some 4 from by decide +kernel]
          | rw [show plc awL (awL.getD (8 : Int).toNat []) = some 8 from by decide +kernel]
        dsimp only
        rw [if_pos (by omega), nmO_of hb]
        rfl
    · rw [two (comT n) (by unfold avT; rw [if_neg (by dsimp only; omega), if_pos rfl]) (com_not n)]
      unfold rdA
      simp only [List.headD_cons, List.tail_cons]
      rw [show plc awL (awL.getD (6 : Int).toNat []) = some 6 from by decide +kernel]
      dsimp only
      rw [if_neg (by omega), if_pos rfl, hcm n hb]
  · dsimp only at hk h0 ha hnm
    subst hk h0
    obtain rfl := bs_nil ha
    rw [two nm.data.toList (by unfold avT; rw [if_neg (by dsimp only; omega), if_neg (by dsimp only; omega), if_neg (by dsimp only; omega), if_neg (by dsimp only; omega)]) (name_not hnm)]
    unfold rdA
    simp only [List.headD_cons, List.tail_cons]
    rw [show plc awL (awL.getD (7 : Int).toNat []) = some 7 from by decide +kernel]
    dsimp only
    rw [if_neg (by omega), if_neg (by omega), if_pos rfl, bs_back]
  · dsimp only at hk hn h0 ha
    subst hk h0
    obtain rfl := bs_nil hn
    rw [two (adT adr) (by unfold avT; rw [if_neg (by dsimp only; omega), if_neg (by dsimp only; omega), if_pos rfl]) (adT_not adr ha)]
    unfold rdA
    simp only [List.headD_cons, List.tail_cons]
    rw [show plc awL (awL.getD (9 : Int).toNat []) = some 9 from by decide +kernel]
    dsimp only
    rw [if_neg (by omega), if_neg (by omega), if_neg (by omega), if_pos rfl, had adr ha]
  · dsimp only at hk hn ha h2
    subst hk
    obtain rfl := bs_nil hn
    obtain rfl := bs_nil ha
    rw [two (owL.getD n []) (by unfold avT; rw [if_neg (by dsimp only; omega), if_neg (by dsimp only; omega), if_neg (by dsimp only; omega), if_pos rfl]) (by rcases (show n = 0 ∨ n = 1 ∨ n = 2 by omega) with rfl | rfl | rfl <;> decide)]
    unfold rdA
    simp only [List.headD_cons, List.tail_cons]
    rw [show plc awL (awL.getD (10 : Int).toNat []) = some 10 from by decide +kernel]
    dsimp only
    rw [if_neg (by omega), if_neg (by omega), if_neg (by omega), if_neg (by omega), if_pos rfl]
    rcases (show n = 0 ∨ n = 1 ∨ n = 2 by omega) with rfl | rfl | rfl
    · rw [show plc owL (owL.getD 0 []) = some 0 from by decide +kernel]
    · rw [show plc owL (owL.getD 1 []) = some 1 from by decide +kernel]
    · rw [show plc owL (owL.getD 2 []) = some 2 from by decide +kernel]
theorem goL_of {α : Type} {rd : List (List UInt8) → Option (α × List (List UInt8))} {wf : α → List (List UInt8)} : ∀ (L : List α) (f : Nat) (q : List (List UInt8)), L ≠ [] → L.length ≤ f → (∀ c ∈ L, ∀ r, rd (wf c ++ r) = some (c, r)) → q.headD [32] ≠ andW → goL rd f (flatW (L.map wf) q) = some (L, q.headD [32], q.tail)
  | [], _, _, h, _, _, _ => absurd rfl h
  | [a], f, q, _, hf, hL, hq => by
    obtain ⟨f, rfl⟩ : ∃ g, f = g + 1 := ⟨f - 1, by simp at hf; omega⟩
    show goL rd (f + 1) (wf a ++ q) = _
    unfold goL
    rw [hL a (by simp) q]
    dsimp only
    rw [if_neg hq]
  | a :: b :: l, f, q, _, hf, hL, hq => by
    obtain ⟨f, rfl⟩ : ∃ g, f = g + 1 := ⟨f - 1, by simp at hf; omega⟩
    show goL rd (f + 1) (wf a ++ (andW :: flatW ((b :: l).map wf) q)) = _
    unfold goL
    rw [hL a (by simp)]
    dsimp only
    rw [if_pos (show (andW :: flatW ((b :: l).map wf) q).headD [32] = andW from rfl)]
    have := goL_of (b :: l) f q (by simp) (by simp at hf ⊢; omega) (fun c hc => hL c (by simp [List.mem_cons.1 hc])) hq
    show (match goL rd f (flatW ((b :: l).map wf) q) with | none => none | some (l, y, q) => some (a :: l, y, q)) = _
    rw [this]
theorem rdT2_of {cm : List UInt8 → Option Nat} {ad : List UInt8 → Option ByteArray} (K : Knows cm ad) {T : Tm} (h : okT T = true) (hn : ∀ a ∈ T.acs, a.n < 4294967296) : rdT2 cm ad T.cs thenW (flatW (T.acs.map wA) []) = some T := by
  obtain ⟨h1, h2, h3, h4, h5, h6⟩ := ok_term h
  unfold rdT2
  rw [if_pos rfl, goL_of T.acs 64 [] (fun e => by rw [e] at h2; simp at h2) h3 (fun a ha r => rdA_of K (h5 a ha) (hn a ha) r) (by decide)]
  dsimp only
  rw [if_pos ⟨rfl, h⟩]
theorem rdT_of {cm : List UInt8 → Option Nat} {ad : List UInt8 → Option ByteArray} (K : Knows cm ad) {T : Tm} (h : okT T = true) (hn : ∀ a ∈ T.acs, a.n < 4294967296) : rdT cm ad (wT T) = some T := by
  obtain ⟨h1, h2, h3, h4, h5, h6⟩ := ok_term h
  by_cases hc : T.cs = []
  · have := wt_no T hc []
    rw [List.append_nil] at this
    rw [this]
    unfold rdT
    rw [if_neg (by show thenW ≠ ifW; decide)]
    have := rdT2_of K h hn
    rw [hc] at this
    exact this
  · have := wt_if T hc []
    rw [List.append_nil] at this
    rw [this]
    unfold rdT
    rw [if_pos (show (ifW :: flatW (T.cs.map wC) (thenW :: flatW (T.acs.map wA) [])).headD [32] = ifW from rfl)]
    show rdT1 cm ad (goL rdC 64 (flatW (T.cs.map wC) (thenW :: flatW (T.acs.map wA) []))) = _
    rw [goL_of T.cs 64 _ hc h1 (fun c hc r => rdC_of (h4 c hc) r) (by show thenW ≠ andW; decide)]
    exact rdT2_of K h hn
end Go.Proofs.YthaebbmekonacaaGreatDoor
