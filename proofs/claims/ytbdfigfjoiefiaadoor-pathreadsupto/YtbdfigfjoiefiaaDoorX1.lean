/-
  Texts cut at one byte, whatever their length; numbers read, whatever the text is.
-/
import Derived.Test.YtbdfigfjoiefiaaDoorU3
import Derived.Shelf.Strings.Search2
import Derived.Lib.CutLaws
import Derived.Lib.Split
import Derived.Lib.AtoiErrMem
import Derived.Deep.LoopGhost
import Derived.Shelf.RegionOpenPlain
import Derived.BigCall
import Derived.BigGuard
set_option linter.unusedVariables false
set_option linter.unusedSimpArgs false
set_option maxRecDepth 100000
namespace Go.Proofs.YtbdfigfjoiefiaaDoor
open Go.RowKit
theorem index_c (s : ByteArray) (c : UInt8) (w : World) : Calls Tryd.prog 105 #[.string s, .string ⟨#[c]⟩] w fun e w' => e = .returned (.int .i64 (Lib.indexB s ⟨#[c]⟩)) ∧ w' = w := by
  have h : Calls Tryd.prog 105 #[.string s, .string ⟨#[c]⟩] w fun e w' => e = .returned (.int .i64 (Lib.indexByte s.data.toList c)) ∧ w' = w := Any.stringslite_Index_one (P := Tryd.prog) (ρ := Tryd.lays145_ren) { Tryd.lays145 with } s c w
  have e : Lib.indexB s ⟨#[c]⟩ = Lib.indexByte s.data.toList c := Lib.index_one _ _
  rw [e]; exact h
theorem one_size (c : UInt8) : (⟨#[c]⟩ : ByteArray).size = 1 := rfl
/-- Cut at a byte, whatever the text's length. -/
theorem lcut_c (s : ByteArray) (c : UInt8) (hs : s.size < 140737488351233) (w : World) :
    Calls Tryd.prog 101 #[.string s, .string ⟨#[c]⟩] w fun e w' => e = .returned (.tuple #[.string ⟨(Lib.cut s.data.toList [c]).1.toArray⟩, .string ⟨(Lib.cut s.data.toList [c]).2.1.toArray⟩, .bool (Lib.cut s.data.toList [c]).2.2]) ∧ ∃ n, w' = w.drewN n := by
  rcases Lib.indexB_cases s ⟨#[c]⟩ with hix | ⟨i, hix, hroom⟩
  · obtain ⟨e1, e2, e3⟩ := Lib.cutB_miss s ⟨#[c]⟩ hix
    rw [show ([c] : List UInt8) = (⟨#[c]⟩ : ByteArray).data.toList from rfl, e1, e2, e3]
    have HI : Hid (∀ W, Calls Tryd.prog 105 #[.string s, .string ⟨#[c]⟩] W _) := fun W => index_c s c W
    rw [hix] at HI
    clear e1 e2 e3 hix
    go_enter Tryd.func101, Tryd.ntmps101
    go_wp2_with (go_at_call 105; refine (HI.out _).mono ?_; rintro e w' ⟨rfl, rfl⟩)
    go_ret3
    exact ⟨rfl, 0, rfl⟩
  · obtain ⟨e1, e2, e3⟩ := Lib.cutB_hit s ⟨#[c]⟩ i hix
    rw [show ([c] : List UInt8) = (⟨#[c]⟩ : ByteArray).data.toList from rfl, e1, e2, e3]
    rw [one_size] at hroom ⊢
    have HI : Hid (∀ W, Calls Tryd.prog 105 #[.string s, .string ⟨#[c]⟩] W _) := fun W => index_c s c W
    rw [hix] at HI
    clear e1 e2 e3 hix
    have mixed := Tryd.lays145.mixed
    have hw : IntKind.i64.wrap ((i : Int) + 1) = (i : Int) + 1 := by rw [IntKind.wrap_i64]; omega
    have c1 : (0 : Int) ≤ (i : Int) := by omega
    have c2 : (i : Int) ≤ (s.size : Int) := by omega
    have c3 : (0 : Int) ≤ (i : Int) + 1 := by omega
    have c4 : (i : Int) + 1 ≤ (s.size : Int) := by omega
    go_enter Tryd.func101, Tryd.ntmps101
    go_wp2_with (go_at_call 105; refine (HI.out _).mono ?_; rintro e w' ⟨rfl, rfl⟩)
    go_region_o
    go_wp2
    go_ret3
    exact ⟨rfl, 1, rfl⟩
theorem scut_c (s : ByteArray) (c : UInt8) (hs : s.size < 140737488351233) (w : World) :
    Calls Tryd.prog 90 #[.string s, .string ⟨#[c]⟩] w fun e w' => e = .returned (.tuple #[.string ⟨(Lib.cut s.data.toList [c]).1.toArray⟩, .string ⟨(Lib.cut s.data.toList [c]).2.1.toArray⟩, .bool (Lib.cut s.data.toList [c]).2.2]) ∧ ∃ n, w' = w.drewN n := by
  have HC : Hid (∀ W, Calls Tryd.prog 101 #[.string s, .string ⟨#[c]⟩] W _) := fun W => lcut_c s c hs W
  go_enter Tryd.func90, Tryd.ntmps90
  go_wp2_with (go_at_call 101; refine (HC.out _).mono ?_; rintro e w' ⟨rfl, n, rfl⟩)
  go_ret3
  exact ⟨rfl, n, rfl⟩
section
open Lib
theorem pm_le (M acc : Nat) (l : List UInt8) (u : Nat) (ha : acc ≤ M) (h : parseUintM M acc l = .ok u) : u ≤ M := by
  induction l generalizing acc with
  | nil => simp only [parseUintM, NumEnd.ok.injEq] at h; omega
  | cons c l ih =>
    simp only [parseUintM] at h
    split at h
    · split at h
      · cases h
      · split at h
        · cases h
        · exact ih _ (by omega) h
    · cases h
end
/-- The two variables that hold the errors. -/
def ErrsAt (w : World) : Prop := (∃ te pe t fr, w.heap[5]? = some (.cells #[.iface te pe] t fr)) ∧ (∃ te pe t fr, w.heap[6]? = some (.cells #[.iface te pe] t fr))
theorem ErrsAt.below {w w' : World} (h : ErrsAt w) (hb : Below w.heap.size w w') : ErrsAt w' := by
  obtain ⟨⟨a, b, t, fr, h1⟩, ⟨c, d, t', fr', h2⟩⟩ := h
  have z1 := (Array.getElem?_eq_some_iff.mp h1).1
  have z2 := (Array.getElem?_eq_some_iff.mp h2).1
  exact ⟨⟨a, b, t, fr, (hb.block 5 z1).trans h1⟩, ⟨c, d, t', fr', (hb.block 6 z2).trans h2⟩⟩
theorem ErrsAt.lt {w : World} (h : ErrsAt w) : 7 ≤ w.heap.size := by
  obtain ⟨_, ⟨c, d, t', fr', h2⟩⟩ := h
  exact (Array.getElem?_eq_some_iff.mp h2).1
theorem var_at {w : World} {n : String} {g : Nat} {cs : Array Value} {t : TypeId} {fr : Nat × Nat} (hg : Tryd.prog.globalNamed n = some g) (h : w.heap[g]? = some (.cells cs t fr)) : w.var? Tryd.prog n = some cs := by
  unfold World.var?
  rw [hg, Option.bind_some, h]
/-- What ParseUint answers. -/
def PuOk (o : Option Nat) (e : Ending) : Prop := match o with
  | some n => e = .returned (.tuple #[.int .u64 (n : Int), .nilIface])
  | none => ∃ v t p, e = .returned (.tuple #[.int .u64 v, .iface t p])
def o10 (l : List UInt8) : Option Nat := match Lib.parseUintB 32 l with
  | .ok u => some u
  | _ => none
theorem o10_lt (l : List UInt8) (u : Nat) (h : o10 l = some u) : u < 4294967296 := by
  unfold o10 at h
  split at h
  · rename_i x hx
    obtain rfl := Option.some.inj h
    unfold Lib.parseUintB at hx
    split at hx
    · cases hx
    · have := pm_le _ 0 l _ (Nat.zero_le _) hx
      omega
  · cases h
theorem o10_full (u : Nat) (hu : u < 4294967296) : o10 (Lib.decDigits u) = some u := by
  unfold o10
  rw [pu_back u hu]
theorem pu10_32 (s : ByteArray) (hs : s.size ≤ 281474976710656) (w : World) (hE : ErrsAt w) :
    Calls Tryd.prog 106 #[.string s, .int .i64 10, .int .i64 32] w fun e w' => PuOk (o10 s.data.toList) e ∧ Below w.heap.size w w' := by
  obtain ⟨⟨t1, p1, ty1, fr1, h1⟩, ⟨t2, p2, ty2, fr2, h2⟩⟩ := hE
  unfold o10
  cases hp : Lib.parseUintB 32 s.data.toList
  · exact (show Calls Tryd.prog 106 _ _ _ from Any.strconv_ParseUint_10_at32_ok Tryd.laysPu14 s (by omega) _ hp w).mono fun _ _ ⟨h3, h4⟩ => ⟨h3, by rcases h4 with rfl | rfl; exact Below.refl _ _; exact Lib.bytesWorld_below _ _ _⟩
  · exact (show Calls Tryd.prog 106 _ _ _ from Any.strconv_ParseUint_10_at32_syntax_var Tryd.laysPu14 s hs hp t1 p1 w (var_at (by kernel_rfl) h1)).mono fun _ _ ⟨N, h3, _, _, h4⟩ => ⟨⟨_, _, _, h3⟩, h4⟩
  · exact (show Calls Tryd.prog 106 _ _ _ from Any.strconv_ParseUint_10_at32_range_var Tryd.laysPu14 s hs hp t2 p2 w (var_at (by kernel_rfl) h2)).mono fun _ _ ⟨N, h3, _, _, h4⟩ => ⟨⟨_, _, _, h3⟩, h4⟩
/-- The number whose digits a text is. -/
def nmO (x : List UInt8) : Option Nat := match o10 x with
  | some u => if Lib.decDigits u = x then some u else none
  | none => none
theorem nmO_some {x : List UInt8} {n : Nat} (h : nmO x = some n) : n < 4294967296 ∧ Lib.decDigits n = x := by
  unfold nmO at h
  split at h
  · rename_i u hu
    split at h
    · rename_i e
      obtain rfl := Option.some.inj h
      exact ⟨o10_lt x _ hu, e⟩
    · cases h
  · cases h
theorem nmO_digits (n : Nat) (h : n < 4294967296) : nmO (Lib.decDigits n) = some n := by
  unfold nmO
  rw [o10_full n h]
  simp
/-- What parseNumber answers. -/
def NmV (o : Option Nat) : Value := match o with
  | some n => .tuple #[.int .u32 (n : Int), .bool true]
  | none => .tuple #[.int .u32 0, .bool false]
set_option maxHeartbeats 2000000 in
theorem pnum_any (x : List UInt8) (hs : x.length ≤ 281474976710656) (w : World) (hE : ErrsAt w) (ht : Tabs w) :
    Calls Tryd.prog 102 #[.string ⟨x.toArray⟩] w fun e w' => e = .returned (NmV (nmO x)) ∧ Below w.heap.size w w' := by
  have HPu : Hid (_ : Prop) := pu10_32 ⟨x.toArray⟩ (by rw [list_size]; exact hs) w hE
  rw [show (⟨x.toArray⟩ : ByteArray).data.toList = x by simp] at HPu
  have HL : Hid (∀ u, o10 x = some u → u < 4294967296) := fun u h => o10_lt x u h
  have HF : Hid (∀ (u : Nat) (hu : u < 18446744073709551616) W, Tabs W → _) := fun u hu W hp => fmt_any u hu W hp
  have HT : Hid (Tabs w) := ht
  unfold nmO
  clear hE ht hs
  generalize ho : o10 x = o at *
  clear ho
  cases o with
  | none =>
    go_enter Tryd.func102, Tryd.ntmps102
    go_wp2_with fail
    refine Calls.mono HPu.out ?_
    rintro e w1 ⟨⟨v, t, p, rfl⟩, hb1⟩
    have HB : Hid (Below w.heap.size w w1) := hb1
    clear hb1
    go_wp2
    go_ret2
    exact ⟨rfl, HB.out⟩
  | some u =>
    have hu := HL.out u rfl
    have HF2 : Hid (∀ W, _) := HF.out u (by omega)
    have hw : IntKind.u32.wrap (u : Int) = u := by rw [IntKind.wrap_u32]; omega
    by_cases hq : Lib.decDigits u = x
    · have HR : Hid ((if Lib.decDigits u = x then some u else none) = some u) := if_pos hq
      have hq1 : ((⟨(Lib.decDigits u).toArray⟩ : ByteArray).toList == (⟨x.toArray⟩ : ByteArray).toList) = true := by rw [ByteArray.toList_eq, ByteArray.toList_eq]; simpa using hq
      simp only [HR.out]
      clear HF HL hq hu HR
      generalize (⟨(Lib.decDigits u).toArray⟩ : ByteArray) = dt at *
      generalize (⟨x.toArray⟩ : ByteArray) = xt at *
      go_enter Tryd.func102, Tryd.ntmps102
      go_wp2_with fail
      refine Calls.mono HPu.out ?_
      rintro e w1 ⟨he, hb1⟩
      obtain rfl := he
      have HB : Hid (Below w.heap.size w w1) := hb1
      have HT1 : Hid (Tabs w1) := HT.out.below hb1
      clear hb1
      go_wp2_with fail
      refine Calls.mono (HF2.out _ HT1.out) ?_
      rintro e w2 ⟨rfl, hb2⟩
      have HB2 : Hid (Below w.heap.size w w2) := HB.out.trans (hb2.mono HB.out.size)
      clear hb2
      go_wp2
      go_ret2
      exact ⟨rfl, HB2.out⟩
    · have HR : Hid ((if Lib.decDigits u = x then some u else none) = none) := if_neg hq
      have hq1 : ((⟨(Lib.decDigits u).toArray⟩ : ByteArray).toList == (⟨x.toArray⟩ : ByteArray).toList) = false := by rw [ByteArray.toList_eq, ByteArray.toList_eq]; simpa using hq
      simp only [HR.out]
      clear HF HL hq hu HR
      generalize (⟨(Lib.decDigits u).toArray⟩ : ByteArray) = dt at *
      generalize (⟨x.toArray⟩ : ByteArray) = xt at *
      go_enter Tryd.func102, Tryd.ntmps102
      go_wp2_with fail
      refine Calls.mono HPu.out ?_
      rintro e w1 ⟨he, hb1⟩
      obtain rfl := he
      have HB : Hid (Below w.heap.size w w1) := hb1
      have HT1 : Hid (Tabs w1) := HT.out.below hb1
      clear hb1
      go_wp2_with fail
      refine Calls.mono (HF2.out _ HT1.out) ?_
      rintro e w2 ⟨rfl, hb2⟩
      have HB2 : Hid (Below w.heap.size w w2) := HB.out.trans (hb2.mono HB.out.size)
      clear hb2
      go_wp2
      go_ret2
      exact ⟨rfl, HB2.out⟩
end Go.Proofs.YtbdfigfjoiefiaaDoor
