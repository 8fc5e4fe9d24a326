/-
  Drop.
-/
import Derived.Test.YtgplhdhnailpfaaD1
set_option linter.unusedSimpArgs false
set_option maxRecDepth 100000
namespace Go.Proofs.Ytgplhdhnailpfaa
open Go.RowKit Go.Maps
/-- The timers of others than a peer. -/
def others (L : List Fd) (s : ByteArray) : List Fd := L.filter fun x => !(x.key.peer.toList == s.toList)
/-- Those that are there while a peer's timers go: of others, or still to come. -/
def going (L : List Fd) (s : ByteArray) (left : Lit → Bool) : List Fd := L.filter fun x => !(x.key.peer.toList == s.toList) || left (klit x.key)
theorem going_start {D : DataW Unit} {L : List Fd} (hw : Whl L) (hr : Reads D L) (s : ByteArray) : going L s (Maps.has D) = L := by
  refine List.filter_eq_self.2 (fun x hx => ?_)
  rw [hr.has, hw.look (t := x.at') (k := x.key) hx]
  simp
theorem going_end {L : List Fd} {s : ByteArray} {left : Lit → Bool} (hl : ∀ z, left z = false) : going L s left = others L s := by
  unfold going others
  congr 1
  funext x
  rw [hl]
  simp
theorem going_gone {L : List Fd} {s : ByteArray} {left : Lit → Bool} {x : Fd} (hp : (x.key.peer.toList == s.toList) = true) : going L s (fun z => left z && !z.sameKey (klit x.key)) = without (going L s left) x.key := by
  unfold going without
  rw [List.filter_filter]
  congr 1
  funext y
  by_cases e : y.key = x.key
  · simp [e, same_self, keyB_self, hp]
  · simp [same_ne e, keyB_ne e]
theorem going_stays {L : List Fd} {s : ByteArray} {left : Lit → Bool} {x : Fd} (hp : (x.key.peer.toList == s.toList) = false) : going L s (fun z => left z && !z.sameKey (klit x.key)) = going L s left := by
  unfold going
  congr 1
  funext y
  by_cases e : y.key = x.key
  · simp [e, hp]
  · simp [same_ne e]
theorem others_le (L : List Fd) (s : ByteArray) : (others L s).length ≤ L.length := List.length_filter_le _ _
set_option maxHeartbeats 1000000 in
theorem drop_any {p b : Nat} {L : List Fd} {w : World} (h : WhAt w p b L) (s : ByteArray) (hl : L.length ≤ 50000) :
    Calls Try.prog 18 #[.pointer (some ⟨p, 0, none⟩), .string s] w fun e w' => e = .returned (.int .i64 (((L.length - (others L s).length : Nat)) : Int)) ∧ WhAt w' p b (others L s) ∧ w.grownBy w' (some b) := by
  obtain ⟨hw, D, hown, hr⟩ := h.m
  have hlen := h.m.len
  have HH : Hid (_ : Prop) := h
  have HW : Hid (Whl L) := hw
  have HR : Hid (Reads D L) := hr
  have HO : Hid (w.ownsMap Try.prog 27 (plainElem Try.prog 28) b L.length D) := hown
  have HLE : Hid (L.length ≤ 50000) := hl
  obtain ⟨nt, hnt⟩ : ∃ nt : Nat, nt = L.length - (others L s).length := ⟨_, rfl⟩
  rw [← hnt]
  have HE : Hid (nt = L.length - (others L s).length) := hnt
  clear h hw hr hown hnt hl
  go_enter Try.func18, Try.ntmps18
  go_wp2_with (first | (go_at_call 26; refine (timers_yes HH.out).mono ?_; rintro e w' ⟨rfl, hww⟩; subst w') | (at_range; refine wpList_range_own _ rfl _ 60 rfl 27 28 law Try.underlying60 _ b L.length D rfl HO.out ?_; intro w0 hrg0 hg0 hs0) | go_in)
  go_frame
  have HG0 : Hid (w.grownBy w0 (some b)) := hg0.but _
  clear hg0 hs0 hlen
  go_loopw [7] (fun _ wr => ∃ (left : Lit → Bool) (cnt : Nat) (E : DataW Unit), RgAt wr b w.heap.size L.length E left cnt ∧ Reads E (going L s left) ∧ w.grownBy wr (some b)) (fun _ wr => wr.rangeLeft b w.heap.size)
  case atStart => exact ⟨_, _, D, hrg0, by rw [going_start HW.out HR.out]; exact HR.out, HG0.out⟩
  case round =>
    obtain ⟨left, cnt, E, hrg, hre, hgw⟩ := hrel
    have HRG : Hid (RgAt wr b w.heap.size L.length E left cnt) := hrg
    have HRE : Hid (_ : Prop) := hre
    have HG : Hid (w.grownBy wr (some b)) := hgw
    clear hre hgw hrg0
    go_wp2_with (first | (at_next; refine wpList_next_keys _ rfl _ rfl b w.heap.size L.length E left cnt (going L s left) HRE.out rfl hrg ?_ ?_) | go_in)
    · intro _ hl0
      have hre2 := HRE.out
      rw [going_end hl0] at hre2
      have hm : MpAt wr b (others L s) := MpAt.mk' (HW.out.filter _) HRG.out.owns hre2
      have hln := hm.len
      have hb1 : (L.length : Int) ≤ 50000 := by have := HLE.out; omega
      have hb2 : ((others L s).length : Int) ≤ (L.length : Int) := by have := others_le L s; omega
      have HF : Hid (WhAt wr p b (others L s)) := HH.out.turned HG.out hm
      clear hl0 hre2 hm hrg
      go_wp2
      go_ret
      exact ⟨ret_int (by have := HE.out; omega), HF.out, HG.out⟩
    · intro x w2 cnt2 hx hlx hrg2 hlt hg2 hs2 hen
      have HM : Hid (w2.rangeLeft b w.heap.size < wr.rangeLeft b w.heap.size) := by unfold Hid; rw [World.ranges.left_eq hrg2, World.ranges.left_eq HRG.out]; exact hlt
      have HG2 : Hid (w.grownBy w2 (some b)) := HG.out.andThen hg2 (fun j e => by cases e; exact Or.inl (Nat.le_refl _))
      have HRG2 : Hid (RgAt w2 b w.heap.size L.length E (fun z => left z && !z.sameKey (klit x.key)) cnt2) := hrg2
      clear hrg hg2 hs2 hlx hx
      cases hp : (x.key.peer.toList == s.toList)
      · have HS : Hid (_ = _) := going_stays (L := L) (left := left) hp
        go_wp2
        go_roundw
        case rel => exact ⟨_, _, E, HRG2.out.alloc _, by rw [HS.out]; exact HRE.out, HG2.out.trans (World.grownBy_alloc _ _ _)⟩
        case measure =>
          have h1 := World.ranges.left_eq (HRG2.out.alloc (.cells #[.int .i64 x.key.kind, .string x.key.peer, .int .i64 x.key.fam] 27))
          have h2 := World.ranges.left_eq HRG2.out
          have h3 := HM.out
          rw [h1]; omega
      · have HS : Hid (_ = _) := going_gone (L := L) (left := left) hp
        have hrg3 : RgAt (w2.alloc (.cells #[.int .i64 x.key.kind, .string x.key.peer, .int .i64 x.key.fam] 27)) b w.heap.size L.length E (fun z => left z && !z.sameKey (klit x.key)) cnt2 := HRG2.out.alloc _
        go_wp2_with (first | (at_delete; refine wpList_delete_ranges _ rfl _ _ 60 27 rfl 28 law Try.underlying60 _ b w.heap.size L.length E _ cnt2 rfl hrg3 _ (klit x.key) rfl (keyOf_mk x.key) ?_; intro w3 cnt3 hrg4 hle ht3; go_frame) | go_in)
        rw [Maps.strike_twice] at hrg4
        have hT : Tidy E := HRG.out.owns.tidy law
        have HR4 : Hid (RgAt w3 b w.heap.size L.length (E.del (klit x.key)) (fun z => left z && !z.sameKey (klit x.key)) cnt3) := hrg4
        have HRE4 : Hid (Reads (E.del (klit x.key)) (going L s (fun z => left z && !z.sameKey (klit x.key)))) := by unfold Hid; rw [HS.out]; exact HRE.out.del (HW.out.filter _) hT x.key
        have HG4 : Hid (w.grownBy w3 (some b)) := (HG2.out.trans (World.grownBy_alloc _ _ _)).trans ht3.grown
        have HM4 : Hid (w3.rangeLeft b w.heap.size < wr.rangeLeft b w.heap.size) := by unfold Hid; rw [World.ranges.left_eq hrg4, World.ranges.left_eq HRG.out]; omega
        clear hrg2 hrg3 hrg4 hle ht3 hlt hT
        go_roundw
        case rel => exact ⟨_, _, _, HR4.out, HRE4.out, HG4.out⟩
        case measure => exact HM4.out
end Go.Proofs.Ytgplhdhnailpfaa
