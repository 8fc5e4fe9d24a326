/-
  The closures that take pieces: plain, and what stands in memory while a told prefix is taken.
-/
import Derived.Test.YtfhbgpepkplbaaaGreatDoorN2
import Derived.Test.YtfhbgpepkplbaaaGreatDoorWA
namespace Go.Proofs.YtfhbgpepkplbaaaGreatDoor
open Go.RowKit
theorem drop_list (l : List UInt8) (n : Nat) : (⟨l.toArray⟩ : ByteArray).extract n (⟨l.toArray⟩ : ByteArray).size = ⟨(l.drop n).toArray⟩ := by
  apply ByteArray.ext
  apply Array.ext'
  simp [ByteArray.size]
  exact List.take_of_length_le (by simp)
theorem take_list (l : List UInt8) (n : Nat) : (⟨l.toArray⟩ : ByteArray).extract 0 n = ⟨(l.take n).toArray⟩ := by
  apply ByteArray.ext
  apply Array.ext'
  simp
theorem list_size (l : List UInt8) : (⟨l.toArray⟩ : ByteArray).size = l.length := by simp [ByteArray.size]
theorem Beside.cell {p : Nat} {w w' : World} (h : Beside p w w') {b i : Nat} {v : Value} (hc : w.cell? ⟨b, i, none⟩ = some v) (hb : b ≠ p) : w'.cell? ⟨b, i, none⟩ = some v := by
  have hlt : b < w.heap.size := lt_of_cell hc
  have := h.block b hlt hb
  rw [World.cell?] at hc ⊢
  rw [this]; exact hc
theorem Beside.frozen {p : Nat} {w w' : World} (h : Beside p w w') {b i : Nat} (hlt : b < w.heap.size) (hb : b ≠ p) : w'.frozen? ⟨b, i, none⟩ = w.frozen? ⟨b, i, none⟩ :=
  World.frozen?_of_block (h.block b hlt hb)
theorem Beside.put {p : Nat} {w w1 : World} (h : Beside p w w1) {b : Nat} (hb : w.heap.size ≤ b) (i : Nat) (v : Value) : Beside p w (w1.setCell ⟨b, i, none⟩ v) := by
  have hs := (Below.refl 0 w1).setCell (p := ⟨b, i, none⟩) (by simp) v
  refine ⟨hs.os.trans h.os, hs.tape.trans h.tape, hs.output.trans h.output, Nat.le_trans h.size hs.size, fun k hk hp => ?_⟩
  rw [Below.heap_setCell w1 ⟨b, i, none⟩ v k (by simp; omega)]
  exact h.block k hk hp
theorem Beside.then {p : Nat} {w w1 w2 : World} (h : Beside p w w1) (hb : Below w.heap.size w1 w2) : Beside p w w2 :=
  ⟨hb.os.trans h.os, hb.tape.trans h.tape, hb.output.trans h.output, Nat.le_trans h.size hb.size, fun k hk hp => (hb.block k hk).trans (h.block k hk hp)⟩
/-- So many bytes are taken; the first thing that is wrong is kept. -/
def tk (n : Int) (bad : Bool) (l : List UInt8) : List UInt8 × Bool × List UInt8 := if 0 ≤ n ∧ n ≤ l.length then (l.take n.toNat, bad, l.drop n.toNat) else ([], true, l)
/-- What stands in memory while a told prefix is taken: w is the world ahead, B its size. -/
structure TkAt (w wr : World) (B p : Nat) (f : Int) (add bad : Bool) (l : List UInt8) : Prop where
  s0 : wr.cell? ⟨B, 0, none⟩ = some (.int .i64 (idN add))
  s1 : wr.cell? ⟨B, 1, none⟩ = some (.int .i64 (lbN f))
  s2 : wr.cell? ⟨B, 2, none⟩ = some (.int .i64 (rdN f))
  s3 : wr.cell? ⟨B, 3, none⟩ = some (.int .i64 (szOf f))
  r0 : wr.cell? ⟨B + 1, 0, none⟩ = some (.pointer (some ⟨p, 0, none⟩))
  z0 : wr.cell? ⟨B + 2, 0, none⟩ = some (.int .i64 0)
  z1 : wr.cell? ⟨B + 2, 1, none⟩ = some (.int .u64 0)
  z2 : wr.cell? ⟨B + 2, 2, none⟩ = some (.string ⟨#[]⟩)
  z3 : wr.cell? ⟨B + 2, 3, none⟩ = some (.int .i64 0)
  z4 : wr.cell? ⟨B + 2, 4, none⟩ = some (.int .u32 0)
  z5 : wr.cell? ⟨B + 2, 5, none⟩ = some (.int .u32 0)
  zf : ∀ i, i < 6 → wr.frozen? ⟨B + 2, i, none⟩ = false
  b0 : wr.cell? ⟨B + 3, 0, none⟩ = some (.int .i64 (if bad then 4 else 0))
  bf : wr.frozen? ⟨B + 3, 0, none⟩ = false
  m0 : wr.cell? ⟨B + 4, 0, none⟩ = some (.func (.func 70) #[] #[.pointer (some ⟨B + 3, 0, none⟩)])
  q0 : wr.cell? ⟨B + 5, 0, none⟩ = some (.func (.func 71) #[] #[.pointer (some ⟨B + 1, 0, none⟩), .pointer (some ⟨B + 4, 0, none⟩)])
  rdr : RdrAt wr p ⟨l.toArray⟩
  bes : Beside p w wr
  siz : B + 6 ≤ wr.heap.size
  hB : w.heap.size = B
  hp : p < B
theorem TkAt.beside {w wr w' : World} {B p q : Nat} {f : Int} {add bad : Bool} {l : List UInt8} (h : TkAt w wr B p f add bad l) (hb : Beside q wr w') (hq : B + 6 ≤ q) : TkAt w w' B p f add bad l := by
  have hs := h.siz
  have hp := h.hp
  refine ⟨hb.cell h.s0 (by omega), hb.cell h.s1 (by omega), hb.cell h.s2 (by omega), hb.cell h.s3 (by omega), hb.cell h.r0 (by omega), hb.cell h.z0 (by omega), hb.cell h.z1 (by omega), hb.cell h.z2 (by omega), hb.cell h.z3 (by omega), hb.cell h.z4 (by omega), hb.cell h.z5 (by omega),
    fun i hi => (hb.frozen (by omega) (by omega)).trans (h.zf i hi), hb.cell h.b0 (by omega), (hb.frozen (by omega) (by omega)).trans h.bf, hb.cell h.m0 (by omega), hb.cell h.q0 (by omega), ?_, ?_, Nat.le_trans h.siz hb.size, h.hB, h.hp⟩
  · have r := h.rdr
    exact ⟨hb.cell r.c0 (by omega), hb.cell r.c1 (by omega), (hb.frozen (by omega) (by omega)).trans r.f0, (hb.frozen (by omega) (by omega)).trans r.f1⟩
  · have hBw := h.hB
    refine ⟨hb.os.trans h.bes.os, hb.tape.trans h.bes.tape, hb.output.trans h.bes.output, Nat.le_trans h.bes.size hb.size, fun k hk hkp => ?_⟩
    exact (hb.block k (by omega) (by omega)).trans (h.bes.block k hk hkp)
theorem TkAt.below {w wr w' : World} {B p : Nat} {f : Int} {add bad : Bool} {l : List UInt8} (h : TkAt w wr B p f add bad l) (hb : Below wr.heap.size wr w') : TkAt w w' B p f add bad l :=
  h.beside (q := wr.heap.size) (Beside.of_below hb (Nat.le_refl _)) h.siz
theorem TkAt.drewN {w wr : World} {B p : Nat} {f : Int} {add bad : Bool} {l : List UInt8} (h : TkAt w wr B p f add bad l) (n : Nat) : TkAt w (wr.drewN n) B p f add bad l :=
  h.below (below_drewN (Below.refl _ _) n)
theorem TkAt.read {w wr : World} {B p : Nat} {f : Int} {add bad : Bool} {l : List UInt8} (h : TkAt w wr B p f add bad l) (m : List UInt8) : TkAt w (wr.setCell ⟨p, 1, none⟩ (.string ⟨m.toArray⟩)) B p f add bad m := by
  have hp := h.hp
  have o : ∀ b i, b ≠ p → (wr.setCell ⟨p, 1, none⟩ (.string ⟨m.toArray⟩)).cell? ⟨b, i, none⟩ = wr.cell? ⟨b, i, none⟩ := fun b i hb => World.cell?_setCell_other _ _ _ _ (by intro e; injection e with e; exact hb e.symm)
  refine ⟨(o _ _ (by omega)).trans h.s0, (o _ _ (by omega)).trans h.s1, (o _ _ (by omega)).trans h.s2, (o _ _ (by omega)).trans h.s3, (o _ _ (by omega)).trans h.r0, (o _ _ (by omega)).trans h.z0, (o _ _ (by omega)).trans h.z1, (o _ _ (by omega)).trans h.z2, (o _ _ (by omega)).trans h.z3, (o _ _ (by omega)).trans h.z4, (o _ _ (by omega)).trans h.z5,
    fun i hi => by rw [World.frozen?_setCell]; exact h.zf i hi, (o _ _ (by omega)).trans h.b0, by rw [World.frozen?_setCell]; exact h.bf, (o _ _ (by omega)).trans h.m0, (o _ _ (by omega)).trans h.q0, h.rdr.set _, h.bes.trans (Beside.set _ _ _), by rw [World.size_setCell]; exact h.siz, h.hB, h.hp⟩
theorem TkAt.wrong {w wr : World} {B p : Nat} {f : Int} {add bad : Bool} {l : List UInt8} (h : TkAt w wr B p f add bad l) : TkAt w (wr.setCell ⟨B + 3, 0, none⟩ (.int .i64 4)) B p f add true l := by
  have hp := h.hp
  have hB := h.hB
  have o : ∀ b i, b ≠ B + 3 → (wr.setCell ⟨B + 3, 0, none⟩ (.int .i64 4)).cell? ⟨b, i, none⟩ = wr.cell? ⟨b, i, none⟩ := fun b i hb => World.cell?_setCell_other _ _ _ _ (by intro e; injection e with e; exact hb e.symm)
  refine ⟨(o _ _ (by omega)).trans h.s0, (o _ _ (by omega)).trans h.s1, (o _ _ (by omega)).trans h.s2, (o _ _ (by omega)).trans h.s3, (o _ _ (by omega)).trans h.r0, (o _ _ (by omega)).trans h.z0, (o _ _ (by omega)).trans h.z1, (o _ _ (by omega)).trans h.z2, (o _ _ (by omega)).trans h.z3, (o _ _ (by omega)).trans h.z4, (o _ _ (by omega)).trans h.z5,
    fun i hi => by rw [World.frozen?_setCell]; exact h.zf i hi, World.cell?_setCell_same _ _ _ h.b0, by rw [World.frozen?_setCell]; exact h.bf, (o _ _ (by omega)).trans h.m0, (o _ _ (by omega)).trans h.q0, h.rdr.set_other _ _ (by simp; omega), h.bes.put (by omega) _ _, by rw [World.size_setCell]; exact h.siz, h.hB, h.hp⟩
/-- must: what does not hold is wrong. -/
theorem must_any (ok : Bool) {w wr : World} {B p : Nat} {f : Int} {add bad : Bool} {l : List UInt8} (h : TkAt w wr B p f add bad l) :
    Calls Tryz.prog 70 #[.bool ok, .pointer (some ⟨B + 3, 0, none⟩)] wr fun e w' => e = .returned (.tuple #[]) ∧ TkAt w w' B p f add (bad || !ok) l := by
  have H : Hid (TkAt w wr B p f add bad l) := h
  have b0 := h.b0
  have bf := h.bf
  clear h
  cases ok with
  | true =>
    go_enter Tryz.func70, Tryz.ntmps70
    go_wp2
    go_end0
    exact ⟨rfl, by simpa using H.out⟩
  | false =>
    cases bad with
    | true =>
      simp only [if_true] at b0
      go_enter Tryz.func70, Tryz.ntmps70
      go_wp2
      go_end0
      exact ⟨rfl, H.out⟩
    | false =>
      simp only [Bool.false_eq_true, if_false] at b0
      go_enter Tryz.func70, Tryz.ntmps70
      go_wp2
      go_end0
      exact ⟨rfl, H.out.wrong⟩
/-- piece: so many bytes. -/
theorem piece_any (n : Int) {w wr : World} {B p : Nat} {f : Int} {add bad : Bool} {l : List UInt8} (h : TkAt w wr B p f add bad l) :
    Calls Tryz.prog 71 #[.int .i64 n, .pointer (some ⟨B + 1, 0, none⟩), .pointer (some ⟨B + 4, 0, none⟩)] wr fun e w' => e = .returned (.string ⟨(tk n bad l).1.toArray⟩) ∧ TkAt w w' B p f add (tk n bad l).2.1 (tk n bad l).2.2 := by
  have H : Hid (TkAt w wr B p f add bad l) := h
  have r0 := h.r0
  clear h
  by_cases hn : 0 ≤ n ∧ n ≤ l.length
  · obtain ⟨k, rfl⟩ := Int.eq_ofNat_of_zero_le hn.1
    have HT : Hid (tk (k : Int) bad l = (l.take k, bad, l.drop k)) := by unfold Hid tk; rw [if_pos hn]; rfl
    go_enter Tryz.func71, Tryz.ntmps71
    go_wp2_with fail
    refine (take_yes p _ k _ H.out.rdr (by rw [list_size]; omega)).mono ?_
    rintro e w1 ⟨rfl, hw⟩
    rw [drop_list] at hw
    rw [take_list]
    have H1 : Hid (TkAt w w1 B p f add bad (l.drop k)) := by unfold Hid; rw [hw]; exact H.out.read _
    have m0 := H1.out.m0
    clear hw H r0 hn
    go_wp2_with fail
    refine (must_any true H1.out).mono ?_
    rintro e w2 ⟨rfl, h2⟩
    go_wp2
    go_ret
    rw [HT.out]
    exact ⟨rfl, by simpa using h2⟩
  · have HT : Hid (tk n bad l = ([], true, l)) := by unfold Hid tk; rw [if_neg hn]
    go_enter Tryz.func71, Tryz.ntmps71
    go_wp2_with fail
    refine (take_no p _ n _ H.out.rdr (by rw [list_size]; omega)).mono ?_
    rintro e w1 ⟨rfl, rfl⟩
    have m0 := H.out.m0
    go_wp2_with fail
    refine (must_any false H.out).mono ?_
    rintro e w2 ⟨rfl, h2⟩
    go_wp2
    go_ret
    rw [HT.out]
    exact ⟨rfl, by simpa using h2⟩
/-- number: the number of so many bytes. -/
theorem numb_any (n : Nat) (hn : n ≤ 8) {w wr : World} {B p : Nat} {f : Int} {add bad : Bool} {l : List UInt8} (h : TkAt w wr B p f add bad l) :
    Calls Tryz.prog 73 #[.int .i64 n, .pointer (some ⟨B + 5, 0, none⟩)] wr fun e w' => e = .returned (.int .u64 (worth (tk n bad l).1 : Nat)) ∧ TkAt w w' B p f add (tk n bad l).2.1 (tk n bad l).2.2 := by
  have H : Hid (TkAt w wr B p f add bad l) := h
  have q0 := h.q0
  clear h
  have HL : Hid ((tk n bad l).1.length = n ∨ (tk n bad l).1 = []) := by
    unfold Hid tk
    split
    · left; simp; omega
    · right; rfl
  have hpc := piece_any (n : Int) H.out
  have HP : Hid (_ : Prop) := hpc
  clear hpc H
  generalize tk n bad l = x at *
  obtain ⟨m, bad', l'⟩ := x
  simp only at HP HL
  go_enter Tryz.func73, Tryz.ntmps73
  go_wp2_with fail
  refine Calls.mono HP.out ?_
  rintro e w1 ⟨rfl, h1⟩
  have H1 : Hid (TkAt w w1 B p f add bad' l') := h1
  have HL' : Hid (m.length = n ∨ m = []) := HL.out
  clear h1 q0 HL HP
  go_wp2_with fail
  refine (new_any ⟨m.toArray⟩ _).mono ?_
  rintro e w2 ⟨rfl, hr2, hb2, hs2⟩
  have H2 : Hid (TkAt w w2 B p f add bad' l') := H1.out.below hb2
  have hq : B + 6 ≤ w1.heap.size := H1.out.siz
  have HR : Hid (RdrAt w2 w1.heap.size ⟨m.toArray⟩) := hr2
  generalize w1.heap.size = q at *
  clear hb2 hs2 H1 hr2
  by_cases h0 : n = 0
  · subst h0
    have hm : m = [] := by rcases HL'.out with h | h
                           · exact List.length_eq_zero_iff.mp h
                           · exact h
    go_wp2_with (go_at_call 74; refine (num_bad _ _ _ (by omega)).mono ?_; rintro e w3 ⟨rfl, rfl⟩)
    go_ret
    exact ⟨by subst hm; rfl, H2.out⟩
  · by_cases hm : m = []
    · subst hm
      go_wp2_with fail
      refine (num_no q _ n _ HR.out (by omega) hn (by rw [list_size]; simp; omega)).mono ?_
      rintro e w3 ⟨rfl, _, hb3⟩
      have H3 : Hid (TkAt w w3 B p f add bad' l') := H2.out.beside hb3 hq
      clear hb3
      go_wp2
      go_ret
      exact ⟨rfl, H3.out⟩
    · have hm' : m.length = n := by rcases HL'.out with h | h
                                    · exact h
                                    · exact absurd h hm
      go_wp2_with fail
      refine (num_yes q _ n _ HR.out (by omega) hn (by rw [list_size]; omega)).mono ?_
      rintro e w3 ⟨rfl, _, hb3⟩
      have H3 : Hid (TkAt w w3 B p f add bad' l') := H2.out.beside hb3 hq
      have HE : Hid (m.take n = m) := by unfold Hid; rw [← hm', List.take_length]
      clear hb3
      go_wp2
      go_ret
      exact ⟨congrArg (fun z : List UInt8 => Ending.returned (.int .u64 (worth z : Nat))) HE.out, H3.out⟩
end Go.Proofs.YtfhbgpepkplbaaaGreatDoor
