/-
  The values of lists, as package attr lays them.
-/
import Derived.Test.YtpahnebhcfpplabGreatDoorE1
import Derived.BigQuiet
import Derived.Deep.RegionHeld3
namespace Go.Proofs.YtpahnebhcfpplabGreatDoor
open Go.RowKit
theorem bytesN_nil (n : Nat) : bytesN n [] = ⟨#[]⟩ := rfl
set_option maxRecDepth 100000 in
theorem encC (v : Value) (l : List Nat) (w : World) (h : PlainAt w v l) (hl32 : l.length ≤ 32) :
    Calls Tryz.prog 66 #[v] w fun e w' => e = .returned (.tuple #[.string (bytesN 4 l), .int .i64 0]) ∧ Below w.heap.size w w' := by
  obtain ⟨ad, b, off, cap, rfl, had, ⟨_, hl⟩, hr⟩ := h
  have HR : Hid (RowQ _ _ _ _ _ _) := hr
  clear hr
  go_enter Tryz.func66, Tryz.ntmps66
  go_wp2
  have hq0 : Bld (w.alloc (.cells #[.pointer none, .slice none 0 0] 61)) w.heap.size w.heap.size [] := by
    refine Or.inl ⟨Nat.le_refl _, .slice none 0 0, heap_new _ _, World.ownsRowF_nil _ _ _ _, by simp [Value.ownBlock]⟩
  have hq1 : Below w.heap.size w (w.alloc (.cells #[.pointer none, .slice none 0 0] 61)) := (Below.refl _ _).alloc (Nat.le_refl _) _
  generalize w.alloc (.cells #[.pointer none, .slice none 0 0] 61) = W at *
  generalize hp : w.heap.size = p at *
  go_loopw [9] (fun i wr => ∃ n : Nat, n ≤ l.length ∧ i = .int .i64 n ∧ Bld wr p p ((l.take n).flatMap fun x => laid x 4) ∧ Below p w wr) (fun i _ => l.length - (intOf i).toNat)
  case atStart => exact ⟨0, Nat.zero_le _, rfl, hq0, hq1⟩
  case round =>
    obtain ⟨n, hn, rfl, hbd, hb⟩ := hrel
    clear hq0 hq1
    have HBD : Hid (Bld _ _ _ _) := hbd
    have HB : Hid (Below _ _ _) := hb
    clear hbd
    have hpz : p ≤ wr.heap.size := by rw [← hp]; exact hb.size
    by_cases hlt : n < l.length
    · obtain rfl : ad = some ⟨b, off, none⟩ := by rcases had with h | h; exact h; omega
      have c1 := below_cell (hp ▸ hb) (HR.out n hlt).1
      have hx := (HR.out n hlt).2
      have HX : Hid (((l.take (n + 1)).flatMap fun x => laid x 4) = ((l.take n).flatMap fun x => laid x 4) ++ laid l[n] 4) := by unfold Hid; rw [take_snoc l n hlt, List.flatMap_append]; simp only [List.flatMap_cons, List.flatMap_nil, List.append_nil]
      have HL : Hid (((l.take n).flatMap fun x => laid x 4).length ≤ 1000) := by
        unfold Hid
        have : ∀ m : List Nat, (m.flatMap fun x => laid x 4).length = 4 * m.length := by
          intro m
          induction m with
          | nil => rfl
          | cons a m ih => simp [laid_length, ih]; omega
        rw [this]; simp; omega
      clear hb had
      generalize ((l.take n).flatMap fun x => laid x 4) = E at *
      generalize l[n] = x at *
      have hwr : IntKind.u64.wrap (x : Int) = (x : Int) := by rw [IntKind.wrap_u64]; omega
      go_wp2_with fail
      refine (put47 x 4 wr (by omega) (by omega) (by omega)).mono ?_
      rintro e w2 ⟨rfl, hb2⟩
      have hB2 := HBD.out.below hb2
      have hz2 := hb2.size
      have hll := laid_length x 4
      have HB2 : Hid (Below p w w2) := HB.out.trans (hb2.mono hpz)
      have HZ2 : Hid (p ≤ w2.heap.size) := by unfold Hid; omega
      clear hb2 hz2 c1
      go_wp2_with fail
      refine (Tryz.Builder_WriteString_k p p (Lib.byteCells E) ⟨(laid x 4).toArray⟩ w2 hB2 (by rw [Lib.byteCells_length]; show _ + (laid x 4).length ≤ _; have := HL.out; omega) HZ2.out).mono ?_
      rintro e w3 ⟨rfl, hB3, hb3, _⟩
      rw [strCells_eq, byteCells_append] at hB3
      have HB3 : Hid (Below p w w3) := HB2.out.trans hb3
      have HBD3 : Hid (Bld w3 p p _) := Or.inr hB3
      clear hB3 hb3 hB2
      go_wp2
      go_roundw
      case rel => exact ⟨n + 1, by omega, by go_num, by rw [HX.out]; exact HBD3.out, HB3.out⟩
      case measure => simp [intOf]; omega
    · obtain rfl : n = l.length := by omega
      have HE : Hid ((l.take l.length).flatMap (fun x => laid x 4) = l.flatMap fun x => laid x 4) := by unfold Hid; rw [List.take_length]
      go_wp2_with fail
      refine (Tryz.Builder_String_any_k p p _ wr HBD.out hpz).mono ?_
      rintro e w2 ⟨rfl, _, hb2, _⟩
      rw [HE.out]
      have HB2 : Hid (Below p w w2) := HB.out.trans hb2
      go_wp2
      go_ret2
      exact ⟨rfl, by rw [hp]; exact HB2.out⟩
theorem atComms (p : Nat) (w : World) :
    Calls Tryz.prog 61 #[.pointer (some ⟨p, 0, none⟩)] w fun e w' => e = .returned (.pointer (some ⟨p, 10, none⟩)) ∧ w' = w := by
  go_enter Tryz.func61, Tryz.ntmps61
  go_wp2
  go_ret
  exact ⟨rfl, rfl⟩
theorem atClus (p : Nat) (w : World) :
    Calls Tryz.prog 65 #[.pointer (some ⟨p, 0, none⟩)] w fun e w' => e = .returned (.pointer (some ⟨p, 15, none⟩)) ∧ w' = w := by
  go_enter Tryz.func65, Tryz.ntmps65
  go_wp2
  go_ret
  exact ⟨rfl, rfl⟩
theorem atExts (p : Nat) (w : World) :
    Calls Tryz.prog 69 #[.pointer (some ⟨p, 0, none⟩)] w fun e w' => e = .returned (.pointer (some ⟨p, 11, none⟩)) ∧ w' = w := by
  go_enter Tryz.func69, Tryz.ntmps69
  go_wp2
  go_ret
  exact ⟨rfl, rfl⟩
theorem atLarg (p : Nat) (w : World) :
    Calls Tryz.prog 73 #[.pointer (some ⟨p, 0, none⟩)] w fun e w' => e = .returned (.pointer (some ⟨p, 12, none⟩)) ∧ w' = w := by
  go_enter Tryz.func73, Tryz.ntmps73
  go_wp2
  go_ret
  exact ⟨rfl, rfl⟩
set_option maxRecDepth 100000 in
theorem layComms (p qe qa : Nat) (v : Value) (bs : ByteArray) (has : Bool) (w : World) (hqe : w.cell? ⟨qe, 0, none⟩ = some (.func (.func 62) #[] #[])) (hqa : w.cell? ⟨qa, 0, none⟩ = some (.func (.func 61) #[] #[])) (h : w.cell? ⟨p, 10, none⟩ = some v)
    (hs : ∃ ad n c, v = .slice ad n c) (henc : Calls Tryz.prog 62 #[v] w.drew fun e w' => e = .returned (.tuple #[.string bs, .int .i64 0]) ∧ Below w.drew.heap.size w.drew w') (hne : bs.toList.isEmpty = !has) :
    Calls Tryz.prog 94 #[.pointer (some ⟨p, 0, none⟩), .pointer (some ⟨qe, 0, none⟩), .pointer (some ⟨qa, 0, none⟩)] w fun e w' => e = .returned (.tuple #[.string bs, .bool has]) ∧ Below w.heap.size w w' := by
  obtain ⟨ad, n, c, rfl⟩ := hs
  have HE : Hid (Calls _ _ _ _ _) := henc
  have HNE : Hid (_ = _) := hne
  clear henc hne
  go_enter Tryz.func94, Tryz.ntmps94
  go_wp2
  go_region_held (fun w' => w'.cell? ⟨qe, 0, none⟩ = some (.func (.func 62) #[] #[]) ∧ w'.cell? ⟨qa, 0, none⟩ = some (.func (.func 61) #[] #[]) ∧ w'.cell? ⟨p, 10, none⟩ = some (.slice ad n c)) (go_keep)
    (first | (go_at_call 61; refine (atComms p _).mono ?_; rintro e w4 ⟨rfl, rfl⟩) | (go_at_call 62; refine HE.out.mono ?_; rintro e w5 ⟨rfl, hb5⟩; have q0 := below_cell (w := w.drew) hb5 hqe; have q1 := below_cell (w := w.drew) hb5 hqa; have q2 := below_cell (w := w.drew) hb5 h))
  have HB2 : Hid (Below w.heap.size w w5) := (Below.refl w.heap.size w).drew.trans (hb5.mono (Nat.le_refl _))
  clear hb5 hqe hqa h q0 q1 q2 HE
  cases has
  · have hne : bs.toList.isEmpty = true := HNE.out
    go_wp2
    go_ret2
    exact ⟨rfl, HB2.out⟩
  · have hne : bs.toList.isEmpty = false := HNE.out
    go_wp2
    go_ret2
    exact ⟨rfl, HB2.out⟩
set_option maxRecDepth 100000 in
theorem layClus (p qe qa : Nat) (v : Value) (bs : ByteArray) (has : Bool) (w : World) (hqe : w.cell? ⟨qe, 0, none⟩ = some (.func (.func 66) #[] #[])) (hqa : w.cell? ⟨qa, 0, none⟩ = some (.func (.func 65) #[] #[])) (h : w.cell? ⟨p, 15, none⟩ = some v)
    (hs : ∃ ad n c, v = .slice ad n c) (henc : Calls Tryz.prog 66 #[v] w.drew fun e w' => e = .returned (.tuple #[.string bs, .int .i64 0]) ∧ Below w.drew.heap.size w.drew w') (hne : bs.toList.isEmpty = !has) :
    Calls Tryz.prog 94 #[.pointer (some ⟨p, 0, none⟩), .pointer (some ⟨qe, 0, none⟩), .pointer (some ⟨qa, 0, none⟩)] w fun e w' => e = .returned (.tuple #[.string bs, .bool has]) ∧ Below w.heap.size w w' := by
  obtain ⟨ad, n, c, rfl⟩ := hs
  have HE : Hid (Calls _ _ _ _ _) := henc
  have HNE : Hid (_ = _) := hne
  clear henc hne
  go_enter Tryz.func94, Tryz.ntmps94
  go_wp2
  go_region_held (fun w' => w'.cell? ⟨qe, 0, none⟩ = some (.func (.func 66) #[] #[]) ∧ w'.cell? ⟨qa, 0, none⟩ = some (.func (.func 65) #[] #[]) ∧ w'.cell? ⟨p, 15, none⟩ = some (.slice ad n c)) (go_keep)
    (first | (go_at_call 65; refine (atClus p _).mono ?_; rintro e w4 ⟨rfl, rfl⟩) | (go_at_call 66; refine HE.out.mono ?_; rintro e w5 ⟨rfl, hb5⟩; have q0 := below_cell (w := w.drew) hb5 hqe; have q1 := below_cell (w := w.drew) hb5 hqa; have q2 := below_cell (w := w.drew) hb5 h))
  have HB2 : Hid (Below w.heap.size w w5) := (Below.refl w.heap.size w).drew.trans (hb5.mono (Nat.le_refl _))
  clear hb5 hqe hqa h q0 q1 q2 HE
  cases has
  · have hne : bs.toList.isEmpty = true := HNE.out
    go_wp2
    go_ret2
    exact ⟨rfl, HB2.out⟩
  · have hne : bs.toList.isEmpty = false := HNE.out
    go_wp2
    go_ret2
    exact ⟨rfl, HB2.out⟩
set_option maxRecDepth 100000 in
theorem layExts (p qe qa : Nat) (v : Value) (bs : ByteArray) (has : Bool) (w : World) (hqe : w.cell? ⟨qe, 0, none⟩ = some (.func (.func 70) #[] #[])) (hqa : w.cell? ⟨qa, 0, none⟩ = some (.func (.func 69) #[] #[])) (h : w.cell? ⟨p, 11, none⟩ = some v)
    (hs : ∃ ad n c, v = .slice ad n c) (henc : Calls Tryz.prog 70 #[v] w.drew fun e w' => e = .returned (.tuple #[.string bs, .int .i64 0]) ∧ Below w.drew.heap.size w.drew w') (hne : bs.toList.isEmpty = !has) :
    Calls Tryz.prog 102 #[.pointer (some ⟨p, 0, none⟩), .pointer (some ⟨qe, 0, none⟩), .pointer (some ⟨qa, 0, none⟩)] w fun e w' => e = .returned (.tuple #[.string bs, .bool has]) ∧ Below w.heap.size w w' := by
  obtain ⟨ad, n, c, rfl⟩ := hs
  have HE : Hid (Calls _ _ _ _ _) := henc
  have HNE : Hid (_ = _) := hne
  clear henc hne
  go_enter Tryz.func102, Tryz.ntmps102
  go_wp2
  go_region_held (fun w' => w'.cell? ⟨qe, 0, none⟩ = some (.func (.func 70) #[] #[]) ∧ w'.cell? ⟨qa, 0, none⟩ = some (.func (.func 69) #[] #[]) ∧ w'.cell? ⟨p, 11, none⟩ = some (.slice ad n c)) (go_keep)
    (first | (go_at_call 69; refine (atExts p _).mono ?_; rintro e w4 ⟨rfl, rfl⟩) | (go_at_call 70; refine HE.out.mono ?_; rintro e w5 ⟨rfl, hb5⟩; have q0 := below_cell (w := w.drew) hb5 hqe; have q1 := below_cell (w := w.drew) hb5 hqa; have q2 := below_cell (w := w.drew) hb5 h))
  have HB2 : Hid (Below w.heap.size w w5) := (Below.refl w.heap.size w).drew.trans (hb5.mono (Nat.le_refl _))
  clear hb5 hqe hqa h q0 q1 q2 HE
  cases has
  · have hne : bs.toList.isEmpty = true := HNE.out
    go_wp2
    go_ret2
    exact ⟨rfl, HB2.out⟩
  · have hne : bs.toList.isEmpty = false := HNE.out
    go_wp2
    go_ret2
    exact ⟨rfl, HB2.out⟩
set_option maxRecDepth 100000 in
theorem layLarg (p qe qa : Nat) (v : Value) (bs : ByteArray) (has : Bool) (w : World) (hqe : w.cell? ⟨qe, 0, none⟩ = some (.func (.func 74) #[] #[])) (hqa : w.cell? ⟨qa, 0, none⟩ = some (.func (.func 73) #[] #[])) (h : w.cell? ⟨p, 12, none⟩ = some v)
    (hs : ∃ ad n c, v = .slice ad n c) (henc : Calls Tryz.prog 74 #[v] w.drew fun e w' => e = .returned (.tuple #[.string bs, .int .i64 0]) ∧ Below w.drew.heap.size w.drew w') (hne : bs.toList.isEmpty = !has) :
    Calls Tryz.prog 108 #[.pointer (some ⟨p, 0, none⟩), .pointer (some ⟨qe, 0, none⟩), .pointer (some ⟨qa, 0, none⟩)] w fun e w' => e = .returned (.tuple #[.string bs, .bool has]) ∧ Below w.heap.size w w' := by
  obtain ⟨ad, n, c, rfl⟩ := hs
  have HE : Hid (Calls _ _ _ _ _) := henc
  have HNE : Hid (_ = _) := hne
  clear henc hne
  go_enter Tryz.func108, Tryz.ntmps108
  go_wp2
  go_region_held (fun w' => w'.cell? ⟨qe, 0, none⟩ = some (.func (.func 74) #[] #[]) ∧ w'.cell? ⟨qa, 0, none⟩ = some (.func (.func 73) #[] #[]) ∧ w'.cell? ⟨p, 12, none⟩ = some (.slice ad n c)) (go_keep)
    (first | (go_at_call 73; refine (atLarg p _).mono ?_; rintro e w4 ⟨rfl, rfl⟩) | (go_at_call 74; refine HE.out.mono ?_; rintro e w5 ⟨rfl, hb5⟩; have q0 := below_cell (w := w.drew) hb5 hqe; have q1 := below_cell (w := w.drew) hb5 hqa; have q2 := below_cell (w := w.drew) hb5 h))
  have HB2 : Hid (Below w.heap.size w w5) := (Below.refl w.heap.size w).drew.trans (hb5.mono (Nat.le_refl _))
  clear hb5 hqe hqa h q0 q1 q2 HE
  cases has
  · have hne : bs.toList.isEmpty = true := HNE.out
    go_wp2
    go_ret2
    exact ⟨rfl, HB2.out⟩
  · have hne : bs.toList.isEmpty = false := HNE.out
    go_wp2
    go_ret2
    exact ⟨rfl, HB2.out⟩
end Go.Proofs.YtpahnebhcfpplabGreatDoor
