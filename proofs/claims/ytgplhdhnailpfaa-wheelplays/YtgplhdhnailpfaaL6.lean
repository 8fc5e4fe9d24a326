/-
  The reference's Arm.
-/
import Derived.Test.YtgplhdhnailpfaaL5
set_option linter.unusedSimpArgs false
set_option maxRecDepth 100000
namespace Go.Proofs.Ytgplhdhnailpfaa
open Go.RowKit Go.Maps
theorem armI_eq {L : List Fd} (h : Whl L) {k : Ky} {t : Nat} (he : armE L k t = 0) {n : Nat} (hn : n ≤ (without L k).length) (h1 : ∀ j (hj : j < (without L k).length), n ≤ j → flt ⟨t, k⟩ (without L k)[j]) (h2 : n = 0 ∨ ∃ hlt : n - 1 < (without L k).length, ¬ flt ⟨t, k⟩ ((without L k)[n - 1]'hlt)) :
    (without L k).take n ++ [⟨t, k⟩] ++ (without L k).drop n = armI L k t := by
  rw [armI_ok he]
  exact place_eq (h.ord.filter _) (fun y hy e => (mem_without.1 hy).2 (by rw [e])) n hn h1 h2
theorem ret_two {u : Value} {a b : Int} (h : a = b) : Ending.returned (.tuple #[u, .int .i64 a]) = .returned (.tuple #[u, .int .i64 b]) := by rw [h]
/-- What stands in memory while the place is sought. -/
structure PlAt (w1 w2 wr : World) (x : Fd) (base : Nat) (rv : Value) (R : List Fd) : Prop where
  own : OwnF wr base rv R
  x : FoAt wr w1.heap.size 0 x
  bel : Below w1.heap.size w1 wr
set_option maxHeartbeats 4000000 in
theorem rarm_any {w : World} {v : Value} {L : List Fd} (h : FsAt w v L) (hw : Whl L) (k : Ky) (t : Nat) (hl : L.length ≤ 1000) :
    Calls Try.prog 11 #[v, .agg #[.int .i64 k.kind, .string k.peer, .int .i64 k.fam], .int .u64 (t : Int)] w fun e w' => ∃ u, e = .returned (.tuple #[u, .int .i64 (armE L k t)]) ∧ FsAt w' u (armI L k t) ∧ Below w.heap.size w w' := by
  obtain ⟨i0, hi, hz0, hz1, hz2⟩ := info_parts info48
  have HB1 : Hid (Below w.heap.size w (w.alloc (.cells #[.int .i64 k.kind, .string k.peer, .int .i64 k.fam] 27))) := (Below.refl _ _).alloc (Nat.le_refl _) _
  have HM : Hid (∀ W, _) := fun W => rmay_any k W
  have HBX : Hid (BoxAt (w.alloc (.cells #[.int .i64 k.kind, .string k.peer, .int .i64 k.fam] 27)) w.heap.size k) := BoxAt.new w k
  have HF : Hid (FsAt w v L) := h
  obtain ⟨ad, cap, rfl, _⟩ := h.shape
  have HW : Hid (Whl L) := hw
  have HL : Hid (L.length ≤ 1000) := hl
  clear h hw hl
  cases hm : mayK k
  · rw [hm] at HM
    have H : Hid (armE L k t = 2) := armE_arg (Or.inl hm)
    have H2 : Hid (armI L k t = L) := armI_no (by rw [H.out]; decide)
    rw [H2.out]
    generalize armE L k t = e2 at *
    clear hm H2
    go_enter Try.func11, Try.ntmps11
    go_wp2_with (go_at_call 28; refine Calls.mono (HM.out _) ?_; rintro e w2 ⟨rfl, hb2⟩)
    go_ret2
    exact ⟨_, ret_two H.out.symm, (HF.out.below HB1.out).below hb2, HB1.out.trans (hb2.mono HB1.out.size)⟩
  · rw [hm] at HM
    by_cases ht : 1099511627776 < t
    · have H : Hid (armE L k t = 2) := armE_arg (Or.inr ht)
      have H2 : Hid (armI L k t = L) := armI_no (by rw [H.out]; decide)
      rw [H2.out]
      have ht' : (1099511627776 : Int) < (t : Int) := by omega
      generalize armE L k t = e2 at *
      clear hm H2 ht
      go_enter Try.func11, Try.ntmps11
      go_wp2_with (go_at_call 28; refine Calls.mono (HM.out _) ?_; rintro e w2 ⟨rfl, hb2⟩)
      go_ret2
      exact ⟨_, ret_two H.out.symm, (HF.out.below HB1.out).below hb2, HB1.out.trans (hb2.mono HB1.out.size)⟩
    · have ht' : ¬ (1099511627776 : Int) < (t : Int) := by omega
      have ht2 : decide ((1099511627776 : Int) < (t : Int)) = false := by simpa using ht'
      have H : Hid (armE L k t = 0) := armE_ok hm (by omega) (Or.inr (by have := HL.out; omega))
      have HQ : Hid (∀ n, n ≤ (without L k).length → (∀ j (hj : j < (without L k).length), n ≤ j → flt ⟨t, k⟩ (without L k)[j]) → (n = 0 ∨ ∃ hlt : n - 1 < (without L k).length, ¬ flt ⟨t, k⟩ ((without L k)[n - 1]'hlt)) → (without L k).take n ++ [⟨t, k⟩] ++ (without L k).drop n = armI L k t) := fun n hn h1 h2 => armI_eq HW.out H.out hn h1 h2
      have HCA : Hid (∀ W, Below w.heap.size w W → Calls Try.prog 13 #[.slice ad L.length cap, .agg #[.int .i64 k.kind, .string k.peer, .int .i64 k.fam]] W fun e w' => ∃ u, e = .returned u ∧ OwnF w' W.heap.size u (without L k) ∧ Below W.heap.size W w') := fun W hb => rcancel_any (HF.out.below hb) k (by have := HL.out; omega)
      have HRL : Hid ((without L k).length ≤ L.length) := List.length_filter_le _ _
      generalize armE L k t = e2 at *
      generalize armI L k t = AI at *
      generalize without L k = R at *
      have hlI : (L.length : Int) ≤ 1000 := by have := HL.out; omega
      clear hm ht
      go_enter Try.func11, Try.ntmps11
      go_wp2_with fail
      refine Calls.mono (HM.out _) ?_
      rintro e w2 ⟨rfl, hb2⟩
      have HB2 : Hid (Below w.heap.size w w2) := HB1.out.trans (hb2.mono HB1.out.size)
      obtain ⟨b0, b1, b2⟩ := HBX.out.below hb2
      have HX2 : Hid (BoxAt w2 w.heap.size k) := HBX.out.below hb2
      clear hb2 HB1 HM
      go_wp2_with fail
      refine Calls.mono (HCA.out _ HB2.out) ?_
      rintro e w3 ⟨rv, rfl, ho3, hb3⟩
      obtain ⟨adr, cr, rfl, hcr⟩ := own_len ho3
      have HO3 : Hid (OwnF w3 w2.heap.size (.slice adr R.length cr) R) := ho3
      have HB3 : Hid (Below w.heap.size w w3) := HB2.out.trans (hb3.mono HB2.out.size)
      obtain ⟨b3, b4, b5⟩ := HX2.out.below hb3
      have HSZ : Hid (w2.heap.size ≤ w3.heap.size ∧ w.heap.size ≤ w2.heap.size) := ⟨hb3.size, HB2.out.size⟩
      clear ho3 hb3 HCA b0 b1 b2 HX2
      have hrI : (R.length : Int) ≤ 1000 := by have h1 := HRL.out; have h2 := HL.out; omega
      have hnf : ¬ (1024 : Int) ≤ (L.length : Int) := by omega
      have hnf2 : decide ((1024 : Int) ≤ (L.length : Int)) = false := by simpa using hnf
      have HCR : Hid (R.length ≤ cr) := hcr
      clear hcr
      have hrl : ((R.length : Int) == (L.length : Int)) = true ∨ ((R.length : Int) == (L.length : Int)) = false := by cases ((R.length : Int) == (L.length : Int)) <;> simp
      rcases hrl with hrl | hrl
      all_goals
        go_wp2
        refine with_world (fun W => PlAt w3 w3 W ⟨t, k⟩ w2.heap.size (.slice adr R.length cr) R) ⟨owns_below HO3.out ((Below.refl _ _).alloc (Nat.le_refl _) _), ⟨by simp, by simp, by simp, by simp⟩, (Below.refl _ _).alloc (Nat.le_refl _) _⟩ ?_
        intro w4 hp4
        have HP4 : Hid (PlAt w3 w3 w4 ⟨t, k⟩ w2.heap.size (.slice adr R.length cr) R) := hp4
        clear hp4 b3 b4 b5 hrl hnf hnf2
        go_loopw [10] (fun i wr => ∃ n : Nat, n ≤ R.length ∧ i = .int .i64 n ∧ Below w4.heap.size w4 wr ∧ ∀ j (hj : j < R.length), n ≤ j → flt ⟨t, k⟩ R[j]) (fun i _ => (intOf i).toNat)
        case atStart => exact ⟨R.length, Nat.le_refl _, rfl, Below.refl _ _, fun j hj h => absurd hj (by omega)⟩
        case round =>
          obtain ⟨n, hn, rfl, hbel, hall⟩ := hrel
          have HBWr : Hid (Below w4.heap.size w4 wr) := hbel
          clear hbel
          by_cases hn0 : n = 0
          · subst hn0
            have HEQ : Hid (_ = AI) := HQ.out 0 (Nat.zero_le _) hall (Or.inl rfl)
            go_wp2
            go_quiet (fail)
            have HBW : Hid (Below w4.heap.size w4 (wr.drewN nq)) := below_drewN HBWr.out _
            generalize wr.drewN nq = w5 at *
            have HP5 : Hid (PlAt w3 w4 w5 ⟨t, k⟩ w2.heap.size (.slice adr R.length cr) R) := ⟨owns_below HP4.out.own HBW.out, HP4.out.x.below HBW.out, HP4.out.bel.trans (HBW.out.mono HP4.out.bel.size)⟩
            have HS5 : Hid (w3.heap.size < w5.heap.size) := lt_of_cell HP5.out.x.c0
            have HRB : Hid (∀ r, Value.ownBlock (.slice adr R.length cr) = some r → r < w3.heap.size) := fun r e => (owns_lt HO3.out r e).2
            have hnle : 0 ≤ R.length := hn
            obtain ⟨z1, hz1'⟩ : ∃ z, z = sliced adr 0 0 cr 4 := ⟨_, rfl⟩
            obtain ⟨z2, hz2'⟩ : ∃ z, z = sliced adr 0 R.length cr 4 := ⟨_, rfl⟩
            have HZ1 : Hid (∀ W, (Instr.slice 25 (.slice adr R.length cr) none (some (.int .i64 (0 : Int))) none).run Try.prog W = .ok z1 W) := fun W => by rw [hz1']; exact slice_h W adr R.length cr 0 (by have := HCR.out; omega)
            have HZ2 : Hid (∀ W, (Instr.slice 25 (.slice adr R.length cr) (some (.int .i64 (0 : Int))) none none).run Try.prog W = .ok z2 W) := fun W => by rw [hz2']; exact slice_l W adr R.length cr 0 hnle
            have HR1 : Hid (∀ W base, OwnF W base (.slice adr R.length cr) R → SrcF W z1 (R.take 0)) := fun W base h => by rw [hz1']; exact src_h h 0 hnle
            have HR2 : Hid (∀ W base, OwnF W base (.slice adr R.length cr) R → SrcF W z2 (R.drop 0)) := fun W base h => by rw [hz2']; exact src_l h 0 hnle
            have HLT : Hid ((R.take 0).length ≤ 1000 ∧ (R.take 0).length + 1 + (R.drop 0).length ≤ 2000) := by
              have h1 := HRL.out
              have h2 := HL.out
              unfold Hid
              rw [List.length_take, List.length_drop]
              omega
            generalize R.take 0 = R1 at *
            generalize R.drop 0 = R2 at *
            clear hn hall hz1' hz2'
            go_wp2_with (first
              | (refine wpList_slice_h _ rfl _ _ rfl _ _ rfl rfl (HZ1.out _) ?_)
              | (refine wpList_slice_l _ rfl _ _ rfl _ _ rfl rfl (HZ2.out _) ?_)
              | (at_builtin; refine wpList_append_src _ rfl _ _ rfl w5.heap.size (.slice none 0 0) z1 [] R1 rfl rfl (World.ownsRow_nil _ _ _ _) (HR1.out _ _ HP5.out.own) (by have h1 := HLT.out.1; simp; omega) (Nat.le_refl _) ?_
                 intro v6 w6 ho6 hg6
                 have HP6 : Hid (PlAt w3 w4 w6 ⟨t, k⟩ w2.heap.size (.slice adr R.length cr) R) := ⟨owns_heap' HP5.out.own (fun r e => hg6.block r (owns_lt HP5.out.own r e).2 (fun e2 => by cases e2)), HP5.out.x.kept hg6 (fun e => by cases e), HP5.out.bel.grown hg6 HP5.out.bel.size (fun j e => by cases e)⟩
                 obtain ⟨e0, e1, e2', e3⟩ := HP6.out.x
                 have hs6 := hg6.size)
              | (at_builtin; refine wpList_append_own _ rfl _ _ 25 rfl w5.heap.size 48 i0 (.agg #[.int .u64 0, .int .i64 0, .string ⟨#[]⟩, .int .i64 0]) 4 40 Try.underlying25 hi hz0 hz1 hz2 rfl (by decide) v6 _ _ rfl (World.ownsRow.alloc ho6 _) ⟨w6.heap.size, 0, none⟩ 1 1 [.int .u64 (t : Int), .int .i64 k.kind, .string k.peer, .int .i64 k.fam] rfl rfl (news4 w6 _ _ _ _ 48) (four_f ⟨t, k⟩) (by have h1 := HLT.out.1; unfold maxLen; simp; omega) (by have h1 := HLT.out.1; simp; omega) (Nat.le_trans hs6 (by simp)) ?_
                 intro v7 w7 ho7 hg7 _
                 have HV6 : Hid (∀ r, v6.ownBlock = some r → w5.heap.size ≤ r) := fun r e => (owns_lt ho6 r e).1
                 have HO7 : Hid (OwnF w7 w5.heap.size v7 (R1 ++ [⟨t, k⟩])) := by
                   unfold Hid OwnF; rw [cellsF_snoc, List.length_append]; exact ho7
                 have HP7 : Hid (OwnF w7 w2.heap.size (.slice adr R.length cr) R ∧ Below w3.heap.size w3 w7) := ⟨owns_heap' (owns_below HP6.out.own ((Below.refl _ _).alloc (Nat.le_refl _) _)) (fun r e => hg7.block r (Nat.lt_of_lt_of_le (owns_lt HP6.out.own r e).2 (by simp)) (fun e2 => by have h1 := HV6.out r e2.symm; have h2 := HRB.out r e; have h3 := HS5.out; omega)), (HP6.out.bel.alloc HP6.out.bel.size _).grown hg7 (HP6.out.bel.alloc HP6.out.bel.size _).size (fun j e => by have h1 := HV6.out j e; have h3 := HS5.out; omega)⟩
                 have hs7 := hg7.size)
              | (at_builtin; refine wpList_append_src _ rfl _ _ rfl w5.heap.size v7 z2 (R1 ++ [⟨t, k⟩]) R2 rfl rfl HO7.out (HR2.out _ _ HP7.out.1) (by have h1 := HLT.out.2; simp; omega) (Nat.le_trans hs6 (Nat.le_trans (by simp) hs7)) ?_
                 intro v8 w8 ho8 hg8
                 have HV7 : Hid (∀ r, v7.ownBlock = some r → w5.heap.size ≤ r) := fun r e => (owns_lt HO7.out r e).1
                 have HB8 : Hid (Below w3.heap.size w3 w8) := HP7.out.2.grown hg8 HP7.out.2.size (fun j e => by have h1 := HV7.out j e; have h3 := HS5.out; omega))
              | go_in)
            go_ret2
            exact ⟨_, ret_two H.out.symm, by rw [← HEQ.out]; exact FsAt.own ho8, HB3.out.trans (HB8.out.mono HB3.out.size)⟩
          · obtain ⟨m, hnm⟩ : ∃ m, n = m + 1 := ⟨n - 1, by omega⟩
            have hmr : m < R.length := by omega
            have hmI : (m : Int) < (R.length : Int) := by omega
            have hsub : (n : Int) - 1 = (m : Int) := by omega
            have hm0 : (0 : Int) ≤ (m : Int) := by omega
            have hpos : (0 : Int) < (n : Int) := by omega
            have hpos2 : decide (0 < n) = true := by simp; omega
            have hwm : IntKind.i64.wrap (m : Int) = (m : Int) := by simp [IntKind.wrap, IntKind.bits, IntKind.signed]; omega
            have hwr : IntKind.i64.wrap ((n : Int) - 1) = (m : Int) := by rw [hsub]; exact hwm
            have HNM : Hid (n = m + 1 ∧ m + 1 ≤ R.length) := ⟨hnm, by omega⟩
            obtain ⟨g, capr, er⟩ := own_some HO3.out (fun e => by rw [e] at hmr; simp at hmr)
            injection er with er _ er2
            subst er
            subst er2
            have HRM : Hid (FdAt wr g m R[m]) := (own_at HP4.out.own m hmr).below HBWr.out
            have HXW : Hid (FoAt wr w3.heap.size 0 ⟨t, k⟩) := HP4.out.x.below HBWr.out
            have HAH : Hid (∀ W, _) := fun W => rahead_any ⟨t, k⟩ R[m] W
            have HEQ' : Hid (fltB ⟨t, k⟩ R[m] = false → R.take n ++ [⟨t, k⟩] ++ R.drop n = AI) := fun h => by
              refine HQ.out n hn hall (Or.inr ⟨by omega, ?_⟩)
              have e : R[n - 1]'(by omega) = R[m] := by congr 1; omega
              rw [e]
              exact fltB_no h
            have HALL : Hid (fltB ⟨t, k⟩ R[m] = true → ∀ j (hj : j < R.length), m ≤ j → flt ⟨t, k⟩ R[j]) := fun h j hj hmj => by
              by_cases e : j = m
              · subst e; exact fltB_iff.1 h
              · exact hall j hj (by omega)
            generalize R[m] = y at *
            cases hb : fltB ⟨t, k⟩ y
            · rw [hb] at HAH
              have HEQ : Hid (_ = AI) := HEQ'.out hb
              obtain ⟨y0, y1, y2, y3⟩ := HRM.out
              obtain ⟨x0, x1, x2, x3⟩ := HXW.out
              obtain ⟨S, hS⟩ : ∃ S : World → Prop, S = fun W => FdAt W g m y ∧ FoAt W w3.heap.size 0 ⟨t, k⟩ := ⟨_, rfl⟩
              have hs0 : Held S wr.drew := by unfold Held; rw [hS]; exact ⟨HRM.out.below (Below.refl _ _).drew, HXW.out.below (Below.refl _ _).drew⟩
              have HSB : Hid (∀ a c, Held S a → Grw a c → Held S c) := fun a c h hb => by
                unfold Held at *; rw [hS] at *
                exact ⟨h.1.below hb.bel, h.2.below hb.bel⟩
              have k0 : ∀ a, Held S a → a.cell? ⟨g, m * 4, none⟩ = some (.int .u64 (y.at' : Int)) := fun a h => by unfold Held at h; rw [hS] at h; exact h.1.c0
              have k1 : ∀ a, Held S a → a.cell? ⟨g, m * 4 + 1, none⟩ = some (.int .i64 y.key.kind) := fun a h => by unfold Held at h; rw [hS] at h; exact h.1.c1
              have k2 : ∀ a, Held S a → a.cell? ⟨g, m * 4 + 2, none⟩ = some (.string y.key.peer) := fun a h => by unfold Held at h; rw [hS] at h; exact h.1.c2
              have k3 : ∀ a, Held S a → a.cell? ⟨g, m * 4 + 3, none⟩ = some (.int .i64 y.key.fam) := fun a h => by unfold Held at h; rw [hS] at h; exact h.1.c3
              have k4 : ∀ a, Held S a → a.cell? ⟨w3.heap.size, 0, none⟩ = some (.int .u64 (t : Int)) := fun a h => by unfold Held at h; rw [hS] at h; exact h.2.c0
              have k5 : ∀ a, Held S a → a.cell? ⟨w3.heap.size, 1, none⟩ = some (.int .i64 k.kind) := fun a h => by unfold Held at h; rw [hS] at h; exact h.2.c1
              have k6 : ∀ a, Held S a → a.cell? ⟨w3.heap.size, 2, none⟩ = some (.string k.peer) := fun a h => by unfold Held at h; rw [hS] at h; exact h.2.c2
              have k7 : ∀ a, Held S a → a.cell? ⟨w3.heap.size, 3, none⟩ = some (.int .i64 k.fam) := fun a h => by unfold Held at h; rw [hS] at h; exact h.2.c3
              clear hS x0 x1 x2 x3 y0 y1 y2 y3 hb hnm hn0
              go_wp2
              go_region_held (fun w' => Held S w') (with_reducible assumption)
                (first | (go_at_call 29; refine Calls.mono (HAH.out _) ?_; rintro e wa ⟨rfl, hgA⟩; have hsA := HSB.out _ _ hs0 hgA))
              have HBW : Hid (Below w4.heap.size w4 wa) := HBWr.out.trans (((Below.refl _ _).drew.trans hgA.bel).mono HBWr.out.size)
              clear hgA hsA hs0 HAH HSB k0 k1 k2 k3 k4 k5 k6 k7 HEQ' HALL hsub hwr hwm hpos hpos2
              have HP5 : Hid (PlAt w3 w4 wa ⟨t, k⟩ w2.heap.size (.slice (some ⟨g, 0, none⟩) R.length cr) R) := ⟨owns_below HP4.out.own HBW.out, HP4.out.x.below HBW.out, HP4.out.bel.trans (HBW.out.mono HP4.out.bel.size)⟩
              have HS5 : Hid (w3.heap.size < wa.heap.size) := lt_of_cell HP5.out.x.c0
              have HRB : Hid (∀ r, Value.ownBlock (.slice (some ⟨g, 0, none⟩) R.length cr) = some r → r < w3.heap.size) := fun r e => (owns_lt HO3.out r e).2
              have hnle : n ≤ R.length := hn
              obtain ⟨z1, hz1'⟩ : ∃ z, z = sliced (some ⟨g, 0, none⟩) 0 n cr 4 := ⟨_, rfl⟩
              obtain ⟨z2, hz2'⟩ : ∃ z, z = sliced (some ⟨g, 0, none⟩) n R.length cr 4 := ⟨_, rfl⟩
              have HZ1 : Hid (∀ W, (Instr.slice 25 (.slice (some ⟨g, 0, none⟩) R.length cr) none (some (.int .i64 (n : Int))) none).run Try.prog W = .ok z1 W) := fun W => by rw [hz1']; exact slice_h W (some ⟨g, 0, none⟩) R.length cr n (by have := HCR.out; omega)
              have HZ2 : Hid (∀ W, (Instr.slice 25 (.slice (some ⟨g, 0, none⟩) R.length cr) (some (.int .i64 (n : Int))) none none).run Try.prog W = .ok z2 W) := fun W => by rw [hz2']; exact slice_l W (some ⟨g, 0, none⟩) R.length cr n hnle
              have HR1 : Hid (∀ W base, OwnF W base (.slice (some ⟨g, 0, none⟩) R.length cr) R → SrcF W z1 (R.take n)) := fun W base h => by rw [hz1']; exact src_h h n hnle
              have HR2 : Hid (∀ W base, OwnF W base (.slice (some ⟨g, 0, none⟩) R.length cr) R → SrcF W z2 (R.drop n)) := fun W base h => by rw [hz2']; exact src_l h n hnle
              have HLT : Hid ((R.take n).length ≤ 1000 ∧ (R.take n).length + 1 + (R.drop n).length ≤ 2000) := by
                have h1 := HRL.out
                have h2 := HL.out
                unfold Hid
                rw [List.length_take, List.length_drop]
                omega
              generalize R.take n = R1 at *
              generalize R.drop n = R2 at *
              clear hn hall hz1' hz2'
              go_wp2_with (first
                | (refine wpList_slice_h _ rfl _ _ rfl _ _ rfl rfl (HZ1.out _) ?_)
                | (refine wpList_slice_l _ rfl _ _ rfl _ _ rfl rfl (HZ2.out _) ?_)
                | (at_builtin; refine wpList_append_src _ rfl _ _ rfl wa.heap.size (.slice none 0 0) z1 [] R1 rfl rfl (World.ownsRow_nil _ _ _ _) (HR1.out _ _ HP5.out.own) (by have h1 := HLT.out.1; simp; omega) (Nat.le_refl _) ?_
                   intro v6 w6 ho6 hg6
                   have HP6 : Hid (PlAt w3 w4 w6 ⟨t, k⟩ w2.heap.size (.slice (some ⟨g, 0, none⟩) R.length cr) R) := ⟨owns_heap' HP5.out.own (fun r e => hg6.block r (owns_lt HP5.out.own r e).2 (fun e2 => by cases e2)), HP5.out.x.kept hg6 (fun e => by cases e), HP5.out.bel.grown hg6 HP5.out.bel.size (fun j e => by cases e)⟩
                   obtain ⟨e0, e1, e2', e3⟩ := HP6.out.x
                   have hs6 := hg6.size)
                | (at_builtin; refine wpList_append_own _ rfl _ _ 25 rfl wa.heap.size 48 i0 (.agg #[.int .u64 0, .int .i64 0, .string ⟨#[]⟩, .int .i64 0]) 4 40 Try.underlying25 hi hz0 hz1 hz2 rfl (by decide) v6 _ _ rfl (World.ownsRow.alloc ho6 _) ⟨w6.heap.size, 0, none⟩ 1 1 [.int .u64 (t : Int), .int .i64 k.kind, .string k.peer, .int .i64 k.fam] rfl rfl (news4 w6 _ _ _ _ 48) (four_f ⟨t, k⟩) (by have h1 := HLT.out.1; unfold maxLen; simp; omega) (by have h1 := HLT.out.1; simp; omega) (Nat.le_trans hs6 (by simp)) ?_
                   intro v7 w7 ho7 hg7 _
                   have HV6 : Hid (∀ r, v6.ownBlock = some r → wa.heap.size ≤ r) := fun r e => (owns_lt ho6 r e).1
                   have HO7 : Hid (OwnF w7 wa.heap.size v7 (R1 ++ [⟨t, k⟩])) := by
                     unfold Hid OwnF; rw [cellsF_snoc, List.length_append]; exact ho7
                   have HP7 : Hid (OwnF w7 w2.heap.size (.slice (some ⟨g, 0, none⟩) R.length cr) R ∧ Below w3.heap.size w3 w7) := ⟨owns_heap' (owns_below HP6.out.own ((Below.refl _ _).alloc (Nat.le_refl _) _)) (fun r e => hg7.block r (Nat.lt_of_lt_of_le (owns_lt HP6.out.own r e).2 (by simp)) (fun e2 => by have h1 := HV6.out r e2.symm; have h2 := HRB.out r e; have h3 := HS5.out; omega)), (HP6.out.bel.alloc HP6.out.bel.size _).grown hg7 (HP6.out.bel.alloc HP6.out.bel.size _).size (fun j e => by have h1 := HV6.out j e; have h3 := HS5.out; omega)⟩
                   have hs7 := hg7.size)
                | (at_builtin; refine wpList_append_src _ rfl _ _ rfl wa.heap.size v7 z2 (R1 ++ [⟨t, k⟩]) R2 rfl rfl HO7.out (HR2.out _ _ HP7.out.1) (by have h1 := HLT.out.2; simp; omega) (Nat.le_trans hs6 (Nat.le_trans (by simp) hs7)) ?_
                   intro v8 w8 ho8 hg8
                   have HV7 : Hid (∀ r, v7.ownBlock = some r → wa.heap.size ≤ r) := fun r e => (owns_lt HO7.out r e).1
                   have HB8 : Hid (Below w3.heap.size w3 w8) := HP7.out.2.grown hg8 HP7.out.2.size (fun j e => by have h1 := HV7.out j e; have h3 := HS5.out; omega))
                | go_in)
              go_ret2
              exact ⟨_, ret_two H.out.symm, by rw [← HEQ.out]; exact FsAt.own ho8, HB3.out.trans (HB8.out.mono HB3.out.size)⟩
            · rw [hb] at HAH
              have HAL : Hid (_ : Prop) := HALL.out hb
              obtain ⟨y0, y1, y2, y3⟩ := HRM.out
              obtain ⟨x0, x1, x2, x3⟩ := HXW.out
              obtain ⟨S, hS⟩ : ∃ S : World → Prop, S = fun W => FdAt W g m y ∧ FoAt W w3.heap.size 0 ⟨t, k⟩ := ⟨_, rfl⟩
              have hs0 : Held S wr.drew := by unfold Held; rw [hS]; exact ⟨HRM.out.below (Below.refl _ _).drew, HXW.out.below (Below.refl _ _).drew⟩
              have HSB : Hid (∀ a c, Held S a → Grw a c → Held S c) := fun a c h hb => by
                unfold Held at *; rw [hS] at *
                exact ⟨h.1.below hb.bel, h.2.below hb.bel⟩
              have k0 : ∀ a, Held S a → a.cell? ⟨g, m * 4, none⟩ = some (.int .u64 (y.at' : Int)) := fun a h => by unfold Held at h; rw [hS] at h; exact h.1.c0
              have k1 : ∀ a, Held S a → a.cell? ⟨g, m * 4 + 1, none⟩ = some (.int .i64 y.key.kind) := fun a h => by unfold Held at h; rw [hS] at h; exact h.1.c1
              have k2 : ∀ a, Held S a → a.cell? ⟨g, m * 4 + 2, none⟩ = some (.string y.key.peer) := fun a h => by unfold Held at h; rw [hS] at h; exact h.1.c2
              have k3 : ∀ a, Held S a → a.cell? ⟨g, m * 4 + 3, none⟩ = some (.int .i64 y.key.fam) := fun a h => by unfold Held at h; rw [hS] at h; exact h.1.c3
              have k4 : ∀ a, Held S a → a.cell? ⟨w3.heap.size, 0, none⟩ = some (.int .u64 (t : Int)) := fun a h => by unfold Held at h; rw [hS] at h; exact h.2.c0
              have k5 : ∀ a, Held S a → a.cell? ⟨w3.heap.size, 1, none⟩ = some (.int .i64 k.kind) := fun a h => by unfold Held at h; rw [hS] at h; exact h.2.c1
              have k6 : ∀ a, Held S a → a.cell? ⟨w3.heap.size, 2, none⟩ = some (.string k.peer) := fun a h => by unfold Held at h; rw [hS] at h; exact h.2.c2
              have k7 : ∀ a, Held S a → a.cell? ⟨w3.heap.size, 3, none⟩ = some (.int .i64 k.fam) := fun a h => by unfold Held at h; rw [hS] at h; exact h.2.c3
              clear hS x0 x1 x2 x3 y0 y1 y2 y3 hb hnm hn0
              go_wp2
              go_region_held (fun w' => Held S w') (with_reducible assumption)
                (first | (go_at_call 29; refine Calls.mono (HAH.out _) ?_; rintro e wa ⟨rfl, hgA⟩; have hsA := HSB.out _ _ hs0 hgA))
              have HBW : Hid (Below w4.heap.size w4 wa) := HBWr.out.trans (((Below.refl _ _).drew.trans hgA.bel).mono HBWr.out.size)
              clear hgA hsA hs0 HAH HSB k0 k1 k2 k3 k4 k5 k6 k7 HEQ' HALL
              go_wp2
              go_roundw
              case rel => exact ⟨m, by have := HNM.out; omega, by first | rfl | (rw [hsub]) | go_num, HBW.out, HAL.out⟩
              case measure => have := HNM.out; simp [intOf]; omega
end Go.Proofs.Ytgplhdhnailpfaa
