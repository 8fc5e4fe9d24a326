/-
  Take.
-/
import Derived.Test.YtgplhdhnailpfaaE2
import Derived.Deep.RegionHeldLaw
import Derived.Deep.RegionLaw
set_option linter.unusedSimpArgs false
set_option maxRecDepth 100000
namespace Go.Proofs.Ytgplhdhnailpfaa
open Go.RowKit Go.Maps
theorem due_first {L : List Fd} (h : InOrder L) (now : Nat) : L = dueF L now ++ leftF L now := by
  induction L with
  | nil => rfl
  | cons a r ih =>
    obtain ⟨h1, h2⟩ := List.pairwise_cons.1 h
    by_cases ht : a.at' ≤ now
    · have e1 : dueF (a :: r) now = a :: dueF r now := by simp [dueF, ht]
      have e2 : leftF (a :: r) now = leftF r now := by simp only [leftF, List.filter_cons, ht, decide_true, Bool.not_true]; rfl
      rw [e1, e2, List.cons_append, ← ih h2]
    · have hall : ∀ x ∈ a :: r, ¬ x.at' ≤ now := by
        intro x hx
        rcases List.mem_cons.1 hx with rfl | hx
        · exact ht
        · have := h1 x hx
          rcases this with h3 | ⟨h3, _⟩ <;> omega
      have e1 : dueF (a :: r) now = [] := List.filter_eq_nil_iff.2 (fun x hx => by simpa using hall x hx)
      have e2 : leftF (a :: r) now = a :: r := List.filter_eq_self.2 (fun x hx => by simpa using hall x hx)
      rw [e1, e2]
      rfl
theorem take_due {L : List Fd} (h : InOrder L) (now : Nat) : L.take (dueF L now).length = dueF L now := by
  conv => lhs; arg 2; rw [due_first h now]
  simp
theorem drop_due {L : List Fd} (h : InOrder L) (now : Nat) : L.drop (dueF L now).length = leftF L now := by
  conv => lhs; arg 2; rw [due_first h now]
  simp
theorem Whl.drop {L : List Fd} (h : Whl L) (k : Nat) : Whl (L.drop k) :=
  ⟨h.ord.drop, h.once.drop, fun x hx => h.tick x (List.mem_of_mem_drop hx)⟩
theorem look_drop {L : List Fd} (h : Whl L) (k : Nat) (hk : k < L.length) : lookF (L.drop k) L[k].key = some L[k].at' := by
  refine (h.drop k).look (t := L[k].at') (k := L[k].key) ?_
  rw [List.drop_eq_getElem_cons hk]
  exact List.mem_cons_self
theorem without_drop {L : List Fd} (h : Whl L) (k : Nat) (hk : k < L.length) : without (L.drop k) L[k].key = L.drop (k + 1) := by
  have hd := (h.drop k).once
  rw [List.drop_eq_getElem_cons hk] at hd ⊢
  obtain ⟨h1, _⟩ := List.pairwise_cons.1 hd
  unfold without
  rw [List.filter_cons, keyB_self]
  simp only [Bool.not_true, Bool.false_eq_true, if_false]
  refine List.filter_eq_self.2 (fun x hx => ?_)
  rw [keyB_ne (fun e => h1 x hx e.symm)]
  rfl
/-- The cells of a timer. -/
def encF (x : Fd) : List Value := [.int .u64 (x.at' : Int), .int .i64 x.key.kind, .string x.key.peer, .int .i64 x.key.fam]
def cellsF (l : List Fd) : List Value := l.flatMap encF
theorem cellsF_snoc (l : List Fd) (x : Fd) : cellsF (l ++ [x]) = cellsF l ++ [.int .u64 (x.at' : Int), .int .i64 x.key.kind, .string x.key.peer, .int .i64 x.key.fam] := by simp [cellsF, encF]
/-- Timers in a row of their own. -/
def OwnF (w : World) (base : Nat) (v : Value) (l : List Fd) : Prop := w.ownsRow base 48 4 v l.length (cellsF l)
theorem info48 : (Try.prog.info? 48).map (fun i => (i.zero, i.size, i.bytes)) = some (some (.agg #[.int .u64 0, .int .i64 0, .string ⟨#[]⟩, .int .i64 0]), 4, 40) := by kernel_rfl
theorem four_f (x : Fd) : ∀ u ∈ ([.int .u64 (x.at' : Int), .int .i64 x.key.kind, .string x.key.peer, .int .i64 x.key.fam] : List Value), u.oneCell' = true := by
  intro u hu
  simp at hu
  rcases hu with h | h | h | h <;> subst h <;> rfl
theorem news4 (w : World) (a b c d : Value) (t : TypeId) : ∀ (j : Nat) (u : Value), [a, b, c, d][j]? = some u → (w.alloc (.cells #[a, b, c, d] t)).cell? (Addr.add ⟨w.heap.size, 0, none⟩ j) = some u := by
  intro j u hj
  rcases j with _ | _ | _ | _ | j
  · simp at hj; subst hj; simp [Addr.add]
  · simp at hj; subst hj; simp [Addr.add]
  · simp at hj; subst hj; simp [Addr.add]
  · simp at hj; subst hj; simp [Addr.add]
  · simp at hj
/-- What stands in memory while timers are taken: k of them are. -/
structure TkAt (w w5 wr : World) (p b : Nat) (kv : Value) (L : List Fd) (ks : List Ky) (k : Nat) (v : Value) : Prop where
  own : OwnF wr w5.heap.size v (L.take k)
  keys : KeysAt wr kv ks
  whl : WhAt wr p b (L.drop k)
  grw : w.grownBy wr (some b)
  siz : w5.heap.size ≤ wr.heap.size
theorem TkAt.below {w w5 wr wx : World} {p b k : Nat} {kv v : Value} {L : List Fd} {ks : List Ky} (h : TkAt w w5 wr p b kv L ks k v) (hb : Below wr.heap.size wr wx) : TkAt w w5 wx p b kv L ks k v :=
  ⟨owns_below h.own hb, h.keys.kept (grown_of_below hb none) (fun r e => by cases e), h.whl.below hb, h.grw.trans (grown_of_below hb _), Nat.le_trans h.siz hb.size⟩
set_option maxHeartbeats 2000000 in
theorem take_any {p b : Nat} {L : List Fd} {w : World} (h : WhAt w p b L) (now : Nat) (hl : L.length ≤ 50000) :
    Calls Try.prog 16 #[.pointer (some ⟨p, 0, none⟩), .int .u64 (now : Int)] w fun e w' => ∃ v, e = .returned v ∧ OwnF w' w.heap.size v (dueF L now) ∧ WhAt w' p b (leftF L now) ∧ w.grownBy w' (some b) := by
  obtain ⟨i0, hi, hz0, hz1, hz2⟩ := info_parts info48
  have HK : Hid (_ : Prop) := keysTo_any h now hl
  have HH : Hid (WhAt w p b L) := h
  have HL : Hid (L.length ≤ 50000) := hl
  clear h hl
  go_enter Try.func16, Try.ntmps16
  go_wp2_with fail
  refine Calls.mono HK.out ?_
  rintro e w1 ⟨kv, ss, rfl, hos, hcol, hsl, hb1⟩
  obtain ⟨ad, c, rfl⟩ := slice_of_owns hos
  have hb2 : Below w1.heap.size w1 (w1.alloc (.cells #[.slice ad ss.length c] 59)) := (Below.refl _ _).alloc (Nat.le_refl _) _
  have hbb : Below w.heap.size w (w1.alloc (.cells #[.slice ad ss.length c] 59)) := hb1.trans (hb2.mono hb1.size)
  have hw2 : WhAt (w1.alloc (.cells #[.slice ad ss.length c] 59)) p b L := HH.out.below hbb
  have n1 : Value.ownBlock (.slice ad ss.length c) ≠ some p := fun e => by have h1 := (owns_lt hos _ e).1; have h2 := HH.out.lt; omega
  have n2 : Value.ownBlock (.slice ad ss.length c) ≠ some b := fun e => by have h1 := (owns_lt hos _ e).1; have h2 := HH.out.m.lt; omega
  have n3 : Value.ownBlock (.slice ad ss.length c) ≠ some w1.heap.size := fun e => by have h1 := (owns_lt hos _ e).2; omega
  have HI : Hid (_ : Prop) := inOrder_any (kb := w1.heap.size) hw2 (by simp) (owns_below hos hb2) n1 n2 (by have := HL.out; omega)
  have HS : Hid (sortT L ss = (dueF L now).map (·.key)) := sort_due HH.out.m.whl hcol
  rw [HS.out] at HI
  have HW2 : Hid (_ : Prop) := hw2
  have HB2 : Hid (_ : Prop) := hbb
  have HN : Hid (Value.ownBlock (.slice ad ss.length c) ≠ some p ∧ Value.ownBlock (.slice ad ss.length c) ≠ some b ∧ Value.ownBlock (.slice ad ss.length c) ≠ some w1.heap.size ∧ ∀ r, Value.ownBlock (.slice ad ss.length c) = some r → w.heap.size ≤ r ∧ r < w1.heap.size) := ⟨n1, n2, n3, fun r e => owns_lt hos _ e⟩
  clear hos hcol hsl hb1 hb2 hbb hw2 n1 n2 n3 HK
  go_wp2_with (go_at_call 31; refine Calls.mono HI.out ?_; rintro e w5 ⟨rfl, hka, hg5⟩; have hkb : w5.cell? ⟨w1.heap.size, 0, none⟩ = some (.slice ad ss.length c) := hg5.cell (a := ⟨w1.heap.size, 0, none⟩) (by simp) (fun e => HN.out.2.2.1 e.symm))
  have HKA : Hid (KeysAt w5 (.slice ad ss.length c) ((dueF L now).map (·.key))) := hka
  have HLN : Hid (ss.length = (dueF L now).length) := by
    obtain ⟨ad', c', e⟩ := hka.len
    injection e with _ e _
    unfold Hid
    rw [e]; simp
  have HG5 : Hid (w.grownBy w5 (some b)) := ((grown_of_below HB2.out _)).andThen hg5 (fun j e => Or.inl (HN.out.2.2.2 j e).1)
  have HW5 : Hid (WhAt w5 p b L) := HW2.out.kept hg5 (fun e => HN.out.1 e.symm) (fun e => HN.out.2.1 e.symm)
  have HNB : Hid (Value.ownBlock (.slice ad ss.length c) ≠ some p ∧ Value.ownBlock (.slice ad ss.length c) ≠ some b) := ⟨HN.out.1, HN.out.2.1⟩
  have HKL : Hid (∀ r, Value.ownBlock (.slice ad ss.length c) = some r → r < w5.heap.size) := fun r e => by
    have h1 := (HN.out.2.2.2 r e).2
    have h2 := hg5.size
    simp at h2
    omega
  have HDL : Hid ((dueF L now).length ≤ L.length) := List.length_filter_le _ _
  have HTD : Hid (L.take (dueF L now).length = dueF L now) := take_due HH.out.m.whl.ord now
  have HDD : Hid (L.drop (dueF L now).length = leftF L now) := drop_due HH.out.m.whl.ord now
  have HWL : Hid (Whl L) := HH.out.m.whl
  have HSS : Hid (w.heap.size ≤ w5.heap.size) := HG5.out.size
  clear hka hg5 hkb HI HS HB2 HW2 HN HH
  generalize ss.length = nn at *
  clear ss
  by_cases hz : nn = 0
  · subst hz
    have hd0 : dueF L now = [] := List.length_eq_zero_iff.1 HLN.out.symm
    have HO : Hid (OwnF w5 w.heap.size (.slice none 0 0) (dueF L now)) := by unfold Hid; rw [hd0]; exact World.ownsRow_nil _ _ _ _
    have HF : Hid (leftF L now = L) := by unfold Hid; rw [← HDD.out, hd0]; rfl
    clear hd0
    refine wp_loop_rounds 1 ?_
    rw [rounds_succ]
    go_wp2
    go_ret
    exact ⟨_, rfl, HO.out, by rw [HF.out]; exact HW5.out, HG5.out⟩
  · obtain ⟨g, rfl⟩ : ∃ g, ad = some ⟨g, 0, none⟩ := by
      obtain ⟨g, cap, e, _⟩ := HKA.out.cell 0 (by rw [List.length_map, ← HLN.out]; omega)
      injection e with e _ _
      exact ⟨g, e⟩
    have HZ : Hid (nn ≠ 0) := hz
    clear hz
    have hnn : (nn : Int) ≤ 50000 := by have h1 := HLN.out; have h2 := HDL.out; have h3 := HL.out; omega
    go_loopw [7, 20] (fun v i wr => ∃ k : Nat, k ≤ nn ∧ i = .int .i64 k ∧ TkAt w w5 wr p b (.slice (some ⟨g, 0, none⟩) nn c) L ((dueF L now).map (·.key)) k v) (fun _ i _ => nn - (intOf i).toNat)
    case atStart => exact ⟨0, Nat.zero_le _, rfl, ⟨World.ownsRow_nil _ _ _ _, HKA.out, HW5.out, HG5.out, Nat.le_refl _⟩⟩
    case round =>
      obtain ⟨k, hk, rfl, htk⟩ := hrel
      have hln : (L.take k).length = k := by rw [List.length_take]; have h1 := HLN.out; have h2 := HDL.out; omega
      obtain ⟨adv, cv, hv⟩ := slice_of_owns htk.own
      rw [hln] at hv
      subst hv
      have HT : Hid (TkAt w w5 wr p b (.slice (some ⟨g, 0, none⟩) nn c) L ((dueF L now).map (·.key)) k (.slice adv k cv)) := htk
      have HLK : Hid ((L.take k).length = k) := hln
      clear htk hln
      by_cases hlt : k < nn
      · have hkL : k < L.length := by have h1 := HLN.out; have h2 := HDL.out; omega
        have hlt' : (k : Int) < (nn : Int) := by omega
        obtain ⟨g', cap', e', c0, c1, c2⟩ := HT.out.keys.cell k (by rw [List.length_map, ← HLN.out]; exact hlt)
        have hkey : ((dueF L now).map (·.key))[k]'(by rw [List.length_map, ← HLN.out]; exact hlt) = L[k].key := by
          rw [List.getElem_map]
          congr 1
          have := HTD.out
          have h2 : k < (L.take (dueF L now).length).length := by rw [this, ← HLN.out]; exact hlt
          calc (dueF L now)[k]'(by rw [← HLN.out]; exact hlt) = (L.take (dueF L now).length)[k] := by congr 1; exact this.symm
            _ = L[k] := List.getElem_take
        rw [hkey] at c0 c1 c2
        injection e' with e1 e2 e3
        clear e2 e3
        injection e1 with e1
        injection e1 with e1
        subst e1
        have HLO : Hid (lookF (L.drop k) L[k].key = some L[k].at') := look_drop HWL.out k hkL
        have HWO : Hid (without (L.drop k) L[k].key = L.drop (k + 1)) := without_drop HWL.out k hkL
        have HTS : Hid (L.take (k + 1) = L.take k ++ [L[k]]) := List.take_succ_eq_append_getElem hkL
        clear hkey
        generalize L[k] = x at *
        have HT0 : Hid (TkAt w w5 (wr.alloc (.cells #[.int .i64 x.key.kind, .string x.key.peer, .int .i64 x.key.fam] 27)).drew p b (.slice (some ⟨g, 0, none⟩) nn c) L ((dueF L now).map (·.key)) k (.slice adv k cv)) := HT.out.below ((Below.refl _ _).alloc (Nat.le_refl _) _).drew
        have HTK : Hid (Calls Try.prog 37 #[.pointer (some ⟨p, 0, none⟩), .agg #[.int .i64 x.key.kind, .string x.key.peer, .int .i64 x.key.fam]] (wr.alloc (.cells #[.int .i64 x.key.kind, .string x.key.peer, .int .i64 x.key.fam] 27)).drew fun e w2 => e = .returned (.int .u64 (x.at' : Int)) ∧ Grw (wr.alloc (.cells #[.int .i64 x.key.kind, .string x.key.peer, .int .i64 x.key.fam] 27)).drew w2) := by
          have h := tick_any HT0.out.whl x.key
          rw [HLO.out] at h
          exact h
        obtain ⟨S, hS⟩ : ∃ S : World → Prop, S = fun w' => w'.cell? ⟨wr.heap.size, 0, none⟩ = some (.int .i64 x.key.kind) ∧ w'.cell? ⟨wr.heap.size, 1, none⟩ = some (.string x.key.peer) ∧ w'.cell? ⟨wr.heap.size, 2, none⟩ = some (.int .i64 x.key.fam) := ⟨_, rfl⟩
        have hs0 : Held S (wr.alloc (.cells #[.int .i64 x.key.kind, .string x.key.peer, .int .i64 x.key.fam] 27)).drew := by
          unfold Held; rw [hS]
          refine ⟨?_, ?_, ?_⟩ <;> simp
        have HSB : Hid (∀ a c, Held S a → Below a.heap.size a c → Held S c) := fun a c h hb => by
          unfold Held at *; rw [hS] at *
          exact ⟨cell2 hb h.1, cell2 hb h.2.1, cell2 hb h.2.2⟩
        have HSG : Hid (∀ a c, Held S a → a.grownBy c (Value.ownBlock (.slice adv k cv)) → Held S c) := fun a c h hg => by
          have hne : some wr.heap.size ≠ Value.ownBlock (.slice adv k cv) := fun e => by
            have := (owns_lt HT.out.own _ e.symm).2; omega
          unfold Held at *; rw [hS] at *
          exact ⟨hg.cell h.1 hne, hg.cell h.2.1 hne, hg.cell h.2.2 hne⟩
        have HSD : Hid (∀ a c, Held S a → a.grownBy c (some b) → wr.heap.size ≠ b → Held S c) := fun a c h hg hne => by
          have hne' : some wr.heap.size ≠ some b := fun e => hne (by injection e)
          unfold Held at *; rw [hS] at *
          exact ⟨hg.cell h.1 hne', hg.cell h.2.1 hne', hg.cell h.2.2 hne'⟩
        have HSC : Hid (∀ a, Held S a → a.cell? ⟨wr.heap.size, 0, none⟩ = some (.int .i64 x.key.kind) ∧ a.cell? ⟨wr.heap.size, 1, none⟩ = some (.string x.key.peer) ∧ a.cell? ⟨wr.heap.size, 2, none⟩ = some (.int .i64 x.key.fam)) := fun a h => by
          unfold Held at h; rw [hS] at h; exact h
        have k0 : ∀ a, Held S a → a.cell? ⟨wr.heap.size, 0, none⟩ = some (.int .i64 x.key.kind) := fun a h => (HSC.out a h).1
        have k1 : ∀ a, Held S a → a.cell? ⟨wr.heap.size, 1, none⟩ = some (.string x.key.peer) := fun a h => (HSC.out a h).2.1
        have k2 : ∀ a, Held S a → a.cell? ⟨wr.heap.size, 2, none⟩ = some (.int .i64 x.key.fam) := fun a h => (HSC.out a h).2.2
        have HOW : Hid (∀ wx, Grw (wr.alloc (.cells #[.int .i64 x.key.kind, .string x.key.peer, .int .i64 x.key.fam] 27)).drew wx → wx.ownsRow w5.heap.size 48 4 (.slice adv k cv) k (cellsF (L.take k)) ∧ w5.heap.size ≤ wx.heap.size) := fun wx hg => by
          have h1 := HT0.out.below hg.bel
          have h2 := h1.own
          unfold OwnF at h2
          rw [HLK.out] at h2
          exact ⟨h2, h1.siz⟩
        have hkk : k + 1 ≤ 60000 := by omega
        have HKK : Hid (k + 1 ≤ 60000) := hkk
        clear hkk hS
        go_wp2
        go_region_held_law (fun w' => Held S w') (first | (with_reducible assumption) | (refine HSB.out _ _ ?_ ((Below.refl _ _).alloc (Nat.le_refl _) _); with_reducible assumption) | (refine HSG.out _ _ ?_ (by with_reducible assumption); refine HSB.out _ _ ?_ ((Below.refl _ _).alloc (Nat.le_refl _) _); with_reducible assumption))
          (first
            | (refine step_append_lies _ rfl _ _ 25 rfl w5.heap.size 48 i0 (.agg #[.int .u64 0, .int .i64 0, .string ⟨#[]⟩, .int .i64 0]) 4 40 Try.underlying25 hi hz0 hz1 hz2 rfl (by decide) (.slice adv k cv) k (cellsF (L.take k)) rfl ((HOW.out _ hgw).1.alloc _) ⟨w6.heap.size, 0, none⟩ 1 1 [.int .u64 (x.at' : Int), .int .i64 x.key.kind, .string x.key.peer, .int .i64 x.key.fam] rfl rfl (news4 w6 _ _ _ _ 48) (four_f x) (by decide) (by have := HKK.out; unfold maxLen; omega) (by have := HKK.out; omega) (Nat.le_trans (HOW.out _ hgw).2 (by simp)) _ rfl ?_; intro g7 cap7 w7 hown7 hgrow7 hat7 hlt7)
            | (go_at_call 37; refine Calls.mono HTK.out ?_; rintro e w6 ⟨rfl, hgw⟩; have hs6 := HSB.out _ _ hs0 hgw.bel))
        have hT6 := (HT0.out.below hgw.bel).below ((Below.refl _ _).alloc (Nat.le_refl _) (.cells #[.int .u64 (x.at' : Int), .int .i64 x.key.kind, .string x.key.peer, .int .i64 x.key.fam] 48))
        have HRW : Hid (∀ r, Value.ownBlock (.slice adv k cv) = some r → w5.heap.size ≤ r) := fun r e => (owns_lt HT.out.own _ e).1
        have HO7 : Hid (OwnF w7 w5.heap.size (.slice (some ⟨g7, 0, none⟩) (k + 1) cap7) (L.take (k + 1))) := by
          unfold Hid OwnF
          rw [HTS.out, cellsF_snoc, List.length_append, HLK.out]
          exact hown7
        have HW7 : Hid (WhAt w7 p b (L.drop k)) := hT6.whl.kept hgrow7 (fun e => by have h1 := HRW.out _ e.symm; have h2 := HW5.out.lt; omega) (fun e => by have h1 := HRW.out _ e.symm; have h2 := HW5.out.m.lt; omega)
        have HK7 : Hid (KeysAt w7 (.slice (some ⟨g, 0, none⟩) nn c) ((dueF L now).map (·.key))) := hT6.keys.kept hgrow7 (fun r e e2 => by have h1 := HRW.out _ e; have h2 := HKL.out _ e2; omega)
        have HG7 : Hid (w.grownBy w7 (some b)) := hT6.grw.andThen hgrow7 (fun j e => Or.inl (by have h1 := HRW.out _ e; have h2 := HSS.out; omega))
        have HS7 : Hid (w5.heap.size ≤ w7.heap.size) := Nat.le_trans hT6.siz hgrow7.size
        have hs7 : Held S w7 := HSG.out _ _ (HSB.out _ _ hs6 ((Below.refl _ _).alloc (Nat.le_refl _) (.cells #[.int .u64 (x.at' : Int), .int .i64 x.key.kind, .string x.key.peer, .int .i64 x.key.fam] 48))) hgrow7
        have hs8 : Held S w7.drew := HSB.out _ _ hs7 (Below.refl _ _).drew
        have HW8 : Hid (WhAt w7.drew p b (L.drop k)) := HW7.out.below (Below.refl _ _).drew
        obtain ⟨w9, hdel, hm9, hg9, hz9⟩ := HW8.out.m.del x.key 0
        have hgd : w7.grownBy w9 (some b) := (grown_of_below (Below.refl _ _).drew _).trans hg9
        have HBX : Hid (wr.heap.size ≠ b) := by
          unfold Hid; intro e
          have h1 := HT.out.whl.m.lt
          omega
        have hs9 : Held S w9 := HSD.out _ _ hs7 hgd HBX.out
        have HT9 : Hid (TkAt w w5 w9 p b (.slice (some ⟨g, 0, none⟩) nn c) L ((dueF L now).map (·.key)) (k + 1) (.slice (some ⟨g7, 0, none⟩) (k + 1) cap7)) := by
          refine ⟨owns_far HO7.out hgd (by have := HW5.out.m.lt; omega), HK7.out.kept hgd (fun r e e2 => ?_), ?_, HG7.out.trans hgd, Nat.le_trans HS7.out hgd.size⟩
          · cases e
            exact HNB.out.2 e2
          · have := HW8.out.turned hg9 hm9
            rw [HWO.out] at this
            exact this
        clear hT6 hown7 hgrow7 hat7 hlt7 hm9 hg9 hz9 hgd hgw hs6 hs0 HOW HTK HT0 HT HRW HO7 HK7 HG7 HS7 HW7
        simp only [Act.put, List.getElem_toArray, List.getElem_cons_succ, List.getElem_cons_zero, List.setIfInBounds_toArray, List.set_cons_succ, List.set_cons_zero]
        go_wp2
        go_region_held (fun w' => Held S w') (with_reducible assumption) (first | (go_at_call 26; refine (timers_yes HW8.out).mono ?_; rintro e wq ⟨rfl, hwq⟩; subst wq))
        go_wp2
        go_roundw
        case rel => exact ⟨k + 1, by omega, by go_num, HT9.out⟩
        case measure => simp [intOf]; omega
      · obtain rfl : k = nn := by omega
        have HO : Hid (OwnF wr w.heap.size (.slice adv k cv) (dueF L now)) := by
          have h1 := HT.out.own
          have h2 := HTD.out
          rw [HLN.out, h2] at h1
          unfold Hid
          rw [HLN.out]
          exact owns_mono h1 HSS.out
        have HF : Hid (WhAt wr p b (leftF L now)) := by
          have h1 := HT.out.whl
          rw [HLN.out, HDD.out] at h1
          exact h1
        have HG : Hid (w.grownBy wr (some b)) := HT.out.grw
        clear HLN
        go_wp2
        go_ret
        exact ⟨_, rfl, HO.out, HF.out, HG.out⟩
end Go.Proofs.Ytgplhdhnailpfaa
