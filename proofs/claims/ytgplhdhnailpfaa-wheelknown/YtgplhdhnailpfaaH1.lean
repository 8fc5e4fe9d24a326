/-
  WheelRest answers true.
-/
import Derived.Test.YtgplhdhnailpfaaG2
set_option linter.unusedSimpArgs false
set_option maxRecDepth 100000
namespace Go.Proofs.Ytgplhdhnailpfaa
open Go.RowKit Go.Maps
theorem look_absent {L : List Fd} {k : Ky} (h : ∀ x ∈ L, x.key ≠ k) : lookF L k = none := by
  cases e : lookF L k with
  | none => rfl
  | some t => exact absurd rfl (h _ (lookF_some e))
theorem without_absent {L : List Fd} {k : Ky} (h : ∀ x ∈ L, x.key ≠ k) : without L k = L :=
  List.filter_eq_self.2 (fun x hx => by rw [keyB_ne (h x hx)]; rfl)
theorem due_apart {L : List Fd} (h : Whl L) (now : Nat) {x : Fd} (hx : x ∈ dueF L now) : ∀ y ∈ leftF L now, y.key ≠ x.key := by
  intro y hy e
  have h1 := List.mem_filter.1 hx
  have h2 := left_mem hy
  have h3 := h.one h2.1 h1.1 e
  subst h3
  have : y.at' ≤ now := by simpa using h1.2
  omega
structure RsAt (w w2 wr : World) (p b : Nat) (dv : Value) (D R : List Fd) : Prop where
  own : OwnF wr w2.heap.size dv D
  whl : WhAt wr p b R
  bel : Below w.heap.size w wr
set_option maxHeartbeats 4000000 in
theorem rest_walk (w : World) (v : Value) (l : List St) (h : ArgS w v l) (now : Nat) (hnow : now < 256) (peer : Nat) (hpeer : peer < 256) : Calls Try.prog 5 #[v, .int .u8 (now : Int), .int .u8 (peer : Int)] w fun e w' => e = .returned (.bool true) ∧ Below w.heap.size w w' := by
  have HWF : Hid (Whl (fillF l) ∧ (fillF l).length ≤ 60 ∧ ∀ x ∈ fillF l, x.at' ≤ 255) := ⟨(fillF_whl l).1, (fillF_whl l).2, fillF_tick l⟩
  have HF : Hid (_ : Prop) := filled_any w v l false h
  obtain ⟨ad, cap, rfl⟩ := h.shape
  generalize fillF l = F at *
  clear h
  have HSUM : Hid (F.length = (dueF F now).length + (leftF F now).length) := by
    have := congrArg List.length (due_first HWF.out.1.ord now)
    rwa [List.length_append] at this
  have HAP : Hid (∀ x ∈ dueF F now, (lookF (leftF F now) x.key = none ∧ without (leftF F now) x.key = leftF F now) ∧ x.at' ≤ now) := fun x hx => ⟨⟨look_absent (due_apart HWF.out.1 now hx), without_absent (due_apart HWF.out.1 now hx)⟩, by simpa using (List.mem_filter.1 hx).2⟩
  have HLW : Hid (Whl (leftF F now) ∧ (leftF F now).length ≤ 60 ∧ ∀ x ∈ leftF F now, now < x.at' ∧ x.at' ≤ 255) := ⟨HWF.out.1.filter _, Nat.le_trans (List.length_filter_le _ _) HWF.out.2.1, fun x hx => ⟨(left_mem hx).2, HWF.out.2.2 x (left_mem hx).1⟩⟩
  have HDN : Hid ((dueF F now).length ≤ 60) := Nat.le_trans (List.length_filter_le _ _) HWF.out.2.1
  go_enter Try.func5, Try.ntmps5
  go_wp2_with fail
  refine Calls.mono HF.out ?_
  rintro e w1 ⟨rfl, hw1, hb1⟩
  generalize hp : w.heap.size + 1 = p at *
  generalize hb : w.heap.size = b at hw1
  have HB1 : Hid (Below w.heap.size w w1 ∧ w.heap.size ≤ b ∧ p ≠ b) := ⟨hb1, by omega, hw1.ne⟩
  have HW1 : Hid (WhAt w1 p b F) := hw1
  clear hp hb hw1 hb1 HF
  go_wp2_with fail
  refine Calls.mono (len_any HW1.out) ?_
  rintro e wq ⟨rfl, hwq⟩
  subst wq
  go_wp2_with fail
  refine Calls.mono (take_any HW1.out now (by have := HWF.out; omega)) ?_
  rintro e w2 ⟨dv, rfl, ho2, hw2, hg2⟩
  have HR2 : Hid (RsAt w w1 w2 p b dv (dueF F now) (leftF F now)) := ⟨ho2, hw2, HB1.out.1.grown hg2 HB1.out.1.size (fun k e => by cases e; exact HB1.out.2.1)⟩
  have HBL : Hid (b < w1.heap.size) := HW1.out.m.lt
  obtain ⟨add, cd, rfl, _⟩ := own_len ho2
  clear ho2 hw2 hg2 HW1
  generalize hD : dueF F now = D at *
  generalize hL : leftF F now = R at *
  clear hD hL
  go_wp2_with fail
  refine Calls.mono (len_any HR2.out.whl) ?_
  rintro e wq ⟨rfl, hwq⟩
  subst wq
  have hd60 : (D.length : Int) ≤ 60 := by have := HDN.out; omega
  have hr60 : (R.length : Int) ≤ 60 := by have := HLW.out; omega
  have hsum : (F.length : Int) = (D.length : Int) + (R.length : Int) := by have := HSUM.out; omega
  go_wp2_with fail
  clear hsum
  have HCASE : Hid (D = [] ∨ ∃ g, add = some ⟨g, 0, none⟩) := by
    by_cases hD0 : D = []
    · exact Or.inl hD0
    · obtain ⟨g, cd', e⟩ := own_some HR2.out.own hD0
      injection e with e _ _
      exact Or.inr ⟨g, e⟩
  rcases HCASE.out with hD0 | ⟨g, rfl⟩
  all_goals
    clear HCASE
    go_loopw [11] (fun i wr => ∃ k : Nat, k ≤ D.length ∧ i = .int .i64 k ∧ RsAt w w1 wr p b _ D R) (fun i _ => D.length - (intOf i).toNat)
    case atStart => exact ⟨0, by omega, rfl, HR2.out⟩
    case round =>
      obtain ⟨k, hk, rfl, hrs⟩ := hrel
      have HR : Hid (RsAt w w1 wr p b _ D R) := hrs
      clear hrs
      by_cases hlt : k < D.length
      · first
        | (exfalso; rw [hD0] at hlt; simp at hlt; done)
        | (have hlt' : (k : Int) < (D.length : Int) := by omega
           have HX : Hid (FdAt wr g k D[k]) := own_at HR.out.own k hlt
           have HXA : Hid (_ ∧ _) := HAP.out D[k] (List.getElem_mem hlt)
           generalize D[k] = x at *
           obtain ⟨x0, x1, x2, x3⟩ := HX.out
           have HAT : Hid (_ : Prop) := at_any HR.out.whl x.key
           rw [HXA.out.1.1] at HAT
           have hle : ¬ (now : Int) < (x.at' : Int) := by have := HXA.out.2; omega
           go_wp2_with fail
           refine Calls.mono HAT.out ?_
           rintro e w3 ⟨rfl, hb3⟩
           have HX3 : Hid (FdAt w3 g k x) := HX.out.below hb3
           obtain ⟨y0, y1, y2, y3⟩ := HX3.out
           have HCA : Hid (_ : Prop) := cancel_any (HR.out.whl.below hb3) x.key
           rw [HXA.out.1.1, HXA.out.1.2] at HCA
           have HR3 : Hid (RsAt w w1 w3 p b _ D R) := ⟨owns_below HR.out.own hb3, HR.out.whl.below hb3, HR.out.bel.trans (hb3.mono HR.out.bel.size)⟩
           clear hb3 x0 x1 x2 x3 HAT
           go_wp2_with fail
           refine Calls.mono HCA.out ?_
           rintro e w4 ⟨rfl, hw4, hg4⟩
           have HR4 : Hid (RsAt w w1 w4 p b _ D R) := ⟨owns_far HR3.out.own hg4 HBL.out, hw4, HR3.out.bel.grown hg4 HR3.out.bel.size (fun j e => by cases e; exact HB1.out.2.1)⟩
           clear hg4 hw4 y0 y1 y2 y3
           go_wp2
           go_roundw
           case rel => exact ⟨k + 1, by omega, by go_num, HR4.out⟩
           case measure => simp [intOf]; omega)
      · obtain rfl : k = D.length := by omega
        clear HSUM HAP HDN HR2
        generalize wr = wo at *
        have HNX : Hid (_ : Prop) := next_any HR.out.whl
        have HNT : Hid ((R.isEmpty = true ∧ R.length = 0) ∨ (R.isEmpty = false ∧ 0 < R.length ∧ now < nextT R)) := by
          cases hR : R with
          | nil => exact Or.inl ⟨rfl, rfl⟩
          | cons a r => exact Or.inr ⟨rfl, by simp, (HLW.out.2.2 a (by rw [hR]; simp)).1⟩
        generalize nextT R = nt at *
        rcases HNT.out with ⟨he, hz⟩ | ⟨he, hz, hn⟩
        all_goals
          rw [he] at HNX
          have hzI : ((R.length : Nat) : Int) = R.length := rfl
          go_wp2_with fail
          refine Calls.mono HNX.out ?_
          rintro e w5 ⟨rfl, hb5⟩
          have HW5 : Hid (WhAt w5 p b R) := HR.out.whl.below hb5
          have HB5 : Hid (Below w.heap.size w w5) := HR.out.bel.trans (hb5.mono HR.out.bel.size)
          have hconv := ofP_conv peer w5
          have HB6 : Hid (Below w.heap.size w (w5.alloc (.cells #[.int .u8 (97 + (peer : Int) % 5)] 5))) := HB5.out.alloc HB5.out.size _
          have HDR : Hid (_ : Prop) := drop_any (HW5.out.below ((Below.refl _ _).alloc (Nat.le_refl _) (.cells #[.int .u8 (97 + (peer : Int) % 5)] 5))) (ofP peer) (by have := HLW.out; omega)
          generalize ofP peer = nm at *
          have HOL : Hid ((others R nm).length ≤ R.length) := others_le R nm
          obtain ⟨gn, hgn⟩ : ∃ gn : Nat, gn = R.length - (others R nm).length := ⟨_, rfl⟩
          rw [← hgn] at HDR
          have HGN : Hid (gn + (others R nm).length = R.length) := by have := HOL.out; unfold Hid; omega
          have HOP : Hid (∀ x ∈ others R nm, (x.key.peer.toList == nm.toList) = false) := fun x hx => by simpa using (List.mem_filter.1 hx).2
          have HOD : Hid (dueF (others R nm) 1099511627776 = others R nm ∧ leftF (others R nm) 1099511627776 = []) := due_all (fun x hx => by have := (HLW.out.2.2 x (List.mem_filter.1 hx).1).2; omega)
          generalize others R nm = O at *
          clear hb5 hgn HNX
          (try (have hz' : ((R.length : Nat) : Int) = 0 := by omega))
          (try (have hz' : (0 : Int) < ((R.length : Nat) : Int) := by omega))
          (try (have hn' : ¬ (nt : Int) ≤ (now : Int) := by omega))
          go_wp2_with fail
          refine Calls.mono HDR.out ?_
          rintro e w7 ⟨rfl, hw7, hg7⟩
          have HB7 : Hid (Below w.heap.size w w7) := HB6.out.grown hg7 HB6.out.size (fun j e => by cases e; exact HB1.out.2.1)
          have HO60 : Hid (O.length ≤ 60 ∧ gn ≤ 60) := by have h1 := HGN.out; have h2 := HLW.out; unfold Hid; omega
          have HTK : Hid (_ : Prop) := take_any hw7 1099511627776 (by have := HO60.out; omega)
          rw [HOD.out.1, HOD.out.2] at HTK
          clear hconv HDR hg7 hw7
          go_wp2_with fail
          refine Calls.mono HTK.out ?_
          rintro e w8 ⟨rv, rfl, ho8, hw8, hg8⟩
          have HB8 : Hid (Below w.heap.size w w8) := HB7.out.grown hg8 HB7.out.size (fun j e => by cases e; exact HB1.out.2.1)
          have HO8 : Hid (OwnF w8 w7.heap.size rv O) := ho8
          have HW8 : Hid (WhAt w8 p b []) := hw8
          obtain ⟨adr, cr, rfl, _⟩ := own_len ho8
          have HC2 : Hid (O = [] ∨ ∃ g2, adr = some ⟨g2, 0, none⟩) := by
            by_cases hO0 : O = []
            · exact Or.inl hO0
            · obtain ⟨g2, cd', e⟩ := own_some HO8.out hO0
              injection e with e _ _
              exact Or.inr ⟨g2, e⟩
          clear hg8 ho8 hw8 HTK
          have HLE8 : Hid (∀ _W : World, Calls Try.prog 20 #[.pointer (some ⟨p, 0, none⟩)] w8 fun e w' => e = .returned (.int .i64 0) ∧ w' = w8) := fun _ => len_any HW8.out
          rcases HC2.out with hO0 | ⟨g2, rfl⟩
          all_goals
            go_wp2_with fail
            have ho60 : (O.length : Int) ≤ 60 := by have := HO60.out; omega
            have hgn60 : (gn : Int) ≤ 60 := by have := HO60.out; omega
            go_loop [19] (fun i => ∃ k : Nat, k ≤ O.length ∧ i = .int .i64 k) (fun i => O.length - (intOf i).toNat)
            case atStart => exact ⟨0, by omega, rfl⟩
            case round =>
              obtain ⟨k2, hk2, rfl⟩ := hrel
              by_cases hlt2 : k2 < O.length
              · first
                | (exfalso; rw [hO0] at hlt2; simp at hlt2; done)
                | (have hlt2' : (k2 : Int) < (O.length : Int) := by omega
                   have HX : Hid (FdAt w8 g2 k2 O[k2]) := own_at HO8.out k2 hlt2
                   have hpp := HOP.out O[k2] (List.getElem_mem hlt2)
                   generalize O[k2] = x at *
                   obtain ⟨x0, x1, x2, x3⟩ := HX.out
                   go_wp2
                   go_round
                   case rel => exact ⟨k2 + 1, by omega, by go_num⟩
                   case measure => simp [intOf]; omega)
              · obtain rfl : k2 = O.length := by omega
                have hgnI : (gn : Int) + (O.length : Int) = (R.length : Int) := by have := HGN.out; omega
                (try (have hgnO : (gn : Int) = (R.length : Int) := by (rw [hO0] at hgnI; simpa using hgnI)))
                go_wp2_with fail
                refine Calls.mono (HLE8.out w8) ?_
                rintro e wq ⟨rfl, hwq⟩
                subst wq
                go_wp2_with fail
                refine (works_any _).mono ?_
                rintro e w9 ⟨rfl, hb9⟩
                go_wp2
                go_ret
                exact ⟨rfl, HB8.out.trans (hb9.mono HB8.out.size)⟩
end Go.Proofs.Ytgplhdhnailpfaa
