/-
  What is read of a text is told by the same text: the walk.
-/
import Derived.Test.YthaebbmekonacaaGreatDoorEI
import Derived.Test.YthaebbmekonacaaGreatDoorPWF
import Derived.Test.YthaebbmekonacaaGreatDoorBKW
set_option linter.unusedVariables false
set_option linter.unusedSimpArgs false
set_option maxRecDepth 100000
namespace Go.Proofs.YthaebbmekonacaaGreatDoor
open Go.RowKit
theorem spl_free : ∀ (s : List UInt8), NoBl (spl s)
  | [] => by intro x hx; have : x = [] := by simpa [spl] using hx
             rw [this]; simp
  | c :: l => by
    intro x hx
    unfold spl at hx
    split at hx
    · rcases List.mem_cons.1 hx with e | e
      · rw [e]; simp
      · exact spl_free l x e
    · next hc =>
      split at hx
      · have : x = [c] := by simpa using hx
        rw [this]; simpa using fun e => hc e.symm
      · next y r hy =>
        rcases List.mem_cons.1 hx with e | e
        · have := spl_free l y (by rw [hy]; simp)
          rw [e]
          intro h
          rcases List.mem_cons.1 h with h | h
          · exact hc h.symm
          · exact this h
        · exact spl_free l x (by rw [hy]; simp [e])
theorem txt_spl : ∀ (s : List UInt8), txt (spl s) = 32 :: s
  | [] => rfl
  | c :: l => by
    have ih := txt_spl l
    unfold spl
    split
    · next hc => rw [txt_cons, ih, hc]; rfl
    · split
      · next hy => exact absurd hy (spl_ne l)
      · next y r hy =>
        rw [hy, txt_cons] at ih
        injection ih with _ ih
        rw [txt_cons, List.cons_append, ih]
theorem bs_eta (x : List UInt8) : (⟨x.toArray⟩ : ByteArray).data.toList = x := by simp
theorem free_not {x : List UInt8} (h : (32 : UInt8) ∉ x) : x ≠ [32] := fun e => by rw [e] at h; simp at h
theorem tab_not {tab : List (List UInt8)} (h : ∀ x ∈ tab, (32 : UInt8) ∉ x) {x : List UInt8} {k : Nat} (hk : plc tab x = some k) : x ≠ [32] := by
  obtain ⟨h1, h2, h3⟩ := plc_some hk
  have := tab_free h k
  rw [h2] at this
  exact free_not this
theorem rdC2_back {nt : Bool} {u r : List (List UInt8)} {c : Cd} (h : rdC2 nt u = some (c, r)) (hok : okC c = true) : c.nt = nt ∧ u = cwL.getD c.k.toNat [] :: cvT c :: r := by
  unfold rdC2 at h
  split at h
  · cases h
  · next k hk =>
    have e : u = u.headD [32] :: u.tail := hd_of rfl (tab_not cw_free hk)
    have hw := (plc_some hk).2.1
    split at h
    · next h5 =>
      subst h5
      split at h
      · cases h
      · next n hn =>
        obtain ⟨rfl, rfl⟩ := Prod.mk.inj (Option.some.inj h)
        have e2 : u.tail = u.tail.headD [32] :: u.tail.tail := hd_of rfl (tab_not ow_free hn)
        refine ⟨rfl, ?_⟩
        show u = cwL.getD 5 [] :: owL.getD ((n : Int).toNat) [] :: u.tail.tail
        rw [hw, Int.toNat_natCast, (plc_some hn).2.1, ← e2]; exact e
    split at h
    · next h6 =>
      subst h6
      split at h
      · cases h
      · next n hn =>
        obtain ⟨rfl, rfl⟩ := Prod.mk.inj (Option.some.inj h)
        have hd := (nmO_some hn).2
        have e2 : u.tail = u.tail.headD [32] :: u.tail.tail := hd_of rfl (by rw [hd]; exact free_not (dig_free n))
        refine ⟨rfl, ?_⟩
        show u = cwL.getD 6 [] :: Lib.decDigits ((n : Int).toNat) :: u.tail.tail
        rw [hw, Int.toNat_natCast, ← hd, ← e2]; exact e
    split at h
    · next h7 =>
      subst h7
      split at h
      · cases h
      · next n hn =>
        obtain ⟨rfl, rfl⟩ := Prod.mk.inj (Option.some.inj h)
        have e2 : u.tail = u.tail.headD [32] :: u.tail.tail := hd_of rfl (tab_not fw_free hn)
        refine ⟨rfl, ?_⟩
        show u = cwL.getD 7 [] :: fwL.getD ((n : Int).toNat) [] :: u.tail.tail
        rw [hw, Int.toNat_natCast, (plc_some hn).2.1, ← e2]; exact e
    · next h5 h6 h7 =>
      obtain ⟨rfl, rfl⟩ := Prod.mk.inj (Option.some.inj h)
      have hk8 : k < 8 := (plc_some hk).1
      have hnm : nameB ⟨(u.tail.headD [32]).toArray⟩ = true := by
        rcases ok_kinds hok with ⟨_, hn, _⟩ | ⟨hq, _⟩ | ⟨hq, _⟩ | ⟨hq, _⟩
        · exact hn
        all_goals (dsimp only at hq; omega)
      have hf := name_free hnm
      rw [bs_eta] at hf
      have e2 : u.tail = u.tail.headD [32] :: u.tail.tail := hd_of rfl (free_not hf)
      refine ⟨rfl, ?_⟩
      have hcv : cvT ⟨(k : Int), nt, ⟨(u.tail.headD [32]).toArray⟩, 0⟩ = u.tail.headD [32] := by
        unfold cvT
        rw [if_neg (by dsimp only; omega), if_neg (by dsimp only; omega), if_neg (by dsimp only; omega)]
      rw [hcv]
      show u = cwL.getD ((k : Int).toNat) [] :: u.tail.headD [32] :: u.tail.tail
      rw [Int.toNat_natCast, hw, ← e2]; exact e
theorem rdC_back {ws r : List (List UInt8)} {c : Cd} (h : rdC ws = some (c, r)) (hok : okC c = true) : ws = wC c ++ r := by
  unfold rdC at h
  split at h
  · next hn =>
    obtain ⟨h1, h2⟩ := rdC2_back h hok
    have e : ws = notW :: ws.tail := hd_of hn (by decide)
    unfold wC
    rw [h1, if_pos rfl, e, h2]; rfl
  · obtain ⟨h1, h2⟩ := rdC2_back h hok
    unfold wC
    rw [h1, if_neg (by simp), h2]; rfl
theorem wA_two {a : Ac} {x : List UInt8} (h : avT a = x) (hx : x ≠ []) : wA a = [awL.getD a.k.toNat [], x] := by
  unfold wA; rw [h, if_neg hx]
theorem rdA_back {cm : List UInt8 → Option Nat} {ad : List UInt8 → Option ByteArray} (K : Knows cm ad) {ws r : List (List UInt8)} {a : Ac} (h : rdA cm ad ws = some (a, r)) (hok : okA' a = true) : ws = wA a ++ r := by
  unfold rdA at h
  split at h
  · cases h
  · next k hk =>
    have e : ws = ws.headD [32] :: ws.tail := hd_of rfl (tab_not aw_free hk)
    have hw := (plc_some hk).2.1
    have hk11 : k < 11 := (plc_some hk).1
    split at h
    · next h3 =>
      split at h
      · cases h
      · next n hn =>
        obtain ⟨rfl, rfl⟩ := Prod.mk.inj (Option.some.inj h)
        have hd := (nmO_some hn).2
        have e2 : ws.tail = ws.tail.headD [32] :: ws.tail.tail := hd_of rfl (by rw [hd]; exact free_not (dig_free n))
        rw [wA_two (x := Lib.decDigits n) (by unfold avT; rw [if_pos (by dsimp only; omega)]) (digits_ne n)]
        show ws = awL.getD ((k : Int).toNat) [] :: Lib.decDigits n :: ws.tail.tail
        rw [Int.toNat_natCast, hw, ← hd, ← e2]; exact e
    split at h
    · next h6 =>
      subst h6
      split at h
      · cases h
      · next n hn =>
        obtain ⟨rfl, rfl⟩ := Prod.mk.inj (Option.some.inj h)
        have hd := (K.c1 _ _ hn).2
        have e2 : ws.tail = ws.tail.headD [32] :: ws.tail.tail := hd_of rfl (by rw [hd]; exact free_not (com_free n))
        rw [wA_two (x := comT n) (by unfold avT; rw [if_neg (by dsimp only; omega), if_pos rfl]) (com_not n)]
        show ws = awL.getD 6 [] :: comT n :: ws.tail.tail
        rw [hw, ← hd, ← e2]; exact e
    split at h
    · next h7 =>
      subst h7
      obtain ⟨rfl, rfl⟩ := Prod.mk.inj (Option.some.inj h)
      have hnm : nameB ⟨(ws.tail.headD [32]).toArray⟩ = true := by
        rcases okA_kinds hok with ⟨hq, _⟩ | ⟨hq, _⟩ | ⟨_, _, _, e1⟩ | ⟨hq, _⟩ | ⟨hq, _⟩
        · dsimp only at hq; omega
        · dsimp only at hq; omega
        · exact e1
        · dsimp only at hq; omega
        · dsimp only at hq; omega
      have hf := name_free hnm
      have hne := name_not hnm
      rw [bs_eta] at hf hne
      have e2 : ws.tail = ws.tail.headD [32] :: ws.tail.tail := hd_of rfl (free_not hf)
      rw [wA_two (x := ws.tail.headD [32]) (by unfold avT; rw [if_neg (by dsimp only; omega), if_neg (by dsimp only; omega), if_neg (by dsimp only; omega), if_neg (by dsimp only; omega)]) hne]
      show ws = awL.getD 7 [] :: ws.tail.headD [32] :: ws.tail.tail
      rw [hw, ← e2]; exact e
    split at h
    · next h9 =>
      subst h9
      split at h
      · cases h
      · next b hn =>
        obtain ⟨rfl, rfl⟩ := Prod.mk.inj (Option.some.inj h)
        obtain ⟨hs, hd⟩ := K.a1 _ _ hn
        have e2 : ws.tail = ws.tail.headD [32] :: ws.tail.tail := hd_of rfl (by rw [hd]; exact free_not (adT_free b hs))
        rw [wA_two (x := adT b) (by unfold avT; rw [if_neg (by dsimp only; omega), if_neg (by dsimp only; omega), if_pos rfl]) (adT_not b hs)]
        show ws = awL.getD 9 [] :: adT b :: ws.tail.tail
        rw [hw, ← hd, ← e2]; exact e
    split at h
    · next h10 =>
      subst h10
      split at h
      · cases h
      · next n hn =>
        obtain ⟨rfl, rfl⟩ := Prod.mk.inj (Option.some.inj h)
        have e2 : ws.tail = ws.tail.headD [32] :: ws.tail.tail := hd_of rfl (tab_not ow_free hn)
        have ho := plc_some hn
        rw [wA_two (x := owL.getD n []) (by unfold avT; rw [if_neg (by dsimp only; omega), if_neg (by dsimp only; omega), if_neg (by dsimp only; omega), if_pos rfl]) (by rw [ho.2.1]; exact ho.2.2)]
        show ws = awL.getD 10 [] :: owL.getD n [] :: ws.tail.tail
        rw [hw, ho.2.1, ← e2]; exact e
    · next h3 h6 h7 h9 h10 =>
      obtain ⟨rfl, rfl⟩ := Prod.mk.inj (Option.some.inj h)
      have hav : avT ⟨(k : Int), ⟨#[]⟩, 0, ⟨#[]⟩⟩ = [] := by
        unfold avT
        rw [if_neg (by dsimp only; omega), if_neg (by dsimp only; omega), if_neg (by dsimp only; omega), if_neg (by dsimp only; omega)]
      unfold wA
      rw [if_pos hav]
      show ws = awL.getD ((k : Int).toNat) [] :: ws.tail
      rw [Int.toNat_natCast, hw]; exact e
theorem goL_back {α : Type} {rd : List (List UInt8) → Option (α × List (List UInt8))} {P : α → Prop} {wf : α → List (List UInt8)} (hP : ∀ ws c r, rd ws = some (c, r) → P c → ws = wf c ++ r) : ∀ (f : Nat) (ws : List (List UInt8)) (L : List α) (y : List UInt8) (q : List (List UInt8)), goL rd f ws = some (L, y, q) → (∀ c ∈ L, P c) → L ≠ [] ∧ ∃ rl, ws = flatW (L.map wf) rl ∧ y = rl.headD [32] ∧ q = rl.tail
  | 0, _, _, _, _, h, _ => by cases h
  | f + 1, ws, L, y, q, h, hL => by
    unfold goL at h
    split at h
    · cases h
    · next c r hr =>
      split at h
      · next hand =>
        split at h
        · cases h
        · next l y' q' hg =>
          obtain ⟨rfl, e⟩ := Prod.mk.inj (Option.some.inj h)
          obtain ⟨rfl, rfl⟩ := Prod.mk.inj e
          have h1 := hP ws c r hr (hL c (by simp))
          obtain ⟨hne, rl, h2, h3, h4⟩ := goL_back hP f r.tail l _ _ hg (fun x hx => hL x (by simp [hx]))
          have er : r = andW :: r.tail := hd_of hand (by decide)
          refine ⟨by simp, rl, ?_, h3, h4⟩
          cases l with
          | nil => exact absurd rfl hne
          | cons b l =>
            simp only [List.map_cons] at h2 ⊢
            simp only [flatW]
            rw [h1, er, h2]
      · obtain ⟨rfl, e⟩ := Prod.mk.inj (Option.some.inj h)
        obtain ⟨rfl, rfl⟩ := Prod.mk.inj e
        exact ⟨by simp, r, hP ws c r hr (hL c (by simp)), rfl, rfl⟩
theorem NoBl.left {a b : List (List UInt8)} (h : NoBl (a ++ b)) : NoBl a := fun x hx => h x (List.mem_append.2 (Or.inl hx))
theorem NoBl.right {a b : List (List UInt8)} (h : NoBl (a ++ b)) : NoBl b := fun x hx => h x (List.mem_append.2 (Or.inr hx))
theorem rdT2_back {cm : List UInt8 → Option Nat} {ad : List UInt8 → Option ByteArray} (K : Knows cm ad) {cs : List Cd} {y : List UInt8} {q : List (List UInt8)} {T : Tm} (h : rdT2 cm ad cs y q = some T) (hf : NoBl q) : okT T = true ∧ T.cs = cs ∧ y = thenW ∧ q = flatW (T.acs.map wA) [] := by
  unfold rdT2 at h
  split at h
  · next hy =>
    split at h
    · cases h
    · next acs z q2 hg =>
      split at h
      · next hc =>
        obtain rfl := Option.some.inj h
        obtain ⟨hz, hok⟩ := hc
        obtain ⟨_, rl, h1, h2, h3⟩ := goL_back (P := fun a => okA' a = true) (wf := wA) (fun ws c r h hp => rdA_back K h hp) 64 q acs z q2 hg (fun a ha => (ok_term hok).2.2.2.2.1 a ha)
        refine ⟨hok, rfl, hy, ?_⟩
        rw [hz] at h2
        cases rl with
        | nil => exact h1
        | cons b l =>
          have hb : b = [32] := h2.symm
          rw [h1, flatW_app] at hf
          have := hf.right b (by simp)
          rw [hb] at this
          simp at this
      · cases h
  · cases h
theorem rdT_back {cm : List UInt8 → Option Nat} {ad : List UInt8 → Option ByteArray} (K : Knows cm ad) {s : List UInt8} {T : Tm} (h : rdT cm ad (spl s) = some T) : okT T = true ∧ tT T = s := by
  have hf := spl_free s
  have key : okT T = true ∧ wT T = spl s := by
    unfold rdT at h
    split at h
    · next hi =>
      have e : spl s = ifW :: (spl s).tail := hd_of hi (by decide)
      unfold rdT1 at h
      split at h
      · cases h
      · next cs y q hg =>
        have hf2 : NoBl (spl s).tail := fun x hx => hf x (List.mem_of_mem_tail hx)
        have hokc : okT T = true ∧ T.cs = cs := by
          unfold rdT2 at h
          split at h
          · split at h
            · cases h
            · split at h
              · next hc => obtain rfl := Option.some.inj h; exact ⟨hc.2, rfl⟩
              · cases h
          · cases h
        obtain ⟨hne, rl, h1, h2, h3⟩ := goL_back (P := fun c => okC c = true) (wf := wC) (fun ws c r h hp => rdC_back h hp) 64 _ cs y q hg (fun c hc => (ok_term hokc.1).2.2.2.1 c (by rw [hokc.2]; exact hc))
        have hfr : NoBl rl := by rw [h1, flatW_app] at hf2; exact hf2.right
        have hfq : NoBl q := fun x hx => hfr x (List.mem_of_mem_tail (by rw [← h3]; exact hx))
        obtain ⟨hok, hcs, hy, hq⟩ := rdT2_back K h hfq
        refine ⟨hok, ?_⟩
        have erl : rl = thenW :: q := by rw [h3]; exact hd_of (by rw [← h2]; exact hy) (by decide)
        have := wt_if T (by rw [hcs]; exact hne) []
        rw [List.append_nil] at this
        rw [this, e, h1, erl, hq, hcs]
    · next hi =>
      have hf2 : NoBl (spl s).tail := fun x hx => hf x (List.mem_of_mem_tail hx)
      obtain ⟨hok, hcs, hy, hq⟩ := rdT2_back K h hf2
      refine ⟨hok, ?_⟩
      have e : spl s = thenW :: (spl s).tail := hd_of hy (by decide)
      have := wt_no T hcs []
      rw [List.append_nil] at this
      rw [this, e, hq]
  refine ⟨key.1, ?_⟩
  have h1 := txt_t T (acs_ne key.1)
  rw [key.2, txt_spl] at h1
  injection h1 with _ h1
  exact h1.symm
end Go.Proofs.YthaebbmekonacaaGreatDoor
set_option linter.unusedVariables false
set_option linter.unusedSimpArgs false
set_option maxRecDepth 100000
namespace Go.Proofs.YthaebbmekonacaaGreatDoor
open Go.RowKit
theorem rdT_small {cm : List UInt8 → Option Nat} {ad : List UInt8 → Option ByteArray} (K : Knows cm ad) {ws : List (List UInt8)} {T : Tm} (h : rdT cm ad ws = some T) (hs : Sml ws) : SmT T ∧ ∀ a ∈ T.acs, a.n < 4294967296 := by
  have two : ∀ cs y q, rdT2 cm ad cs y q = some T → (∀ c ∈ cs, smC c) → cs.length ≤ 64 → Sml q → SmT T ∧ ∀ a ∈ T.acs, a.n < 4294967296 := fun cs y q h hc lc hq => by
    unfold rdT2 at h
    split at h
    · split at h
      · cases h
      · next acs z q2 hg =>
        split at h
        · obtain rfl := Option.some.inj h
          obtain ⟨g1, g2, _⟩ := goL_small (fun ws c r h hs => rdA_small K h hs) 64 q acs z q2 hg hq
          exact ⟨small_term hc g1 lc g2, fun a ha => (g1 a ha).2.2⟩
        · cases h
    · cases h
  unfold rdT at h
  split at h
  · unfold rdT1 at h
    split at h
    · cases h
    · next cs y q hg =>
      obtain ⟨g1, g2, g3⟩ := goL_small (P := smC) (fun ws c r h hs => rdC_small h hs) 64 _ cs y q hg hs.tl
      exact two cs y q h g1 g2 g3
  · exact two [] _ _ h (by simp) (by simp) hs.tl
set_option maxHeartbeats 2000000 in
theorem again_bad (s : ByteArray) (w : World)
    (K18 : ∀ X, Below w.heap.size w X → Calls Tryz.prog 18 #[] X fun e w' => e = .returned (.bool true) ∧ Below X.heap.size X w')
    (K23 : ∀ X, Below w.heap.size w X → Calls Tryz.prog 23 #[.string s] X fun e w' => BadT X w' e) :
    Calls Tryz.prog 8 #[.string s] w fun e w' => e = .returned (.bool true) ∧ Below w.heap.size w w' := by
  have H18 : Hid (∀ X, Below w.heap.size w X → _) := K18
  have H23 : Hid (∀ X, Below w.heap.size w X → _) := K23
  clear K18 K23
  go_enter Tryz.func8, Tryz.ntmps8
  go_wp2_with fail
  refine Calls.mono (H18.out w (Below.refl _ _)) ?_
  rintro e W2 ⟨rfl, hb2⟩
  have HB2 : Hid (Below w.heap.size w W2) := hb2
  clear hb2
  go_wp2_with fail
  refine Calls.mono (H23.out W2 HB2.out) ?_
  rintro e W3 ⟨⟨b, rfl, hf⟩, hb3⟩
  have hbz : Below W3.heap.size W3 (W3.alloc (.cells #[.slice none 0 0, .slice none 0 0] 63)) := (Below.refl _ _).alloc (Nat.le_refl _) _
  have HF : Hid (FltAt (W3.alloc (.cells #[.slice none 0 0, .slice none 0 0] 63)) b) := hf.below hbz
  have HC : Hid (C2 (W3.alloc (.cells #[.slice none 0 0, .slice none 0 0] 63)) W3.heap.size (.slice none 0 0) (.slice none 0 0)) := C2.new _ 63 _ _
  have HB3 : Hid (Below w.heap.size w (W3.alloc (.cells #[.slice none 0 0, .slice none 0 0] 63))) := (HB2.out.trans (hb3.mono HB2.out.size)).trans (hbz.mono (HB2.out.trans (hb3.mono HB2.out.size)).size)
  clear hb3 hf hbz HB2
  go_wp2_with (go_at_call 28; refine Calls.mono (is_flt b _ HF.out.1) ?_; rintro e Wq ⟨rfl, hq⟩; subst Wq)
  go_ret
  exact ⟨rfl, HB3.out⟩
set_option maxHeartbeats 2000000 in
theorem again_good (s : ByteArray) (T : Tm) (w : World)
    (K18 : ∀ X, Below w.heap.size w X → Calls Tryz.prog 18 #[] X fun e w' => e = .returned (.bool true) ∧ Below X.heap.size X w')
    (K23 : ∀ X, Below w.heap.size w X → Calls Tryz.prog 23 #[.string s] X fun e w' => TermOk X w' T.cs T.acs e)
    (K20 : ∀ X v, Below w.heap.size w X → TmAt X v T → Calls Tryz.prog 20 #[v] X fun e w' => e = .returned (.tuple #[.string s, .int .i64 0]) ∧ Below X.heap.size X w') :
    Calls Tryz.prog 8 #[.string s] w fun e w' => e = .returned (.bool true) ∧ Below w.heap.size w w' := by
  have H18 : Hid (∀ X, Below w.heap.size w X → _) := K18
  have H23 : Hid (∀ X, Below w.heap.size w X → _) := K23
  have H20 : Hid (∀ X v, Below w.heap.size w X → _) := K20
  clear K18 K23 K20
  go_enter Tryz.func8, Tryz.ntmps8
  go_wp2_with fail
  refine Calls.mono (H18.out w (Below.refl _ _)) ?_
  rintro e W2 ⟨rfl, hb2⟩
  have HB2 : Hid (Below w.heap.size w W2) := hb2
  clear hb2
  go_wp2_with fail
  refine Calls.mono (H23.out W2 HB2.out) ?_
  rintro e W4 ⟨⟨uc, ua, rfl, huc, hua⟩, hb4⟩
  have HU : Hid (CdAt W4 uc T.cs ∧ AcAt W4 ua T.acs) := ⟨huc, hua⟩
  obtain ⟨a4, k4, rfl⟩ := huc.len
  obtain ⟨b4, d4, rfl⟩ := hua.len
  have HB4 : Hid (Below w.heap.size w W4) := HB2.out.trans (hb4.mono HB2.out.size)
  clear hb4 HB2 huc hua
  have hbz : Below W4.heap.size W4 (W4.alloc (.cells #[.slice a4 T.cs.length k4, .slice b4 T.acs.length d4] 63)) := (Below.refl _ _).alloc (Nat.le_refl _) _
  have HU5 : Hid (TmAt (W4.alloc (.cells #[.slice a4 T.cs.length k4, .slice b4 T.acs.length d4] 63)) (.agg #[.slice a4 T.cs.length k4, .slice b4 T.acs.length d4]) T) := ⟨_, _, rfl, HU.out.1.below hbz, HU.out.2.below hbz⟩
  have HB5 : Hid (Below w.heap.size w (W4.alloc (.cells #[.slice a4 T.cs.length k4, .slice b4 T.acs.length d4] 63))) := HB4.out.trans (hbz.mono HB4.out.size)
  clear hbz HU HB4
  go_wp2_with fail
  refine Calls.mono (H20.out _ _ HB5.out HU5.out) ?_
  rintro e W6 ⟨rfl, hb6⟩
  have HB6 : Hid (Below w.heap.size w W6) := HB5.out.trans (hb6.mono HB5.out.size)
  clear hb6
  go_wp2
  go_ret
  exact ⟨rfl, HB6.out⟩
theorem again_walk (s : ByteArray) (hs : s.size < 140737488351233) (w : World) (he : EnvX w) (hE : ErrsAt w) : Calls Tryz.prog 8 #[.string s] w fun e w' => e = .returned (.bool true) ∧ Below w.heap.size w w' := by
  obtain ⟨cm, ad, K⟩ := knows_ex
  have es : (⟨s.data.toList.toArray⟩ : ByteArray) = s := bytes_eta s
  have hl : s.data.toList.length < 140737488351233 := by rw [Array.length_toList]; exact hs
  have K18 : ∀ X, Below w.heap.size w X → Calls Tryz.prog 18 #[] X fun e w' => e = .returned (.bool true) ∧ Below X.heap.size X w' := fun X hX => works_any X (he.below hX)
  have K23 : ∀ X, Below w.heap.size w X → Calls Tryz.prog 23 #[.string s] X fun e w' => TrR (rdT cm ad (spl s.data.toList)) X w' e := fun X hX => by
    have := term_any cm ad K s.data.toList hl X (he.below hX) (hE.below hX)
    rw [es] at this
    exact this
  cases ho : rdT cm ad (spl s.data.toList) with
  | none => rw [ho] at K23; exact again_bad s w K18 K23
  | some T =>
    rw [ho] at K23
    obtain ⟨hok, ht⟩ := rdT_back K ho
    obtain ⟨hsm, hn⟩ := rdT_small K ho (fun x hx => by have := spl_small _ x hx; omega)
    refine again_good s T w K18 K23 fun X v hX hv => ?_
    have := termText_any v T X (he.below hX) hv hsm hn
    rw [show ttS T = s.data.toList by unfold ttS; rw [hok]; exact ht, show ttE T = 0 by unfold ttE; rw [hok]; rfl, es] at this
    exact this
end Go.Proofs.YthaebbmekonacaaGreatDoor
