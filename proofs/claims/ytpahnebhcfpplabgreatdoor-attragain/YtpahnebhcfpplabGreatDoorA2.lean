/-
  Encode and EncodeExts.
-/
import Derived.Test.YtpahnebhcfpplabGreatDoorA1
import Derived.BigQuiet
namespace Go.Proofs.YtpahnebhcfpplabGreatDoor
open Go.RowKit
/-- The bytes of numbers, each of n bytes. -/
def bytesN (n : Nat) (l : List Nat) : ByteArray := ⟨(l.flatMap fun x => laid x n).toArray⟩
theorem bytesN_snoc (n : Nat) (l : List Nat) (x : Nat) : bytesN n (l ++ [x]) = bytesN n l ++ ⟨(laid x n).toArray⟩ := by
  apply ByteArray.ext
  simp [bytesN]
/-- What an Encode answers. -/
def encAns (m : Bool) (b : ByteArray) : Value := if m then .tuple #[.string b, .int .i64 0] else .tuple #[.string ⟨#[]⟩, .int .i64 2]

set_option maxRecDepth 100000 in
theorem mayU (v : Value) (l : List Nat) (w : World) (h : PlainAt w v l) :
    Calls Tryz.prog 123 #[v, .func (.func 44) #[] #[]] w fun e w' => e = .returned (.bool (mayL ltN l)) ∧ Below w.heap.size w w' := by
  obtain ⟨ad, b, off, cap, rfl, had, ⟨_, hl⟩, hr⟩ := h
  have HR : Hid (RowQ _ _ _ _ _ _) := hr
  clear hr
  by_cases h64 : 64 < l.length
  · have HE : Hid (mayL ltN l = false) := by unfold Hid; simp [mayL]; omega
    go_enter Tryz.func123, Tryz.ntmps123
    go_wp2
    go_ret
    exact ⟨ret_bool HE.out.symm, Below.refl _ _⟩
  · go_enter Tryz.func123, Tryz.ntmps123
    go_wp2
    go_loopw [12] (fun i wr => ∃ k : Nat, (k = 0 ∨ k + 1 ≤ l.length) ∧ i = .int .i64 k ∧ Below w.heap.size w wr ∧ ∀ j (h : j + 1 < l.length), j < k → ltN l[j] l[j + 1] = true) (fun i _ => l.length - (intOf i).toNat)
    case atStart => exact ⟨0, Or.inl rfl, rfl, Below.refl _ _, fun j _ h => absurd h (Nat.not_lt_zero _)⟩
    case round =>
      obtain ⟨k, hk, rfl, hb, hn⟩ := hrel
      have HN : Hid (∀ j (h : j + 1 < l.length), j < k → ltN l[j] l[j + 1] = true) := hn
      clear hn
      by_cases hlt : k + 1 < l.length
      · obtain rfl : ad = some ⟨b, off, none⟩ := by rcases had with h | h; exact h; omega
        have c1 := ((HR.out.below hb) k (by omega)).1
        have c2 := ((HR.out.below hb) (k + 1) hlt).1
        clear had hk
        have HF : Hid (ltN l[k] l[k + 1] = true → ∀ j (h : j + 1 < l.length), j < k + 1 → ltN l[j] l[j + 1] = true) := fun h j hj hjk => by
          by_cases e : j = k
          · subst e; exact h
          · exact HN.out j hj (by omega)
        have HG : Hid (ltN l[k] l[k + 1] = false → mayL ltN l = false) := fun h => by simp [mayL, rising_false k hlt h]
        have hlt2 : (k : Int) < (l.length : Int) - 1 := by omega
        generalize l[k] = x at *
        generalize l[k + 1] = y at *
        have HL : Hid (_ < _) := hlt
        have hk1 : k < l.length := by omega
        have hk0 : (0 : Int) ≤ (k : Int) + 1 := by omega
        have hk2 : (k : Int) + 1 < (l.length : Int) := by omega
        have hkn : ((k : Int) + 1).toNat = k + 1 := by omega
        have hwr : IntKind.i64.wrap ((k : Int) + 1) = (k : Int) + 1 := by rw [IntKind.wrap_i64]; omega
        by_cases hxy : x < y
        · have hcm : cmpI (x : Int) (y : Int) = -1 := cmpI_lt (by omega)
          have HX : Hid (ltN x y = true) := by unfold Hid ltN; simpa using hxy
          clear hxy
          go_wp2
          go_quiet (first | (go_at_call 44; refine Calls.quiet_of_same (cmpU _ _ _)))
          go_wp2
          go_roundw
          case rel => exact ⟨k + 1, Or.inr HL.out, by go_num, below_drewN' hb _, HF.out HX.out⟩
          case measure => have := HL.out; simp [intOf]; omega
        · have hcm : 0 ≤ cmpI (x : Int) (y : Int) := by unfold cmpI; split <;> first | omega | (split <;> omega)
          have HX : Hid (ltN x y = false) := by unfold Hid ltN; simpa using hxy
          clear hxy
          generalize hcc : cmpI (x : Int) (y : Int) = cc at *
          go_wp2
          go_quiet (first | (go_at_call 44; refine Calls.quiet_of_same (cmpU _ _ _)))
          rw [hcc]
          go_wp2
          go_ret
          exact ⟨ret_bool (HG.out HX.out).symm, below_drewN' hb _⟩
      · have hge : ¬ ((k : Int) < (l.length : Int) - 1) := by omega
        have HE : Hid (mayL ltN l = true) := by
          unfold Hid mayL
          rw [(rising_iff ltN l).mpr (fun i hi => HN.out i hi (by omega))]
          simp; omega
        go_wp2
        go_ret
        exact ⟨ret_bool HE.out.symm, hb⟩

set_option maxRecDepth 100000 in
theorem mayX (v : Value) (l : List Nat) (w : World) (h : ExtsAt w v l) :
    Calls Tryz.prog 126 #[v, .func (.func 46) #[] #[]] w fun e w' => e = .returned (.bool (mayL ltN l)) ∧ Below w.heap.size w w' := by
  obtain ⟨ad, b, off, cap, rfl, had, ⟨_, hl⟩, hr⟩ := h
  have HR : Hid (RowQ _ _ _ _ _ _) := hr
  clear hr
  by_cases h64 : 64 < l.length
  · have HE : Hid (mayL ltN l = false) := by unfold Hid; simp [mayL]; omega
    go_enter Tryz.func126, Tryz.ntmps126
    go_wp2
    go_ret
    exact ⟨ret_bool HE.out.symm, Below.refl _ _⟩
  · go_enter Tryz.func126, Tryz.ntmps126
    go_wp2
    go_loopw [12] (fun i wr => ∃ k : Nat, (k = 0 ∨ k + 1 ≤ l.length) ∧ i = .int .i64 k ∧ Below w.heap.size w wr ∧ ∀ j (h : j + 1 < l.length), j < k → ltN l[j] l[j + 1] = true) (fun i _ => l.length - (intOf i).toNat)
    case atStart => exact ⟨0, Or.inl rfl, rfl, Below.refl _ _, fun j _ h => absurd h (Nat.not_lt_zero _)⟩
    case round =>
      obtain ⟨k, hk, rfl, hb, hn⟩ := hrel
      have HN : Hid (∀ j (h : j + 1 < l.length), j < k → ltN l[j] l[j + 1] = true) := hn
      clear hn
      by_cases hlt : k + 1 < l.length
      · obtain rfl : ad = some ⟨b, off, none⟩ := by rcases had with h | h; exact h; omega
        have c1 := ((HR.out.below hb) k (by omega)).1
        have c2 := ((HR.out.below hb) (k + 1) hlt).1
        clear had hk
        have HF : Hid (ltN l[k] l[k + 1] = true → ∀ j (h : j + 1 < l.length), j < k + 1 → ltN l[j] l[j + 1] = true) := fun h j hj hjk => by
          by_cases e : j = k
          · subst e; exact h
          · exact HN.out j hj (by omega)
        have HG : Hid (ltN l[k] l[k + 1] = false → mayL ltN l = false) := fun h => by simp [mayL, rising_false k hlt h]
        have hlt2 : (k : Int) < (l.length : Int) - 1 := by omega
        generalize l[k] = x at *
        generalize l[k + 1] = y at *
        have HL : Hid (_ < _) := hlt
        have hk1 : k < l.length := by omega
        have hk0 : (0 : Int) ≤ (k : Int) + 1 := by omega
        have hk2 : (k : Int) + 1 < (l.length : Int) := by omega
        have hkn : ((k : Int) + 1).toNat = k + 1 := by omega
        have hwr : IntKind.i64.wrap ((k : Int) + 1) = (k : Int) + 1 := by rw [IntKind.wrap_i64]; omega
        by_cases hxy : x < y
        · have hcm : cmpI (x : Int) (y : Int) = -1 := cmpI_lt (by omega)
          have HX : Hid (ltN x y = true) := by unfold Hid ltN; simpa using hxy
          clear hxy
          go_wp2
          go_quiet (first | (go_at_call 46; refine Calls.quiet_of_same (cmpX _ _ _)))
          go_wp2
          go_roundw
          case rel => exact ⟨k + 1, Or.inr HL.out, by go_num, below_drewN' hb _, HF.out HX.out⟩
          case measure => have := HL.out; simp [intOf]; omega
        · have hcm : 0 ≤ cmpI (x : Int) (y : Int) := by unfold cmpI; split <;> first | omega | (split <;> omega)
          have HX : Hid (ltN x y = false) := by unfold Hid ltN; simpa using hxy
          clear hxy
          generalize hcc : cmpI (x : Int) (y : Int) = cc at *
          go_wp2
          go_quiet (first | (go_at_call 46; refine Calls.quiet_of_same (cmpX _ _ _)))
          rw [hcc]
          go_wp2
          go_ret
          exact ⟨ret_bool (HG.out HX.out).symm, below_drewN' hb _⟩
      · have hge : ¬ ((k : Int) < (l.length : Int) - 1) := by omega
        have HE : Hid (mayL ltN l = true) := by
          unfold Hid mayL
          rw [(rising_iff ltN l).mpr (fun i hi => HN.out i hi (by omega))]
          simp; omega
        go_wp2
        go_ret
        exact ⟨ret_bool HE.out.symm, hb⟩

set_option maxRecDepth 100000 in
theorem encU (v : Value) (l : List Nat) (w : World) (h : PlainAt w v l) :
    Calls Tryz.prog 96 #[v, .func (.func 44) #[] #[], .func (.func 97) #[] #[]] w fun e w' => e = .returned (encAns (mayL ltN l) (bytesN 4 l)) ∧ Below w.heap.size w w' := by
  cases hm : mayL ltN l with
  | false =>
    obtain ⟨ad, b, off, cap, rfl, _⟩ := id h
    have HM : Hid (_ = _) := hm
    clear hm
    go_enter Tryz.func96, Tryz.ntmps96
    go_wp2_with fail
    refine (mayU _ l w h).mono ?_
    rintro e w1 ⟨rfl, hb⟩
    rw [HM.out]
    go_wp2
    go_ret2
    exact ⟨rfl, hb⟩
  | true =>
    have HM : Hid (_ = _) := hm
    have hl64 : l.length ≤ 64 := by simp [mayL] at hm; exact hm.1
    clear hm
    obtain ⟨ad, b, off, cap, rfl, had, ⟨_, hl⟩, hr⟩ := id h
    have HR : Hid (RowQ _ _ _ _ _ _) := hr
    clear hr
    go_enter Tryz.func96, Tryz.ntmps96
    go_wp2_with fail
    refine (mayU _ l w h).mono ?_
    rintro e w1 ⟨rfl, hb⟩
    rw [HM.out]
    clear h
    go_wp2
    go_loopw [8, 17] (fun t i wr => ∃ (k : Nat) (cur : ByteArray), k ≤ l.length ∧ i = .int .i64 k ∧ t = .string cur ∧ cur.size ≤ 4 * k ∧ cur = bytesN 4 (l.take k) ∧ Below w.heap.size w wr) (fun _ i _ => l.length - (intOf i).toNat)
    case atStart => exact ⟨0, ⟨#[]⟩, Nat.zero_le _, rfl, rfl, Nat.le_refl 0, rfl, hb⟩
    case round =>
      obtain ⟨k, cur, hk, rfl, rfl, hs, hcur, hbel⟩ := hrel
      have HC : Hid (_ = _) := hcur
      clear hcur hb
      by_cases hlt : k < l.length
      · obtain rfl : ad = some ⟨b, off, none⟩ := by rcases had with h | h; exact h; omega
        have c1 := ((HR.out.below hbel) k hlt).1
        have hx := ((HR.out.below hbel) k hlt).2
        have HT : Hid (cur ++ ⟨(laid l[k] 4).toArray⟩ = bytesN 4 (l.take (k + 1))) := by unfold Hid; rw [HC.out, take_snoc _ _ hlt, bytesN_snoc]
        clear had
        generalize l[k] = x at *
        go_wp2_with fail
        refine (layU cur x _ hx (by omega)).mono ?_
        rintro e w2 ⟨rfl, hb2⟩
        have HB : Hid (Below w.heap.size w w2) := hbel.trans (hb2.mono hbel.size)
        have HSz : Hid ((cur ++ ⟨(laid x 4).toArray⟩ : ByteArray).size ≤ 4 * (k + 1)) := by
          unfold Hid
          rw [ByteArray.size_append, show (ByteArray.mk (laid x 4).toArray).size = 4 from laid_length x 4]; omega
        generalize cur ++ ⟨(laid x 4).toArray⟩ = nx at *
        clear hb2 c1 hbel hx
        go_wp2
        go_roundw
        case rel => exact ⟨k + 1, nx, by omega, by go_num, rfl, HSz.out, HT.out, HB.out⟩
        case measure => simp [intOf]; omega
      · obtain rfl : k = l.length := by omega
        have HE : Hid (cur = bytesN 4 l) := by have := HC.out; rw [List.take_length] at this; exact this
        go_wp2
        go_ret2
        exact ⟨by rw [HE.out]; rfl, hbel⟩
theorem EncU (v : Value) (l : List Nat) (w : World) (h : PlainAt w v l) :
    Calls Tryz.prog 62 #[v] w fun e w' => e = .returned (encAns (mayL ltN l) (bytesN 4 l)) ∧ Below w.heap.size w w' := by
  have hE := encU v l w h
  obtain ⟨ad, b, off, cap, rfl, _⟩ := id h
  generalize bytesN 4 l = bs at hE ⊢
  generalize mayL ltN l = m at hE ⊢
  go_enter Tryz.func62, Tryz.ntmps62
  go_wp2_with fail
  refine hE.mono ?_
  rintro e w1 ⟨rfl, hb⟩
  cases m
  · unfold encAns
    go_wp2
    go_ret2
    exact ⟨rfl, hb⟩
  · unfold encAns
    go_wp2
    go_ret2
    exact ⟨rfl, hb⟩

set_option maxRecDepth 100000 in
theorem encX (v : Value) (l : List Nat) (w : World) (h : ExtsAt w v l) :
    Calls Tryz.prog 104 #[v, .func (.func 46) #[] #[], .func (.func 105) #[] #[]] w fun e w' => e = .returned (encAns (mayL ltN l) (bytesN 8 l)) ∧ Below w.heap.size w w' := by
  cases hm : mayL ltN l with
  | false =>
    obtain ⟨ad, b, off, cap, rfl, _⟩ := id h
    have HM : Hid (_ = _) := hm
    clear hm
    go_enter Tryz.func104, Tryz.ntmps104
    go_wp2_with fail
    refine (mayX _ l w h).mono ?_
    rintro e w1 ⟨rfl, hb⟩
    rw [HM.out]
    go_wp2
    go_ret2
    exact ⟨rfl, hb⟩
  | true =>
    have HM : Hid (_ = _) := hm
    have hl64 : l.length ≤ 64 := by simp [mayL] at hm; exact hm.1
    clear hm
    obtain ⟨ad, b, off, cap, rfl, had, ⟨_, hl⟩, hr⟩ := id h
    have HR : Hid (RowQ _ _ _ _ _ _) := hr
    clear hr
    go_enter Tryz.func104, Tryz.ntmps104
    go_wp2_with fail
    refine (mayX _ l w h).mono ?_
    rintro e w1 ⟨rfl, hb⟩
    rw [HM.out]
    clear h
    go_wp2
    go_loopw [8, 17] (fun t i wr => ∃ (k : Nat) (cur : ByteArray), k ≤ l.length ∧ i = .int .i64 k ∧ t = .string cur ∧ cur.size ≤ 8 * k ∧ cur = bytesN 8 (l.take k) ∧ Below w.heap.size w wr) (fun _ i _ => l.length - (intOf i).toNat)
    case atStart => exact ⟨0, ⟨#[]⟩, Nat.zero_le _, rfl, rfl, Nat.le_refl 0, rfl, hb⟩
    case round =>
      obtain ⟨k, cur, hk, rfl, rfl, hs, hcur, hbel⟩ := hrel
      have HC : Hid (_ = _) := hcur
      clear hcur hb
      by_cases hlt : k < l.length
      · obtain rfl : ad = some ⟨b, off, none⟩ := by rcases had with h | h; exact h; omega
        have c1 := ((HR.out.below hbel) k hlt).1
        have hx := ((HR.out.below hbel) k hlt).2
        have HT : Hid (cur ++ ⟨(laid l[k] 8).toArray⟩ = bytesN 8 (l.take (k + 1))) := by unfold Hid; rw [HC.out, take_snoc _ _ hlt, bytesN_snoc]
        clear had
        generalize l[k] = x at *
        go_wp2_with fail
        refine (layX cur x _ hx (by omega)).mono ?_
        rintro e w2 ⟨rfl, hb2⟩
        have HB : Hid (Below w.heap.size w w2) := hbel.trans (hb2.mono hbel.size)
        have HSz : Hid ((cur ++ ⟨(laid x 8).toArray⟩ : ByteArray).size ≤ 8 * (k + 1)) := by
          unfold Hid
          rw [ByteArray.size_append, show (ByteArray.mk (laid x 8).toArray).size = 8 from laid_length x 8]; omega
        generalize cur ++ ⟨(laid x 8).toArray⟩ = nx at *
        clear hb2 c1 hbel hx
        go_wp2
        go_roundw
        case rel => exact ⟨k + 1, nx, by omega, by go_num, rfl, HSz.out, HT.out, HB.out⟩
        case measure => simp [intOf]; omega
      · obtain rfl : k = l.length := by omega
        have HE : Hid (cur = bytesN 8 l) := by have := HC.out; rw [List.take_length] at this; exact this
        go_wp2
        go_ret2
        exact ⟨by rw [HE.out]; rfl, hbel⟩
theorem EncX (v : Value) (l : List Nat) (w : World) (h : ExtsAt w v l) :
    Calls Tryz.prog 70 #[v] w fun e w' => e = .returned (encAns (mayL ltN l) (bytesN 8 l)) ∧ Below w.heap.size w w' := by
  have hE := encX v l w h
  obtain ⟨ad, b, off, cap, rfl, _⟩ := id h
  generalize bytesN 8 l = bs at hE ⊢
  generalize mayL ltN l = m at hE ⊢
  go_enter Tryz.func70, Tryz.ntmps70
  go_wp2_with fail
  refine hE.mono ?_
  rintro e w1 ⟨rfl, hb⟩
  cases m
  · unfold encAns
    go_wp2
    go_ret2
    exact ⟨rfl, hb⟩
  · unfold encAns
    go_wp2
    go_ret2
    exact ⟨rfl, hb⟩
end Go.Proofs.YtpahnebhcfpplabGreatDoor
