/-
  EncodeLarges.
-/
import Derived.Test.YtpahnebhcfpplabGreatDoorA3
namespace Go.Proofs.YtpahnebhcfpplabGreatDoor
open Go.RowKit
def byteL (x : Lg) : List UInt8 := laid x.1 4 ++ laid x.2.1 4 ++ laid x.2.2 4
theorem byteL_length (x : Lg) : (byteL x).length = 12 := by simp [byteL, laid_length]
/-- The bytes of large communities. -/
def bytesL (l : List Lg) : ByteArray := ⟨(l.flatMap byteL).toArray⟩
theorem bytesL_snoc (l : List Lg) (x : Lg) : bytesL (l ++ [x]) = bytesL l ++ ⟨(byteL x).toArray⟩ := by
  apply ByteArray.ext
  simp [bytesL]
theorem app2 (b : ByteArray) (l m : List UInt8) : b ++ ⟨l.toArray⟩ ++ ⟨m.toArray⟩ = b ++ ⟨(l ++ m).toArray⟩ := by
  apply ByteArray.ext
  simp
set_option maxRecDepth 100000 in
theorem layL (b : ByteArray) (x : Lg) (w : World) (hx : x.1 < 4294967296 ∧ x.2.1 < 4294967296 ∧ x.2.2 < 4294967296) (hb : b.size ≤ 1000000) :
    Calls Tryz.prog 112 #[.string b, .agg (cellsL x)] w fun e w' => e = .returned (.string (b ++ ⟨(byteL x).toArray⟩)) ∧ Below w.heap.size w w' := by
  obtain ⟨x1, x2, x3⟩ := x
  obtain ⟨h1, h2, h3⟩ := hx
  simp only at h1 h2 h3
  have HE : Hid (b ++ ⟨(laid x1 4).toArray⟩ ++ ⟨(laid x2 4).toArray⟩ ++ ⟨(laid x3 4).toArray⟩ = b ++ ⟨(byteL (x1, x2, x3)).toArray⟩) := by
    unfold Hid; rw [app2, app2]; rfl
  generalize b ++ ⟨(byteL (x1, x2, x3)).toArray⟩ = res at *
  unfold cellsL
  go_enter Tryz.func112, Tryz.ntmps112
  go_wp2
  have hb0 : Below w.heap.size w (w.alloc (.cells #[.int .u32 (x1 : Int), .int .u32 (x2 : Int), .int .u32 (x3 : Int)] 52)) := (Below.refl _ _).alloc (Nat.le_refl _) _
  generalize w.alloc (.cells #[.int .u32 (x1 : Int), .int .u32 (x2 : Int), .int .u32 (x3 : Int)] 52) = W at *
  go_loopw [0, 14] (fun t i wr => ∃ (k : Nat) (cur : ByteArray), k ≤ 3 ∧ i = .int .i64 k ∧ t = .string cur ∧ cur.size = b.size + 4 * k ∧ Below w.heap.size w wr ∧ (cur = if k = 0 then b else if k = 1 then b ++ ⟨(laid x1 4).toArray⟩ else if k = 2 then b ++ ⟨(laid x1 4).toArray⟩ ++ ⟨(laid x2 4).toArray⟩ else res)) (fun _ i _ => 3 - (intOf i).toNat)
  case atStart => exact ⟨0, b, by omega, rfl, rfl, by omega, hb0, by simp⟩
  case round =>
    obtain ⟨k, cur, hk, rfl, rfl, hs, hbel, hc⟩ := hrel
    have HC : Hid (_ = _) := hc
    clear hc hb0
    by_cases hlt : k < 3
    · rcases (show k = 0 ∨ k = 1 ∨ k = 2 by omega) with rfl | rfl | rfl
      · have hix : ∀ W, (Instr.index 157 (.agg #[.int .u32 (x1 : Int), .int .u32 (x2 : Int), .int .u32 (x3 : Int)]) (.int .i64 0)).run Tryz.prog W = .ok (.int .u32 (x1 : Int)) W := fun W => by kernel_rfl
        go_wp2_with fail
        refine (put_any cur x1 4 _ (by omega) (by omega) (by simpa using h1) (by omega)).mono ?_
        rintro e w2 ⟨rfl, hb2⟩
        have HB : Hid (Below w.heap.size w w2) := hbel.trans (hb2.mono hbel.size)
        have HSz : Hid ((cur ++ ⟨(laid x1 4).toArray⟩ : ByteArray).size = b.size + 4 * 1) := by
          unfold Hid
          rw [ByteArray.size_append, show (ByteArray.mk (laid x1 4).toArray).size = 4 from laid_length x1 4]; omega
        have HT : Hid (cur ++ ⟨(laid x1 4).toArray⟩ = b ++ ⟨(laid x1 4).toArray⟩) := by
          unfold Hid
          have := HC.out
          simp at this
          rw [this]
        generalize cur ++ ⟨(laid x1 4).toArray⟩ = nx at *
        clear hb2 hbel
        go_wp2
        go_roundw
        case rel => exact ⟨1, nx, by omega, by go_num, rfl, HSz.out, HB.out, by simpa using HT.out⟩
        case measure => simp [intOf]
      · have hix : ∀ W, (Instr.index 157 (.agg #[.int .u32 (x1 : Int), .int .u32 (x2 : Int), .int .u32 (x3 : Int)]) (.int .i64 1)).run Tryz.prog W = .ok (.int .u32 (x2 : Int)) W := fun W => by kernel_rfl
        go_wp2_with fail
        refine (put_any cur x2 4 _ (by omega) (by omega) (by simpa using h2) (by omega)).mono ?_
        rintro e w2 ⟨rfl, hb2⟩
        have HB : Hid (Below w.heap.size w w2) := hbel.trans (hb2.mono hbel.size)
        have HSz : Hid ((cur ++ ⟨(laid x2 4).toArray⟩ : ByteArray).size = b.size + 4 * 2) := by
          unfold Hid
          rw [ByteArray.size_append, show (ByteArray.mk (laid x2 4).toArray).size = 4 from laid_length x2 4]; omega
        have HT : Hid (cur ++ ⟨(laid x2 4).toArray⟩ = b ++ ⟨(laid x1 4).toArray⟩ ++ ⟨(laid x2 4).toArray⟩) := by
          unfold Hid
          have := HC.out
          simp at this
          rw [this]
        generalize cur ++ ⟨(laid x2 4).toArray⟩ = nx at *
        clear hb2 hbel
        go_wp2
        go_roundw
        case rel => exact ⟨2, nx, by omega, by go_num, rfl, HSz.out, HB.out, by simpa using HT.out⟩
        case measure => simp [intOf]
      · have hix : ∀ W, (Instr.index 157 (.agg #[.int .u32 (x1 : Int), .int .u32 (x2 : Int), .int .u32 (x3 : Int)]) (.int .i64 2)).run Tryz.prog W = .ok (.int .u32 (x3 : Int)) W := fun W => by kernel_rfl
        go_wp2_with fail
        refine (put_any cur x3 4 _ (by omega) (by omega) (by simpa using h3) (by omega)).mono ?_
        rintro e w2 ⟨rfl, hb2⟩
        have HB : Hid (Below w.heap.size w w2) := hbel.trans (hb2.mono hbel.size)
        have HSz : Hid ((cur ++ ⟨(laid x3 4).toArray⟩ : ByteArray).size = b.size + 4 * 3) := by
          unfold Hid
          rw [ByteArray.size_append, show (ByteArray.mk (laid x3 4).toArray).size = 4 from laid_length x3 4]; omega
        have HT : Hid (cur ++ ⟨(laid x3 4).toArray⟩ = res) := by
          unfold Hid
          have := HC.out
          simp at this
          rw [this]; exact HE.out
        generalize cur ++ ⟨(laid x3 4).toArray⟩ = nx at *
        clear hb2 hbel
        go_wp2
        go_roundw
        case rel => exact ⟨3, nx, by omega, by go_num, rfl, HSz.out, HB.out, by simpa using HT.out⟩
        case measure => simp [intOf]
    · obtain rfl : k = 3 := by omega
      have HF : Hid (cur = res) := by unfold Hid; simpa using HC.out
      go_wp2
      go_ret
      exact ⟨congrArg (fun x => Ending.returned (.string x)) HF.out, hbel⟩
set_option maxRecDepth 100000 in
set_option maxHeartbeats 1600000 in
theorem mayLg (v : Value) (l : List Lg) (w : World) (h : LargesAt w v l) :
    Calls Tryz.prog 129 #[v, .func (.func 111) #[] #[]] w fun e w' => e = .returned (.bool (mayL ltL l)) ∧ Below w.heap.size w w' := by
  obtain ⟨ad, b, off, cap, rfl, had, ⟨_, hl⟩, hr⟩ := h
  have HR : Hid (RowL _ _ _ _) := hr
  clear hr
  by_cases h64 : 64 < l.length
  · have HE : Hid (mayL ltL l = false) := by unfold Hid; simp [mayL]; omega
    go_enter Tryz.func129, Tryz.ntmps129
    go_wp2
    go_ret
    exact ⟨ret_bool HE.out.symm, Below.refl _ _⟩
  · go_enter Tryz.func129, Tryz.ntmps129
    go_wp2
    go_loopw [12] (fun i wr => ∃ k : Nat, (k = 0 ∨ k + 1 ≤ l.length) ∧ i = .int .i64 k ∧ Below w.heap.size w wr ∧ ∀ j (h : j + 1 < l.length), j < k → ltL l[j] l[j + 1] = true) (fun i _ => l.length - (intOf i).toNat)
    case atStart => exact ⟨0, Or.inl rfl, rfl, Below.refl _ _, fun j _ h => absurd h (Nat.not_lt_zero _)⟩
    case round =>
      obtain ⟨k, hk, rfl, hb, hn⟩ := hrel
      have HN : Hid (∀ j (h : j + 1 < l.length), j < k → ltL l[j] l[j + 1] = true) := hn
      clear hn
      by_cases hlt : k + 1 < l.length
      · obtain rfl : ad = some ⟨b, off, none⟩ := by rcases had with h | h; exact h; omega
        obtain ⟨c1, c2, c3⟩ := ((HR.out.below hb) k (by omega)).1
        obtain ⟨d1, d2, d3⟩ := ((HR.out.below hb) (k + 1) hlt).1
        clear had hk
        have HF : Hid (ltL l[k] l[k + 1] = true → ∀ j (h : j + 1 < l.length), j < k + 1 → ltL l[j] l[j + 1] = true) := fun h j hj hjk => by
          by_cases e : j = k
          · subst e; exact h
          · exact HN.out j hj (by omega)
        have HG : Hid (ltL l[k] l[k + 1] = false → mayL ltL l = false) := fun h => by simp [mayL, rising_false k hlt h]
        have hlt2 : (k : Int) < (l.length : Int) - 1 := by omega
        generalize l[k] = x at *
        generalize l[k + 1] = y at *
        have HL : Hid (_ < _) := hlt
        have hk1 : k < l.length := by omega
        have hk0 : (0 : Int) ≤ (k : Int) + 1 := by omega
        have hk2 : (k : Int) + 1 < (l.length : Int) := by omega
        have hkn : ((k : Int) + 1).toNat = k + 1 := by omega
        have hwr : IntKind.i64.wrap ((k : Int) + 1) = (k : Int) + 1 := by rw [IntKind.wrap_i64]; omega
        obtain ⟨x1, x2, x3⟩ := x
        obtain ⟨y1, y2, y3⟩ := y
        simp only at c1 c2 c3 d1 d2 d3
        have HCM : Hid (∀ W, Calls Tryz.prog 111 #[.agg #[.int .u32 (x1 : Int), .int .u32 (x2 : Int), .int .u32 (x3 : Int)], .agg #[.int .u32 (y1 : Int), .int .u32 (y2 : Int), .int .u32 (y3 : Int)]] W fun e w' => e = .returned (.int .i64 (cmpLg (x1, x2, x3) (y1, y2, y3))) ∧ Below W.heap.size W w') := fun W => cmpL (x1, x2, x3) (y1, y2, y3) W
        have HLT := cmpLg_lt (x1, x2, x3) (y1, y2, y3)
        generalize cmpLg (x1, x2, x3) (y1, y2, y3) = cc at *
        have HLH : Hid (cc < 0 ↔ _) := HLT
        have HB0 : Hid (Below w.heap.size w wr) := hb
        clear HLT hlt hb
        go_wp2
        go_region_held (fun w' => w'.cell? ⟨b, off + k * 3, none⟩ = some (.int .u32 (x1 : Int)) ∧ w'.cell? ⟨b, off + k * 3 + 1, none⟩ = some (.int .u32 (x2 : Int)) ∧ w'.cell? ⟨b, off + k * 3 + 2, none⟩ = some (.int .u32 (x3 : Int)) ∧ w'.cell? ⟨b, off + (k + 1) * 3, none⟩ = some (.int .u32 (y1 : Int)) ∧ w'.cell? ⟨b, off + (k + 1) * 3 + 1, none⟩ = some (.int .u32 (y2 : Int)) ∧ w'.cell? ⟨b, off + (k + 1) * 3 + 2, none⟩ = some (.int .u32 (y3 : Int))) (go_keep)
          (first | (go_at_call 111; refine (HCM.out _).mono ?_; rintro e w5 ⟨rfl, hb5⟩; have q0 := below_cell (w := wr.drew) hb5 c1; have q1 := below_cell (w := wr.drew) hb5 c2; have q2 := below_cell (w := wr.drew) hb5 c3; have q3 := below_cell (w := wr.drew) hb5 d1; have q4 := below_cell (w := wr.drew) hb5 d2; have q5 := below_cell (w := wr.drew) hb5 d3))
        have HB2 : Hid (Below w.heap.size w w5) := HB0.out.drew.trans (hb5.mono HB0.out.size)
        clear hb5 q0 q1 q2 q3 q4 q5 c1 c2 c3 d1 d2 d3 HCM
        by_cases hxy : cc < 0
        · have HX : Hid (ltL (x1, x2, x3) (y1, y2, y3) = true) := HLH.out.mp hxy
          go_wp2
          go_roundw
          case rel => exact ⟨k + 1, Or.inr HL.out, by go_num, HB2.out, HF.out HX.out⟩
          case measure => have := HL.out; simp [intOf]; omega
        · have HX : Hid (ltL (x1, x2, x3) (y1, y2, y3) = false) := by
            unfold Hid
            cases hq : ltL (x1, x2, x3) (y1, y2, y3) with
            | false => rfl
            | true => exact absurd (HLH.out.mpr hq) hxy
          have hxy2 : 0 ≤ cc := by omega
          go_wp2
          go_ret
          exact ⟨ret_bool (HG.out HX.out).symm, HB2.out⟩
      · have hge : ¬ ((k : Int) < (l.length : Int) - 1) := by omega
        have HE : Hid (mayL ltL l = true) := by
          unfold Hid mayL
          rw [(rising_iff ltL l).mpr (fun i hi => HN.out i hi (by omega))]
          simp; omega
        go_wp2
        go_ret
        exact ⟨ret_bool HE.out.symm, hb⟩
set_option maxRecDepth 100000 in
theorem encL (v : Value) (l : List Lg) (w : World) (h : LargesAt w v l) :
    Calls Tryz.prog 110 #[v, .func (.func 111) #[] #[], .func (.func 112) #[] #[]] w fun e w' => e = .returned (encAns (mayL ltL l) (bytesL l)) ∧ Below w.heap.size w w' := by
  cases hm : mayL ltL l with
  | false =>
    obtain ⟨ad, b, off, cap, rfl, _⟩ := id h
    have HM : Hid (_ = _) := hm
    clear hm
    go_enter Tryz.func110, Tryz.ntmps110
    go_wp2_with fail
    refine (mayLg _ l w h).mono ?_
    rintro e w1 ⟨rfl, hb⟩
    rw [HM.out]
    go_wp2
    go_ret2
    exact ⟨rfl, hb⟩
  | true =>
    have HM : Hid (_ = _) := hm
    have hl64 : l.length ≤ 64 := by simp [mayL] at hm; exact hm.1
    clear hm
    obtain ⟨ad, b, off, cap, rfl, had, ⟨_, hl⟩, hr⟩ := id h
    have HR : Hid (RowL _ _ _ _) := hr
    clear hr
    go_enter Tryz.func110, Tryz.ntmps110
    go_wp2_with fail
    refine (mayLg _ l w h).mono ?_
    rintro e w1 ⟨rfl, hb⟩
    rw [HM.out]
    clear h
    go_wp2
    go_loopw [8, 17] (fun t i wr => ∃ (k : Nat) (cur : ByteArray), k ≤ l.length ∧ i = .int .i64 k ∧ t = .string cur ∧ cur.size ≤ 12 * k ∧ cur = bytesL (l.take k) ∧ Below w.heap.size w wr) (fun _ i _ => l.length - (intOf i).toNat)
    case atStart => exact ⟨0, ⟨#[]⟩, Nat.zero_le _, rfl, rfl, Nat.le_refl 0, rfl, hb⟩
    case round =>
      obtain ⟨k, cur, hk, rfl, rfl, hs, hcur, hbel⟩ := hrel
      have HC : Hid (_ = _) := hcur
      clear hcur hb
      by_cases hlt : k < l.length
      · obtain rfl : ad = some ⟨b, off, none⟩ := by rcases had with h | h; exact h; omega
        obtain ⟨⟨c1, c2, c3⟩, hx⟩ := (HR.out.below hbel) k hlt
        have HT : Hid (cur ++ ⟨(byteL l[k]).toArray⟩ = bytesL (l.take (k + 1))) := by unfold Hid; rw [HC.out, take_snoc _ _ hlt, bytesL_snoc]
        clear had
        generalize l[k] = x at *
        have HLay := fun W => layL cur x W hx (by omega)
        have HSz : Hid ((cur ++ ⟨(byteL x).toArray⟩ : ByteArray).size ≤ 12 * (k + 1)) := by
          unfold Hid
          rw [ByteArray.size_append, show (ByteArray.mk (byteL x).toArray).size = 12 from byteL_length x]; omega
        generalize cur ++ ⟨(byteL x).toArray⟩ = nx at *
        obtain ⟨x1, x2, x3⟩ := x
        simp only at c1 c2 c3
        unfold cellsL at HLay
        have HH : Hid (∀ W, _) := HLay
        clear HLay hx
        go_wp2_with fail
        refine (HH.out _).mono ?_
        rintro e w2 ⟨rfl, hb2⟩
        have HB : Hid (Below w.heap.size w w2) := (hbel.alloc hbel.size _).trans (hb2.mono (by simp; have := hbel.size; omega))
        clear hb2 c1 c2 c3 hbel
        go_wp2
        go_roundw
        case rel => exact ⟨k + 1, nx, by omega, by go_num, rfl, HSz.out, HT.out, HB.out⟩
        case measure => simp [intOf]; omega
      · obtain rfl : k = l.length := by omega
        have HE : Hid (cur = bytesL l) := by have := HC.out; rw [List.take_length] at this; exact this
        go_wp2
        go_ret2
        exact ⟨by rw [HE.out]; rfl, hbel⟩
theorem EncL (v : Value) (l : List Lg) (w : World) (h : LargesAt w v l) :
    Calls Tryz.prog 74 #[v] w fun e w' => e = .returned (encAns (mayL ltL l) (bytesL l)) ∧ Below w.heap.size w w' := by
  have hE := encL v l w h
  obtain ⟨ad, b, off, cap, rfl, _⟩ := id h
  generalize bytesL l = bs at hE ⊢
  generalize mayL ltL l = m at hE ⊢
  go_enter Tryz.func74, Tryz.ntmps74
  go_wp2_with fail
  refine hE.mono ?_
  rintro e w1 ⟨rfl, hb⟩
  cases m
  · unfold encAns
    go_wp2
    go_ret2
    exact ⟨rfl, hb⟩
  · unfold encAns
    go_wp2
    go_ret2
    exact ⟨rfl, hb⟩
end Go.Proofs.YtpahnebhcfpplabGreatDoor
