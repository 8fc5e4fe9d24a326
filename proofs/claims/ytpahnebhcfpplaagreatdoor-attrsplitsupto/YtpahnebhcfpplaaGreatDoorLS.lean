/-
  AttrSplits answers true, of every text that is not too long.
-/
import Derived.Test.YtpahnebhcfpplaaGreatDoorB5
import Derived.BigQuiet
import Derived.Test.YtpahnebhcfpplaaGreatDoorB3
import Derived.Deep.RegionLaw
import Derived.Deep.AppendLies
import Derived.Test.YtpahnebhcfpplaaGreatDoorCW
namespace Go.Proofs.YtpahnebhcfpplaaGreatDoor
open Go.RowKit
theorem worth_take (l : List UInt8) (k : Nat) (h : k < l.length) : worth (l.take (k + 1)) = worth (l.take k) * 256 + l[k].toNat := by
  rw [List.take_succ_eq_append_getElem h, worth_snoc]
theorem ix_str (l : List UInt8) (k : Nat) (h : k < l.length) (W : World) : (Instr.index 9 (.string ⟨l.toArray⟩) (.int .i64 (k : Int))).run Tryz.prog W = .ok (.int .u8 (l[k].toNat : Int)) W := by
  have hs := list_size l
  rw [run_index_string W 9 _ .i64 (k : Int) Tryz.underlying9, dif_pos ⟨by omega, by rw [hs]; omega⟩]
  have e : (⟨l.toArray⟩ : ByteArray)[(k : Int).toNat]'(by rw [hs]; omega) = l[k] := by
    show l.toArray[(k : Int).toNat] = l[k]
    simp
  rw [e]
set_option maxRecDepth 100000 in
theorem value_any (l : List UInt8) (w : World) (hl : l.length ≤ 2) :
    Calls Tryz.prog 51 #[.string ⟨l.toArray⟩] w fun e w' => e = .returned (.int .u64 (worth l : Nat)) ∧ w' = w := by
  have hsz : (⟨l.toArray⟩ : ByteArray).size = l.length := list_size l
  go_enter Tryz.func51, Tryz.ntmps51
  go_wp2
  go_loopw [3, 4] (fun t i wr => ∃ k : Nat, k ≤ l.length ∧ i = .int .i64 k ∧ t = .int .u64 (worth (l.take k) : Nat) ∧ wr = w) (fun _ i _ => l.length - (intOf i).toNat)
  case atStart => exact ⟨0, Nat.zero_le _, rfl, by simp [worth], rfl⟩
  case round =>
    obtain ⟨k, hk, rfl, rfl, rfl⟩ := hrel
    by_cases hlt : k < l.length
    · have HX : Hid (worth (l.take (k + 1)) = worth (l.take k) * 256 + l[k].toNat) := worth_take l k hlt
      have hb := worth_lt (l.take k)
      have hkl : (l.take k).length = k := by simp; omega
      rw [hkl] at hb
      have hb2 : worth (l.take k) < 256 := by
        rcases (show k = 0 ∨ k = 1 by omega) with rfl | rfl
        · show worth [] < 256; decide
        · simpa using hb
      have hix : ∀ W, (Instr.index 9 (.string ⟨l.toArray⟩) (.int .i64 (k : Int))).run Tryz.prog W = .ok (.int .u8 (l[k].toNat : Int)) W := fun W => ix_str l k hlt W
      have hc : l[k].toNat < 256 := UInt8.toNat_lt _
      generalize worth (l.take k) = q at *
      clear hb hkl
      generalize l[k].toNat = cc at *
      have hw1 : IntKind.u64.wrap ((q : Int) * 256) = (q : Int) * 256 := by rw [IntKind.wrap_u64]; omega
      have hw2 : IntKind.u64.wrap (cc : Int) = (cc : Int) := by rw [IntKind.wrap_u64]; omega
      have hw3 : IntKind.u64.wrap ((q : Int) * 256 + (cc : Int)) = (q : Int) * 256 + (cc : Int) := by rw [IntKind.wrap_u64]; omega
      go_wp2
      go_roundw
      case rel => exact ⟨k + 1, by omega, by go_num, by rw [HX.out]; simp, trivial⟩
      case measure => simp [intOf]; omega
    · obtain rfl : k = l.length := by omega
      rw [List.take_length]
      go_wp2
      go_ret
      exact ⟨rfl, rfl⟩
theorem ne_list {a b : ByteArray} (h : ¬ (a = b)) : (a.toList == b.toList) = false := by
  cases hb : (a.toList == b.toList) with
  | false => rfl
  | true =>
    have e : a.toList = b.toList := eq_of_beq hb
    rw [ByteArray.toList_eq, ByteArray.toList_eq] at e
    exact absurd (ByteArray.ext (Array.toList_inj.mp e)) h
set_option maxRecDepth 100000 in
set_option maxHeartbeats 1600000 in
theorem sameRaws_any (va vb : Value) (A B : List Rw) (w : World) (ha : RawsAt w va A) (hb : RawsAt w vb B) :
    Calls Tryz.prog 12 #[va, vb] w fun e w' => e = .returned (.bool (decide (A = B))) ∧ Below w.heap.size w w' := by
  obtain ⟨ad, b, off, cap, rfl, had, ⟨_, hl⟩, hr⟩ := ha
  obtain ⟨ad', b', off', cap', rfl, had', ⟨_, hl'⟩, hr'⟩ := hb
  have HR : Hid (RowR _ _ _ _) := hr
  have HR' : Hid (RowR _ _ _ _) := hr'
  clear hr hr'
  by_cases hlen : A.length = B.length
  · have HL : Hid (A.length = B.length) := hlen
    rw [← hlen] at had' hl' ⊢
    clear hlen
    go_enter Tryz.func12, Tryz.ntmps12
    go_wp2
    go_loopw [5] (fun i wr => ∃ k : Nat, k ≤ A.length ∧ i = .int .i64 k ∧ A.take k = B.take k ∧ Below w.heap.size w wr) (fun i _ => A.length - (intOf i).toNat)
    case atStart => exact ⟨0, Nat.zero_le _, rfl, by simp, Below.refl _ _⟩
    case round =>
      obtain ⟨k, hk, rfl, htk, hbe⟩ := hrel
      have HB : Hid (Below _ _ _) := hbe
      have HTK : Hid (_ = _) := htk
      clear htk
      by_cases hlt : k < A.length
      · have hltB : k < B.length := by rw [← HL.out]; exact hlt
        obtain rfl : ad = some ⟨b, off, none⟩ := by rcases had with h | h; exact h; omega
        obtain rfl : ad' = some ⟨b', off', none⟩ := by rcases had' with h | h; exact h; omega
        obtain ⟨⟨c0, c1, c2⟩, _⟩ := (HR.out.below hbe) k hlt
        obtain ⟨⟨d0, d1, d2⟩, _⟩ := (HR'.out.below hbe) k hltB
        have HEQ : Hid (A[k] = B[k] → A.take (k + 1) = B.take (k + 1)) := fun e => by rw [take_snoc A k hlt, take_snoc B k hltB, HTK.out, e]
        have HNE : Hid (A[k] ≠ B[k] → decide (A = B) = false) := fun e => by
          apply decide_eq_false
          intro h
          subst h
          exact e rfl
        rename_i hz1 hz2
        clear hz1 hz2
        clear had had' hbe
        generalize A[k] = x at *
        generalize B[k] = y at *
        clear hltB
        obtain ⟨x0, x1, x2⟩ := x
        obtain ⟨y0, y1, y2⟩ := y
        simp only at c0 c1 c2 d0 d1 d2
        by_cases h0 : x0 = y0
        · subst h0
          by_cases h1 : x1 = y1
          · subst h1
            by_cases h2 : x2 = y2
            · subst h2
              have HTN : Hid (_ = _) := HEQ.out rfl
              go_wp2
              go_quiet (fail)
              go_wp2
              go_roundw
              case rel => exact ⟨k + 1, by omega, by go_num, HTN.out, below_drewN' HB.out _⟩
              case measure => simp [intOf]; omega
            · have HD : Hid (_ = _) := HNE.out (by intro h; simp at h; exact h2 h)
              have hs : (x2.toList == y2.toList) = false := ne_list h2
              clear h2
              go_wp2
              go_quiet (fail)
              go_wp2
              go_ret
              exact ⟨ret_bool HD.out.symm, below_drewN' HB.out _⟩
          · have HD : Hid (_ = _) := HNE.out (by intro h; simp at h; exact h1 h.1)
            have hs : ((x1 : Int) == (y1 : Int)) = false := by simp; omega
            clear h1
            go_wp2
            go_quiet (fail)
            go_wp2
            go_ret
            exact ⟨ret_bool HD.out.symm, below_drewN' HB.out _⟩
        · have HD : Hid (_ = _) := HNE.out (by intro h; simp at h; exact h0 h.1)
          have hs : ((x0 : Int) == (y0 : Int)) = false := by simp; omega
          clear h0
          go_wp2
          go_quiet (fail)
          go_wp2
          go_ret
          exact ⟨ret_bool HD.out.symm, below_drewN' HB.out _⟩
      · obtain rfl : k = A.length := by omega
        have HE : Hid (decide (A = B) = true) := by
          unfold Hid
          have h1 := HTK.out
          have h2 := HL.out
          rw [List.take_length, h2, List.take_length] at h1
          exact decide_eq_true h1
        go_wp2
        go_ret
        exact ⟨ret_bool HE.out.symm, HB.out⟩
  · have hd : decide (A = B) = false := decide_eq_false (fun h => hlen (by rw [h]))
    rw [hd]
    have hn : ((A.length : Int) == (B.length : Int)) = false := by simp; omega
    have hn2 : ¬ ((A.length : Int) = (B.length : Int)) := by omega
    clear hd hlen
    go_enter Tryz.func12, Tryz.ntmps12
    go_wp2
    go_ret
    exact ⟨rfl, Below.refl _ _⟩
end Go.Proofs.YtpahnebhcfpplaaGreatDoor
namespace Go.Proofs.YtpahnebhcfpplaaGreatDoor
open Go.RowKit
theorem sl_mid (l : List UInt8) (i j : Nat) (h1 : i ≤ j) (h2 : j ≤ l.length) (W : World) : (Instr.slice 9 (.string ⟨l.toArray⟩) (some (.int .i64 (i : Int))) (some (.int .i64 (j : Int))) none).run Tryz.prog W = .ok (.string ⟨((l.drop i).take (j - i)).toArray⟩) W := by
  have hs := list_size l
  rw [run_slice_string W 9 _ .i64 .i64 (i : Int) (j : Int) Tryz.underlying9 (by omega) (by omega) (by rw [hs]; omega), show (i : Int).toNat = i by omega, show (j : Int).toNat = j by omega]
  have e : (⟨l.toArray⟩ : ByteArray).extract i j = ⟨((l.drop i).take (j - i)).toArray⟩ := by
    apply ByteArray.ext
    simp [List.take_drop, show i + (j - i) = j by omega]
  rw [e]
theorem sl_from (l : List UInt8) (i : Nat) (h : i ≤ l.length) (W : World) : (Instr.slice 9 (.string ⟨l.toArray⟩) (some (.int .i64 (i : Int))) none none).run Tryz.prog W = .ok (.string ⟨(l.drop i).toArray⟩) W := by
  have hs := list_size l
  rw [run_slice_string_l W 9 _ Tryz.underlying9 .i64 (i : Int) (by omega) (by rw [hs]; omega), show (i : Int).toNat = i by omega, drop_list]
theorem and8 (f : Nat) (h : f < 256) : bits .and .u8 (f : Int) 16 = ((f &&& 16 : Nat) : Int) := by
  have : ∀ f : Fin 256, bits .and .u8 ((f.1 : Nat) : Int) 16 = ((f.1 &&& 16 : Nat) : Int) := by decide +kernel
  exact this ⟨f, h⟩
theorem worth1 (l : List UInt8) (h : 0 < l.length) : worth (l.take 1) = l[0].toNat := by
  cases l with
  | nil => simp at h
  | cons a t => simp [worth]
/-- The first raw attribute of three bytes or more, as the reference takes it. -/
theorem rawI_ref (l : List UInt8) (h3 : 3 ≤ l.length) : rawI l = if 2 + zOf (l[0].toNat) + worth ((l.drop 2).take (zOf (l[0].toNat))) ≤ l.length ∧ 2 + zOf (l[0].toNat) ≤ l.length then
    some ((l[0].toNat, l[1].toNat, ⟨((l.drop (2 + zOf (l[0].toNat))).take (worth ((l.drop 2).take (zOf (l[0].toNat))))).toArray⟩), l.drop (2 + zOf (l[0].toNat) + worth ((l.drop 2).take (zOf (l[0].toNat))))) else none := by
  have g1 : gotN 1 l = l[0].toNat := by unfold gotN; rw [if_pos (by omega), worth1 l (by omega)]
  have e1 : restN 1 l = l.drop 1 := by unfold restN; rw [if_pos (by omega)]
  have g2 : gotN 1 (l.drop 1) = l[1].toNat := by
    unfold gotN
    rw [if_pos (by simp; omega), worth1 _ (by simp; omega)]
    simp
  have e2 : restN 1 (l.drop 1) = l.drop 2 := by unfold restN; rw [if_pos (by simp; omega)]; simp
  rw [rawI_eq, g1, e1, g2, e2]
  generalize zOf (l[0].toNat) = z
  by_cases hz : z ≤ (l.drop 2).length
  · have g3 : gotN z (l.drop 2) = worth ((l.drop 2).take z) := by unfold gotN; rw [if_pos hz]
    have e3 : restN z (l.drop 2) = l.drop (2 + z) := by unfold restN; rw [if_pos hz, List.drop_drop]
    rw [g3, e3]
    generalize worth ((l.drop 2).take z) = N
    simp only [List.length_drop, List.drop_drop] at *
    by_cases hN : N ≤ l.length - (2 + z)
    · rw [if_pos ⟨hz, hN⟩, if_pos ⟨by omega, by omega⟩]
    · rw [if_neg (fun h => hN h.2), if_neg (fun h => by omega)]
  · rw [if_neg (fun h => hz h.1), if_neg (fun h => by simp only [List.length_drop] at hz; omega)]
theorem rawI_short (l : List UInt8) (hl : l ≠ []) (h3 : l.length < 3) : rawI l = none := by
  cases h : rawI l with
  | none => rfl
  | some x =>
    obtain ⟨r, rest⟩ := x
    have := rawI_len hl h
    omega
def slenS : Value → Nat
  | .string s => s.size
  | _ => 0
set_option maxRecDepth 100000 in
set_option maxHeartbeats 6400000 in
theorem rsplit_any (l0 : List UInt8) (w : World) (hl : l0.length ≤ 1000000000000) :
    Calls Tryz.prog 22 #[.string ⟨l0.toArray⟩] w fun e w' => SplitOk (splitI l0.length l0) w e w' := by
  obtain ⟨i0, hi, hz0, hz1, hz2⟩ := info_parts info46
  obtain ⟨X, hX⟩ : ∃ X, X = splitI l0.length l0 := ⟨_, rfl⟩
  have HX : Hid (_ = _) := hX
  rw [← hX]
  clear hX
  go_enter Tryz.func22, Tryz.ntmps22
  go_wp2
  go_loopw [0, 4] (fun s t wr => ∃ (R : List Rw) (l : List UInt8), s = .string ⟨l.toArray⟩ ∧ OwnR wr w.heap.size t R ∧ Below w.heap.size w wr ∧ R.length * 3 + l.length ≤ l0.length ∧ X = (splitI (l0.length - R.length) l).map (R ++ ·)) (fun s _ _ => slenS s)
  case atStart => exact ⟨[], l0, rfl, World.ownsRow_nil _ _ _ _, Below.refl _ _, by simp, by rw [HX.out]; simp⟩
  case round =>
    obtain ⟨R, l, rfl, ho, hb, hlen, hx⟩ := hrel
    obtain ⟨ad, c, rfl⟩ := slice_of_owns ho
    have HO : Hid (OwnR wr w.heap.size _ R) := ho
    have HB : Hid (Below _ _ _) := hb
    have HXX : Hid (X = _) := hx
    have hlen2 : R.length ≤ 1000000000000 := by omega
    have HLEN : Hid (_ ≤ _) := hlen
    have hll : l.length ≤ 1000000000000 := by omega
    have hsz := list_size l
    clear ho hb hx hlen
    by_cases hl0 : l = []
    · subst hl0
      have HXN : Hid (X = some R) := by unfold Hid; rw [HXX.out, splitI_nil]; simp
      go_wp2
      go_ret2
      rw [HXN.out]
      exact ⟨HB.out, .slice ad R.length c, rfl, HO.out⟩
    · have hl1 : 1 ≤ l.length := by cases l with | nil => exact absurd rfl hl0 | cons => simp
      have HL : Hid (l ≠ []) := hl0
      clear hl0
      by_cases h3 : l.length < 3
      · have HXN : Hid (X = none) := by unfold Hid; rw [HXX.out, splitI_bad _ _ HL.out (rawI_short l HL.out h3)]; rfl
        have h3i : (l.length : Int) < 3 := by omega
        go_wp2
        go_ret2
        rw [HXN.out]
        exact ⟨HB.out, rfl⟩
      · have h3i : ¬ ((l.length : Int) < 3) := by omega
        have h3' : 3 ≤ l.length := by omega
        have HRI : Hid (_ = _) := rawI_ref l h3'
        have hi0 : ∀ W, (Instr.index 9 (.string ⟨l.toArray⟩) (.int .i64 0)).run Tryz.prog W = .ok (.int .u8 (l[0].toNat : Int)) W := fun W => ix_str l 0 (by omega) W
        have hi1 : ∀ W, (Instr.index 9 (.string ⟨l.toArray⟩) (.int .i64 1)).run Tryz.prog W = .ok (.int .u8 (l[1].toNat : Int)) W := fun W => ix_str l 1 (by omega) W
        have hF : l[0].toNat < 256 := UInt8.toNat_lt _
        have hT : l[1].toNat < 256 := UInt8.toNat_lt _
        have ha := and8 _ hF
        generalize l[0].toNat = F at *
        generalize l[1].toNat = T at *
        by_cases h16 : F &&& 16 = 0
        · have hz : zOf F = 1 := by simp [zOf, h16]
          rw [hz] at HRI
          rw [h16] at ha
          clear h16 hz
          by_cases h4 : l.length < 2 + 1
          · exact absurd h4 (by omega)
          · have h4' : ¬ ((l.length : Int) < 3) := by omega
            have hwk : IntKind.i64.wrap (3 : Int) = 3 := by rw [IntKind.wrap_i64]; omega
            have hs1 : ∀ W, (Instr.slice 9 (.string ⟨l.toArray⟩) (some (.int .i64 2)) (some (.int .i64 3)) none).run Tryz.prog W = .ok (.string ⟨((l.drop 2).take 1).toArray⟩) W := fun W => sl_mid l 2 3 (by omega) (by omega) W
            have hvl : ((l.drop 2).take 1).length = 1 := by simp; omega
            have HV : Hid (∀ W, Calls Tryz.prog 51 #[.string ⟨((l.drop 2).take 1).toArray⟩] W fun e w' => e = .returned (.int .u64 (worth ((l.drop 2).take 1) : Nat)) ∧ w' = W) := fun W => value_any _ W (by omega)
            have hN := worth_lt ((l.drop 2).take 1)
            rw [hvl] at hN
            generalize worth ((l.drop 2).take 1) = N at *
            have hwN : IntKind.i64.wrap (N : Int) = (N : Int) := by rw [IntKind.wrap_i64]; omega
            generalize (⟨((l.drop 2).take 1).toArray⟩ : ByteArray) = vb at *
            go_wp2_with fail
            refine (HV.out _).mono ?_
            rintro e w2 ⟨rfl, rfl⟩
            clear HV hs1 hvl
            have hw4 : IntKind.i64.wrap ((3 : Int) + (N : Int)) = (3 : Int) + (N : Int) := by rw [IntKind.wrap_i64]; omega
            by_cases h5 : l.length < 3 + N
            · have HXN : Hid (X = none) := by unfold Hid; rw [HXX.out, splitI_bad _ _ HL.out (by rw [HRI.out, if_neg]; intro h; omega)]; rfl
              have h5' : (l.length : Int) < (3 : Int) + (N : Int) := by omega
              go_wp2
              go_ret2
              rw [HXN.out]
              exact ⟨HB.out, rfl⟩
            · have h5' : ¬ ((l.length : Int) < (3 : Int) + (N : Int)) := by omega
              have HYES : Hid (rawI l = some ((F, T, ⟨((l.drop 3).take N).toArray⟩), l.drop (3 + N))) := by unfold Hid; rw [HRI.out, if_pos ⟨by omega, by omega⟩]
              have HLE := rawI_len HL.out HYES.out
              have hs2 : ∀ W, (Instr.slice 9 (.string ⟨l.toArray⟩) (some (.int .i64 3)) (some (.int .i64 ((3 : Int) + (N : Int)))) none).run Tryz.prog W = .ok (.string ⟨((l.drop 3).take N).toArray⟩) W := fun W => by
                have h := sl_mid l 3 (3 + N) (by omega) (by omega) W
                rw [show 3 + N - 3 = N by omega, show ((3 + N : Nat) : Int) = (3 : Int) + (N : Int) by omega] at h
                exact h
              have hs3 : ∀ W, (Instr.slice 9 (.string ⟨l.toArray⟩) (some (.int .i64 ((3 : Int) + (N : Int)))) none none).run Tryz.prog W = .ok (.string ⟨(l.drop (3 + N)).toArray⟩) W := fun W => by
                have h := sl_from l (3 + N) (by omega) W
                rw [show ((3 + N : Nat) : Int) = (3 : Int) + (N : Int) by omega] at h
                exact h
              have HXN : Hid (X = (splitI (l0.length - (R.length + 1)) (l.drop (3 + N))).map ((R ++ [(F, T, ⟨((l.drop 3).take N).toArray⟩)]) ++ ·)) := by
                unfold Hid
                have h1 := HLEN.out
                rw [HXX.out, show l0.length - R.length = (l0.length - (R.length + 1)) + 1 by omega, splitI_step _ _ _ _ HL.out HYES.out]
                cases splitI (l0.length - (R.length + 1)) (l.drop (3 + N)) <;> simp
              have HLL : Hid (_ ≤ _) := HLE
              clear HLE HYES HRI
              generalize l.drop (3 + N) = rest at *
              generalize (⟨((l.drop 3).take N).toArray⟩ : ByteArray) = bs at *
              have hwz := HB.out.size
              have HOA : Hid ((w2.alloc (.cells #[.int .u8 (F : Int), .int .u8 (T : Int), .string bs] 46)).drew.ownsRow w.heap.size 46 3 (.slice ad R.length c) R.length (cellsR R)) := HO.out.alloc _
              have HNW : Hid (∀ (k : Nat) (u : Value), [Value.int .u8 (F : Int), .int .u8 (T : Int), .string bs][k]? = some u → (w2.alloc (.cells #[.int .u8 (F : Int), .int .u8 (T : Int), .string bs] 46)).drew.cell? (Addr.add ⟨w2.heap.size, 0, none⟩ k) = some u) := news3 w2 _ _ _ 46
              go_wp2
              go_region_law ((refine step_append_lies _ (by rfl) _ _ 30 (by rfl) w.heap.size 46 i0 (.agg #[.int .u8 0, .int .u8 0, .string ⟨#[]⟩]) 3 24 Tryz.underlying30 hi hz0 hz1 hz2 rfl (by decide) (.slice ad R.length c) R.length (cellsR R) (by rfl) HOA.out ⟨w2.heap.size, 0, none⟩ 1 1 [.int .u8 (F : Int), .int .u8 (T : Int), .string bs] (by rfl) rfl HNW.out (three_raw _ _ _) (by decide) (by unfold maxLen; omega) (by omega) (by show w.heap.size ≤ (w2.alloc _).heap.size; simp; omega) (w2.heap.size + 1) (by show (w2.alloc _).heap.size = _; simp) ?_; intro g cap1 w3 hown3 hgrow3 hat hlt4))
              all_goals have HOS : Hid (OwnR w3 w.heap.size (.slice (some ⟨g, 0, none⟩) (R.length + 1) cap1) (R ++ [(F, T, bs)])) := (by unfold Hid OwnR; rw [cellsR_snoc, List.length_append]; exact hown3)
              all_goals have HB3 : Hid (Below w.heap.size w w3) := (HB.out.alloc HB.out.size _).drew.grown hgrow3 (by show w.heap.size ≤ (w2.alloc _).heap.size; simp; omega) (fun k e => (HO.out.lt k e).1)
              all_goals clear hown3 hgrow3 hat hs2 hi0 hi1
              all_goals go_wp2
              all_goals go_roundw
              all_goals first
                | exact ⟨R ++ [(F, T, bs)], rest, rfl, HOS.out, HB3.out, by have h1 := HLEN.out; have h2 := HLL.out; simp; omega, by rw [List.length_append]; exact HXN.out⟩
                | (have h2 := HLL.out; simp [slenS, list_size]; omega)
        · have hz : zOf F = 2 := by simp [zOf, h16]
          rw [hz] at HRI
          have h16' : ¬ (((F &&& 16 : Nat) : Int) = 0) := by omega
          have h16'' : (((F &&& 16 : Nat) : Int) == 0) = false := by simpa using h16'
          generalize F &&& 16 = FF at *
          clear h16 hz
          by_cases h4 : l.length < 2 + 2
          · have HXN : Hid (X = none) := by unfold Hid; rw [HXX.out, splitI_bad _ _ HL.out (by rw [HRI.out, if_neg]; intro h; omega)]; rfl
            have h4x : (l.length : Int) < 4 := by omega
            go_wp2
            go_ret2
            rw [HXN.out]
            exact ⟨HB.out, rfl⟩
          · have h4' : ¬ ((l.length : Int) < 4) := by omega
            have hwk : IntKind.i64.wrap (4 : Int) = 4 := by rw [IntKind.wrap_i64]; omega
            have hs1 : ∀ W, (Instr.slice 9 (.string ⟨l.toArray⟩) (some (.int .i64 2)) (some (.int .i64 4)) none).run Tryz.prog W = .ok (.string ⟨((l.drop 2).take 2).toArray⟩) W := fun W => sl_mid l 2 4 (by omega) (by omega) W
            have hvl : ((l.drop 2).take 2).length = 2 := by simp; omega
            have HV : Hid (∀ W, Calls Tryz.prog 51 #[.string ⟨((l.drop 2).take 2).toArray⟩] W fun e w' => e = .returned (.int .u64 (worth ((l.drop 2).take 2) : Nat)) ∧ w' = W) := fun W => value_any _ W (by omega)
            have hN := worth_lt ((l.drop 2).take 2)
            rw [hvl] at hN
            generalize worth ((l.drop 2).take 2) = N at *
            have hwN : IntKind.i64.wrap (N : Int) = (N : Int) := by rw [IntKind.wrap_i64]; omega
            generalize (⟨((l.drop 2).take 2).toArray⟩ : ByteArray) = vb at *
            go_wp2_with fail
            refine (HV.out _).mono ?_
            rintro e w2 ⟨rfl, rfl⟩
            clear HV hs1 hvl
            have hw4 : IntKind.i64.wrap ((4 : Int) + (N : Int)) = (4 : Int) + (N : Int) := by rw [IntKind.wrap_i64]; omega
            by_cases h5 : l.length < 4 + N
            · have HXN : Hid (X = none) := by unfold Hid; rw [HXX.out, splitI_bad _ _ HL.out (by rw [HRI.out, if_neg]; intro h; omega)]; rfl
              have h5' : (l.length : Int) < (4 : Int) + (N : Int) := by omega
              go_wp2
              go_ret2
              rw [HXN.out]
              exact ⟨HB.out, rfl⟩
            · have h5' : ¬ ((l.length : Int) < (4 : Int) + (N : Int)) := by omega
              have HYES : Hid (rawI l = some ((F, T, ⟨((l.drop 4).take N).toArray⟩), l.drop (4 + N))) := by unfold Hid; rw [HRI.out, if_pos ⟨by omega, by omega⟩]
              have HLE := rawI_len HL.out HYES.out
              have hs2 : ∀ W, (Instr.slice 9 (.string ⟨l.toArray⟩) (some (.int .i64 4)) (some (.int .i64 ((4 : Int) + (N : Int)))) none).run Tryz.prog W = .ok (.string ⟨((l.drop 4).take N).toArray⟩) W := fun W => by
                have h := sl_mid l 4 (4 + N) (by omega) (by omega) W
                rw [show 4 + N - 4 = N by omega, show ((4 + N : Nat) : Int) = (4 : Int) + (N : Int) by omega] at h
                exact h
              have hs3 : ∀ W, (Instr.slice 9 (.string ⟨l.toArray⟩) (some (.int .i64 ((4 : Int) + (N : Int)))) none none).run Tryz.prog W = .ok (.string ⟨(l.drop (4 + N)).toArray⟩) W := fun W => by
                have h := sl_from l (4 + N) (by omega) W
                rw [show ((4 + N : Nat) : Int) = (4 : Int) + (N : Int) by omega] at h
                exact h
              have HXN : Hid (X = (splitI (l0.length - (R.length + 1)) (l.drop (4 + N))).map ((R ++ [(F, T, ⟨((l.drop 4).take N).toArray⟩)]) ++ ·)) := by
                unfold Hid
                have h1 := HLEN.out
                rw [HXX.out, show l0.length - R.length = (l0.length - (R.length + 1)) + 1 by omega, splitI_step _ _ _ _ HL.out HYES.out]
                cases splitI (l0.length - (R.length + 1)) (l.drop (4 + N)) <;> simp
              have HLL : Hid (_ ≤ _) := HLE
              clear HLE HYES HRI
              generalize l.drop (4 + N) = rest at *
              generalize (⟨((l.drop 4).take N).toArray⟩ : ByteArray) = bs at *
              have hwz := HB.out.size
              have HOA : Hid ((w2.alloc (.cells #[.int .u8 (F : Int), .int .u8 (T : Int), .string bs] 46)).drew.ownsRow w.heap.size 46 3 (.slice ad R.length c) R.length (cellsR R)) := HO.out.alloc _
              have HNW : Hid (∀ (k : Nat) (u : Value), [Value.int .u8 (F : Int), .int .u8 (T : Int), .string bs][k]? = some u → (w2.alloc (.cells #[.int .u8 (F : Int), .int .u8 (T : Int), .string bs] 46)).drew.cell? (Addr.add ⟨w2.heap.size, 0, none⟩ k) = some u) := news3 w2 _ _ _ 46
              go_wp2
              go_region_law ((refine step_append_lies _ (by rfl) _ _ 30 (by rfl) w.heap.size 46 i0 (.agg #[.int .u8 0, .int .u8 0, .string ⟨#[]⟩]) 3 24 Tryz.underlying30 hi hz0 hz1 hz2 rfl (by decide) (.slice ad R.length c) R.length (cellsR R) (by rfl) HOA.out ⟨w2.heap.size, 0, none⟩ 1 1 [.int .u8 (F : Int), .int .u8 (T : Int), .string bs] (by rfl) rfl HNW.out (three_raw _ _ _) (by decide) (by unfold maxLen; omega) (by omega) (by show w.heap.size ≤ (w2.alloc _).heap.size; simp; omega) (w2.heap.size + 1) (by show (w2.alloc _).heap.size = _; simp) ?_; intro g cap1 w3 hown3 hgrow3 hat hlt4))
              all_goals have HOS : Hid (OwnR w3 w.heap.size (.slice (some ⟨g, 0, none⟩) (R.length + 1) cap1) (R ++ [(F, T, bs)])) := (by unfold Hid OwnR; rw [cellsR_snoc, List.length_append]; exact hown3)
              all_goals have HB3 : Hid (Below w.heap.size w w3) := (HB.out.alloc HB.out.size _).drew.grown hgrow3 (by show w.heap.size ≤ (w2.alloc _).heap.size; simp; omega) (fun k e => (HO.out.lt k e).1)
              all_goals clear hown3 hgrow3 hat hs2 hi0 hi1
              all_goals go_wp2
              all_goals go_roundw
              all_goals first
                | exact ⟨R ++ [(F, T, bs)], rest, rfl, HOS.out, HB3.out, by have h1 := HLEN.out; have h2 := HLL.out; simp; omega, by rw [List.length_append]; exact HXN.out⟩
                | (have h2 := HLL.out; simp [slenS, list_size]; omega)
end Go.Proofs.YtpahnebhcfpplaaGreatDoor
namespace Go.Proofs.YtpahnebhcfpplaaGreatDoor
open Go.RowKit
theorem rawI_ok {l rest : List UInt8} {r : Rw} (h : rawI l = some (r, rest)) : r.1 < 256 ∧ r.2.1 < 256 ∧ r.2.2.size ≤ l.length := by
  rw [rawI_eq] at h
  split at h
  · simp only [Option.some.injEq, Prod.mk.injEq] at h
    obtain ⟨rfl, _⟩ := h
    have hr : ∀ n (m : List UInt8), (restN n m).length ≤ m.length := fun n m => by unfold restN; split <;> simp
    refine ⟨by have := gotN_lt 1 l; omega, by have := gotN_lt 1 (restN 1 l); omega, ?_⟩
    show (⟨_⟩ : ByteArray).size ≤ _
    rw [list_size, List.length_take]
    have h1 := hr (zOf (gotN 1 l)) (restN 1 (restN 1 l))
    have h2 := hr 1 (restN 1 l)
    have h3 := hr 1 l
    omega
  · exact absurd h (by simp)
theorem splitI_ok : ∀ (n : Nat) (l : List UInt8) (R : List Rw), splitI n l = some R → R.length ≤ l.length ∧ ∀ r ∈ R, r.1 < 256 ∧ r.2.1 < 256 ∧ r.2.2.size ≤ l.length
  | 0, l, R, h => by
    unfold splitI at h
    split at h
    · simp at h; subst h; simp
    · simp at h
  | n + 1, l, R, h => by
    unfold splitI at h
    split at h
    · simp at h; subst h; simp
    · rename_i hl
      cases hr : rawI l with
      | none => rw [hr] at h; simp at h
      | some x =>
        obtain ⟨r, rest⟩ := x
        rw [hr] at h
        simp only [Option.map_eq_some_iff] at h
        obtain ⟨R', h1, rfl⟩ := h
        have ih := splitI_ok n rest R' h1
        have hle := rawI_len hl hr
        have hok := rawI_ok hr
        refine ⟨by have := ih.1; simp; omega, fun q hq => ?_⟩
        rcases List.mem_cons.mp hq with rfl | hq
        · exact hok
        · have := ih.2 q hq
          exact ⟨this.1, this.2.1, by omega⟩
/-- A row that is being emptied: all but its block is as it was. -/
structure EmpAt (w2 wr : World) (g n : Nat) : Prop where
  blk : ∃ cur, wr.heap[g]? = some (.cells cur 46 (0, 0)) ∧ n * 3 ≤ cur.size
  bes : Beside g w2 wr
theorem EmpAt.cell {w2 wr : World} {g n k j : Nat} (h : EmpAt w2 wr g n) (hk : k < n) (hj : j < 3) : (∃ x, wr.cell? ⟨g, k * 3 + j, none⟩ = some x) ∧ wr.frozen? ⟨g, k * 3 + j, none⟩ = false := by
  obtain ⟨cur, hc, hs⟩ := h.blk
  have hlt : k * 3 + j < cur.size := by omega
  exact ⟨⟨cur[k * 3 + j], cell_row hc _ _ (by simp [hlt])⟩, frozen_of hc⟩
theorem EmpAt.set {w2 wr : World} {g n : Nat} (h : EmpAt w2 wr g n) (i : Nat) (v : Value) : EmpAt w2 (wr.setCell ⟨g, i, none⟩ v) g n := by
  obtain ⟨cur, hc, hs⟩ := h.blk
  exact ⟨⟨_, heap_setCell_same wr g i cur 46 v hc, by simpa using hs⟩, h.bes.trans (Beside.set _ _ _)⟩
def Emp2 (w w1 w3 wr : World) (ad : Option Addr) (n : Nat) : Prop := (n = 0 ∧ wr = w3) ∨ ∃ g, ad = some ⟨g, 0, none⟩ ∧ w.heap.size ≤ g ∧ g < w1.heap.size ∧ EmpAt w3 wr g n
set_option maxRecDepth 100000 in
set_option maxHeartbeats 6400000 in
theorem splits_any (l : List UInt8) (w : World) (hl : l.length ≤ 1000000000000) (ht : Tabs w) :
    Calls Tryz.prog 5 #[.string ⟨l.toArray⟩] w fun e w' => e = .returned (.bool true) ∧ Below w.heap.size w w' := by
  have HT : Hid (Tabs _) := ht
  clear ht
  have HS : Hid (∀ W, Calls Tryz.prog 21 #[.string ⟨l.toArray⟩] W fun e w' => SplitOk (splitI l.length l) W e w') := fun W => split_any l W hl
  have HRS : Hid (∀ W, Calls Tryz.prog 22 #[.string ⟨l.toArray⟩] W fun e w' => SplitOk (splitI l.length l) W e w') := fun W => rsplit_any l W hl
  cases hX : splitI l.length l with
  | none =>
    rw [hX] at HS HRS
    clear hX
    go_enter Tryz.func5, Tryz.ntmps5
    go_wp2_with fail
    refine (HS.out w).mono ?_
    rintro e w1 ⟨hb1, rfl⟩
    have HB1 : Hid (Below w.heap.size w w1) := hb1
    clear hb1
    go_wp2_with fail
    refine (HRS.out w1).mono ?_
    rintro e w2 ⟨hb2, rfl⟩
    have HB2 : Hid (Below w.heap.size w w2) := HB1.out.trans (hb2.mono HB1.out.size)
    clear hb2 HB1
    have hnil : ∀ W, RawsAt W (.slice none 0 0) [] := fun W => ⟨none, 0, 0, 0, rfl, Or.inr rfl, by decide, fun j hj => absurd hj (by simp)⟩
    have HNIL : Hid (∀ W, RawsAt W (.slice none 0 0) []) := hnil
    clear hnil
    go_wp2_with fail
    refine (sameRaws_any _ _ [] [] w2 (HNIL.out _) (HNIL.out _)).mono ?_
    rintro e w3 ⟨rfl, hb3⟩
    rw [show decide (([] : List Rw) = []) = true by decide]
    have HB3 : Hid (Below w.heap.size w w3) := HB2.out.trans (hb3.mono HB2.out.size)
    clear hb3 HB2
    go_wp2
    go_loopw [7] (fun i wr => i = .int .i64 0 ∧ wr = w3) (fun _ _ => 0)
    case atStart => exact ⟨rfl, rfl⟩
    case round =>
      obtain ⟨rfl, rfl⟩ := hrel
      go_wp2_with fail
      refine (HS.out _).mono ?_
      rintro e w4 ⟨hb4, rfl⟩
      have HB4 : Hid (Below w.heap.size w w4) := HB3.out.trans (hb4.mono HB3.out.size)
      clear hb4 HB3
      go_wp2_with fail
      refine (sameRaws_any _ _ [] [] w4 (HNIL.out _) (HNIL.out _)).mono ?_
      rintro e w5 ⟨rfl, hb5⟩
      rw [show decide (([] : List Rw) = []) = true by decide]
      have HB5 : Hid (Below w.heap.size w w5) := HB4.out.trans (hb5.mono HB4.out.size)
      clear hb5 HB4
      go_wp2_with fail
      refine (works_any w5 (HT.out.below HB5.out)).mono ?_
      rintro e w6 ⟨rfl, hb6⟩
      have HB6 : Hid (Below w.heap.size w w6) := HB5.out.trans (hb6.mono HB5.out.size)
      clear hb6
      go_wp2
      go_ret
      exact ⟨rfl, HB6.out⟩
  | some R =>
    have hok := splitI_ok _ _ _ hX
    have HOK : Hid (∀ r ∈ R, r.1 < 256 ∧ r.2.1 < 256 ∧ r.2.2.size ≤ 4611686018427387904) := fun r hr => ⟨(hok.2 r hr).1, (hok.2 r hr).2.1, by have := (hok.2 r hr).2.2; omega⟩
    have hRl : R.length ≤ 35184372088832 := by have := hok.1; omega
    rw [hX] at HS HRS
    clear hX hok
    go_enter Tryz.func5, Tryz.ntmps5
    go_wp2_with fail
    refine (HS.out w).mono ?_
    rintro e w1 ⟨hb1, v1, rfl, ho1⟩
    obtain ⟨ad1, c1, rfl⟩ := slice_of_owns ho1
    have HO1 : Hid (OwnR w1 w.heap.size _ R) := ho1
    have HB1 : Hid (Below w.heap.size w w1) := hb1
    clear hb1 ho1
    go_wp2_with fail
    refine (HRS.out w1).mono ?_
    rintro e w2 ⟨hb2, v2, rfl, ho2⟩
    obtain ⟨ad2, c2, rfl⟩ := slice_of_owns ho2
    have HO2 : Hid (OwnR w2 w1.heap.size _ R) := ho2
    have HO12 : Hid (OwnR w2 w.heap.size (.slice ad1 R.length c1) R) := HO1.out.below hb2
    have hap : ∀ g, (Value.slice ad1 R.length c1).ownBlock = some g → g < w1.heap.size := fun g hg => (HO1.out.lt g hg).2
    have HAP : Hid (∀ g, (Value.slice ad1 R.length c1).ownBlock = some g → g < w1.heap.size) := hap
    have HB2 : Hid (Below w.heap.size w w2) := HB1.out.trans (hb2.mono HB1.out.size)
    clear hb2 HB1 HO1 ho2 hap
    go_wp2_with fail
    refine (sameRaws_any _ _ R R w2 (HO12.out.at HOK.out hRl) (HO2.out.at HOK.out hRl)).mono ?_
    rintro e w3 ⟨rfl, hb3⟩
    rw [show decide (R = R) = true by simp]
    have HB3 : Hid (Below w.heap.size w w3) := HB2.out.trans (hb3.mono HB2.out.size)
    have HO13 : Hid (OwnR w3 w.heap.size (.slice ad1 R.length c1) R) := HO12.out.below hb3
    have HO23 : Hid (OwnR w3 w1.heap.size (.slice ad2 R.length c2) R) := HO2.out.below hb3
    clear hb3 HB2 HO12 HO2
    go_wp2
    have HG : Hid (Emp2 w w1 w3 w3 ad1 R.length) := by
      rcases HO13.out.2 with ⟨h, h0⟩ | ⟨g, cap, cur, h, hg, hh, hc, hm, hs, ht⟩
      · exact Or.inl ⟨h0, rfl⟩
      · simp only [Value.slice.injEq] at h
        obtain ⟨rfl, _, rfl⟩ := h
        exact Or.inr ⟨g, rfl, hg, HAP.out g rfl, ⟨cur, hh, by rw [hs]; exact Nat.mul_le_mul_right 3 hc⟩, Beside.of_below (Below.refl _ _) (Nat.le_refl _)⟩
    go_loopw [7] (fun i wr => ∃ k : Nat, k ≤ R.length ∧ i = .int .i64 k ∧ Emp2 w w1 w3 wr ad1 R.length) (fun i _ => R.length - (intOf i).toNat)
    case atStart => exact ⟨0, Nat.zero_le _, rfl, HG.out⟩
    case round =>
      obtain ⟨k, hk, rfl, hq⟩ := hrel
      by_cases hlt : k < R.length
      · rcases hq with ⟨h0, _⟩ | ⟨g, rfl, hg1, hg2, hemp⟩
        · omega
        · obtain ⟨⟨x0, c0⟩, f0⟩ := hemp.cell (j := 0) hlt (by omega)
          obtain ⟨⟨x1, c1'⟩, f1⟩ := hemp.cell (j := 1) hlt (by omega)
          obtain ⟨⟨x2, c2'⟩, f2⟩ := hemp.cell (j := 2) hlt (by omega)
          have HEM : Hid (EmpAt _ _ _ _) := hemp
          rw [Nat.add_zero] at c0 f0
          clear hemp HG
          go_wp2
          go_roundw
          case rel => exact ⟨k + 1, by omega, by go_num, Or.inr ⟨g, rfl, hg1, hg2, ((HEM.out.set _ _).set _ _).set _ _⟩⟩
          case measure => simp [intOf]; omega
      · obtain rfl : k = R.length := by omega
        have HBX : Hid (Below w.heap.size w wr) := by
          rcases hq with ⟨_, rfl⟩ | ⟨g, _, hg1, _, hemp⟩
          · exact HB3.out
          · exact HB3.out.trans (hemp.bes.below hg1 HB3.out.size)
        have HOX : Hid (OwnR wr w1.heap.size (.slice ad2 R.length c2) R) := by
          rcases hq with ⟨_, rfl⟩ | ⟨g, _, _, hg2, hemp⟩
          · exact HO23.out
          · exact HO23.out.beside hemp.bes hg2
        clear hq HG
        go_wp2_with fail
        refine (HS.out _).mono ?_
        rintro e w4 ⟨hb4, v4, rfl, ho4⟩
        obtain ⟨ad4, c4, rfl⟩ := slice_of_owns ho4
        have HO4 : Hid (OwnR w4 _ _ R) := ho4
        have HO24 : Hid (OwnR w4 w1.heap.size (.slice ad2 R.length c2) R) := HOX.out.below hb4
        have HB4 : Hid (Below w.heap.size w w4) := HBX.out.trans (hb4.mono HBX.out.size)
        clear hb4 ho4 HBX HOX
        go_wp2_with fail
        refine (sameRaws_any _ _ R R w4 (HO4.out.at HOK.out hRl) (HO24.out.at HOK.out hRl)).mono ?_
        rintro e w5 ⟨rfl, hb5⟩
        rw [show decide (R = R) = true by simp]
        have HB5 : Hid (Below w.heap.size w w5) := HB4.out.trans (hb5.mono HB4.out.size)
        clear hb5 HB4
        go_wp2_with fail
        refine (works_any w5 (HT.out.below HB5.out)).mono ?_
        rintro e w6 ⟨rfl, hb6⟩
        have HB6 : Hid (Below w.heap.size w w6) := HB5.out.trans (hb6.mono HB5.out.size)
        clear hb6
        go_wp2
        go_ret
        exact ⟨rfl, HB6.out⟩
end Go.Proofs.YtpahnebhcfpplaaGreatDoor
