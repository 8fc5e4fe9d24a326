/-
  Parse of every text.
-/
import Derived.Test.YtjchobcmbkiilaaGreatDoorW2
import Derived.Test.YtjchobcmbkiilaaGreatDoorTsv
import Derived.Test.YtjchobcmbkiilaaGreatDoorV1
set_option linter.unusedVariables false
set_option linter.unusedSimpArgs false
set_option maxRecDepth 100000
namespace Go.Proofs.YtjchobcmbkiilaaGreatDoor
open Go.RowKit
theorem idx_no (c : UInt8) (x : List UInt8) (h : c ∉ x) : Lib.index x [c] = -1 := by
  induction x with
  | nil => rfl
  | cons a x ih =>
    have h1 : ¬ c = a := fun e => h (by simp [e])
    have h2 : Lib.index x [c] = -1 := ih fun e => h (List.mem_cons_of_mem _ e)
    simp [Lib.index, List.isPrefixOf, h1, h2]
theorem idx_in (c : UInt8) (x r : List UInt8) (h : c ∉ x) : Lib.index (x ++ c :: r) [c] = x.length := by
  induction x with
  | nil => simp [Lib.index, List.isPrefixOf]
  | cons a x ih =>
    have h1 : ¬ c = a := fun e => h (by simp [e])
    have h2 : Lib.index (x ++ c :: r) [c] = x.length := ih fun e => h (List.mem_cons_of_mem _ e)
    have h3 : ¬ ((x.length : Int) = -1) := by omega
    simp [Lib.index, List.isPrefixOf, h1, h2, h3]
theorem cut_in (c : UInt8) (x r : List UInt8) (h : c ∉ x) : Lib.cut (x ++ c :: r) [c] = (x, r, true) := by
  unfold Lib.cut
  rw [idx_in c x r h, if_pos (by omega)]
  simp
theorem cut_no (c : UInt8) (x : List UInt8) (h : c ∉ x) : Lib.cut x [c] = (x, [], false) := by
  unfold Lib.cut
  rw [idx_no c x h, if_neg (by decide)]
/-- The words of a text. -/
def spl : List UInt8 → List (List UInt8)
  | [] => [[]]
  | c :: l => if c = 32 then [] :: spl l else match spl l with
    | [] => [[c]]
    | x :: r => (c :: x) :: r
theorem spl_ne (l : List UInt8) : spl l ≠ [] := by
  cases l with
  | nil => simp [spl]
  | cons c l =>
    unfold spl
    split
    · simp
    · split <;> simp
/-- The words, one behind the other, by cuts. -/
theorem spl_cut (l : List UInt8) : (∃ x r, (32 : UInt8) ∉ x ∧ l = x ++ 32 :: r ∧ spl l = x :: spl r) ∨ ((32 : UInt8) ∉ l ∧ spl l = [l]) := by
  induction l with
  | nil => exact Or.inr ⟨by simp, rfl⟩
  | cons c l ih =>
    by_cases h : c = 32
    · refine Or.inl ⟨[], l, by simp, by rw [h]; rfl, ?_⟩
      rw [spl, if_pos h]
    · rcases ih with ⟨x, r, h1, h2, h3⟩ | ⟨h1, h2⟩
      · refine Or.inl ⟨c :: x, r, ?_, by rw [h2]; rfl, ?_⟩
        · intro e
          rcases List.mem_cons.1 e with e | e
          · exact h e.symm
          · exact h1 e
        · rw [spl, if_neg h, h3]
      · refine Or.inr ⟨?_, ?_⟩
        · intro e
          rcases List.mem_cons.1 e with e | e
          · exact h e.symm
          · exact h1 e
        · rw [spl, if_neg h, h2]
/-- The atoms of words, behind n. -/
def pTo : Nat → List (List UInt8) → Option (List Atm)
  | _, [] => some []
  | n, x :: r => match ptA x with
    | none => none
    | some a => if n = 64 then none else (pTo (n + 1) r).map (a :: ·)
/-- The pattern of a text. -/
def prs (l : List UInt8) : Option (List Atm) := if l = [45] then some [] else pTo 0 (spl l)
/-- What Parse answers. -/
def PrOk (l : List UInt8) (w : World) (e : Ending) (w' : World) : Prop :=
  (match prs l with
    | none => e = .returned (.tuple #[.slice none 0 0, .int .i64 4])
    | some p => ∃ v, e = .returned (.tuple #[v, .int .i64 0]) ∧ OwnA w' w.heap.size v p ∧ p.length ≤ 64) ∧ Below w.heap.size w w'
/-- All that texts are read by. -/
structure Env (w : World) : Prop where
  t : Pr.Tabs w
  p : PowAt w
  e : ErrsAt w
theorem Env.below {w w' : World} (h : Env w) (hb : Below w.heap.size w w') : Env w' := ⟨h.t.below hb, h.p.below hb, h.e.below hb⟩
theorem size_alloc' (w : World) (o : Obj) : (w.alloc o).heap.size = w.heap.size + 1 := by simp
theorem map_none {α β : Type} {f : α → β} : (none : Option α).map f = none := rfl
/-- A new slice of one atom. -/
theorem one_at (w : World) (a : Atm) : AtAt (w.alloc (.cells #[.int .i64 a.1, .int .u32 (a.2 : Int)] 53)) (.slice (some ⟨w.heap.size, 0, none⟩) 1 1) [a] := by
  refine ⟨_, w.heap.size, 0, 1, rfl, Or.inl rfl, Nat.le_refl _, fun j hj => ?_⟩
  obtain rfl : j = 0 := by simp at hj; omega
  exact ⟨by rw [World.cell?_alloc_new]; rfl, by rw [World.cell?_alloc_new]; rfl⟩
def strLen : Value → Nat
  | .string s => s.size
  | _ => 0
def flagN : Value → Nat
  | .bool true => 1
  | _ => 0
/-- A cut, and the words. -/
theorem cut_spl (r : List UInt8) : ∃ (x r' : List UInt8) (m : Bool), Lib.cut r [32] = (x, r', m) ∧ spl r = x :: (if m then spl r' else []) ∧ r'.length + (if m then 1 else 0) ≤ r.length ∧ x.length ≤ r.length := by
  rcases spl_cut r with ⟨x, r', hx, e, es⟩ | ⟨hn, es⟩
  · refine ⟨x, r', true, by rw [e]; exact cut_in 32 x r' hx, by rw [es]; rfl, ?_, ?_⟩
    · rw [e]; simp
    · rw [e]; simp
  · exact ⟨r, [], false, cut_no 32 r hn, by rw [es]; rfl, by simp, Nat.le_refl _⟩
set_option maxHeartbeats 4000000 in
theorem parseP_any (l : List UInt8) (w : World) (hl : l.length < 140737488351233) (he : Env w) : Calls Tryz.prog 26 #[.string ⟨l.toArray⟩] w (PrOk l w) := by
  by_cases h45 : l = [45]
  · have HR : Hid (prs l = some []) := by unfold Hid prs; rw [if_pos h45]
    have HF : Hid (∀ X, Below w.heap.size w X → PrOk l w (.returned (.tuple #[.slice none 0 0, .int .i64 0])) X) := fun X hX => by
      unfold PrOk
      rw [HR.out]
      exact ⟨⟨_, rfl, OwnA.nil _ _, by simp⟩, hX⟩
    clear HR
    have e : (⟨l.toArray⟩ : ByteArray) = ⟨#[45]⟩ := by rw [h45]
    rw [e]
    clear e h45
    go_enter Tryz.func26, Tryz.ntmps26
    go_wp2
    go_ret2
    exact HF.out _ (Below.refl _ _)
  · have HP : Hid (prs l = pTo 0 (spl l)) := by unfold Hid prs; rw [if_neg h45]
    have HE : Hid (Env w) := he
    have h45' : (l == ([45] : List UInt8)) = false := by rw [beq_eq_false_iff_ne]; exact h45
    clear h45 he
    obtain ⟨X, HX⟩ : ∃ X, X = prs l := ⟨_, rfl⟩
    rw [HP.out] at HX
    have HFIN : Hid (∀ e w', (match X with
        | none => e = .returned (.tuple #[.slice none 0 0, .int .i64 4])
        | some p => ∃ v, e = .returned (.tuple #[v, .int .i64 0]) ∧ OwnA w' w.heap.size v p ∧ p.length ≤ 64) → Below w.heap.size w w' → PrOk l w e w') := fun e w' h1 h2 => by
      unfold PrOk
      rw [HP.out, ← HX]
      exact ⟨h1, h2⟩
    clear HP
    go_enter Tryz.func26, Tryz.ntmps26
    go_wp2
    go_loopw [0, 4, 5] (fun x0 x4 x5 wr => ∃ (acc : List Atm) (r : List UInt8) (more : Bool), x0 = .string ⟨r.toArray⟩ ∧ x5 = .bool more ∧ OwnA wr w.heap.size x4 acc ∧ acc.length ≤ 64 ∧ r.length ≤ l.length ∧ Below w.heap.size w wr ∧ (if more then X = (pTo acc.length (spl r)).map (acc ++ ·) else X = some acc)) (fun x0 _ x5 _ => strLen x0 + flagN x5)
    case atStart => exact ⟨[], l, true, rfl, rfl, OwnA.nil _ _, by simp, Nat.le_refl _, Below.refl _ _, by rw [if_pos rfl, HX]; cases pTo 0 (spl l) <;> rfl⟩
    case round =>
      obtain ⟨acc, r, more, rfl, rfl, ho, hacc, hrl, hb, hX⟩ := hrel
      have HO : Hid (OwnA wr w.heap.size _ acc) := ho
      have HB : Hid (Below w.heap.size w wr) := hb
      obtain ⟨av, cv, ev, hcv⟩ := own_len ho
      subst ev
      clear ho hb
      cases more with
      | false =>
        rw [if_neg (by simp)] at hX
        have HXX : Hid (X = some acc) := hX
        clear hX HX
        go_wp2
        go_ret2
        exact HFIN.out _ _ (by rw [HXX.out]; exact ⟨_, rfl, HO.out, hacc⟩) HB.out
      | true =>
        rw [if_pos rfl] at hX
        obtain ⟨x, r', m, hcut, hspl, hlr, hxl⟩ := cut_spl r
        rw [hspl] at hX
        have HXX : Hid (X = _) := hX
        have HCUT : Hid (Lib.cut r [32] = (x, r', m)) := hcut
        have HLR : Hid (r'.length + (if m then 1 else 0) ≤ r.length) := hlr
        clear hX HX hcut hspl hlr
        obtain ⟨mx, hmx⟩ := (HE.out.below HB.out).t.max
        have HMX : Hid (_ = _) := hmx
        clear hmx
        go_wp2_with fail
        refine Calls.mono (scut_c ⟨r.toArray⟩ 32 (by show r.length < _; omega) wr) ?_
        rintro e w1 ⟨rfl, n1, rfl⟩
        have ec : Lib.cut (⟨r.toArray⟩ : ByteArray).data.toList [32] = (x, r', m) := HCUT.out
        rw [ec]
        dsimp only
        have HB1 : Hid (Below w.heap.size w (wr.drewN n1)) := below_drewN HB.out n1
        have HO1 : Hid (OwnA (wr.drewN n1) w.heap.size _ acc) := HO.out.below (below_drewN (Below.refl _ _) n1)
        clear HO HB HMX HCUT ec
        generalize wr.drewN n1 = w1 at *
        go_wp2_with fail
        refine Calls.mono (parseAtom_any ⟨x.toArray⟩ w1 (by show x.length ≤ _; omega) (HE.out.below HB1.out).p (HE.out.below HB1.out).e) ?_
        rintro e w2 ⟨⟨a, rfl, ha⟩, hb2⟩
        have ha' : ∀ y, ptA x = some y → a = y := ha
        have HB2 : Hid (Below w.heap.size w w2) := HB1.out.trans (hb2.mono HB1.out.size)
        have HO2 : Hid (OwnA w2 w.heap.size _ acc) := HO1.out.below hb2
        change Hid (X = Option.map _ (pTo acc.length (x :: _))) at HXX
        clear hb2 HO1 HB1 ha
        show match Ending.returned (.tuple #[atV a, .bool (ptA x).isSome]), w2 with | _, _ => _
        cases hp : ptA x with
        | none =>
          have HN : Hid (X = none) := by unfold Hid; rw [HXX.out, pTo, hp]; rfl
          have HB3 : Hid (Below w.heap.size w _) := HB2.out.trans ((below_box w2 (.cells #[.int .i64 a.1, .int .u32 (a.2 : Int)] 53)).mono HB2.out.size)
          clear ha' HXX hp
          unfold atV
          obtain ⟨ak, an⟩ := a
          dsimp only at HB3 ⊢
          go_wp2
          go_ret2
          exact HFIN.out _ _ (by rw [HN.out]; rfl) HB3.out
        | some a' =>
          obtain rfl := ha' a' hp
          have HB3 : Hid (Below w.heap.size w _) := HB2.out.trans ((below_box w2 (.cells #[.int .i64 a.1, .int .u32 (a.2 : Int)] 53)).mono HB2.out.size)
          have HO3 : Hid (OwnA _ w.heap.size _ acc) := HO2.out.below (below_box w2 (.cells #[.int .i64 a.1, .int .u32 (a.2 : Int)] 53))
          by_cases h64 : acc.length = 64
          · have HN : Hid (X = none) := by unfold Hid; rw [HXX.out, pTo, hp, h64]; rfl
            clear ha' HXX hp
            unfold atV
            obtain ⟨ak, an⟩ := a
            dsimp only at HB3 HO3 ⊢
            have h64' : ((acc.length : Int) == 64) = true := by rw [beq_iff_eq]; omega
            go_wp2
            go_ret2
            exact HFIN.out _ _ (by rw [HN.out]; rfl) HB3.out
          · have HN : Hid (X = ((pTo (acc.length + 1) (if m then spl r' else [])).map ((acc ++ [a]) ++ ·))) := by
              unfold Hid
              rw [HXX.out, pTo, hp]
              simp only [if_neg h64, Option.map_map]
              congr 1
              funext y
              simp
            clear ha' HXX hp
            unfold atV
            obtain ⟨ak, an⟩ := a
            dsimp only at HB3 HO3 ⊢
            have h64' : ((acc.length : Int) == 64) = false := by rw [beq_eq_false_iff_ne]; omega
            have HS : Hid (AtAt ((w2.alloc (.cells #[.int .i64 ak, .int .u32 (an : Int)] 53)).alloc (.cells #[.int .i64 ak, .int .u32 (an : Int)] 53)) (.slice (some ⟨w2.heap.size + 1, 0, none⟩) 1 1) [(ak, an)]) := by
              have := one_at (w2.alloc (.cells #[.int .i64 ak, .int .u32 (an : Int)] 53)) (ak, an)
              rw [size_alloc'] at this
              exact this
            have HB4 := below_box (w2.alloc (.cells #[.int .i64 ak, .int .u32 (an : Int)] 53)) (.cells #[.int .i64 ak, .int .u32 (an : Int)] 53)
            have HO4 : Hid (OwnA _ w.heap.size _ acc) := HO3.out.below HB4
            have HB5 : Hid (Below w.heap.size w _) := HB3.out.trans (HB4.mono HB3.out.size)
            clear HB4
            go_wp2_with (at_builtin; refine wpList_append_A _ rfl _ _ rfl w.heap.size _ _ acc [(ak, an)] rfl rfl HO4.out HS.out (by simp; omega) (by have := HB5.out.size; exact this) ?_; intro v6 w6 hown6 hb6)
            have HB6 : Hid (Below w.heap.size w w6) := HB5.out.trans hb6
            go_roundw
            case rel =>
              refine ⟨acc ++ [(ak, an)], r', m, rfl, rfl, hown6, by simp; omega, ?_, HB6.out, ?_⟩
              · have := HLR.out; omega
              · cases m with
                | true => rw [if_pos rfl, HN.out]; simp
                | false => rw [if_neg (by simp), HN.out]; simp [pTo]
            case measure =>
              have h1 := HLR.out
              cases m <;> simp [strLen, flagN, ByteArray.size] at * <;> omega
end Go.Proofs.YtjchobcmbkiilaaGreatDoor
