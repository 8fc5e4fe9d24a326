/-
  The walk of TrieMatch, more than sixty spots.
-/
import Derived.Test.YtjjhimdjhfdmiaaDoorF1
import Derived.BigQuiet
namespace Go.Proofs.YtjjhimdjhfdmiaaDoor
open Go.Deep (BT)
set_option linter.unusedSimpArgs false
open Go.RowKit
set_option maxRecDepth 100000 in
set_option maxHeartbeats 3200000 in
theorem tm_more (ad : Option Addr) (b off len cap : Nat) (F A L : Nat → Nat) (V : Nat → Int) (fx ax lx : Nat) (vx : Int) (fy ay ly : Nat) (vy : Int) (w : World) (hT : Tabs w) (hN : (60 : Int) < len)
    (had : ad = some ⟨b, off, none⟩ ∨ len = 0) (hb : b < w.heap.size) (hS : ∀ i, i < len → SpotAt w b (off + i * 4) (F i) (A i) (L i) (V i)) (hF : ∀ i, i < len → F i < 256 ∧ A i < 256 ∧ L i < 256)
    (hx : fx < 256 ∧ ax < 256 ∧ lx < 256) (hy : fy < 256 ∧ ay < 256 ∧ ly < 256) :
    Calls Tryd.prog 4 #[.slice ad len cap, .agg #[.int .u8 fx, .int .u8 ax, .int .u8 lx, .int .i16 vx], .agg #[.int .u8 fy, .int .u8 ay, .int .u8 ly, .int .i16 vy]] w fun e w' => e = .returned (.bool true) ∧ Below w.heap.size w w' := by
  have HS : Hid (∀ i, i < len → SpotAt w b (off + i * 4) (F i) (A i) (L i) (V i)) := hS
  have HF : Hid (∀ i, i < len → F i < 256 ∧ A i < 256 ∧ L i < 256) := hF
  clear hS hF
  go_enter Tryd.func4, Tryd.ntmps4
  go_wp2_with fail
  refine (newT_any _).mono ?_
  rintro e w1 ⟨rfl, t1, hb1⟩
  have l1 : LAt w w1 fx ax lx vx fy ay ly vy := by
    have q : Below w.heap.size w ((w.alloc (.cells #[.int .u8 fx, .int .u8 ax, .int .u8 lx, .int .i16 vx] 33)).alloc (.cells #[.int .u8 fy, .int .u8 ay, .int .u8 ly, .int .i16 vy] 33)) := ((Below.refl _ _).alloc (Nat.le_refl _) _).alloc (by simp) _
    have sx : SpotAt ((w.alloc (.cells #[.int .u8 fx, .int .u8 ax, .int .u8 lx, .int .i16 vx] 33)).alloc (.cells #[.int .u8 fy, .int .u8 ay, .int .u8 ly, .int .i16 vy] 33)) w.heap.size 0 fx ax lx vx := by constructor <;> simp
    have sy : SpotAt ((w.alloc (.cells #[.int .u8 fx, .int .u8 ax, .int .u8 lx, .int .i16 vx] 33)).alloc (.cells #[.int .u8 fy, .int .u8 ay, .int .u8 ly, .int .i16 vy] 33)) (w.heap.size + 1) 0 fy ay ly vy := by constructor <;> simp
    exact ⟨q.trans (hb1.mono q.size), sx.kept hb1 (by simp; omega), sy.kept hb1 (by simp), by have := t1.lt; simpa using this⟩
  rw [show ((w.alloc (.cells #[.int .u8 fx, .int .u8 ax, .int .u8 lx, .int .i16 vx] 33)).alloc (.cells #[.int .u8 fy, .int .u8 ay, .int .u8 ly, .int .i16 vy] 33)).heap.size = w.heap.size + 1 + 1 from by simp] at t1 ⊢
  clear hb1
  go_wp2_with fail
  go_loopw [8] (fun i wr => ∃ (k : Nat) (t : T) (c : Int), k ≤ 60 ∧ i = .int .i64 k ∧ TrAt wr (w.heap.size + 1 + 1) t c ∧ 0 ≤ c ∧ c ≤ k ∧ Fn t ∧ (∀ i, i < k → HasKey t (spK (F i) (A i) (L i)) (72 + L i % 13)) ∧ LAt w wr fx ax lx vx fy ay ly vy) (fun i _ => 60 - (intOf i).toNat)
  case atStart => exact ⟨0, .nil, 0, by omega, rfl, t1, by omega, by omega, Fn.nil, fun i h => by omega, l1⟩
  case round =>
    clear t1 l1
    obtain ⟨k, t, c, hk, rfl, tr, c0, c1, hfn, hhas, hl⟩ := hrel
    have HH : Hid (∀ i, i < k → HasKey t (spK (F i) (A i) (L i)) (72 + L i % 13)) := hhas
    clear hhas
    by_cases hlt : k < 60
    · have g1 : (k : Int) < len := by omega
      have g2 : (k : Int) < 60 := by omega
      obtain rfl : ad = some ⟨b, off, none⟩ := by rcases had with h | h; exact h; omega
      have Tw := hT.below hl.bel
      obtain ⟨s0, s1, s2, s3⟩ := (HS.out k (by omega)).kept hl.bel hb
      obtain ⟨hf1, hf2, hf3⟩ := HF.out k (by omega)
      go_wp2_with fail
      refine (of_any (F k) (A k) (L k) (V k) wr Tw hf1 hf2 hf3).mono ?_
      rintro e w2 ⟨rfl, hb2⟩
      have tr2 := tr.below hb2
      have l2 := hl.below hb2
      have T2 := Tw.below hb2
      clear s0 s1 s2 s3 Tw tr hl hb2
      go_wp2_with fail
      refine (setT_any (w.heap.size + 1 + 1) t c (spF (F k)) 0 (spS (F k) (A k) (L k)) (L k % 13) k w2 tr2 T2 (sp_chk _ _ _) (by decide) c0 (by omega)).mono ?_
      rintro e w3 ⟨rfl, tr3, hb3⟩
      have l3 := l2.beside hb3 (Nat.le_refl _)
      have hct := cntOf_bd (t.get (keyRow (spF (F k)) 0 (spS (F k) (A k) (L k))) (72 + L k % 13)) c
      go_wp2
      go_roundw
      case rel =>
        refine ⟨k + 1, _, _, by omega, by go_num, tr3, by omega, by omega, hfn.set tr2.wf _ (sp_can _ _ _), fun i hi => ?_, l3⟩
        by_cases e : i = k
        · subst e; exact HasKey.self tr2.wf _ (sp_can _ _ _)
        · exact (HH.out i (by omega)).set tr2.wf _ (sp_can _ _ _)
      case measure => simp [intOf]; omega
    · have ek : 60 = k := by omega
      subst ek
      clear hk hlt
      have Tw := hT.below hl.bel
      obtain ⟨s0, s1, s2, s3⟩ := hl.sx
      have g1 : (60 : Int) < len := by omega
      go_wp2_with fail
      refine (of_let fx ax lx vx wr Tw hx.1 hx.2.1 hx.2.2).mono ?_
      rintro e w2 ⟨f0, z0, l0, rfl, HQ, hb2⟩
      have tr2 := tr.below hb2
      have l2 := hl.below hb2
      have T2 := Tw.below hb2
      have hcq : chk f0 (0 : Nat) z0 l0 = 0 := by obtain ⟨e1, e2, e3⟩ := HQ.out; rw [e1, e2, e3]; exact sp_chk _ _ _
      have HC : Hid (chk f0 (0 : Nat) z0 l0 = 0) := hcq
      clear s0 s1 s2 s3 Tw tr hl hb2 hcq
      go_wp2_with fail
      have pq := PfxAt.of_alloc w2 _ f0 0 z0 l0 rfl
      have hBq : Below w2.heap.size w2 (w2.alloc (.cells #[.int .i64 f0, .int .u64 0, .string z0, .int .i64 l0] 29)) := (Below.refl _ _).alloc (Nat.le_refl _) _
      have tr3 := tr2.below hBq
      have l3 := l2.below hBq
      have T3 := T2.below hBq
      have hqb : w2.heap.size < (w2.alloc (.cells #[.int .i64 f0, .int .u64 0, .string z0, .int .i64 l0] 29)).heap.size := by simp
      have hq2 : w.heap.size + 1 + 1 < w2.heap.size := l2.sz
      clear tr2 l2 T2 hBq
      generalize w2.alloc (.cells #[.int .i64 f0, .int .u64 0, .string z0, .int .i64 l0] 29) = w3 at *
      generalize w2.heap.size = qb at *
      refine (matchT_any (w.heap.size + 1 + 1) t c f0 0 z0 l0 _ tr3 T3 HC.out (by decide)).mono ?_
      rintro e w4 ⟨v, rfl, hm, hb4⟩
      have tr4 := tr3.below hb4
      have l4 := l3.below hb4
      have pq4 := pq.kept hb4 hqb
      have hqb4 := Nat.lt_of_lt_of_le hqb hb4.size
      clear tr3 l3 T3 pq hqb hb4
      obtain ⟨o, HO⟩ : ∃ o, Hid (t.mt (keyRow f0 0 z0) (72 + l0) none = o) := ⟨_, rfl⟩
      rw [HO.out] at hm
      have hwf := tr4.wf
      cases o with
      | none =>
        obtain rfl : v = _ := hm
        go_wp2_with fail
        have hmbz : qb < w4.heap.size := hqb4
        refine with_world (fun wx => TrAt wx (w.heap.size + 1 + 1) t c ∧ LAt w wx fx ax lx vx fy ay ly vy ∧ PfxAt wx qb f0 0 z0 l0 ∧ PfxAt wx w4.heap.size 0 0 ⟨#[]⟩ 0 ∧ w4.heap.size < wx.heap.size) ?_ ?_
        · have hBm : Below w4.heap.size w4 (w4.alloc (.cells #[.int .i64 0, .int .u64 0, .string ⟨#[]⟩, .int .i64 0] 29)) := (Below.refl _ _).alloc (Nat.le_refl _) _
          exact ⟨tr4.below hBm, l4.below hBm, pq4.kept hBm hqb4, PfxAt.of_alloc w4 _ _ _ _ _ rfl, by simp⟩
        clear tr4 l4 pq4
        rintro wx ⟨tr5, l5, pq5, pm5, hmb5⟩
        generalize w4.heap.size = mb at *
        go_loopw [13] (fun i wr => ∃ (k : Nat), k ≤ 60 ∧ i = .int .i64 k ∧ TrAt wr (w.heap.size + 1 + 1) t c ∧ LAt w wr fx ax lx vx fy ay ly vy ∧ PfxAt wr qb f0 0 z0 l0 ∧ PfxAt wr mb 0 0 ⟨#[]⟩ 0 ∧ qb < wr.heap.size ∧ mb < wr.heap.size) (fun i _ => 60 - (intOf i).toNat)
        case atStart => exact ⟨0, by omega, rfl, tr5, l5, pq5, pm5, by omega, hmb5⟩
        case round =>
          clear tr5 l5 pq5 pm5 hmb5
          obtain ⟨k, hk, rfl, tr, hl, pq, pm, hqb, hmb⟩ := hrel
          by_cases hlt : k < 60
          · have g1 : (k : Int) < len := by omega
            have g2 : (k : Int) < 60 := by omega
            obtain rfl : ad = some ⟨b, off, none⟩ := by rcases had with h | h; exact h; omega
            have Tw := hT.below hl.bel
            obtain ⟨s0, s1, s2, s3⟩ := (HS.out k (by omega)).kept hl.bel hb
            obtain ⟨hf1, hf2, hf3⟩ := HF.out k (by omega)
            obtain ⟨a0, a1, a2, a3, _, _, _, _⟩ := id pq
            go_wp2
            refine wp_region_held_drew (S := fun w' => w'.cell? ⟨b, off + k * 4, none⟩ = some (.int .u8 (F k)) ∧ w'.cell? ⟨b, off + k * 4 + 1, none⟩ = some (.int .u8 (A k)) ∧ w'.cell? ⟨b, off + k * 4 + 2, none⟩ = some (.int .u8 (L k)) ∧ w'.cell? ⟨b, off + k * 4 + 3, none⟩ = some (.int .i16 (V k)) ∧ w'.cell? ⟨qb, 0, none⟩ = some (.int .i64 f0) ∧ w'.cell? ⟨qb, 1, none⟩ = some (.int .u64 0) ∧ w'.cell? ⟨qb, 2, none⟩ = some (.string z0) ∧ w'.cell? ⟨qb, 3, none⟩ = some (.int .i64 l0)) (by kernel_rfl) (by go_keep) (fun hHeld => ?_)
            refine wpAnyH_take (i := 0) (v := ?_) rfl (by kernel_rfl) (by kernel_rfl) (by kernel_rfl) (fun _ _ _ h => h) (Or.inl ⟨by rfl, ?_⟩) (by assumption) ?_
            rotate_left
            · intro w hSw; (try dsimp only at hSw); (go_simp <;> with_reducible rfl)
            simp only [Act.put, List.setIfInBounds_toArray, List.set_cons_zero, List.set_cons_succ, List.getElem_toArray, List.getElem_cons_zero, List.getElem_cons_succ]
            refine wpAnyH_take (i := 1) (v := ?_) rfl (by kernel_rfl) (by kernel_rfl) (by kernel_rfl) (fun _ _ _ h => h) (Or.inl ⟨by rfl, ?_⟩) (by assumption) ?_
            rotate_left
            · intro w hSw; (try dsimp only at hSw); (go_simp <;> with_reducible rfl)
            simp only [Act.put, List.setIfInBounds_toArray, List.set_cons_zero, List.set_cons_succ, List.getElem_toArray, List.getElem_cons_zero, List.getElem_cons_succ]
            refine wpAnyH_take (i := 2) (v := ?_) rfl (by kernel_rfl) (by kernel_rfl) (by kernel_rfl) (fun _ _ _ h => h) (Or.inl ⟨by rfl, ?_⟩) (by assumption) ?_
            rotate_left
            · intro w hSw; (try dsimp only at hSw); (go_simp <;> with_reducible rfl)
            simp only [Act.put, List.setIfInBounds_toArray, List.set_cons_zero, List.set_cons_succ, List.getElem_toArray, List.getElem_cons_zero, List.getElem_cons_succ]
            refine wpAnyH_take (i := 3) (v := ?_) rfl (by kernel_rfl) (by kernel_rfl) (by kernel_rfl) (fun _ _ _ h => h) (Or.inl ⟨by rfl, ?_⟩) (by assumption) ?_
            rotate_left
            · intro w hSw; (try dsimp only at hSw); (go_simp <;> with_reducible rfl)
            simp only [Act.put, List.setIfInBounds_toArray, List.set_cons_zero, List.set_cons_succ, List.getElem_toArray, List.getElem_cons_zero, List.getElem_cons_succ]
            refine wpAnyH_take (i := 5) (v := ?_) rfl (by kernel_rfl) (by kernel_rfl) (by kernel_rfl) (fun _ _ _ h => h) (Or.inl ⟨by rfl, ?_⟩) (by assumption) ?_
            rotate_left
            · intro w hSw; (try dsimp only at hSw); (go_simp <;> with_reducible rfl)
            simp only [Act.put, List.setIfInBounds_toArray, List.set_cons_zero, List.set_cons_succ, List.getElem_toArray, List.getElem_cons_zero, List.getElem_cons_succ]
            refine wpAnyH_ready (rs := [4]) (by kernel_rfl) (by simp) ?_
            refine AllReadyH.cons rfl (fun K hK => ?_) AllReadyH.nil
            go_simp
            go_wp2_with (go_at_call 9; refine (of_let (F k) (A k) (L k) (V k) _ (Tw.below (Below.refl _ _).drew) hf1 hf2 hf3).mono ?_; rintro e w6 ⟨fi, si, li, rfl, HI, hb6⟩; have p6 := pq.drew.kept hb6 hqb; obtain ⟨y0, y1, y2, y3, _, _, _, _⟩ := id p6; have s6 := (HS.out k (by omega)).kept (hl.bel.drew.trans (hb6.mono hl.bel.size)) hb; obtain ⟨u0, u1, u2, u3⟩ := id s6)
            refine hK.out _ _ (by go_keep) (fun hHeld => ?_)
            clear hK K
            refine wpAnyH_ready (rs := [6]) (by kernel_rfl) (by simp) ?_
            refine AllReadyH.cons rfl (fun K hK => ?_) AllReadyH.nil
            go_simp
            go_wp2_with (go_at_call 16; refine (covers_any fi 0 si li f0 0 z0 l0 _ ((Tw.below (Below.refl _ _).drew).below hb6).sizes ((Tw.below (Below.refl _ _).drew).below hb6).rds).mono ?_; rintro e w7 ⟨rfl, hb7⟩; rw [none_cov hwf HI.out (HH.out k (by omega)) HC.out HO.out]; have hz6 := hb6.size; have p7 := p6.kept hb7 (by simp at hz6; omega); obtain ⟨r0, r1, r2, r3, _, _, _, _⟩ := id p7; obtain ⟨q0, q1, q2, q3⟩ := s6.kept hb7 (by simp at hz6; omega))
            refine hK.out _ _ (by go_keep) (fun hHeld => ?_)
            clear hK K
            refine wpAnyH_take (i := 7) (v := ?_) rfl (by kernel_rfl) (by kernel_rfl) (by kernel_rfl) (fun _ _ _ h => h) (Or.inl ⟨by rfl, ?_⟩) (by assumption) ?_
            rotate_left
            · intro w hSw; (try dsimp only at hSw); (go_simp <;> with_reducible rfl)
            simp only [Act.put, List.setIfInBounds_toArray, List.set_cons_zero, List.set_cons_succ, List.getElem_toArray, List.getElem_cons_zero, List.getElem_cons_succ]
            refine wpAnyH_take (i := 8) (v := undef) rfl (by kernel_rfl) (by kernel_rfl) (by kernel_rfl) (fun _ _ _ h => h) (Or.inr ⟨by rfl, rfl⟩) (by assumption) ?_
            simp only [Act.put, List.setIfInBounds_toArray, List.set_cons_zero, List.set_cons_succ, List.getElem_toArray, List.getElem_cons_zero, List.getElem_cons_succ]
            refine wpAnyH_take (i := 9) (v := undef) rfl (by kernel_rfl) (by kernel_rfl) (by kernel_rfl) (fun _ _ _ h => h) (Or.inr ⟨by rfl, rfl⟩) (by assumption) ?_
            simp only [Act.put, List.setIfInBounds_toArray, List.set_cons_zero, List.set_cons_succ, List.getElem_toArray, List.getElem_cons_zero, List.getElem_cons_succ]
            refine wpAnyH_take (i := 10) (v := undef) rfl (by kernel_rfl) (by kernel_rfl) (by kernel_rfl) (fun _ _ _ h => h) (Or.inr ⟨by rfl, rfl⟩) (by assumption) ?_
            simp only [Act.put, List.setIfInBounds_toArray, List.set_cons_zero, List.set_cons_succ, List.getElem_toArray, List.getElem_cons_zero, List.getElem_cons_succ]
            refine wpAnyH_take (i := 11) (v := undef) rfl (by kernel_rfl) (by kernel_rfl) (by kernel_rfl) (fun _ _ _ h => h) (Or.inr ⟨by rfl, rfl⟩) (by assumption) ?_
            simp only [Act.put, List.setIfInBounds_toArray, List.set_cons_zero, List.set_cons_succ, List.getElem_toArray, List.getElem_cons_zero, List.getElem_cons_succ]
            refine wpAnyH_take (i := 12) (v := undef) rfl (by kernel_rfl) (by kernel_rfl) (by kernel_rfl) (fun _ _ _ h => h) (Or.inr ⟨by rfl, rfl⟩) (by assumption) ?_
            simp only [Act.put, List.setIfInBounds_toArray, List.set_cons_zero, List.set_cons_succ, List.getElem_toArray, List.getElem_cons_zero, List.getElem_cons_succ]
            refine wpAnyH_take (i := 13) (v := undef) rfl (by kernel_rfl) (by kernel_rfl) (by kernel_rfl) (fun _ _ _ h => h) (Or.inr ⟨by rfl, rfl⟩) (by assumption) ?_
            simp only [Act.put, List.setIfInBounds_toArray, List.set_cons_zero, List.set_cons_succ, List.getElem_toArray, List.getElem_cons_zero, List.getElem_cons_succ]
            refine wpAnyH_take (i := 14) (v := undef) rfl (by kernel_rfl) (by kernel_rfl) (by kernel_rfl) (fun _ _ _ h => h) (Or.inr ⟨by rfl, rfl⟩) (by assumption) ?_
            simp only [Act.put, List.setIfInBounds_toArray, List.set_cons_zero, List.set_cons_succ, List.getElem_toArray, List.getElem_cons_zero, List.getElem_cons_succ]
            refine wpAnyH_take (i := 15) (v := undef) rfl (by kernel_rfl) (by kernel_rfl) (by kernel_rfl) (fun _ _ _ h => h) (Or.inr ⟨by rfl, rfl⟩) (by assumption) ?_
            simp only [Act.put, List.setIfInBounds_toArray, List.set_cons_zero, List.set_cons_succ, List.getElem_toArray, List.getElem_cons_zero, List.getElem_cons_succ]
            refine wpAnyH_take (i := 16) (v := undef) rfl (by kernel_rfl) (by kernel_rfl) (by kernel_rfl) (fun _ _ _ h => h) (Or.inr ⟨by rfl, rfl⟩) (by assumption) ?_
            simp only [Act.put, List.setIfInBounds_toArray, List.set_cons_zero, List.set_cons_succ, List.getElem_toArray, List.getElem_cons_zero, List.getElem_cons_succ]
            refine wpAnyH_take (i := 17) (v := undef) rfl (by kernel_rfl) (by kernel_rfl) (by kernel_rfl) (fun _ _ _ h => h) (Or.inr ⟨by rfl, rfl⟩) (by assumption) ?_
            simp only [Act.put, List.setIfInBounds_toArray, List.set_cons_zero, List.set_cons_succ, List.getElem_toArray, List.getElem_cons_zero, List.getElem_cons_succ]
            refine wpAnyH_take (i := 18) (v := undef) rfl (by kernel_rfl) (by kernel_rfl) (by kernel_rfl) (fun _ _ _ h => h) (Or.inr ⟨by rfl, rfl⟩) (by assumption) ?_
            simp only [Act.put, List.setIfInBounds_toArray, List.set_cons_zero, List.set_cons_succ, List.getElem_toArray, List.getElem_cons_zero, List.getElem_cons_succ]
            refine wpAnyH_take (i := 19) (v := undef) rfl (by kernel_rfl) (by kernel_rfl) (by kernel_rfl) (fun _ _ _ h => h) (Or.inr ⟨by rfl, rfl⟩) (by assumption) ?_
            simp only [Act.put, List.setIfInBounds_toArray, List.set_cons_zero, List.set_cons_succ, List.getElem_toArray, List.getElem_cons_zero, List.getElem_cons_succ]
            refine wpAnyH_take (i := 20) (v := undef) rfl (by kernel_rfl) (by kernel_rfl) (by kernel_rfl) (fun _ _ _ h => h) (Or.inr ⟨by rfl, rfl⟩) (by assumption) ?_
            simp only [Act.put, List.setIfInBounds_toArray, List.set_cons_zero, List.set_cons_succ, List.getElem_toArray, List.getElem_cons_zero, List.getElem_cons_succ]
            refine wpAnyH_take (i := 21) (v := ?_) rfl (by kernel_rfl) (by kernel_rfl) (by kernel_rfl) (fun _ _ _ h => h) (Or.inl ⟨by rfl, ?_⟩) (by assumption) ?_
            rotate_left
            · intro w hSw; (try dsimp only at hSw); (go_simp <;> with_reducible rfl)
            simp only [Act.put, List.setIfInBounds_toArray, List.set_cons_zero, List.set_cons_succ, List.getElem_toArray, List.getElem_cons_zero, List.getElem_cons_succ]
            refine wpAnyH_done (by kernel_rfl) ?_ _
            have hb8 : Below wr.heap.size wr w7 := (Below.refl _ _).drew.trans (hb6.trans (hb7.mono hb6.size))
            go_wp2
            go_roundw
            case rel => exact ⟨k + 1, by omega, by go_num, tr.below hb8, hl.below hb8, pq.kept hb8 hqb, pm.kept hb8 hmb, Nat.lt_of_lt_of_le hqb hb8.size, Nat.lt_of_lt_of_le hmb hb8.size⟩
            case measure => simp [intOf]; omega
          · have ek : 60 = k := by omega
            subst ek
            clear hk hlt
            have g1 : (60 : Int) < len := by omega
            have G0 : GAt w wr fx ax lx vx fy ay ly vy t c qb f0 z0 l0 mb 0 0 ⟨#[]⟩ 0 := ⟨hl, tr, pq, pm, hqb, hmb⟩
            clear hl tr pq pm hqb hmb
            have G2 := G0
            clear G0
            go_wp2_with fail
            refine (copyT_any (w.heap.size + 1 + 1) t c wr G2.tr).mono ?_
            rintro e w7 ⟨rfl, trc, hb7⟩
            have G3 := G2.below hb7
            have T3 := hT.below G3.la.bel
            have hcb : w.heap.size + 1 + 1 ≤ wr.heap.size := Nat.le_of_lt G2.la.sz
            obtain ⟨y0, y1, y2, y3⟩ := G3.la.sy
            go_wp2_with fail
            refine (of_let fy ay ly vy w7 T3 hy.1 hy.2.1 hy.2.2).mono ?_
            rintro e w8 ⟨fz, sz, lz, rfl, HY, hb8⟩
            have trc8 := trc.below hb8
            have T8 := T3.below hb8
            have hcy : chk fz (0 : Nat) sz lz = 0 := sp_chk' HY.out
            have hB8 : Below wr.heap.size wr w8 := hb7.trans (hb8.mono hb7.size)
            clear y0 y1 y2 y3 G3 T3 trc hb7 hb8
            go_wp2_with fail
            refine (setT_any wr.heap.size t c fz 0 sz lz 77 w8 trc8 T8 hcy (by decide) c0 (by omega)).mono ?_
            rintro e w9 ⟨rfl, tr9, hb9⟩
            have hB9 := hb9.below hB8 (Nat.le_refl _) hB8.size
            have G9 := G2.below hB9
            have T9 := hT.below G9.la.bel
            clear trc8 T8 hB8 hb9 hB9 G2
            generalize wr.heap.size = cb at *
            obtain ⟨k0, k1, k2, k3, _, _, _, _⟩ := id G9.pq
            go_wp2_with fail
            refine (matchT_any cb _ _ f0 0 z0 l0 w9 tr9 T9 HC.out (by decide)).mono ?_
            rintro e w10 ⟨v, rfl, hm, hb10⟩
            obtain ⟨o2, HO2⟩ : ∃ o2, Hid ((t.set (keyRow fz 0 sz) (72 + lz) 77).mt (keyRow f0 0 z0) (72 + l0) none = o2) := ⟨_, rfl⟩
            rw [HO2.out] at hm
            have hwf9 := tr9.wf
            have G10 := G9.below hb10
            have T10 := hT.below G10.la.bel
            clear k0 k1 k2 k3 G9 T9 tr9 hb10
            cases o2 with
            | none =>
              obtain rfl : v = _ := hm
              have hBk : Below w10.heap.size w10 (w10.alloc (.cells #[.int .i64 0, .int .u64 0, .string ⟨#[]⟩, .int .i64 0] 29)) := (Below.refl _ _).alloc (Nat.le_refl _) _
              have G11 := G10.below hBk
              have T11 := T10.below hBk
              have pk : PfxAt (w10.alloc (.cells #[.int .i64 0, .int .u64 0, .string ⟨#[]⟩, .int .i64 0] 29)) w10.heap.size 0 0 ⟨#[]⟩ 0 := PfxAt.of_alloc w10 _ _ _ _ _ rfl
              obtain ⟨k0, k1, k2, k3, _, _, _, _⟩ := id G11.pq
              obtain ⟨m0, m1, m2, m3, _, _, _, _⟩ := id G11.pm
              obtain ⟨j0, j1, j2, j3, _, _, _, _⟩ := id pk
              go_wp2_with fail
              clear k0 k1 k2 k3 m0 m1 m2 m3 j0 j1 j2 j3 hBk G10 T10
              generalize w10.alloc (.cells #[.int .i64 0, .int .u64 0, .string ⟨#[]⟩, .int .i64 0] 29) = w11 at *
              have G12 := G11
              have T12 := T11
              clear G11 T11 pk
              refine (matchT_any (w.heap.size + 1 + 1) t c f0 0 z0 l0 w11 G12.tr T12 HC.out (by decide)).mono ?_
              rintro e w13 ⟨v3, rfl, hm3, hb13⟩
              rw [HO.out] at hm3
              obtain rfl : v3 = _ := hm3
              have G13 := G12.below hb13
              have hBa : Below w13.heap.size w13 (w13.alloc (.cells #[.int .i64 0, .int .u64 0, .string ⟨#[]⟩, .int .i64 0] 29)) := (Below.refl _ _).alloc (Nat.le_refl _) _
              have G14 := G13.below hBa
              have T14 := hT.below G14.la.bel
              have pa : PfxAt (w13.alloc (.cells #[.int .i64 0, .int .u64 0, .string ⟨#[]⟩, .int .i64 0] 29)) w13.heap.size 0 0 ⟨#[]⟩ 0 := PfxAt.of_alloc w13 _ _ _ _ _ rfl
              obtain ⟨m0, m1, m2, m3, _, _, _, _⟩ := id G14.pm
              obtain ⟨j0, j1, j2, j3, _, _, _, _⟩ := id pa
              clear G12 T12 hb13 G13 hBa
              go_wp2_with fail
              refine (works_any _ T14).mono ?_
              rintro e w15 ⟨rfl, hb15⟩
              have G15 := G14.below hb15
              clear m0 m1 m2 m3 j0 j1 j2 j3 pa G14 T14
              go_wp2
              go_ret
              exact ⟨rfl, G15.la.bel⟩
            | some e2 =>
              obtain ⟨f2, r2, s2, l2, hck, hrk, hk1, hk2, rfl⟩ := hm
              have HV2 : Hid (covB f2 r2 s2 l2 f0 (0 : Nat) z0 l0 = true) := mt_cov hwf9 HO2.out hck hrk HC.out (by decide) hk1 hk2
              clear hck hrk hk1 hk2
              have hBk : Below w10.heap.size w10 (w10.alloc (.cells #[.int .i64 f2, .int .u64 r2, .string s2, .int .i64 l2] 29)) := (Below.refl _ _).alloc (Nat.le_refl _) _
              have G11 := G10.below hBk
              have T11 := T10.below hBk
              have pk : PfxAt (w10.alloc (.cells #[.int .i64 f2, .int .u64 r2, .string s2, .int .i64 l2] 29)) w10.heap.size f2 r2 s2 l2 := PfxAt.of_alloc w10 _ _ _ _ _ rfl
              obtain ⟨k0, k1, k2, k3, _, _, _, _⟩ := id G11.pq
              obtain ⟨m0, m1, m2, m3, _, _, _, _⟩ := id G11.pm
              obtain ⟨j0, j1, j2, j3, _, _, _, _⟩ := id pk
              go_wp2_with fail
              clear k0 k1 k2 k3 m0 m1 m2 m3 j0 j1 j2 j3 hBk G10 T10
              generalize w10.alloc (.cells #[.int .i64 f2, .int .u64 r2, .string s2, .int .i64 l2] 29) = w11 at *
              refine (covers_any f2 r2 s2 l2 f0 0 z0 l0 w11 T11.sizes T11.rds).mono ?_
              rintro e w12 ⟨rfl, hb12⟩
              rw [show covB f2 r2 s2 l2 f0 0 z0 l0 = true from HV2.out]
              have G12 := G11.below hb12
              have T12 := hT.below G12.la.bel
              clear G11 T11 hb12 pk
              obtain ⟨k0, k1, k2, k3, _, _, _, _⟩ := id G12.pq
              go_wp2_with fail
              clear k0 k1 k2 k3
              refine (matchT_any (w.heap.size + 1 + 1) t c f0 0 z0 l0 w12 G12.tr T12 HC.out (by decide)).mono ?_
              rintro e w13 ⟨v3, rfl, hm3, hb13⟩
              rw [HO.out] at hm3
              obtain rfl : v3 = _ := hm3
              have G13 := G12.below hb13
              have hBa : Below w13.heap.size w13 (w13.alloc (.cells #[.int .i64 0, .int .u64 0, .string ⟨#[]⟩, .int .i64 0] 29)) := (Below.refl _ _).alloc (Nat.le_refl _) _
              have G14 := G13.below hBa
              have T14 := hT.below G14.la.bel
              have pa : PfxAt (w13.alloc (.cells #[.int .i64 0, .int .u64 0, .string ⟨#[]⟩, .int .i64 0] 29)) w13.heap.size 0 0 ⟨#[]⟩ 0 := PfxAt.of_alloc w13 _ _ _ _ _ rfl
              obtain ⟨m0, m1, m2, m3, _, _, _, _⟩ := id G14.pm
              obtain ⟨j0, j1, j2, j3, _, _, _, _⟩ := id pa
              clear G12 T12 hb13 G13 hBa
              go_wp2_with fail
              refine (works_any _ T14).mono ?_
              rintro e w15 ⟨rfl, hb15⟩
              have G15 := G14.below hb15
              clear m0 m1 m2 m3 j0 j1 j2 j3 pa G14 T14
              go_wp2
              go_ret
              exact ⟨rfl, G15.la.bel⟩
      | some em =>
        obtain ⟨f', r', s', l', hcm, hrm, he1, he2, rfl⟩ := hm
        go_wp2_with fail
        have hmbz : qb < w4.heap.size := hqb4
        refine with_world (fun wx => TrAt wx (w.heap.size + 1 + 1) t c ∧ LAt w wx fx ax lx vx fy ay ly vy ∧ PfxAt wx qb f0 0 z0 l0 ∧ PfxAt wx w4.heap.size f' r' s' l' ∧ w4.heap.size < wx.heap.size) ?_ ?_
        · have hBm : Below w4.heap.size w4 (w4.alloc (.cells #[.int .i64 f', .int .u64 r', .string s', .int .i64 l'] 29)) := (Below.refl _ _).alloc (Nat.le_refl _) _
          exact ⟨tr4.below hBm, l4.below hBm, pq4.kept hBm hqb4, PfxAt.of_alloc w4 _ _ _ _ _ rfl, by simp⟩
        clear tr4 l4 pq4
        rintro wx ⟨tr5, l5, pq5, pm5, hmb5⟩
        generalize w4.heap.size = mb at *
        go_loopw [13] (fun i wr => ∃ (k : Nat), k ≤ 60 ∧ i = .int .i64 k ∧ TrAt wr (w.heap.size + 1 + 1) t c ∧ LAt w wr fx ax lx vx fy ay ly vy ∧ PfxAt wr qb f0 0 z0 l0 ∧ PfxAt wr mb f' r' s' l' ∧ qb < wr.heap.size ∧ mb < wr.heap.size) (fun i _ => 60 - (intOf i).toNat)
        case atStart => exact ⟨0, by omega, rfl, tr5, l5, pq5, pm5, by omega, hmb5⟩
        case round =>
          clear tr5 l5 pq5 pm5 hmb5
          obtain ⟨k, hk, rfl, tr, hl, pq, pm, hqb, hmb⟩ := hrel
          by_cases hlt : k < 60
          · have g1 : (k : Int) < len := by omega
            have g2 : (k : Int) < 60 := by omega
            obtain rfl : ad = some ⟨b, off, none⟩ := by rcases had with h | h; exact h; omega
            have Tw := hT.below hl.bel
            obtain ⟨s0, s1, s2, s3⟩ := (HS.out k (by omega)).kept hl.bel hb
            obtain ⟨hf1, hf2, hf3⟩ := HF.out k (by omega)
            obtain ⟨a0, a1, a2, a3, _, _, _, _⟩ := id pq
            obtain ⟨cv, HV⟩ : ∃ cv, Hid (covB (spF (F k)) (0 : Nat) (spS (F k) (A k) (L k)) (L k % 13 : Nat) f0 (0 : Nat) z0 l0 = cv) := ⟨_, rfl⟩
            cases cv
            · go_wp2
              refine wp_region_held_drew (S := fun w' => w'.cell? ⟨b, off + k * 4, none⟩ = some (.int .u8 (F k)) ∧ w'.cell? ⟨b, off + k * 4 + 1, none⟩ = some (.int .u8 (A k)) ∧ w'.cell? ⟨b, off + k * 4 + 2, none⟩ = some (.int .u8 (L k)) ∧ w'.cell? ⟨b, off + k * 4 + 3, none⟩ = some (.int .i16 (V k)) ∧ w'.cell? ⟨qb, 0, none⟩ = some (.int .i64 f0) ∧ w'.cell? ⟨qb, 1, none⟩ = some (.int .u64 0) ∧ w'.cell? ⟨qb, 2, none⟩ = some (.string z0) ∧ w'.cell? ⟨qb, 3, none⟩ = some (.int .i64 l0)) (by kernel_rfl) (by go_keep) (fun hHeld => ?_)
              refine wpAnyH_take (i := 0) (v := ?_) rfl (by kernel_rfl) (by kernel_rfl) (by kernel_rfl) (fun _ _ _ h => h) (Or.inl ⟨by rfl, ?_⟩) (by assumption) ?_
              rotate_left
              · intro w hSw; (try dsimp only at hSw); (go_simp <;> with_reducible rfl)
              simp only [Act.put, List.setIfInBounds_toArray, List.set_cons_zero, List.set_cons_succ, List.getElem_toArray, List.getElem_cons_zero, List.getElem_cons_succ]
              refine wpAnyH_take (i := 1) (v := ?_) rfl (by kernel_rfl) (by kernel_rfl) (by kernel_rfl) (fun _ _ _ h => h) (Or.inl ⟨by rfl, ?_⟩) (by assumption) ?_
              rotate_left
              · intro w hSw; (try dsimp only at hSw); (go_simp <;> with_reducible rfl)
              simp only [Act.put, List.setIfInBounds_toArray, List.set_cons_zero, List.set_cons_succ, List.getElem_toArray, List.getElem_cons_zero, List.getElem_cons_succ]
              refine wpAnyH_take (i := 2) (v := ?_) rfl (by kernel_rfl) (by kernel_rfl) (by kernel_rfl) (fun _ _ _ h => h) (Or.inl ⟨by rfl, ?_⟩) (by assumption) ?_
              rotate_left
              · intro w hSw; (try dsimp only at hSw); (go_simp <;> with_reducible rfl)
              simp only [Act.put, List.setIfInBounds_toArray, List.set_cons_zero, List.set_cons_succ, List.getElem_toArray, List.getElem_cons_zero, List.getElem_cons_succ]
              refine wpAnyH_take (i := 3) (v := ?_) rfl (by kernel_rfl) (by kernel_rfl) (by kernel_rfl) (fun _ _ _ h => h) (Or.inl ⟨by rfl, ?_⟩) (by assumption) ?_
              rotate_left
              · intro w hSw; (try dsimp only at hSw); (go_simp <;> with_reducible rfl)
              simp only [Act.put, List.setIfInBounds_toArray, List.set_cons_zero, List.set_cons_succ, List.getElem_toArray, List.getElem_cons_zero, List.getElem_cons_succ]
              refine wpAnyH_take (i := 5) (v := ?_) rfl (by kernel_rfl) (by kernel_rfl) (by kernel_rfl) (fun _ _ _ h => h) (Or.inl ⟨by rfl, ?_⟩) (by assumption) ?_
              rotate_left
              · intro w hSw; (try dsimp only at hSw); (go_simp <;> with_reducible rfl)
              simp only [Act.put, List.setIfInBounds_toArray, List.set_cons_zero, List.set_cons_succ, List.getElem_toArray, List.getElem_cons_zero, List.getElem_cons_succ]
              refine wpAnyH_ready (rs := [4]) (by kernel_rfl) (by simp) ?_
              refine AllReadyH.cons rfl (fun K hK => ?_) AllReadyH.nil
              go_simp
              go_wp2_with (go_at_call 9; refine (of_let (F k) (A k) (L k) (V k) _ (Tw.below (Below.refl _ _).drew) hf1 hf2 hf3).mono ?_; rintro e w6 ⟨fi, si, li, rfl, HI, hb6⟩; have p6 := pq.drew.kept hb6 hqb; obtain ⟨y0, y1, y2, y3, _, _, _, _⟩ := id p6; have s6 := (HS.out k (by omega)).kept (hl.bel.drew.trans (hb6.mono hl.bel.size)) hb; obtain ⟨u0, u1, u2, u3⟩ := id s6)
              refine hK.out _ _ (by go_keep) (fun hHeld => ?_)
              clear hK K
              refine wpAnyH_ready (rs := [6]) (by kernel_rfl) (by simp) ?_
              refine AllReadyH.cons rfl (fun K hK => ?_) AllReadyH.nil
              go_simp
              go_wp2_with (go_at_call 16; refine (covers_any fi 0 si li f0 0 z0 l0 _ ((Tw.below (Below.refl _ _).drew).below hb6).sizes ((Tw.below (Below.refl _ _).drew).below hb6).rds).mono ?_; rintro e w7 ⟨rfl, hb7⟩; rw [show covB fi 0 si li f0 0 z0 l0 = false from (by obtain ⟨e1, e2, e3⟩ := HI.out; rw [e1, e2, e3]; exact HV.out)]; have hz6 := hb6.size; have p7 := p6.kept hb7 (by simp at hz6; omega); obtain ⟨r0, r1, r2, r3, _, _, _, _⟩ := id p7; obtain ⟨q0, q1, q2, q3⟩ := s6.kept hb7 (by simp at hz6; omega))
              refine hK.out _ _ (by go_keep) (fun hHeld => ?_)
              clear hK K
              refine wpAnyH_take (i := 7) (v := ?_) rfl (by kernel_rfl) (by kernel_rfl) (by kernel_rfl) (fun _ _ _ h => h) (Or.inl ⟨by rfl, ?_⟩) (by assumption) ?_
              rotate_left
              · intro w hSw; (try dsimp only at hSw); (go_simp <;> with_reducible rfl)
              simp only [Act.put, List.setIfInBounds_toArray, List.set_cons_zero, List.set_cons_succ, List.getElem_toArray, List.getElem_cons_zero, List.getElem_cons_succ]
              refine wpAnyH_take (i := 8) (v := undef) rfl (by kernel_rfl) (by kernel_rfl) (by kernel_rfl) (fun _ _ _ h => h) (Or.inr ⟨by rfl, rfl⟩) (by assumption) ?_
              simp only [Act.put, List.setIfInBounds_toArray, List.set_cons_zero, List.set_cons_succ, List.getElem_toArray, List.getElem_cons_zero, List.getElem_cons_succ]
              refine wpAnyH_take (i := 9) (v := undef) rfl (by kernel_rfl) (by kernel_rfl) (by kernel_rfl) (fun _ _ _ h => h) (Or.inr ⟨by rfl, rfl⟩) (by assumption) ?_
              simp only [Act.put, List.setIfInBounds_toArray, List.set_cons_zero, List.set_cons_succ, List.getElem_toArray, List.getElem_cons_zero, List.getElem_cons_succ]
              refine wpAnyH_take (i := 10) (v := undef) rfl (by kernel_rfl) (by kernel_rfl) (by kernel_rfl) (fun _ _ _ h => h) (Or.inr ⟨by rfl, rfl⟩) (by assumption) ?_
              simp only [Act.put, List.setIfInBounds_toArray, List.set_cons_zero, List.set_cons_succ, List.getElem_toArray, List.getElem_cons_zero, List.getElem_cons_succ]
              refine wpAnyH_take (i := 11) (v := undef) rfl (by kernel_rfl) (by kernel_rfl) (by kernel_rfl) (fun _ _ _ h => h) (Or.inr ⟨by rfl, rfl⟩) (by assumption) ?_
              simp only [Act.put, List.setIfInBounds_toArray, List.set_cons_zero, List.set_cons_succ, List.getElem_toArray, List.getElem_cons_zero, List.getElem_cons_succ]
              refine wpAnyH_take (i := 12) (v := undef) rfl (by kernel_rfl) (by kernel_rfl) (by kernel_rfl) (fun _ _ _ h => h) (Or.inr ⟨by rfl, rfl⟩) (by assumption) ?_
              simp only [Act.put, List.setIfInBounds_toArray, List.set_cons_zero, List.set_cons_succ, List.getElem_toArray, List.getElem_cons_zero, List.getElem_cons_succ]
              refine wpAnyH_take (i := 13) (v := undef) rfl (by kernel_rfl) (by kernel_rfl) (by kernel_rfl) (fun _ _ _ h => h) (Or.inr ⟨by rfl, rfl⟩) (by assumption) ?_
              simp only [Act.put, List.setIfInBounds_toArray, List.set_cons_zero, List.set_cons_succ, List.getElem_toArray, List.getElem_cons_zero, List.getElem_cons_succ]
              refine wpAnyH_take (i := 14) (v := undef) rfl (by kernel_rfl) (by kernel_rfl) (by kernel_rfl) (fun _ _ _ h => h) (Or.inr ⟨by rfl, rfl⟩) (by assumption) ?_
              simp only [Act.put, List.setIfInBounds_toArray, List.set_cons_zero, List.set_cons_succ, List.getElem_toArray, List.getElem_cons_zero, List.getElem_cons_succ]
              refine wpAnyH_take (i := 15) (v := undef) rfl (by kernel_rfl) (by kernel_rfl) (by kernel_rfl) (fun _ _ _ h => h) (Or.inr ⟨by rfl, rfl⟩) (by assumption) ?_
              simp only [Act.put, List.setIfInBounds_toArray, List.set_cons_zero, List.set_cons_succ, List.getElem_toArray, List.getElem_cons_zero, List.getElem_cons_succ]
              refine wpAnyH_take (i := 16) (v := undef) rfl (by kernel_rfl) (by kernel_rfl) (by kernel_rfl) (fun _ _ _ h => h) (Or.inr ⟨by rfl, rfl⟩) (by assumption) ?_
              simp only [Act.put, List.setIfInBounds_toArray, List.set_cons_zero, List.set_cons_succ, List.getElem_toArray, List.getElem_cons_zero, List.getElem_cons_succ]
              refine wpAnyH_take (i := 17) (v := undef) rfl (by kernel_rfl) (by kernel_rfl) (by kernel_rfl) (fun _ _ _ h => h) (Or.inr ⟨by rfl, rfl⟩) (by assumption) ?_
              simp only [Act.put, List.setIfInBounds_toArray, List.set_cons_zero, List.set_cons_succ, List.getElem_toArray, List.getElem_cons_zero, List.getElem_cons_succ]
              refine wpAnyH_take (i := 18) (v := undef) rfl (by kernel_rfl) (by kernel_rfl) (by kernel_rfl) (fun _ _ _ h => h) (Or.inr ⟨by rfl, rfl⟩) (by assumption) ?_
              simp only [Act.put, List.setIfInBounds_toArray, List.set_cons_zero, List.set_cons_succ, List.getElem_toArray, List.getElem_cons_zero, List.getElem_cons_succ]
              refine wpAnyH_take (i := 19) (v := undef) rfl (by kernel_rfl) (by kernel_rfl) (by kernel_rfl) (fun _ _ _ h => h) (Or.inr ⟨by rfl, rfl⟩) (by assumption) ?_
              simp only [Act.put, List.setIfInBounds_toArray, List.set_cons_zero, List.set_cons_succ, List.getElem_toArray, List.getElem_cons_zero, List.getElem_cons_succ]
              refine wpAnyH_take (i := 20) (v := undef) rfl (by kernel_rfl) (by kernel_rfl) (by kernel_rfl) (fun _ _ _ h => h) (Or.inr ⟨by rfl, rfl⟩) (by assumption) ?_
              simp only [Act.put, List.setIfInBounds_toArray, List.set_cons_zero, List.set_cons_succ, List.getElem_toArray, List.getElem_cons_zero, List.getElem_cons_succ]
              refine wpAnyH_take (i := 21) (v := ?_) rfl (by kernel_rfl) (by kernel_rfl) (by kernel_rfl) (fun _ _ _ h => h) (Or.inl ⟨by rfl, ?_⟩) (by assumption) ?_
              rotate_left
              · intro w hSw; (try dsimp only at hSw); (go_simp <;> with_reducible rfl)
              simp only [Act.put, List.setIfInBounds_toArray, List.set_cons_zero, List.set_cons_succ, List.getElem_toArray, List.getElem_cons_zero, List.getElem_cons_succ]
              refine wpAnyH_done (by kernel_rfl) ?_ _
              have hb9 : Below wr.heap.size wr w7 := (Below.refl _ _).drew.trans (hb6.trans (hb7.mono hb6.size))
              go_wp2
              go_roundw
              case rel => exact ⟨k + 1, by omega, by go_num, tr.below hb9, hl.below hb9, pq.kept hb9 hqb, pm.kept hb9 hmb, Nat.lt_of_lt_of_le hqb hb9.size, Nat.lt_of_lt_of_le hmb hb9.size⟩
              case measure => simp [intOf]; omega
            · have a4 := pm.c3
              have hfld := field3
              go_wp2
              refine wp_region_held_drew (S := fun w' => w'.cell? ⟨b, off + k * 4, none⟩ = some (.int .u8 (F k)) ∧ w'.cell? ⟨b, off + k * 4 + 1, none⟩ = some (.int .u8 (A k)) ∧ w'.cell? ⟨b, off + k * 4 + 2, none⟩ = some (.int .u8 (L k)) ∧ w'.cell? ⟨b, off + k * 4 + 3, none⟩ = some (.int .i16 (V k)) ∧ w'.cell? ⟨qb, 0, none⟩ = some (.int .i64 f0) ∧ w'.cell? ⟨qb, 1, none⟩ = some (.int .u64 0) ∧ w'.cell? ⟨qb, 2, none⟩ = some (.string z0) ∧ w'.cell? ⟨qb, 3, none⟩ = some (.int .i64 l0) ∧ w'.cell? ⟨mb, 3, none⟩ = some (.int .i64 l')) (by kernel_rfl) (by go_keep) (fun hHeld => ?_)
              refine wpAnyH_take (i := 0) (v := ?_) rfl (by kernel_rfl) (by kernel_rfl) (by kernel_rfl) (fun _ _ _ h => h) (Or.inl ⟨by rfl, ?_⟩) (by assumption) ?_
              rotate_left
              · intro w hSw; (try dsimp only at hSw); (go_simp <;> with_reducible rfl)
              simp only [Act.put, List.setIfInBounds_toArray, List.set_cons_zero, List.set_cons_succ, List.getElem_toArray, List.getElem_cons_zero, List.getElem_cons_succ]
              refine wpAnyH_take (i := 1) (v := ?_) rfl (by kernel_rfl) (by kernel_rfl) (by kernel_rfl) (fun _ _ _ h => h) (Or.inl ⟨by rfl, ?_⟩) (by assumption) ?_
              rotate_left
              · intro w hSw; (try dsimp only at hSw); (go_simp <;> with_reducible rfl)
              simp only [Act.put, List.setIfInBounds_toArray, List.set_cons_zero, List.set_cons_succ, List.getElem_toArray, List.getElem_cons_zero, List.getElem_cons_succ]
              refine wpAnyH_take (i := 2) (v := ?_) rfl (by kernel_rfl) (by kernel_rfl) (by kernel_rfl) (fun _ _ _ h => h) (Or.inl ⟨by rfl, ?_⟩) (by assumption) ?_
              rotate_left
              · intro w hSw; (try dsimp only at hSw); (go_simp <;> with_reducible rfl)
              simp only [Act.put, List.setIfInBounds_toArray, List.set_cons_zero, List.set_cons_succ, List.getElem_toArray, List.getElem_cons_zero, List.getElem_cons_succ]
              refine wpAnyH_take (i := 3) (v := ?_) rfl (by kernel_rfl) (by kernel_rfl) (by kernel_rfl) (fun _ _ _ h => h) (Or.inl ⟨by rfl, ?_⟩) (by assumption) ?_
              rotate_left
              · intro w hSw; (try dsimp only at hSw); (go_simp <;> with_reducible rfl)
              simp only [Act.put, List.setIfInBounds_toArray, List.set_cons_zero, List.set_cons_succ, List.getElem_toArray, List.getElem_cons_zero, List.getElem_cons_succ]
              refine wpAnyH_take (i := 5) (v := ?_) rfl (by kernel_rfl) (by kernel_rfl) (by kernel_rfl) (fun _ _ _ h => h) (Or.inl ⟨by rfl, ?_⟩) (by assumption) ?_
              rotate_left
              · intro w hSw; (try dsimp only at hSw); (go_simp <;> with_reducible rfl)
              simp only [Act.put, List.setIfInBounds_toArray, List.set_cons_zero, List.set_cons_succ, List.getElem_toArray, List.getElem_cons_zero, List.getElem_cons_succ]
              refine wpAnyH_ready (rs := [4]) (by kernel_rfl) (by simp) ?_
              refine AllReadyH.cons rfl (fun K hK => ?_) AllReadyH.nil
              go_simp
              go_wp2_with (go_at_call 9; refine (of_let (F k) (A k) (L k) (V k) _ (Tw.below (Below.refl _ _).drew) hf1 hf2 hf3).mono ?_; rintro e w6 ⟨fi, si, li, rfl, HI, hb6⟩; have p6 := pq.drew.kept hb6 hqb; obtain ⟨y0, y1, y2, y3, _, _, _, _⟩ := id p6; have m6 := pm.drew.kept hb6 hmb; have y4 := m6.c3; have s6 := (HS.out k (by omega)).kept (hl.bel.drew.trans (hb6.mono hl.bel.size)) hb; obtain ⟨u0, u1, u2, u3⟩ := id s6)
              refine hK.out _ _ (by go_keep) (fun hHeld => ?_)
              clear hK K
              refine wpAnyH_ready (rs := [6]) (by kernel_rfl) (by simp) ?_
              refine AllReadyH.cons rfl (fun K hK => ?_) AllReadyH.nil
              go_simp
              go_wp2_with (go_at_call 16; refine (covers_any fi 0 si li f0 0 z0 l0 _ ((Tw.below (Below.refl _ _).drew).below hb6).sizes ((Tw.below (Below.refl _ _).drew).below hb6).rds).mono ?_; rintro e w7 ⟨rfl, hb7⟩; rw [show covB fi 0 si li f0 0 z0 l0 = true from (by obtain ⟨e1, e2, e3⟩ := HI.out; rw [e1, e2, e3]; exact HV.out)]; have hz6 := hb6.size; have p7 := p6.kept hb7 (by simp at hz6; omega); obtain ⟨r0, r1, r2, r3, _, _, _, _⟩ := id p7; have m7 := m6.kept hb7 (by simp at hz6; omega); have r4 := m7.c3; have s7 := s6.kept hb7 (by simp at hz6; omega); obtain ⟨q0, q1, q2, q3⟩ := id s7)
              refine hK.out _ _ (by go_keep) (fun hHeld => ?_)
              clear hK K
              refine wpAnyH_take (i := 7) (v := ?_) rfl (by kernel_rfl) (by kernel_rfl) (by kernel_rfl) (fun _ _ _ h => h) (Or.inl ⟨by rfl, ?_⟩) (by assumption) ?_
              rotate_left
              · intro w hSw; (try dsimp only at hSw); (go_simp <;> with_reducible rfl)
              simp only [Act.put, List.setIfInBounds_toArray, List.set_cons_zero, List.set_cons_succ, List.getElem_toArray, List.getElem_cons_zero, List.getElem_cons_succ]
              refine wpAnyH_take (i := 8) (v := ?_) rfl (by kernel_rfl) (by kernel_rfl) (by kernel_rfl) (fun _ _ _ h => h) (Or.inl ⟨by rfl, ?_⟩) (by assumption) ?_
              rotate_left
              · intro w hSw; (try dsimp only at hSw); (go_simp <;> with_reducible rfl)
              simp only [Act.put, List.setIfInBounds_toArray, List.set_cons_zero, List.set_cons_succ, List.getElem_toArray, List.getElem_cons_zero, List.getElem_cons_succ]
              refine wpAnyH_take (i := 9) (v := ?_) rfl (by kernel_rfl) (by kernel_rfl) (by kernel_rfl) (fun _ _ _ h => h) (Or.inl ⟨by rfl, ?_⟩) (by assumption) ?_
              rotate_left
              · intro w hSw; (try dsimp only at hSw); (go_simp <;> with_reducible rfl)
              simp only [Act.put, List.setIfInBounds_toArray, List.set_cons_zero, List.set_cons_succ, List.getElem_toArray, List.getElem_cons_zero, List.getElem_cons_succ]
              refine wpAnyH_take (i := 10) (v := ?_) rfl (by kernel_rfl) (by kernel_rfl) (by kernel_rfl) (fun _ _ _ h => h) (Or.inl ⟨by rfl, ?_⟩) (by assumption) ?_
              rotate_left
              · intro w hSw; (try dsimp only at hSw); (go_simp <;> with_reducible rfl)
              simp only [Act.put, List.setIfInBounds_toArray, List.set_cons_zero, List.set_cons_succ, List.getElem_toArray, List.getElem_cons_zero, List.getElem_cons_succ]
              refine wpAnyH_take (i := 11) (v := ?_) rfl (by kernel_rfl) (by kernel_rfl) (by kernel_rfl) (fun _ _ _ h => h) (Or.inl ⟨by rfl, ?_⟩) (by assumption) ?_
              rotate_left
              · intro w hSw; (try dsimp only at hSw); (go_simp <;> with_reducible rfl)
              simp only [Act.put, List.setIfInBounds_toArray, List.set_cons_zero, List.set_cons_succ, List.getElem_toArray, List.getElem_cons_zero, List.getElem_cons_succ]
              refine wpAnyH_take (i := 12) (v := ?_) rfl (by kernel_rfl) (by kernel_rfl) (by kernel_rfl) (fun _ _ _ h => h) (Or.inl ⟨by rfl, ?_⟩) (by assumption) ?_
              rotate_left
              · intro w hSw; (try dsimp only at hSw); (go_simp <;> with_reducible rfl)
              simp only [Act.put, List.setIfInBounds_toArray, List.set_cons_zero, List.set_cons_succ, List.getElem_toArray, List.getElem_cons_zero, List.getElem_cons_succ]
              refine wpAnyH_take (i := 13) (v := ?_) rfl (by kernel_rfl) (by kernel_rfl) (by kernel_rfl) (fun _ _ _ h => h) (Or.inl ⟨by rfl, ?_⟩) (by assumption) ?_
              rotate_left
              · intro w hSw; (try dsimp only at hSw); (go_simp <;> with_reducible rfl)
              simp only [Act.put, List.setIfInBounds_toArray, List.set_cons_zero, List.set_cons_succ, List.getElem_toArray, List.getElem_cons_zero, List.getElem_cons_succ]
              refine wpAnyH_take (i := 14) (v := ?_) rfl (by kernel_rfl) (by kernel_rfl) (by kernel_rfl) (fun _ _ _ h => h) (Or.inl ⟨by rfl, ?_⟩) (by assumption) ?_
              rotate_left
              · intro w hSw; (try dsimp only at hSw); (go_simp <;> with_reducible rfl)
              simp only [Act.put, List.setIfInBounds_toArray, List.set_cons_zero, List.set_cons_succ, List.getElem_toArray, List.getElem_cons_zero, List.getElem_cons_succ]
              refine wpAnyH_take (i := 17) (v := ?_) rfl (by kernel_rfl) (by kernel_rfl) (by kernel_rfl) (fun _ _ _ h => h) (Or.inl ⟨by rfl, ?_⟩) (by assumption) ?_
              rotate_left
              · intro w hSw; (try dsimp only at hSw); (go_simp <;> with_reducible rfl)
              simp only [Act.put, List.setIfInBounds_toArray, List.set_cons_zero, List.set_cons_succ, List.getElem_toArray, List.getElem_cons_zero, List.getElem_cons_succ]
              refine wpAnyH_take (i := 18) (v := ?_) rfl (by kernel_rfl) (by kernel_rfl) (by kernel_rfl) (fun _ _ _ h => h) (Or.inl ⟨by rfl, ?_⟩) (by assumption) ?_
              rotate_left
              · intro w hSw; (try dsimp only at hSw); (go_simp <;> with_reducible rfl)
              simp only [Act.put, List.setIfInBounds_toArray, List.set_cons_zero, List.set_cons_succ, List.getElem_toArray, List.getElem_cons_zero, List.getElem_cons_succ]
              refine wpAnyH_ready (rs := [15]) (by kernel_rfl) (by simp) ?_
              refine AllReadyH.cons rfl (fun K hK => ?_) AllReadyH.nil
              go_simp
              go_wp2_with (go_at_call 9; refine (of_let (F k) (A k) (L k) (V k) _ (((Tw.below (Below.refl _ _).drew).below hb6).below hb7) hf1 hf2 hf3).mono ?_; rintro e w8 ⟨fj, sj, lj, rfl, HJ, hb8⟩; have hz7 := hb7.size; have p8 := p7.kept hb8 (by simp at hz6; omega); obtain ⟨t0, t1, t2, t3, _, _, _, _⟩ := id p8; have t4 := (m7.kept hb8 (by simp at hz6; omega)).c3; obtain ⟨x0, x1, x2, x3⟩ := s7.kept hb8 (by simp at hz6; omega); have hng : ¬ ((l' : Int) < (lj : Int)) := by have h1 := some_cov hwf HI.out (HH.out k (by omega)) HC.out HO.out (by obtain ⟨e1, e2, e3⟩ := HI.out; rw [e1, e2, e3]; exact HV.out); have h2 := HI.out.2.2; have h3 := HJ.out.2.2; rw [he2] at h1; omega)
              refine hK.out _ _ (by go_keep) (fun hHeld => ?_)
              clear hK K
              refine wpAnyH_take (i := 16) (v := ?_) rfl (by kernel_rfl) (by kernel_rfl) (by kernel_rfl) (fun _ _ _ h => h) (Or.inl ⟨by rfl, ?_⟩) (by assumption) ?_
              rotate_left
              · intro w hSw; (try dsimp only at hSw); (go_simp <;> with_reducible rfl)
              simp only [Act.put, List.setIfInBounds_toArray, List.set_cons_zero, List.set_cons_succ, List.getElem_toArray, List.getElem_cons_zero, List.getElem_cons_succ]
              refine wpAnyH_take (i := 19) (v := ?_) rfl (by kernel_rfl) (by kernel_rfl) (by kernel_rfl) (fun _ _ _ h => h) (Or.inl ⟨by rfl, ?_⟩) (by assumption) ?_
              rotate_left
              · intro w hSw; (try dsimp only at hSw); (go_simp <;> with_reducible rfl)
              simp only [Act.put, List.setIfInBounds_toArray, List.set_cons_zero, List.set_cons_succ, List.getElem_toArray, List.getElem_cons_zero, List.getElem_cons_succ]
              refine wpAnyH_take (i := 20) (v := ?_) rfl (by kernel_rfl) (by kernel_rfl) (by kernel_rfl) (fun _ _ _ h => h) (Or.inl ⟨by rfl, ?_⟩) (by assumption) ?_
              rotate_left
              · intro w hSw; (try dsimp only at hSw); (go_simp <;> with_reducible rfl)
              simp only [Act.put, List.setIfInBounds_toArray, List.set_cons_zero, List.set_cons_succ, List.getElem_toArray, List.getElem_cons_zero, List.getElem_cons_succ]
              refine wpAnyH_take (i := 21) (v := ?_) rfl (by kernel_rfl) (by kernel_rfl) (by kernel_rfl) (fun _ _ _ h => h) (Or.inl ⟨by rfl, ?_⟩) (by assumption) ?_
              rotate_left
              · intro w hSw; (try dsimp only at hSw); (go_simp <;> with_reducible rfl)
              simp only [Act.put, List.setIfInBounds_toArray, List.set_cons_zero, List.set_cons_succ, List.getElem_toArray, List.getElem_cons_zero, List.getElem_cons_succ]
              refine wpAnyH_done (by kernel_rfl) ?_ _
              have hb9 : Below wr.heap.size wr w8 := (Below.refl _ _).drew.trans (hb6.trans ((hb7.mono hb6.size).trans (hb8.mono (Nat.le_trans hb6.size hb7.size))))
              go_wp2
              go_roundw
              case rel => exact ⟨k + 1, by omega, by go_num, tr.below hb9, hl.below hb9, pq.kept hb9 hqb, pm.kept hb9 hmb, Nat.lt_of_lt_of_le hqb hb9.size, Nat.lt_of_lt_of_le hmb hb9.size⟩
              case measure => simp [intOf]; omega
          · have ek : 60 = k := by omega
            subst ek
            clear hk hlt
            have g1 : (60 : Int) < len := by omega
            have G0 : GAt w wr fx ax lx vx fy ay ly vy t c qb f0 z0 l0 mb f' r' s' l' := ⟨hl, tr, pq, pm, hqb, hmb⟩
            clear hl tr pq pm hqb hmb
            have HG : Hid (t.get (keyRow f' r' s') (72 + l') = some em.val) := by
              have h1 := (mt_some hwf HO.out).1
              have h2 := get_ent hwf hfn h1
              rw [he1, he2] at h2
              exact h2
            have HV : Hid (covB f' r' s' l' f0 (0 : Nat) z0 l0 = true) := mt_cov hwf HO.out hcm hrm HC.out (by decide) he1 he2
            obtain ⟨m0, m1, m2, m3, _, _, _, _⟩ := id G0.pm
            have T0 := hT.below G0.la.bel
            go_wp2_with fail
            refine (get_any (w.heap.size + 1 + 1) t c f' r' s' l' wr G0.tr T0 hcm hrm).mono ?_
            rintro e w5 ⟨rfl, hb5⟩
            rw [HG.out]
            rw [show (some em.val : Option Int).isSome = true from rfl, show (some em.val : Option Int).getD 0 = em.val from rfl]
            have G1 := G0.below hb5
            have T1 := hT.below G1.la.bel
            clear m0 m1 m2 m3 G0 T0 hb5
            obtain ⟨m0, m1, m2, m3, _, _, _, _⟩ := id G1.pm
            obtain ⟨k0, k1, k2, k3, _, _, _, _⟩ := id G1.pq
            go_wp2_with fail
            refine (covers_any f' r' s' l' f0 0 z0 l0 _ T1.sizes T1.rds).mono ?_
            rintro e w6 ⟨rfl, hb6⟩
            rw [show covB f' r' s' l' f0 0 z0 l0 = true from HV.out]
            have G2 := G1.below hb6
            clear m0 m1 m2 m3 k0 k1 k2 k3 G1 T1 hb6
            go_wp2_with fail
            refine (copyT_any (w.heap.size + 1 + 1) t c w6 G2.tr).mono ?_
            rintro e w7 ⟨rfl, trc, hb7⟩
            have G3 := G2.below hb7
            have T3 := hT.below G3.la.bel
            have hcb : w.heap.size + 1 + 1 ≤ w6.heap.size := Nat.le_of_lt G2.la.sz
            obtain ⟨y0, y1, y2, y3⟩ := G3.la.sy
            go_wp2_with fail
            refine (of_let fy ay ly vy w7 T3 hy.1 hy.2.1 hy.2.2).mono ?_
            rintro e w8 ⟨fz, sz, lz, rfl, HY, hb8⟩
            have trc8 := trc.below hb8
            have T8 := T3.below hb8
            have hcy : chk fz (0 : Nat) sz lz = 0 := sp_chk' HY.out
            have hB8 : Below w6.heap.size w6 w8 := hb7.trans (hb8.mono hb7.size)
            clear y0 y1 y2 y3 G3 T3 trc hb7 hb8
            go_wp2_with fail
            refine (setT_any w6.heap.size t c fz 0 sz lz 77 w8 trc8 T8 hcy (by decide) c0 (by omega)).mono ?_
            rintro e w9 ⟨rfl, tr9, hb9⟩
            have hB9 := hb9.below hB8 (Nat.le_refl _) hB8.size
            have G9 := G2.below hB9
            have T9 := hT.below G9.la.bel
            clear trc8 T8 hB8 hb9 hB9 G2
            generalize w6.heap.size = cb at *
            obtain ⟨k0, k1, k2, k3, _, _, _, _⟩ := id G9.pq
            go_wp2_with fail
            refine (matchT_any cb _ _ f0 0 z0 l0 w9 tr9 T9 HC.out (by decide)).mono ?_
            rintro e w10 ⟨v, rfl, hm, hb10⟩
            obtain ⟨o2, HO2⟩ : ∃ o2, Hid ((t.set (keyRow fz 0 sz) (72 + lz) 77).mt (keyRow f0 0 z0) (72 + l0) none = o2) := ⟨_, rfl⟩
            rw [HO2.out] at hm
            have hwf9 := tr9.wf
            have G10 := G9.below hb10
            have T10 := hT.below G10.la.bel
            clear k0 k1 k2 k3 G9 T9 tr9 hb10
            cases o2 with
            | none =>
              exfalso
              obtain ⟨e', h1, _⟩ := mt_set_some hwf (v := 77) (can_key hcy (by decide)) HO.out
              rw [HO2.out] at h1
              cases h1
            | some e2 =>
              obtain ⟨f2, r2, s2, l2, hck, hrk, hk1, hk2, rfl⟩ := hm
              have HV2 : Hid (covB f2 r2 s2 l2 f0 (0 : Nat) z0 l0 = true) := mt_cov hwf9 HO2.out hck hrk HC.out (by decide) hk1 hk2
              have hll : ¬ ((l2 : Int) < (l' : Int)) := by
                obtain ⟨e', h1, h2⟩ := mt_set_some hwf (v := 77) (can_key hcy (by decide)) HO.out
                rw [HO2.out] at h1
                cases h1
                rw [he2, hk2] at h2
                omega
              clear hck hrk hk1 hk2
              have hBk : Below w10.heap.size w10 (w10.alloc (.cells #[.int .i64 f2, .int .u64 r2, .string s2, .int .i64 l2] 29)) := (Below.refl _ _).alloc (Nat.le_refl _) _
              have G11 := G10.below hBk
              have T11 := T10.below hBk
              have pk : PfxAt (w10.alloc (.cells #[.int .i64 f2, .int .u64 r2, .string s2, .int .i64 l2] 29)) w10.heap.size f2 r2 s2 l2 := PfxAt.of_alloc w10 _ _ _ _ _ rfl
              obtain ⟨k0, k1, k2, k3, _, _, _, _⟩ := id G11.pq
              obtain ⟨m0, m1, m2, m3, _, _, _, _⟩ := id G11.pm
              obtain ⟨j0, j1, j2, j3, _, _, _, _⟩ := id pk
              go_wp2_with fail
              clear k0 k1 k2 k3 m0 m1 m2 m3 j0 j1 j2 j3 hBk G10 T10
              generalize w10.alloc (.cells #[.int .i64 f2, .int .u64 r2, .string s2, .int .i64 l2] 29) = w11 at *
              refine (covers_any f2 r2 s2 l2 f0 0 z0 l0 w11 T11.sizes T11.rds).mono ?_
              rintro e w12 ⟨rfl, hb12⟩
              rw [show covB f2 r2 s2 l2 f0 0 z0 l0 = true from HV2.out]
              have G12 := G11.below hb12
              have T12 := hT.below G12.la.bel
              clear G11 T11 hb12 pk
              obtain ⟨k0, k1, k2, k3, _, _, _, _⟩ := id G12.pq
              go_wp2_with fail
              clear k0 k1 k2 k3
              refine (matchT_any (w.heap.size + 1 + 1) t c f0 0 z0 l0 w12 G12.tr T12 HC.out (by decide)).mono ?_
              rintro e w13 ⟨v3, rfl, hm3, hb13⟩
              rw [HO.out] at hm3
              obtain ⟨f3, r3, s3, l3, hc3, hr3, h31, h32, rfl⟩ := hm3
              obtain ⟨rfl, rfl, rfl, rfl⟩ := pfx_of hcm hc3 hrm hr3 (he1.symm.trans h31) (he2.symm.trans h32)
              clear hc3 hr3 h31 h32
              have G13 := G12.below hb13
              have hBa : Below w13.heap.size w13 (w13.alloc (.cells #[.int .i64 f3, .int .u64 r3, .string s3, .int .i64 l3] 29)) := (Below.refl _ _).alloc (Nat.le_refl _) _
              have G14 := G13.below hBa
              have T14 := hT.below G14.la.bel
              have pa : PfxAt (w13.alloc (.cells #[.int .i64 f3, .int .u64 r3, .string s3, .int .i64 l3] 29)) w13.heap.size f3 r3 s3 l3 := PfxAt.of_alloc w13 _ _ _ _ _ rfl
              obtain ⟨m0, m1, m2, m3, _, _, _, _⟩ := id G14.pm
              obtain ⟨j0, j1, j2, j3, _, _, _, _⟩ := id pa
              clear G12 T12 hb13 G13 hBa
              go_wp2_with fail
              refine (works_any _ T14).mono ?_
              rintro e w15 ⟨rfl, hb15⟩
              have G15 := G14.below hb15
              clear m0 m1 m2 m3 j0 j1 j2 j3 pa G14 T14
              go_wp2
              go_ret
              exact ⟨rfl, G15.la.bel⟩
end Go.Proofs.YtjjhimdjhfdmiaaDoor
