/-
  WheelPlays answers true.
-/
import Derived.Test.YtgplhdhnailpfaaL6
import Derived.Test.YtgplhdhnailpfaaL7
set_option linter.unusedSimpArgs false
set_option maxRecDepth 100000
namespace Go.Proofs.Ytgplhdhnailpfaa
open Go.RowKit Go.Maps
/-- What is done. -/
structure Ac where
  what : Int
  key : Ky
  at' : Nat
/-- An act's five cells from a cell on. -/
structure AcAt (w : World) (g o : Nat) (x : Ac) : Prop where
  c0 : w.cell? ⟨g, o, none⟩ = some (.int .i64 x.what)
  c1 : w.cell? ⟨g, o + 1, none⟩ = some (.int .i64 x.key.kind)
  c2 : w.cell? ⟨g, o + 2, none⟩ = some (.string x.key.peer)
  c3 : w.cell? ⟨g, o + 3, none⟩ = some (.int .i64 x.key.fam)
  c4 : w.cell? ⟨g, o + 4, none⟩ = some (.int .u64 (x.at' : Int))
theorem AcAt.below {w w' : World} {g k : Nat} {x : Ac} (h : AcAt w g k x) (hb : Below w.heap.size w w') : AcAt w' g k x := ⟨cell2 hb h.c0, cell2 hb h.c1, cell2 hb h.c2, cell2 hb h.c3, cell2 hb h.c4⟩
theorem AcAt.kept {w w' : World} {g k : Nat} {r : Option Nat} {x : Ac} (h : AcAt w g k x) (hg : w.grownBy w' r) (hne : some g ≠ r) : AcAt w' g k x := ⟨hg.cell h.c0 hne, hg.cell h.c1 hne, hg.cell h.c2 hne, hg.cell h.c3 hne, hg.cell h.c4 hne⟩
/-- Acts that come in. -/
structure ArgA (w : World) (v : Value) (l : List Ac) : Prop where
  shape : ∃ a cap, v = .slice a l.length cap
  cell : l ≠ [] → ∃ bk off cap, v = .slice (some ⟨bk, off, none⟩) l.length cap ∧ ∀ j (h : j < l.length), AcAt w bk (off + j * 5) l[j]
  len : l.length ≤ maxLen
/-- The wheel and the reference's timers. -/
structure PyAt (w wr : World) (p b : Nat) (u : Value) (L : List Fd) : Prop where
  whl : WhAt wr p b L
  fs : FsAt wr u L
  bel : Below w.heap.size w wr
theorem PyAt.below {w wr wx : World} {p b : Nat} {u : Value} {L : List Fd} (h : PyAt w wr p b u L) (hb : Below wr.heap.size wr wx) : PyAt w wx p b u L := ⟨h.whl.below hb, h.fs.below hb, h.bel.trans (hb.mono h.bel.size)⟩
theorem PyAt.turned {w wr wx : World} {p b : Nat} {u : Value} {L : List Fd} (h : PyAt w wr p b u L) (hb : w.heap.size ≤ b) (hg : wr.grownBy wx (some b)) : FsAt wx u L ∧ Below w.heap.size w wx :=
  ⟨h.fs.kept h.whl.m hg, h.bel.grown hg h.bel.size (fun k e => by cases e; exact hb)⟩
theorem first_at {L : List Fd} : (L.isEmpty = true ∧ L.length = 0 ∧ nextT L = 0) ∨ (L.isEmpty = false ∧ 0 < L.length ∧ ∃ hlong : 0 < L.length, nextT L = (L[0]'hlong).at') := by
  cases L with
  | nil => exact Or.inl ⟨rfl, rfl, rfl⟩
  | cons a r => exact Or.inr ⟨rfl, by simp, by simp, rfl⟩
set_option maxHeartbeats 16000000 in
theorem plays_walk (w : World) (v : Value) (l : List Ac) (h : ArgA w v l) : Calls Try.prog 3 #[v] w fun e w' => e = .returned (.bool true) ∧ Below w.heap.size w w' := by
  have HA : Hid (ArgA w v l) := h
  obtain ⟨ad, cap, rfl⟩ := h.shape
  have hlen := h.len
  unfold maxLen at hlen
  clear h
  go_enter Try.func3, Try.ntmps3
  go_wp2_with fail
  refine (new_any _).mono ?_
  rintro e w0 ⟨rfl, hw0, hb0⟩
  generalize hp : w.heap.size + 1 = p at *
  generalize hb : w.heap.size = b at hw0
  have HPB : Hid (w.heap.size ≤ b ∧ p ≠ b) := ⟨by omega, hw0.ne⟩
  have HP0 : Hid (PyAt w w0 p b (.slice none 0 0) []) := ⟨hw0, FsAt.nil _, hb0⟩
  clear hp hb hw0 hb0
  go_wp2_with fail
  go_loopw [4, 5] (fun u i wr => ∃ (n : Nat) (L : List Fd), n ≤ l.length ∧ n ≤ 80 ∧ i = .int .i64 n ∧ L.length ≤ n ∧ PyAt w wr p b u L) (fun _ i _ => 80 - (intOf i).toNat)
  case atStart => exact ⟨0, [], Nat.zero_le _, Nat.zero_le _, rfl, Nat.le_refl _, HP0.out⟩
  case round =>
    obtain ⟨n, L, hn, hn80, rfl, hLn, hpy⟩ := hrel
    obtain ⟨adu, cu, rfl, _⟩ := hpy.fs.shape
    have HP : Hid (PyAt w wr p b (.slice adu L.length cu) L) := hpy
    have HLN : Hid (L.length ≤ n ∧ n ≤ 80) := ⟨hLn, hn80⟩
    have hL80 : (L.length : Int) ≤ 80 := by omega
    clear hpy hLn
    by_cases hlt : n < l.length ∧ n < 80
    · obtain ⟨hlt, hlt80⟩ := hlt
      have hltI : (n : Int) < (l.length : Int) := by omega
      have hlt80I : (n : Int) < 80 := by omega
      obtain ⟨bk, off, cap', ev, hcs⟩ := HA.out.cell (fun e => by rw [e] at hlt; simp at hlt)
      injection ev with ev _ ev2
      subst ev
      subst ev2
      have HC0 : Hid (AcAt wr bk (off + n * 5) l[n]) := (hcs n hlt).below HP.out.bel
      clear hcs
      generalize l[n] = x at *
      obtain ⟨c0, c1, c2, c3, c4⟩ := HC0.out
      have HA0 : Hid (AcAt (wr.alloc (.cells #[.int .i64 x.what, .int .i64 x.key.kind, .string x.key.peer, .int .i64 x.key.fam, .int .u64 (x.at' : Int)] 30)) wr.heap.size 0 x ∧ PyAt w (wr.alloc (.cells #[.int .i64 x.what, .int .i64 x.key.kind, .string x.key.peer, .int .i64 x.key.fam, .int .u64 (x.at' : Int)] 30)) p b (.slice adu L.length cu) L) := ⟨⟨by simp, by simp, by simp, by simp, by simp⟩, HP.out.below ((Below.refl _ _).alloc (Nat.le_refl _) _)⟩
      have HBX : Hid (wr.heap.size ≠ b) := by have := HP.out.whl.m.lt; unfold Hid; omega
      obtain ⟨had, hhad⟩ : ∃ r, r = (lookF L x.key).isSome := ⟨_, rfl⟩
      obtain ⟨tt, htt⟩ : ∃ r, r = (lookF L x.key).getD 0 := ⟨_, rfl⟩
      have HAT : Hid (∀ W, WhAt W p b L → Calls Try.prog 8 #[.pointer (some ⟨p, 0, none⟩), .agg #[.int .i64 x.key.kind, .string x.key.peer, .int .i64 x.key.fam]] W fun e w' => e = .returned (.tuple #[.int .u64 (tt : Int), .bool had]) ∧ Below W.heap.size W w') := fun W h => by rw [htt, hhad]; exact at_any h x.key
      have HRA : Hid (∀ W, FsAt W (.slice adu L.length cu) L → Calls Try.prog 9 #[.slice adu L.length cu, .agg #[.int .i64 x.key.kind, .string x.key.peer, .int .i64 x.key.fam]] W fun e w' => e = .returned (.tuple #[.int .u64 (tt : Int), .bool had]) ∧ Below W.heap.size W w') := fun W h => by rw [htt, hhad]; exact rat_any h x.key (by have := HLN.out; omega)
      have HCA : Hid (∀ W, WhAt W p b L → Calls Try.prog 12 #[.pointer (some ⟨p, 0, none⟩), .agg #[.int .i64 x.key.kind, .string x.key.peer, .int .i64 x.key.fam]] W fun e w' => e = .returned (.bool had) ∧ WhAt w' p b (without L x.key) ∧ W.grownBy w' (some b)) := fun W h => by rw [hhad]; exact cancel_any h x.key
      clear hhad htt
      go_wp2_with fail
      refine Calls.mono (HAT.out _ HA0.out.2.whl) ?_
      rintro e w1 ⟨rfl, hb1⟩
      generalize hbx : wr.heap.size = bx at *
      have HA1 : Hid (AcAt w1 bx 0 x ∧ PyAt w w1 p b (.slice adu L.length cu) L) := ⟨HA0.out.1.below hb1, HA0.out.2.below hb1⟩
      obtain ⟨d0, d1, d2, d3, d4⟩ := HA1.out.1
      simp only [Nat.zero_add] at d0 d1 d2 d3 d4
      clear hb1 HA0 c0 c1 c2 c3 c4 HC0 hbx
      go_wp2_with fail
      refine Calls.mono (HRA.out _ HA1.out.2.fs) ?_
      rintro e w2 ⟨rfl, hb2⟩
      have HA2 : Hid (AcAt w2 bx 0 x ∧ PyAt w w2 p b (.slice adu L.length cu) L) := ⟨HA1.out.1.below hb2, HA1.out.2.below hb2⟩
      clear hb2 HA1 d0 d1 d2 d3 d4 HAT HRA
      obtain ⟨d0, d1, d2, d3, d4⟩ := HA2.out.1
      simp only [Nat.zero_add] at d0 d1 d2 d3 d4
      by_cases q0 : x.what = 0
      · rw [q0] at d0
        have HAR : Hid (_ : Prop) := arm_any HA2.out.2.whl x.key x.at' (by have := HLN.out; omega)
        have HML : Hid ((armI L x.key x.at').length ≤ n + 1) := Nat.le_trans (armI_len HA2.out.2.whl.m.whl x.key x.at') (by have := HLN.out; omega)
        have HRM : Hid (∀ W, FsAt W (.slice adu L.length cu) L → _) := fun W h => rarm_any h HA2.out.2.whl.m.whl x.key x.at' (by have := HLN.out; omega)
        generalize armI L x.key x.at' = M at *
        generalize armE L x.key x.at' = ee at *
        go_wp2_with fail
        refine Calls.mono HAR.out ?_
        rintro e w3 ⟨rfl, hw3, hg3⟩
        have HA3 : Hid (AcAt w3 bx 0 x ∧ WhAt w3 p b M ∧ FsAt w3 (.slice adu L.length cu) L ∧ Below w.heap.size w w3) := ⟨HA2.out.1.kept hg3 (fun e => by injection e with e; exact HBX.out e), hw3, (HA2.out.2.turned HPB.out.1 hg3).1, (HA2.out.2.turned HPB.out.1 hg3).2⟩
        clear hw3 hg3 d0 d1 d2 d3 d4 HAR
        obtain ⟨d0, d1, d2, d3, d4⟩ := HA3.out.1
        simp only [Nat.zero_add] at d0 d1 d2 d3 d4
        go_wp2_with fail
        refine Calls.mono (HRM.out _ HA3.out.2.2.1) ?_
        rintro e wt ⟨ut, rfl, hf4, hb4⟩
        have HPT : Hid (PyAt w wt p b ut M) := ⟨HA3.out.2.1.below hb4, hf4, HA3.out.2.2.2.trans (hb4.mono HA3.out.2.2.2.size)⟩
        clear hf4 hb4 HRM HA3
        -- behind it
        obtain ⟨adt, ct, et, _⟩ := HPT.out.fs.shape
        subst et
        clear d0 d1 d2 d3 d4
        have hM80 : (M.length : Int) ≤ 81 := by have := HML.out; omega
        rcases first_at (L := M) with ⟨he, hz, hnx⟩ | ⟨he, hz, hh, hnx⟩
        · have HNX : Hid (_ : Prop) := next_any HPT.out.whl
          rw [he, hnx] at HNX
          have hzI : (M.length : Int) = 0 := by omega
          go_wp2_with fail
          refine Calls.mono HNX.out ?_
          rintro e w7 ⟨rfl, hb7⟩
          have HP7 : Hid (PyAt w w7 p b (.slice adt M.length ct) M) := HPT.out.below hb7
          clear hb7 HNX hnx he
          go_wp2_with fail
          refine Calls.mono (len_any HP7.out.whl) ?_
          rintro e wq ⟨rfl, hwq⟩
          subst wq
          go_wp2
          go_roundw
          case rel => exact ⟨n + 1, M, by omega, by omega, by go_num, HML.out, by have := HP7.out; rwa [hz] at this⟩
          case measure => simp [intOf]; omega
        · have HNX : Hid (_ : Prop) := next_any HPT.out.whl
          obtain ⟨gt, ot, ct', et, _, hcs⟩ := HPT.out.fs.cell (fun e => by rw [e] at hz; simp at hz)
          injection et with et _ et2
          subst et
          subst et2
          have HC7 : Hid (FoAt wt gt (ot + 0 * 4) (M[0]'hh)) := hcs 0 hh
          rw [he, hnx] at HNX
          generalize M[0]'hh = y at *
          clear hcs
          have hzI : (0 : Int) < (M.length : Int) := by omega
          have hzD : decide (0 < M.length) = true := by simp; omega
          go_wp2_with fail
          refine Calls.mono HNX.out ?_
          rintro e w7 ⟨rfl, hb7⟩
          have HP7 : Hid (PyAt w w7 p b (.slice (some ⟨gt, ot, none⟩) M.length ct) M) := HPT.out.below hb7
          obtain ⟨y0, _, _, _⟩ := HC7.out.below hb7
          simp only [Nat.zero_mul, Nat.add_zero] at y0
          clear hb7 HNX hnx he
          go_wp2_with fail
          refine Calls.mono (len_any HP7.out.whl) ?_
          rintro e wq ⟨rfl, hwq⟩
          subst wq
          go_wp2
          go_roundw
          case rel => exact ⟨n + 1, M, by omega, by omega, by go_num, HML.out, HP7.out⟩
          case measure => simp [intOf]; omega
      by_cases q1 : x.what = 1
      · rw [q1] at d0
        have HAR : Hid (_ : Prop) := arm_any HA2.out.2.whl x.key x.at' (by have := HLN.out; omega)
        have HML : Hid ((armI L x.key x.at').length ≤ n + 1) := Nat.le_trans (armI_len HA2.out.2.whl.m.whl x.key x.at') (by have := HLN.out; omega)
        have HRM : Hid (∀ W, FsAt W (.slice adu L.length cu) L → _) := fun W h => rarm_any h HA2.out.2.whl.m.whl x.key x.at' (by have := HLN.out; omega)
        generalize armI L x.key x.at' = M at *
        generalize armE L x.key x.at' = ee at *
        go_wp2_with fail
        refine Calls.mono HAR.out ?_
        rintro e w3 ⟨rfl, hw3, hg3⟩
        have HA3 : Hid (AcAt w3 bx 0 x ∧ WhAt w3 p b M ∧ FsAt w3 (.slice adu L.length cu) L ∧ Below w.heap.size w w3) := ⟨HA2.out.1.kept hg3 (fun e => by injection e with e; exact HBX.out e), hw3, (HA2.out.2.turned HPB.out.1 hg3).1, (HA2.out.2.turned HPB.out.1 hg3).2⟩
        clear hw3 hg3 d0 d1 d2 d3 d4 HAR
        obtain ⟨d0, d1, d2, d3, d4⟩ := HA3.out.1
        simp only [Nat.zero_add] at d0 d1 d2 d3 d4
        go_wp2_with fail
        refine Calls.mono (HRM.out _ HA3.out.2.2.1) ?_
        rintro e wt ⟨ut, rfl, hf4, hb4⟩
        have HPT : Hid (PyAt w wt p b ut M) := ⟨HA3.out.2.1.below hb4, hf4, HA3.out.2.2.2.trans (hb4.mono HA3.out.2.2.2.size)⟩
        clear hf4 hb4 HRM HA3
        -- behind it
        obtain ⟨adt, ct, et, _⟩ := HPT.out.fs.shape
        subst et
        clear d0 d1 d2 d3 d4
        have hM80 : (M.length : Int) ≤ 81 := by have := HML.out; omega
        rcases first_at (L := M) with ⟨he, hz, hnx⟩ | ⟨he, hz, hh, hnx⟩
        · have HNX : Hid (_ : Prop) := next_any HPT.out.whl
          rw [he, hnx] at HNX
          have hzI : (M.length : Int) = 0 := by omega
          go_wp2_with fail
          refine Calls.mono HNX.out ?_
          rintro e w7 ⟨rfl, hb7⟩
          have HP7 : Hid (PyAt w w7 p b (.slice adt M.length ct) M) := HPT.out.below hb7
          clear hb7 HNX hnx he
          go_wp2_with fail
          refine Calls.mono (len_any HP7.out.whl) ?_
          rintro e wq ⟨rfl, hwq⟩
          subst wq
          go_wp2
          go_roundw
          case rel => exact ⟨n + 1, M, by omega, by omega, by go_num, HML.out, by have := HP7.out; rwa [hz] at this⟩
          case measure => simp [intOf]; omega
        · have HNX : Hid (_ : Prop) := next_any HPT.out.whl
          obtain ⟨gt, ot, ct', et, _, hcs⟩ := HPT.out.fs.cell (fun e => by rw [e] at hz; simp at hz)
          injection et with et _ et2
          subst et
          subst et2
          have HC7 : Hid (FoAt wt gt (ot + 0 * 4) (M[0]'hh)) := hcs 0 hh
          rw [he, hnx] at HNX
          generalize M[0]'hh = y at *
          clear hcs
          have hzI : (0 : Int) < (M.length : Int) := by omega
          have hzD : decide (0 < M.length) = true := by simp; omega
          go_wp2_with fail
          refine Calls.mono HNX.out ?_
          rintro e w7 ⟨rfl, hb7⟩
          have HP7 : Hid (PyAt w w7 p b (.slice (some ⟨gt, ot, none⟩) M.length ct) M) := HPT.out.below hb7
          obtain ⟨y0, _, _, _⟩ := HC7.out.below hb7
          simp only [Nat.zero_mul, Nat.add_zero] at y0
          clear hb7 HNX hnx he
          go_wp2_with fail
          refine Calls.mono (len_any HP7.out.whl) ?_
          rintro e wq ⟨rfl, hwq⟩
          subst wq
          go_wp2
          go_roundw
          case rel => exact ⟨n + 1, M, by omega, by omega, by go_num, HML.out, HP7.out⟩
          case measure => simp [intOf]; omega
      by_cases q2 : x.what = 2
      · rw [q2] at d0
        have HML : Hid ((without L x.key).length ≤ n + 1) := Nat.le_trans (List.length_filter_le _ _) (by have := HLN.out; omega)
        have HRM : Hid (∀ W, FsAt W (.slice adu L.length cu) L → _) := fun W h => rcancel_any h x.key (by have := HLN.out; omega)
        generalize without L x.key = M at *
        go_wp2_with fail
        refine Calls.mono (HCA.out _ HA2.out.2.whl) ?_
        rintro e w3 ⟨rfl, hw3, hg3⟩
        have HA3 : Hid (AcAt w3 bx 0 x ∧ WhAt w3 p b M ∧ FsAt w3 (.slice adu L.length cu) L ∧ Below w.heap.size w w3) := ⟨HA2.out.1.kept hg3 (fun e => by injection e with e; exact HBX.out e), hw3, (HA2.out.2.turned HPB.out.1 hg3).1, (HA2.out.2.turned HPB.out.1 hg3).2⟩
        clear hw3 hg3 d0 d1 d2 d3 d4
        obtain ⟨d0, d1, d2, d3, d4⟩ := HA3.out.1
        simp only [Nat.zero_add] at d0 d1 d2 d3 d4
        go_wp2_with fail
        refine Calls.mono (HRM.out _ HA3.out.2.2.1) ?_
        rintro e wt ⟨ut, rfl, hf4, hb4⟩
        have HPT : Hid (PyAt w wt p b ut M) := ⟨HA3.out.2.1.below hb4, FsAt.own hf4, HA3.out.2.2.2.trans (hb4.mono HA3.out.2.2.2.size)⟩
        clear hf4 hb4 HRM HA3
        -- behind it
        obtain ⟨adt, ct, et, _⟩ := HPT.out.fs.shape
        subst et
        clear d0 d1 d2 d3 d4
        have hM80 : (M.length : Int) ≤ 81 := by have := HML.out; omega
        rcases first_at (L := M) with ⟨he, hz, hnx⟩ | ⟨he, hz, hh, hnx⟩
        · have HNX : Hid (_ : Prop) := next_any HPT.out.whl
          rw [he, hnx] at HNX
          have hzI : (M.length : Int) = 0 := by omega
          go_wp2_with fail
          refine Calls.mono HNX.out ?_
          rintro e w7 ⟨rfl, hb7⟩
          have HP7 : Hid (PyAt w w7 p b (.slice adt M.length ct) M) := HPT.out.below hb7
          clear hb7 HNX hnx he
          go_wp2_with fail
          refine Calls.mono (len_any HP7.out.whl) ?_
          rintro e wq ⟨rfl, hwq⟩
          subst wq
          go_wp2
          go_roundw
          case rel => exact ⟨n + 1, M, by omega, by omega, by go_num, HML.out, by have := HP7.out; rwa [hz] at this⟩
          case measure => simp [intOf]; omega
        · have HNX : Hid (_ : Prop) := next_any HPT.out.whl
          obtain ⟨gt, ot, ct', et, _, hcs⟩ := HPT.out.fs.cell (fun e => by rw [e] at hz; simp at hz)
          injection et with et _ et2
          subst et
          subst et2
          have HC7 : Hid (FoAt wt gt (ot + 0 * 4) (M[0]'hh)) := hcs 0 hh
          rw [he, hnx] at HNX
          generalize M[0]'hh = y at *
          clear hcs
          have hzI : (0 : Int) < (M.length : Int) := by omega
          have hzD : decide (0 < M.length) = true := by simp; omega
          go_wp2_with fail
          refine Calls.mono HNX.out ?_
          rintro e w7 ⟨rfl, hb7⟩
          have HP7 : Hid (PyAt w w7 p b (.slice (some ⟨gt, ot, none⟩) M.length ct) M) := HPT.out.below hb7
          obtain ⟨y0, _, _, _⟩ := HC7.out.below hb7
          simp only [Nat.zero_mul, Nat.add_zero] at y0
          clear hb7 HNX hnx he
          go_wp2_with fail
          refine Calls.mono (len_any HP7.out.whl) ?_
          rintro e wq ⟨rfl, hwq⟩
          subst wq
          go_wp2
          go_roundw
          case rel => exact ⟨n + 1, M, by omega, by omega, by go_num, HML.out, HP7.out⟩
          case measure => simp [intOf]; omega
      by_cases q3 : x.what = 3
      · rw [q3] at d0
        have HML : Hid ((leftF L x.at').length ≤ n + 1) := Nat.le_trans (List.length_filter_le _ _) (by have := HLN.out; omega)
        have HDL : Hid ((dueF L x.at').length ≤ 50000) := Nat.le_trans (List.length_filter_le _ _) (by have := HLN.out; omega)
        have HRM : Hid (∀ W, FsAt W (.slice adu L.length cu) L → _) := fun W h => rtake_any h HA2.out.2.whl.m.whl.ord x.at' (by have := HLN.out; omega)
        have HTK : Hid (∀ W, WhAt W p b L → _) := fun W h => take_any h x.at' (by have := HLN.out; omega)
        generalize leftF L x.at' = M at *
        generalize dueF L x.at' = D at *
        go_wp2_with fail
        refine Calls.mono (HRM.out _ HA2.out.2.fs) ?_
        rintro e w3 ⟨u1, u2, rfl, hf3, hf4, hb3⟩
        have HA3 : Hid (AcAt w3 bx 0 x ∧ PyAt w w3 p b (.slice adu L.length cu) L ∧ FsAt w3 u1 D ∧ FsAt w3 u2 M) := ⟨HA2.out.1.below hb3, HA2.out.2.below hb3, hf3, hf4⟩
        clear hf3 hf4 hb3 d0 d1 d2 d3 d4 HRM
        obtain ⟨d0, d1, d2, d3, d4⟩ := HA3.out.1
        simp only [Nat.zero_add] at d0 d1 d2 d3 d4
        go_wp2_with fail
        refine Calls.mono (HTK.out _ HA3.out.2.1.whl) ?_
        rintro e w4 ⟨tv, rfl, ho4, hw4, hg4⟩
        have HA4 : Hid (FsAt w4 tv D ∧ FsAt w4 u1 D ∧ FsAt w4 u2 M ∧ WhAt w4 p b M ∧ Below w.heap.size w w4) := ⟨FsAt.own ho4, HA3.out.2.2.1.kept HA3.out.2.1.whl.m hg4, HA3.out.2.2.2.kept HA3.out.2.1.whl.m hg4, hw4, (HA3.out.2.1.turned HPB.out.1 hg4).2⟩
        clear ho4 hw4 hg4 HTK HA3
        go_wp2_with fail
        refine Calls.mono (rsame_yes HA4.out.1 HA4.out.2.1 HDL.out) ?_
        rintro e wt ⟨rfl, hb5⟩
        have HPT : Hid (PyAt w wt p b u2 M) := ⟨HA4.out.2.2.2.1.below hb5, HA4.out.2.2.1.below hb5, HA4.out.2.2.2.2.trans (hb5.mono HA4.out.2.2.2.2.size)⟩
        clear hb5 HA4
        -- behind it
        obtain ⟨adt, ct, et, _⟩ := HPT.out.fs.shape
        subst et
        clear d0 d1 d2 d3 d4
        have hM80 : (M.length : Int) ≤ 81 := by have := HML.out; omega
        rcases first_at (L := M) with ⟨he, hz, hnx⟩ | ⟨he, hz, hh, hnx⟩
        · have HNX : Hid (_ : Prop) := next_any HPT.out.whl
          rw [he, hnx] at HNX
          have hzI : (M.length : Int) = 0 := by omega
          go_wp2_with fail
          refine Calls.mono HNX.out ?_
          rintro e w7 ⟨rfl, hb7⟩
          have HP7 : Hid (PyAt w w7 p b (.slice adt M.length ct) M) := HPT.out.below hb7
          clear hb7 HNX hnx he
          go_wp2_with fail
          refine Calls.mono (len_any HP7.out.whl) ?_
          rintro e wq ⟨rfl, hwq⟩
          subst wq
          go_wp2
          go_roundw
          case rel => exact ⟨n + 1, M, by omega, by omega, by go_num, HML.out, by have := HP7.out; rwa [hz] at this⟩
          case measure => simp [intOf]; omega
        · have HNX : Hid (_ : Prop) := next_any HPT.out.whl
          obtain ⟨gt, ot, ct', et, _, hcs⟩ := HPT.out.fs.cell (fun e => by rw [e] at hz; simp at hz)
          injection et with et _ et2
          subst et
          subst et2
          have HC7 : Hid (FoAt wt gt (ot + 0 * 4) (M[0]'hh)) := hcs 0 hh
          rw [he, hnx] at HNX
          generalize M[0]'hh = y at *
          clear hcs
          have hzI : (0 : Int) < (M.length : Int) := by omega
          have hzD : decide (0 < M.length) = true := by simp; omega
          go_wp2_with fail
          refine Calls.mono HNX.out ?_
          rintro e w7 ⟨rfl, hb7⟩
          have HP7 : Hid (PyAt w w7 p b (.slice (some ⟨gt, ot, none⟩) M.length ct) M) := HPT.out.below hb7
          obtain ⟨y0, _, _, _⟩ := HC7.out.below hb7
          simp only [Nat.zero_mul, Nat.add_zero] at y0
          clear hb7 HNX hnx he
          go_wp2_with fail
          refine Calls.mono (len_any HP7.out.whl) ?_
          rintro e wq ⟨rfl, hwq⟩
          subst wq
          go_wp2
          go_roundw
          case rel => exact ⟨n + 1, M, by omega, by omega, by go_num, HML.out, HP7.out⟩
          case measure => simp [intOf]; omega
      · skip
        have HML : Hid ((others L x.key.peer).length ≤ n + 1) := Nat.le_trans (List.length_filter_le _ _) (by have := HLN.out; omega)
        have HOL : Hid ((others L x.key.peer).length ≤ L.length) := others_le L x.key.peer
        have HRM : Hid (∀ W, FsAt W (.slice adu L.length cu) L → _) := fun W h => rdrop_any h x.key.peer (by have := HLN.out; omega)
        have HDR : Hid (∀ W, WhAt W p b L → _) := fun W h => drop_any h x.key.peer (by have := HLN.out; omega)
        obtain ⟨gn, hgn⟩ : ∃ gn : Nat, gn = L.length - (others L x.key.peer).length := ⟨_, rfl⟩
        rw [← hgn] at HDR
        generalize others L x.key.peer = M at *
        have hsub : (L.length : Int) - (M.length : Int) = (gn : Int) := by have := HOL.out; omega
        have hwg : IntKind.i64.wrap ((L.length : Int) - (M.length : Int)) = (gn : Int) := by rw [hsub]; have := HLN.out; simp [IntKind.wrap, IntKind.bits, IntKind.signed]; omega
        clear hgn
        go_wp2_with fail
        refine Calls.mono (HRM.out _ HA2.out.2.fs) ?_
        rintro e w3 ⟨ut, rfl, hf3, hb3⟩
        have HA3 : Hid (AcAt w3 bx 0 x ∧ PyAt w w3 p b (.slice adu L.length cu) L ∧ FsAt w3 ut M) := ⟨HA2.out.1.below hb3, HA2.out.2.below hb3, FsAt.own hf3⟩
        clear hf3 hb3 d0 d1 d2 d3 d4 HRM
        obtain ⟨d0, d1, d2, d3, d4⟩ := HA3.out.1
        simp only [Nat.zero_add] at d0 d1 d2 d3 d4
        obtain ⟨adk, ck, ek, _⟩ := HA3.out.2.2.shape
        subst ek
        go_wp2_with fail
        refine Calls.mono (HDR.out _ HA3.out.2.1.whl) ?_
        rintro e wt ⟨rfl, hw4, hg4⟩
        have HPT : Hid (PyAt w wt p b _ M) := ⟨hw4, HA3.out.2.2.kept HA3.out.2.1.whl.m hg4, (HA3.out.2.1.turned HPB.out.1 hg4).2⟩
        clear hw4 hg4 HDR HA3
        -- behind it
        clear d0 d1 d2 d3 d4
        have hM80 : (M.length : Int) ≤ 81 := by have := HML.out; omega
        rcases first_at (L := M) with ⟨he, hz, hnx⟩ | ⟨he, hz, hh, hnx⟩
        · have HNX : Hid (_ : Prop) := next_any HPT.out.whl
          rw [he, hnx] at HNX
          have hzI : (M.length : Int) = 0 := by omega
          go_wp2_with fail
          refine Calls.mono HNX.out ?_
          rintro e w7 ⟨rfl, hb7⟩
          have HP7 : Hid (PyAt w w7 p b (.slice adk M.length ck) M) := HPT.out.below hb7
          clear hb7 HNX hnx he
          go_wp2_with fail
          refine Calls.mono (len_any HP7.out.whl) ?_
          rintro e wq ⟨rfl, hwq⟩
          subst wq
          go_wp2
          go_roundw
          case rel => exact ⟨n + 1, M, by omega, by omega, by go_num, HML.out, by have := HP7.out; rwa [hz] at this⟩
          case measure => simp [intOf]; omega
        · have HNX : Hid (_ : Prop) := next_any HPT.out.whl
          obtain ⟨gt, ot, ck', et, _, hcs⟩ := HPT.out.fs.cell (fun e => by rw [e] at hz; simp at hz)
          injection et with et _ et2
          subst et
          subst et2
          have HC7 : Hid (FoAt wt gt (ot + 0 * 4) (M[0]'hh)) := hcs 0 hh
          rw [he, hnx] at HNX
          generalize M[0]'hh = y at *
          clear hcs
          have hzI : (0 : Int) < (M.length : Int) := by omega
          have hzD : decide (0 < M.length) = true := by simp; omega
          go_wp2_with fail
          refine Calls.mono HNX.out ?_
          rintro e w7 ⟨rfl, hb7⟩
          have HP7 : Hid (PyAt w w7 p b (.slice (some ⟨gt, ot, none⟩) M.length ck) M) := HPT.out.below hb7
          obtain ⟨y0, _, _, _⟩ := HC7.out.below hb7
          simp only [Nat.zero_mul, Nat.add_zero] at y0
          clear hb7 HNX hnx he
          go_wp2_with fail
          refine Calls.mono (len_any HP7.out.whl) ?_
          rintro e wq ⟨rfl, hwq⟩
          subst wq
          go_wp2
          go_roundw
          case rel => exact ⟨n + 1, M, by omega, by omega, by go_num, HML.out, HP7.out⟩
          case measure => simp [intOf]; omega
    · have HEND : Hid (¬ (n < l.length ∧ n < 80)) := hlt
      clear hlt
      have HX : Hid (dueF L 1099511627776 = L ∧ leftF L 1099511627776 = []) := due_all HP.out.whl.m.whl.tick
      generalize wr = wo at *
      have hcase : (n = l.length ∧ ¬ (n : Int) < (l.length : Int)) ∨ ((n : Int) < (l.length : Int) ∧ ¬ (n : Int) < 80) := by have := HEND.out; omega
      have hd80 : decide ((n : Int) < 80) = false ∨ decide ((n : Int) < 80) = true := by cases decide ((n : Int) < 80) <;> simp
      rcases hcase with ⟨hc0, hc1⟩ | ⟨hc1, hc2⟩
      all_goals
        (try (have hc3 : decide ((n : Int) < 80) = false := by simpa using hc2))
        (try (have hc4 : decide (n < 80) = false := by simp; omega))
        (try clear hc0)
        clear hd80
        go_wp2_with fail
        refine Calls.mono (copy_any HP.out.whl) ?_
        rintro e w1 ⟨c, rfl, hw1, hcb, hb1⟩
        have HPY1 : Hid (PyAt w w1 p b (.slice adu L.length cu) L) := HP.out.below hb1
        have HW1 : Hid (WhAt w1 c wo.heap.size L) := hw1
        have HBO : Hid (b < wo.heap.size ∧ p < wo.heap.size) := ⟨HP.out.whl.m.lt, HP.out.whl.lt⟩
        have HTK : Hid (_ : Prop) := take_any hw1 1099511627776 (by have := HLN.out; omega)
        rw [HX.out.1, HX.out.2] at HTK
        have HWO : Hid (w.heap.size ≤ wo.heap.size) := HP.out.bel.size
        clear hb1 hw1 hcb
        go_wp2_with fail
        refine Calls.mono HTK.out ?_
        rintro e w3 ⟨tv, rfl, ho3, hw3, hg3⟩
        have HF3 : Hid (FsAt w3 tv L ∧ FsAt w3 (.slice adu L.length cu) L ∧ WhAt w3 p b L ∧ WhAt w3 c wo.heap.size [] ∧ Below w.heap.size w w3) := ⟨FsAt.own ho3, HPY1.out.fs.kept HW1.out.m hg3, HPY1.out.whl.kept hg3 (fun e => by injection e with e; have := HBO.out; omega) (fun e => by injection e with e; have := HBO.out; omega), hw3, HPY1.out.bel.grown hg3 HPY1.out.bel.size (fun k e => by cases e; exact HWO.out)⟩
        clear ho3 hw3 hg3 HTK
        go_wp2_with fail
        refine Calls.mono (rsame_yes HF3.out.1 HF3.out.2.1 (by have := HLN.out; omega)) ?_
        rintro e w4 ⟨rfl, hb4⟩
        have HF4 : Hid (WhAt w4 p b L ∧ WhAt w4 c wo.heap.size [] ∧ Below w.heap.size w w4) := ⟨HF3.out.2.2.1.below hb4, HF3.out.2.2.2.1.below hb4, HF3.out.2.2.2.2.trans (hb4.mono HF3.out.2.2.2.2.size)⟩
        clear hb4 HF3
        go_wp2_with fail
        refine Calls.mono (len_any HF4.out.2.1) ?_
        rintro e wq ⟨rfl, hwq⟩
        subst wq
        go_wp2_with fail
        refine Calls.mono (len_any HF4.out.1) ?_
        rintro e wq ⟨rfl, hwq⟩
        subst wq
        go_wp2_with fail
        refine (works_any _).mono ?_
        rintro e w9 ⟨rfl, hb9⟩
        go_wp2
        go_ret
        exact ⟨rfl, HF4.out.2.2.trans (hb9.mono HF4.out.2.2.size)⟩
end Go.Proofs.Ytgplhdhnailpfaa
