/-
  Messages one behind the other: their bytes are cut into them again; stream.
-/
import Derived.Test.YtlinoklgchfedaaDoorF1
import Derived.Test.YtlinoklgchfedaaDoorB8
import Derived.Test.YtlinoklgchfedaaDoorC3
namespace Go.Proofs.YtlinoklgchfedaaDoor
open Go.RowKit
/-- A message's bytes. -/
def msgI (f : Fm) : List UInt8 := headI f.k (19 + f.b.length) ++ f.b
structure FmOk (f : Fm) : Prop where
  k1 : 1 ≤ f.k
  k5 : f.k ≤ 5
  len : 19 + f.b.length ≤ 300
  fit : fitI (f.k : Int) ((19 + f.b.length : Nat) : Int) = true
theorem ofI_ok (t : Tl) (h : TlOk t) : FmOk (ofI t) := by
  obtain ⟨hk, hm, hf⟩ := h
  obtain ⟨k, m, f⟩ := t
  simp only at hk hm hf
  have hr : k % 5 = 0 ∨ k % 5 = 1 ∨ k % 5 = 2 ∨ k % 5 = 3 ∨ k % 5 = 4 := by omega
  have hl : (ofI ⟨k, m, f⟩).b.length = nI ⟨k, m, f⟩ := by simp [ofI]
  have hkk : (ofI ⟨k, m, f⟩).k = 1 + k % 5 := rfl
  refine ⟨by omega, by omega, ?_, ?_⟩
  · rw [hl]; unfold nI; simp only; split <;> (try split) <;> (try split) <;> (try split) <;> omega
  · rw [hl, hkk]
    unfold nI fitI leastI mostI
    simp only
    rcases hr with hr | hr | hr | hr | hr
    all_goals simp [hr]
    all_goals omega
theorem make_ok (f : Fm) (h : FmOk f) : mkAns (f.k : Int) f.b = .returned (.tuple #[.string ⟨(msgI f).toArray⟩, .int .i64 0]) := by
  have h1 := h.k1
  have h2 := h.k5
  have h3 := h.len
  unfold mkAns makeI
  rw [if_pos ⟨by omega, by omega⟩, if_neg (by omega), if_pos h.fit, Int.toNat_natCast]
  rfl
theorem msg_len (f : Fm) : (msgI f).length = 19 + f.b.length := by
  unfold msgI headI
  rw [List.length_append]
  rfl
theorem msg_parts (f : Fm) (h : FmOk f) (r : List UInt8) : lenI (msgI f ++ r) = 19 + f.b.length ∧ kindI (msgI f ++ r) = f.k ∧ (msgI f ++ r).take 16 = mark := by
  have h2 := h.k5
  have h3 := h.len
  refine ⟨?_, ?_, ?_⟩
  · show (UInt8.ofNat ((19 + f.b.length) / 256)).toNat * 256 + (UInt8.ofNat ((19 + f.b.length) % 256)).toNat = _
    rw [UInt8.toNat_ofNat', UInt8.toNat_ofNat']
    omega
  · show (UInt8.ofNat f.k).toNat = _
    rw [UInt8.toNat_ofNat']
    omega
  · rfl
theorem run_msg (f : Fm) (h : FmOk f) (r : List UInt8) : runI st0 (msgI f ++ r) = ((runI st0 r).1, f :: (runI st0 r).2) := by
  obtain ⟨h1, h2, h3⟩ := msg_parts f h r
  have k1 := h.k1
  have k5 := h.k5
  have hl := h.len
  have hw : wrongI (msgI f ++ r) = 0 := by
    unfold wrongI
    rw [if_pos h3, h1, h2, if_neg (by omega), if_neg (by omega), if_pos h.fit]
  have e := run_frame (msgI f ++ r) hw (by rw [h1, List.length_append, msg_len]; omega)
  rw [h1, h2] at e
  have t : (msgI f ++ r).take (19 + f.b.length) = msgI f := by rw [← msg_len f, List.take_left]
  have d : (msgI f ++ r).drop (19 + f.b.length) = r := by rw [← msg_len f, List.drop_left]
  have b : (msgI f).drop 19 = f.b := by
    unfold msgI
    exact List.drop_left' rfl
  rw [t, d, b] at e
  exact e
def msgs (L : List Tl) : List UInt8 := L.flatMap fun t => msgI (ofI t)
theorem run_msgs (L : List Tl) (h : ∀ t ∈ L, TlOk t) (r : List UInt8) : runI st0 (msgs L ++ r) = ((runI st0 r).1, L.map ofI ++ (runI st0 r).2) := by
  induction L with
  | nil => simp [msgs]
  | cons t L ih =>
    have e : msgs (t :: L) ++ r = msgI (ofI t) ++ (msgs L ++ r) := by simp [msgs]
    rw [e, run_msg _ (ofI_ok t (h t (by simp))), ih (fun x hx => h x (by simp [hx]))]
    simp
theorem msgs_len (L : List Tl) (h : ∀ t ∈ L, TlOk t) : (msgs L).length ≤ L.length * 300 := by
  induction L with
  | nil => simp [msgs]
  | cons t L ih =>
    have e : msgs (t :: L) = msgI (ofI t) ++ msgs L := by simp [msgs]
    have h1 := ih (fun x hx => h x (by simp [hx]))
    have h2 := (ofI_ok t (h t (by simp))).len
    rw [e, List.length_append, msg_len, List.length_cons]
    omega
theorem msgs_snoc (L : List Tl) (t : Tl) : msgs (L ++ [t]) = msgs L ++ msgI (ofI t) := by simp [msgs]
/-- Told messages in memory. -/
def TlsAt (w : World) (v : Value) (L : List Tl) : Prop :=
  ∃ (ad : Option Addr) (b off cap : Nat), v = .slice ad L.length cap ∧ (ad = some ⟨b, off, none⟩ ∨ L.length = 0) ∧ L.length ≤ cap ∧ ∀ j (h : j < L.length), w.cell? ⟨b, off + j * 3, none⟩ = some (.int .u8 (L[j].k : Int)) ∧ w.cell? ⟨b, off + j * 3 + 1, none⟩ = some (.int .u8 (L[j].m : Int)) ∧ w.cell? ⟨b, off + j * 3 + 2, none⟩ = some (.int .u8 (L[j].f : Int))
set_option maxRecDepth 100000 in
set_option maxHeartbeats 1600000 in
theorem stream_any (v : Value) (L : List Tl) (w : World) (hT : SzAt w) (hL : TlsAt w v L) (hok : ∀ t ∈ L, TlOk t) : Calls Tryd.prog 16 #[v] w fun e w' => ∃ ad cp, e = .returned (.tuple #[.string ⟨(msgs (L.take 20)).toArray⟩, .slice ad ((L.take 20).map ofI).length cp, .bool true]) ∧ OwnF w' w.heap.size (.slice ad ((L.take 20).map ofI).length cp) ((L.take 20).map ofI) ∧ Below w.heap.size w w' := by
  obtain ⟨i0, hi, hz0, hz1, hz2⟩ := info_parts info37
  obtain ⟨ad, b0, off, cap, rfl, had, hcap, hrow⟩ := hL
  have HROW : Hid (_ : Prop) := hrow
  have HOK : Hid (∀ t ∈ L, TlOk t) := hok
  have HAD : Hid (ad = some ⟨b0, off, none⟩ ∨ L.length = 0) := had
  have HZ : Hid (SzAt w) := hT
  clear hT hrow hok had hcap
  obtain ⟨FR, hFR⟩ : ∃ FR, FR = (L.take 20).map ofI := ⟨_, rfl⟩
  obtain ⟨MS, hMS⟩ : ∃ MS, MS = msgs (L.take 20) := ⟨_, rfl⟩
  have HFR : Hid (FR = (L.take 20).map ofI) := hFR
  have HMS : Hid (MS = msgs (L.take 20)) := hMS
  rw [← hFR, ← hMS]
  clear hFR hMS
  go_enter Tryd.func16, Tryd.ntmps16
  go_wp2
  go_loopw [5, 6, 7] (fun t u i wr => ∃ n : Nat, t = .string ⟨(msgs (L.take n)).toArray⟩ ∧ i = .int .i64 (n : Int) ∧ n ≤ L.length ∧ n ≤ 20 ∧ OwnF wr w.heap.size u ((L.take n).map ofI) ∧ Below w.heap.size w wr) (fun _ _ i _ => 20 - (intOf i).toNat)
  case atStart => exact ⟨0, rfl, rfl, by omega, by omega, World.ownsRow_nil _ _ _ _, Below.refl _ _⟩
  case round =>
    obtain ⟨n, rfl, rfl, hnL, hn20, ho, hbw⟩ := hrel
    have HO : Hid (OwnF wr w.heap.size u6 ((L.take n).map ofI)) := ho
    obtain ⟨ad6, cp6, hu6⟩ := slice_of_owns ho
    have hln : ((L.take n).map ofI).length = n := by rw [List.length_map, List.length_take]; omega
    rw [hln] at hu6
    subst hu6
    have HBW : Hid (Below w.heap.size w wr) := hbw
    clear ho hbw
    by_cases hgo : n < L.length ∧ n < 20
    · obtain ⟨hg1, hg2⟩ := hgo
      have g1 : (n : Int) < L.length := by omega
      have g2 : (n : Int) < 20 := by omega
      obtain rfl : ad = some ⟨b0, off, none⟩ := by rcases HAD.out with h | h; exact h; omega
      obtain ⟨x0, x1, x2⟩ := HROW.out n hg1
      have hlt0 : b0 < w.heap.size := lt_of_cell x0
      have c0 := (HBW.out.cell (p := ⟨b0, off + n * 3, none⟩) hlt0).trans x0
      have c1 := (HBW.out.cell (p := ⟨b0, off + n * 3 + 1, none⟩) hlt0).trans x1
      have c2 := (HBW.out.cell (p := ⟨b0, off + n * 3 + 2, none⟩) hlt0).trans x2
      have htok := HOK.out _ (List.getElem_mem hg1)
      have htk : L.take (n + 1) = L.take n ++ [L[n]] := List.take_succ_eq_append_getElem hg1
      have HM : Hid (msgs (L.take (n + 1)) = msgs (L.take n) ++ msgI (ofI L[n])) := by unfold Hid; rw [htk, msgs_snoc]
      have HR : Hid ((L.take (n + 1)).map ofI = (L.take n).map ofI ++ [ofI L[n]]) := by unfold Hid; rw [htk, List.map_append]; rfl
      have hml := msgs_len (L.take n) (fun t ht => HOK.out t (List.mem_of_mem_take ht))
      rw [List.length_take] at hml
      have hml2 : (msgs (L.take n)).length ≤ 10000 := by omega
      have hfok := ofI_ok L[n] htok
      have hmk := make_ok (ofI L[n]) hfok
      have hfl := hfok.len
      have hmln := msg_len (ofI L[n])
      have KO : Hid (∀ W, Calls Tryd.prog 29 #[.agg #[.int .u8 (L[n].k : Int), .int .u8 (L[n].m : Int), .int .u8 (L[n].f : Int)]] W fun e w' => e = .returned (.agg #[.int .i64 ((ofI L[n]).k : Int), .string ⟨(ofI L[n]).b.toArray⟩]) ∧ Below W.heap.size W w') := fun W => of_any L[n] W htok
      have KM : Hid (∀ W, SzAt W → Calls Tryd.prog 14 #[.agg #[.int .i64 ((ofI L[n]).k : Int), .string ⟨(ofI L[n]).b.toArray⟩]] W fun e w' => e = .returned (.tuple #[.string ⟨(msgI (ofI L[n])).toArray⟩, .int .i64 0]) ∧ Below W.heap.size W w') := fun W hW => by
        have k := make_any ((ofI L[n]).k : Int) (ofI L[n]).b W hW (by omega)
        rw [hmk] at k
        exact k
      have happ := app_bytes (msgs (L.take n)) (msgI (ofI L[n]))
      have hs1 : (⟨(msgs (L.take n)).toArray⟩ : ByteArray).size ≤ 10000 := by rw [list_size]; exact hml2
      have hs2 : (⟨(msgI (ofI L[n])).toArray⟩ : ByteArray).size ≤ 300 := by rw [list_size, hmln]; omega
      rw [← HM.out] at happ
      generalize (⟨(msgI (ofI L[n])).toArray⟩ : ByteArray) = M at *
      generalize (⟨(msgs (L.take n)).toArray⟩ : ByteArray) = S at *
      generalize hS' : (⟨(msgs (L.take (n + 1))).toArray⟩ : ByteArray) = S' at *
      have HS' : Hid (_ = S') := hS'
      obtain ⟨⟨fk, fb⟩, hff⟩ : ∃ g : Fm, g = ofI L[n] := ⟨_, rfl⟩
      rw [← hff] at KO KM HR
      simp only at KO KM
      generalize (L[n].k : Int) = tk at *
      generalize (L[n].m : Int) = tm at *
      generalize (L[n].f : Int) = tf at *
      have HCC : Hid (_ ∧ _ ∧ _) := ⟨x0, x1, x2⟩
      clear x0 x1 x2 htok htk hml hml2 hfok hmk hfl hmln HM hff hS'
      go_wp2_with fail
      refine Calls.mono (KO.out wr) ?_
      rintro e w2 ⟨rfl, hb2⟩
      have HB2 : Hid (Below w.heap.size w w2) := HBW.out.trans (hb2.mono HBW.out.size)
      have HO2 : Hid (OwnF w2 w.heap.size (.slice ad6 n cp6) ((L.take n).map ofI)) := owns_below HO.out hb2
      clear hb2 HO HBW c0 c1 c2
      go_wp2_with fail
      refine Calls.mono (KM.out w2 (HZ.out.below HB2.out)) ?_
      rintro e w3 ⟨rfl, hb3⟩
      have HB3 : Hid (Below w.heap.size w w3) := HB2.out.trans (hb3.mono HB2.out.size)
      have HO3 : Hid (OwnF w3 w.heap.size (.slice ad6 n cp6) ((L.take n).map ofI)) := owns_below HO2.out hb3
      obtain ⟨x0, x1, x2⟩ := HCC.out
      have c0 := (HB3.out.cell (p := ⟨b0, off + n * 3, none⟩) hlt0).trans x0
      have c1 := (HB3.out.cell (p := ⟨b0, off + n * 3 + 1, none⟩) hlt0).trans x1
      have c2 := (HB3.out.cell (p := ⟨b0, off + n * 3 + 2, none⟩) hlt0).trans x2
      clear hb3 HO2 HB2 x0 x1 x2 KM
      go_wp2_with fail
      refine Calls.mono (KO.out w3) ?_
      rintro e w4 ⟨rfl, hb4⟩
      have HB4 : Hid (Below w.heap.size w w4) := HB3.out.trans (hb4.mono HB3.out.size)
      have HO4 : Hid (OwnF w4 w.heap.size (.slice ad6 n cp6) ((L.take n).map ofI)) := owns_below HO3.out hb4
      have h4 := HB4.out.size
      have HNW : Hid (∀ (j : Nat) (u : Value), ([.int .i64 (fk : Int), .string ⟨fb.toArray⟩] : List Value)[j]? = some u → (w4.alloc (.cells #[.int .i64 (fk : Int), .string ⟨fb.toArray⟩] 37)).cell? (Addr.add ⟨w4.heap.size, 0, none⟩ j) = some u) := news2 w4 _ _ 37
      have HO5 : Hid (w4.ownsRow w.heap.size 37 2 (.slice ad6 n cp6) n (cellsF ((L.take n).map ofI))) := by
        have k := HO4.out
        unfold OwnF at k
        rw [hln] at k
        exact k
      clear hb4 HO3 HB3 KO c0 c1 c2
      go_wp2_with (at_builtin; refine wpList_append_own _ rfl _ _ 25 rfl w.heap.size 37 i0 (.agg #[.int .i64 0, .string ⟨#[]⟩]) 2 24 Tryd.underlying25 hi hz0 hz1 hz2 rfl (by decide) (.slice ad6 n cp6) n (cellsF ((L.take n).map ofI)) rfl (World.ownsRow.alloc HO5.out _) ⟨w4.heap.size, 0, none⟩ 1 1 [.int .i64 (fk : Int), .string ⟨fb.toArray⟩] rfl rfl HNW.out (two_f _ _) (by unfold maxLen; omega) (by omega) (Nat.le_trans h4 (by simp)) ?_; intro v7 w7 hown7 hgrow7 _)
      have HOS : Hid (OwnF w7 w.heap.size v7 ((L.take (n + 1)).map ofI)) := by
        unfold Hid OwnF
        rw [HR.out, cellsF_snoc, List.length_append, hln]
        exact hown7
      obtain ⟨ad7, c7, rfl⟩ := slice_of_owns hown7
      have HB7 : Hid (Below w.heap.size w w7) := HB4.out.trans (((Below.refl _ _).alloc h4 _).grown hgrow7 (Nat.le_trans h4 (by simp)) (fun k e => (owns_lt HO5.out k e).1))
      clear hown7 hgrow7 HO4 HO5 HNW HB4
      go_roundw
      case rel => exact ⟨n + 1, by rw [HS'.out], by simp, by omega, by omega, HOS.out, HB7.out⟩
      case measure => simp [intOf]; omega
    · have htk2 : L.take n = L.take 20 := by
        by_cases z : n < 20
        · rw [show n = L.length by omega, List.take_length, List.take_of_length_le (by omega)]
        · rw [show n = 20 by omega]
      have HFIN : Hid (∃ ad cp, Ending.returned (.tuple #[.string ⟨(msgs (L.take n)).toArray⟩, .slice ad6 n cp6, .bool true]) = .returned (.tuple #[.string ⟨MS.toArray⟩, .slice ad FR.length cp, .bool true]) ∧ OwnF wr w.heap.size (.slice ad FR.length cp) FR ∧ Below w.heap.size w wr) := by
        refine ⟨ad6, cp6, ?_, ?_, HBW.out⟩
        · rw [HFR.out, HMS.out, ← htk2, hln]
        · rw [HFR.out, ← htk2, hln]; exact HO.out
      have hno : ¬ ((n : Int) < L.length) ∨ ((n : Int) < L.length ∧ ¬ ((n : Int) < 20)) := by omega
      clear htk2
      rcases hno with hno | ⟨hyes, hno⟩
      · go_wp2
        go_ret3
        obtain ⟨a1, c1, e1, e2, e3⟩ := HFIN.out
        exact ⟨a1, c1, e1, e2, e3⟩
      · go_wp2
        go_ret3
        obtain ⟨a1, c1, e1, e2, e3⟩ := HFIN.out
        exact ⟨a1, c1, e1, e2, e3⟩
end Go.Proofs.YtlinoklgchfedaaDoor
