/-
  What TrieMatch asks of a match, in plain words.
-/
import Derived.Test.YtjjhimdjhfdmiaaDoorF1
namespace Go.Proofs.YtjjhimdjhfdmiaaDoor
open Go.RowKit
theorem cntOf_bd (o : Option Int) (c : Int) : c ≤ cntOf o c ∧ cntOf o c ≤ c + 1 := by unfold cntOf; split <;> omega
/-- The law's maker of prefixes, its answer in letters. -/
theorem of_let (fm a ln : Nat) (v : Int) (w : World) (h : Tabs w) (hf : fm < 256) (ha : a < 256) (hl : ln < 256) :
    Calls Tryd.prog 9 #[.agg #[.int .u8 fm, .int .u8 a, .int .u8 ln, .int .i16 v]] w fun e w' => ∃ (f : Nat) (s : ByteArray) (l : Nat), e = .returned (.agg #[.int .i64 f, .int .u64 0, .string s, .int .i64 l]) ∧ Hid (f = spF fm ∧ s = spS fm a ln ∧ l = ln % 13) ∧ Below w.heap.size w w' :=
  (of_any fm a ln v w h hf ha hl).mono fun _ _ ⟨h1, h2⟩ => ⟨_, _, _, h1, ⟨rfl, rfl, rfl⟩, h2⟩
/-- A key that is there and covers: then there is a match, and it is not shorter. -/
theorem mt_has {t : T} (hw : t.WF Can) {k kq : ByteArray} {n nq : Nat} (hk : HasKey t k n) (hc : n ≤ nq ∧ ∀ i, i < n → bt k i = bt kq i) : ∃ e, e ∈ t.ents ∧ t.mt kq nq none = some e ∧ n ≤ e.len := by
  obtain ⟨v, hv⟩ := hk
  rcases mt_spec (C := Can) kq nq t none hw with ⟨e, h1, h2, _, h4⟩ | ⟨_, h2⟩
  · exact ⟨e, h1, h2, h4 _ hv hc⟩
  · exact absurd hc (h2 _ hv)
/-- What a match is: there, and it covers. -/
theorem mt_some {t : T} (hw : t.WF Can) {kq : ByteArray} {nq : Nat} {e : Ent} (h : t.mt kq nq none = some e) : e ∈ t.ents ∧ e.len ≤ nq ∧ ∀ i, i < e.len → bt e.row i = bt kq i := by
  rcases mt_spec (C := Can) kq nq t none hw with ⟨e', h1, h2, h3, _⟩ | ⟨h1, _⟩
  · rw [h] at h2; cases h2; exact ⟨h1, h3⟩
  · rw [h] at h1; cases h1
theorem sp_cov {fm a ln : Nat} {f : Nat} {s : ByteArray} {l : Nat} {f' r' : Nat} {s' : ByteArray} {l' : Nat} (h : f = spF fm ∧ s = spS fm a ln ∧ l = ln % 13) (hc : chk f' r' s' l' = 0) (hr : r' < 18446744073709551616) (hcv : covB f (0 : Nat) s l f' r' s' l' = true) :
    72 + ln % 13 ≤ 72 + l' ∧ ∀ i, i < 72 + ln % 13 → bt (spK fm a ln) i = bt (keyRow f' r' s') i := by
  obtain ⟨rfl, rfl, rfl⟩ := h
  exact (cov_keys (sp_chk fm a ln) hc (by decide) hr).2 hcv
/-- The match of none covers nothing. -/
theorem none_cov {t : T} (hw : t.WF Can) {fm a ln : Nat} {f : Nat} {s : ByteArray} {l : Nat} {f' : Nat} {s' : ByteArray} {l' : Nat} (h : f = spF fm ∧ s = spS fm a ln ∧ l = ln % 13) (hk : HasKey t (spK fm a ln) (72 + ln % 13)) (hc : chk f' (0 : Nat) s' l' = 0) (hm : t.mt (keyRow f' 0 s') (72 + l') none = none) :
    covB f 0 s l f' 0 s' l' = false := by
  by_cases e : covB f (0 : Nat) s l f' (0 : Nat) s' l' = true
  · obtain ⟨e', _, h2, _⟩ := mt_has hw hk (sp_cov h hc (by decide) e)
    rw [hm] at h2; cases h2
  · simpa using e
theorem some_cov {t : T} (hw : t.WF Can) {fm a ln : Nat} {f : Nat} {s : ByteArray} {l : Nat} {f' : Nat} {s' : ByteArray} {l' : Nat} {e : Ent} (h : f = spF fm ∧ s = spS fm a ln ∧ l = ln % 13) (hk : HasKey t (spK fm a ln) (72 + ln % 13)) (hc : chk f' (0 : Nat) s' l' = 0) (hm : t.mt (keyRow f' 0 s') (72 + l') none = some e)
    (hcv : covB f 0 s l f' 0 s' l' = true) : 72 + l ≤ e.len := by
  obtain ⟨e', _, h2, h3⟩ := mt_has hw hk (sp_cov h hc (by decide) hcv)
  rw [hm] at h2; cases h2
  rw [h.2.2]; exact h3
end Go.Proofs.YtjjhimdjhfdmiaaDoor
