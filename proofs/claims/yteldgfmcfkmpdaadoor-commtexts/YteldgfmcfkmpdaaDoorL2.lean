/-
  CommTexts.
-/
import Derived.Test.YteldgfmcfkmpdaaDoorR4
import Derived.Test.YteldgfmcfkmpdaaDoorE1
namespace Go.Proofs.YteldgfmcfkmpdaaDoor
open Go.RowKit
theorem dec_inj {a b : Nat} (h : Lib.decDigits a = Lib.decDigits b) : a = b := by
  have h1 := (pv_all a).1
  have h2 := (pv_all b).1
  rw [h] at h1
  omega
theorem text_inj {c d : Nat} (h : textC c = textC d) : c = d := by
  have n1 : ¬ (nmExport = nmAdvertise) := by decide +kernel
  have n2 : ¬ (nmExport = nmConfed) := by decide +kernel
  have n3 : ¬ (nmAdvertise = nmConfed) := by decide +kernel
  rcases text_ways c with ⟨h1, e1⟩ | ⟨h1, e1⟩ | ⟨h1, e1⟩ | ⟨e1, a1, a2, a3⟩ <;> rcases text_ways d with ⟨h2, e2⟩ | ⟨h2, e2⟩ | ⟨h2, e2⟩ | ⟨e2, b1, b2, b3⟩
  · omega
  · exact absurd (by rw [← e1, h, e2]) n1
  · exact absurd (by rw [← e1, h, e2]) n2
  · exact absurd (by rw [← h, e1]) b1
  · exact absurd (by rw [← e1, h, e2]) n1
  · omega
  · exact absurd (by rw [← e1, h, e2]) n3
  · exact absurd (by rw [← h, e1]) b2
  · exact absurd (by rw [← e1, h, e2]) n2
  · exact absurd (by rw [← e1, h, e2]) n3
  · omega
  · exact absurd (by rw [← h, e1]) b3
  · exact absurd (by rw [h, e2]) a1
  · exact absurd (by rw [h, e2]) a2
  · exact absurd (by rw [h, e2]) a3
  · rw [e1, e2] at h
    have hl : numT (c / 65536) (c % 65536) = numT (d / 65536) (d % 65536) := by
      have := congrArg (fun b : ByteArray => b.data.toList) h
      simpa using this
    have h1 := cut_numT (c / 65536) (c % 65536)
    rw [hl, cut_numT] at h1
    simp only [Prod.mk.injEq, and_true] at h1
    have g1 := dec_inj h1.1
    have g2 := dec_inj h1.2
    omega
theorem PAns.eq {s : ByteArray} {e e' : Ending} (h : PAns s e) (h' : PAns s e') : e = e' := by
  rcases h with ⟨c, hc, ht, rfl⟩ | ⟨hn, rfl⟩ <;> rcases h' with ⟨d, hd, ht', rfl⟩ | ⟨hn', rfl⟩
  · rw [text_inj (ht.trans ht'.symm)]
  · exact absurd ht (hn' c hc)
  · exact absurd ht' (hn d hd)
  · rfl
theorem PAns.form {s : ByteArray} {e : Ending} (h : PAns s e) : ∃ n er : Int, e = .returned (.tuple #[.int .u32 n, .int .i64 er]) := by
  rcases h with ⟨c, _, _, rfl⟩ | ⟨_, rfl⟩
  · exact ⟨_, _, rfl⟩
  · exact ⟨_, _, rfl⟩
theorem parse_any (s : ByteArray) (w : World) (hs : s.size < 4294967281) (ht : Tabs w) (hm : MaxAt w) (he : ErrsAt w) : Calls Tryd.prog 25 #[.string s] w fun e w' => PAns s e ∧ Below w.heap.size w w' := by
  by_cases h : ∃ c, c < 4294967296 ∧ textC c = s
  · obtain ⟨c, hc, rfl⟩ := h
    exact (parse_yes c w hc ht hm).mono fun _ _ ⟨h1, h2⟩ => ⟨Or.inl ⟨c, hc, rfl, h1⟩, h2⟩
  · have hn : ∀ c, c < 4294967296 → ¬ (textC c = s) := fun c hc e => h ⟨c, hc, e⟩
    exact (parse_no s w hs hn ht hm he).mono fun _ _ ⟨h1, h2⟩ => ⟨Or.inr ⟨hn, h1⟩, h2⟩
def isTg (x : Nat) : Bool := decide (x / 281474976710656 = 2)
theorem isT (x : Nat) (w : World) : Calls Tryd.prog 29 #[.int .u64 (x : Int)] w fun e w' => e = .returned (.bool (isTg x)) ∧ w' = w := by
  by_cases h : x / 281474976710656 = 2
  · rw [show isTg x = true by simp [isTg, h]]
    have hi : (x : Int) / 281474976710656 = 2 := by omega
    go_enter Tryd.func29, Tryd.ntmps29
    go_wp2
    go_ret
    exact ⟨rfl, rfl⟩
  · rw [show isTg x = false by simp [isTg, h]]
    have hi : ((x : Int) / 281474976710656 == 2) = false := by rw [beq_eq_false_iff_ne]; omega
    go_enter Tryd.func29, Tryd.ntmps29
    go_wp2
    go_ret
    exact ⟨by simp, rfl⟩
theorem risT (x : Nat) (w : World) : Calls Tryd.prog 30 #[.int .u64 (x : Int)] w fun e w' => e = .returned (.bool (isTg x)) ∧ w' = w := by
  by_cases h : x / 281474976710656 = 2
  · rw [show isTg x = true by simp [isTg, h]]
    have hi : (x : Int) / 281474976710656 = 2 := by omega
    go_enter Tryd.func30, Tryd.ntmps30
    go_wp2
    go_ret
    exact ⟨rfl, rfl⟩
  · rw [show isTg x = false by simp [isTg, h]]
    have hi : ((x : Int) / 281474976710656 == 2) = false := by rw [beq_eq_false_iff_ne]; omega
    go_enter Tryd.func30, Tryd.ntmps30
    go_wp2
    go_ret
    exact ⟨by simp, rfl⟩
def tgI (a c : Nat) : Int := bits .or .u64 (bits .or .u64 562949953421312 ((a : Int) * 4294967296)) (c : Int)
theorem tgt (a c : Nat) (w : World) (ha : a < 65536) (hc : c < 4294967296) : Calls Tryd.prog 31 #[.int .u16 (a : Int), .int .u32 (c : Int)] w fun e w' => e = .returned (.int .u64 (tgI a c)) ∧ w' = w := by
  go_enter Tryd.func31, Tryd.ntmps31
  go_wp2
  go_ret
  exact ⟨rfl, rfl⟩
theorem rtgt (a c : Nat) (w : World) (ha : a < 65536) (hc : c < 4294967296) : Calls Tryd.prog 32 #[.int .u16 (a : Int), .int .u32 (c : Int)] w fun e w' => e = .returned (.int .u64 (tgI a c)) ∧ w' = w := by
  go_enter Tryd.func32, Tryd.ntmps32
  go_wp2
  go_ret
  exact ⟨rfl, rfl⟩
end Go.Proofs.YteldgfmcfkmpdaaDoor
