/-
  What a tree of bits holds behind a value that was set; the longest key that another one begins with.
-/
import Derived.Test.YtjjhimdjhfdmiaaDoorQ1
namespace Go.Proofs.YtjjhimdjhfdmiaaDoor
open Go.Deep (BT)
variable {oo : Nat}

theorem ents_mk2 (row : ByteArray) (len : Nat) (has : Bool) (val : Int) (b : Nat) (x y : T) (e : Ent) : e ∈ (BT.mk2 row len has val b x y).ents ↔ (has = true ∧ e = ⟨row, len, val⟩) ∨ e ∈ x.ents ∨ e ∈ y.ents := by
  unfold BT.mk2
  split <;> cases has <;> simp [BT.ents, or_comm]
theorem ents_node (row : ByteArray) (len : Nat) (has : Bool) (val : Int) (x y : T) (e : Ent) : e ∈ (BT.node len oo ⟨row, has, val⟩ x y).ents ↔ (has = true ∧ e = ⟨row, len, val⟩) ∨ e ∈ x.ents ∨ e ∈ y.ents := by
  cases has <;> simp [BT.ents]
/-- Keys that begin alike are one. -/
def Uniq (C : ByteArray → Nat → Prop) : Prop := ∀ a b n, C a n → C b n → (∀ i, i < n → bt a i = bt b i) → a = b
theorem mem_set {C : ByteArray → Nat → Prop} (hU : Uniq C) {k : ByteArray} {n : Nat} (v : Int) (hC : C k n) (e : Ent) : ∀ (t : T), t.WF C → (e ∈ (t.set k n v).ents ↔ e = ⟨k, n, v⟩ ∨ (e ∈ t.ents ∧ ¬ (e.row = k ∧ e.len = n)))
  | .nil, _ => by simp [BT.set, BT.ents]
  | .node len oo ⟨row, has, val⟩ l r, ⟨s1, z1, c1, al, ar, wl, wr⟩ => by
    have hc1 := com_le row k (min len n)
    have hc2 := com_agree row k (min len n)
    have hc3 := com_diff row k (min len n)
    -- none of the kids' keys is shorter than the node's
    have longer : ∀ e ∈ l.ents ++ r.ents, len < e.len := by
      intro e he
      rcases List.mem_append.1 he with h | h
      · exact (BT.All.ent l al e h).1
      · exact (BT.All.ent r ar e h).1
    have agr : ∀ e ∈ l.ents ++ r.ents, ∀ i, i < len → bt row i = bt e.row i := by
      intro e he
      rcases List.mem_append.1 he with h | h
      · exact (BT.All.ent l al e h).2.1
      · exact (BT.All.ent r ar e h).2.1
    unfold BT.set
    generalize com row k (min len n) = m at *
    split
    · rename_i lt
      -- nothing of this tree is the key
      have none : ∀ e ∈ (BT.node len oo ⟨row, has, val⟩ l r).ents, ¬ (e.row = k ∧ e.len = n) := by
        intro e he ⟨h1, h2⟩
        have hm : ∀ i, i < len → bt row i = bt e.row i := by
          rcases (ents_node _ _ _ _ _ _ _).1 he with ⟨_, rfl⟩ | h
          · intro _ _; rfl
          · exact agr e (List.mem_append.2 h)
        have hl : len ≤ e.len := by
          rcases (ents_node _ _ _ _ _ _ _).1 he with ⟨_, rfl⟩ | h
          · exact Nat.le_refl _
          · exact Nat.le_of_lt (longer e (List.mem_append.2 h))
        rw [h1] at hm
        exact hc3 (by omega) (hm m lt)
      split
      · rename_i em
        rw [ents_mk2]
        constructor
        · rintro (⟨_, rfl⟩ | h | h)
          · exact Or.inl rfl
          · exact Or.inr ⟨h, none e h⟩
          · simp [BT.ents] at h
        · rintro (rfl | ⟨h, _⟩)
          · exact Or.inl ⟨rfl, rfl⟩
          · exact Or.inr (Or.inl h)
      · rw [ents_mk2]
        constructor
        · rintro (⟨h, _⟩ | h | h)
          · cases h
          · exact Or.inr ⟨h, none e h⟩
          · simp [BT.ents] at h; exact Or.inl h
        · rintro (rfl | ⟨h, _⟩)
          · exact Or.inr (Or.inr (by simp [BT.ents]))
          · exact Or.inr (Or.inl h)
    · rename_i nl
      have em : m = len := by omega
      subst em
      split
      · rename_i em
        subst em
        rw [ents_node, ents_node]
        constructor
        · rintro (⟨_, rfl⟩ | h)
          · exact Or.inl rfl
          · refine Or.inr ⟨Or.inr h, fun ⟨_, g⟩ => ?_⟩
            have := longer e (List.mem_append.2 h); omega
        · rintro (rfl | ⟨⟨h, rfl⟩ | h, g⟩)
          · exact Or.inl ⟨rfl, rfl⟩
          · exact absurd ⟨hU _ _ _ (c1 h) hC hc2, rfl⟩ g
          · exact Or.inr h
      · rename_i ne
        have hlt : m < n := by omega
        split
        · rename_i b0
          rw [ents_node, ents_node, mem_set hU v hC e l wl]
          constructor
          · rintro (⟨h, rfl⟩ | (rfl | ⟨h, g⟩) | h)
            · exact Or.inr ⟨Or.inl ⟨h, rfl⟩, fun ⟨_, g⟩ => ne g⟩
            · exact Or.inl rfl
            · exact Or.inr ⟨Or.inr (Or.inl h), g⟩
            · refine Or.inr ⟨Or.inr (Or.inr h), fun ⟨g, _⟩ => ?_⟩
              have := (BT.All.ent r ar e h).2.2
              rw [g] at this; omega
          · rintro (rfl | ⟨⟨h, rfl⟩ | h | h, g⟩)
            · exact Or.inr (Or.inl (Or.inl rfl))
            · exact Or.inl ⟨h, rfl⟩
            · exact Or.inr (Or.inl (Or.inr ⟨h, g⟩))
            · exact Or.inr (Or.inr h)
        · rename_i b0
          rw [ents_node, ents_node, mem_set hU v hC e r wr]
          constructor
          · rintro (⟨h, rfl⟩ | h | (rfl | ⟨h, g⟩))
            · exact Or.inr ⟨Or.inl ⟨h, rfl⟩, fun ⟨_, g⟩ => ne g⟩
            · refine Or.inr ⟨Or.inr (Or.inl h), fun ⟨g, _⟩ => ?_⟩
              have := (BT.All.ent l al e h).2.2
              rw [g] at this; omega
            · exact Or.inl rfl
            · exact Or.inr ⟨Or.inr (Or.inr h), g⟩
          · rintro (rfl | ⟨⟨h, rfl⟩ | h | h, g⟩)
            · exact Or.inr (Or.inr (Or.inl rfl))
            · exact Or.inl ⟨h, rfl⟩
            · exact Or.inr (Or.inl h)
            · exact Or.inr (Or.inr (Or.inr ⟨h, g⟩))

/-- Does the key of a value cover the key of n bits? -/
def Cov (e : Ent) (k : ByteArray) (n : Nat) : Prop := e.len ≤ n ∧ ∀ i, i < e.len → bt e.row i = bt k i
end Go.Proofs.YtjjhimdjhfdmiaaDoor
namespace Go.Deep
open Go.Proofs.YtjjhimdjhfdmiaaDoor
/-- The lowest value whose key another one begins with. -/
def BT.mt (k : ByteArray) (n : Nat) : T → Option Ent → Option Ent
  | .nil, best => best
  | .node len _ ⟨row, has, val⟩ l r, best => if com row k (min len n) = len then (if bt k len = 0 then l.mt k n (if has then some ⟨row, len, val⟩ else best) else r.mt k n (if has then some ⟨row, len, val⟩ else best)) else best
end Go.Deep
namespace Go.Proofs.YtjjhimdjhfdmiaaDoor
open Go.Deep (BT)
variable {oo : Nat}
theorem mt_spec {C : ByteArray → Nat → Prop} (k : ByteArray) (n : Nat) : ∀ (t : T) (best : Option Ent), t.WF C →
    (∃ e, e ∈ t.ents ∧ t.mt k n best = some e ∧ Cov e k n ∧ ∀ e', e' ∈ t.ents → Cov e' k n → e'.len ≤ e.len) ∨ (t.mt k n best = best ∧ ∀ e', e' ∈ t.ents → ¬ Cov e' k n)
  | .nil, best, _ => Or.inr ⟨rfl, fun e' h => by simp [BT.ents] at h⟩
  | .node len _ ⟨row, has, val⟩ l r, best, ⟨s1, z1, c1, al, ar, wl, wr⟩ => by
    have hc1 := com_le row k (min len n)
    have hc2 := com_agree row k (min len n)
    have hc3 := com_diff row k (min len n)
    unfold BT.mt
    generalize com row k (min len n) = m at *
    have noL : bt k len ≠ 0 → ∀ e', e' ∈ l.ents → ¬ Cov e' k n := fun h e' he ⟨_, c⟩ => by
      have x := BT.All.ent l al e' he
      exact h ((c _ x.1).symm.trans x.2.2)
    have noR : bt k len = 0 → ∀ e', e' ∈ r.ents → ¬ Cov e' k n := fun h e' he ⟨_, c⟩ => by
      have x := BT.All.ent r ar e' he
      have := (c _ x.1).symm.trans x.2.2
      omega
    by_cases hm : m = len
    · rw [if_pos hm]
      subst hm
      -- what the kid gives, whichever it is
      have fin : ∀ (x y : T) (res : Option Ent), (∀ e', e' ∈ y.ents → ¬ Cov e' k n) →
          ((∃ e, e ∈ x.ents ∧ res = some e ∧ Cov e k n ∧ ∀ e', e' ∈ x.ents → Cov e' k n → e'.len ≤ e.len) ∨ (res = (if has then some ⟨row, m, val⟩ else best) ∧ ∀ e', e' ∈ x.ents → ¬ Cov e' k n)) →
          (∀ e', e' ∈ x.ents → m < e'.len) → 
          (∃ e, ((has = true ∧ e = ⟨row, m, val⟩) ∨ e ∈ x.ents ∨ e ∈ y.ents) ∧ res = some e ∧ Cov e k n ∧ ∀ e', ((has = true ∧ e' = ⟨row, m, val⟩) ∨ e' ∈ x.ents ∨ e' ∈ y.ents) → Cov e' k n → e'.len ≤ e.len) ∨
          (res = best ∧ ∀ e', ((has = true ∧ e' = ⟨row, m, val⟩) ∨ e' ∈ x.ents ∨ e' ∈ y.ents) → ¬ Cov e' k n) := by
        intro x y res hy h hx
        rcases h with ⟨e, h1, h2, h3, h4⟩ | ⟨h1, h2⟩
        · refine Or.inl ⟨e, Or.inr (Or.inl h1), h2, h3, ?_⟩
          rintro e' (⟨_, rfl⟩ | g | g) c
          · exact Nat.le_of_lt (hx e h1)
          · exact h4 e' g c
          · exact absurd c (hy e' g)
        · cases has
          · refine Or.inr ⟨by simpa using h1, ?_⟩
            rintro e' (⟨g, _⟩ | g | g)
            · cases g
            · exact h2 e' g
            · exact hy e' g
          · refine Or.inl ⟨⟨row, m, val⟩, Or.inl ⟨rfl, rfl⟩, by simpa using h1, ⟨by show m ≤ n; omega, fun i hi => hc2 i hi⟩, ?_⟩
            rintro e' (⟨_, rfl⟩ | g | g) c
            · exact Nat.le_refl _
            · exact absurd c (h2 e' g)
            · exact absurd c (hy e' g)
      split
      · rename_i b0
        have := fin l r _ (noR b0) (mt_spec k n l _ wl) (fun e' h => (BT.All.ent l al e' h).1)
        simpa only [ents_node] using this
      · rename_i b0
        have := fin r l _ (noL b0) (mt_spec k n r _ wr) (fun e' h => (BT.All.ent r ar e' h).1)
        simp only [ents_node]
        rcases this with ⟨e, h1, h2, h3, h4⟩ | ⟨h1, h2⟩
        · exact Or.inl ⟨e, by rcases h1 with h | h | h <;> simp [h], h2, h3, fun e' h => h4 e' (by rcases h with h | h | h <;> simp [h])⟩
        · exact Or.inr ⟨h1, fun e' h => h2 e' (by rcases h with h | h | h <;> simp [h])⟩
    · rw [if_neg hm]
      refine Or.inr ⟨rfl, fun e' h ⟨c1, c2⟩ => ?_⟩
      have hd := hc3
      rw [ents_node] at h
      have q : len ≤ e'.len ∧ ∀ i, i < len → bt row i = bt e'.row i := by
        rcases h with ⟨_, rfl⟩ | h | h
        · exact ⟨Nat.le_refl _, fun _ _ => rfl⟩
        · exact ⟨Nat.le_of_lt (BT.All.ent l al e' h).1, (BT.All.ent l al e' h).2.1⟩
        · exact ⟨Nat.le_of_lt (BT.All.ent r ar e' h).1, (BT.All.ent r ar e' h).2.1⟩
      exact hd (by omega) ((q.2 m (by omega)).trans (c2 m (by omega)))
end Go.Proofs.YtjjhimdjhfdmiaaDoor
