/-
  NlriKnown answers true.
-/
import Derived.Test.YtfhbgpepkplbaaaGreatDoorKE
import Derived.Deep.RegionHeld3
namespace Go.Proofs.YtfhbgpepkplbaaaGreatDoor
open Go.RowKit
/-- What holds of the worlds of a region. -/
def Held (S : World → Prop) (w : World) : Prop := S w
set_option maxRecDepth 100000 in
set_option maxHeartbeats 16000000 in
theorem known_walk (w : World) (h : Tabs w) (hd : Deb w) : Calls Tryz.prog 6 #[] w fun e w' => e = .returned (.bool true) ∧ Below w.heap.size w w' := by
  have HT : Hid (∀ W, Below w.heap.size w W → Tabs W ∧ Deb W) := fun W hb => ⟨h.below hb, hd.below hb⟩
  have HO_ka_0_0 : Hid (∀ W, Below w.heap.size w W → Calls Tryz.prog 22 #[.string ⟨#[118, 52, 32, 49, 48, 46, 49, 46, 48, 46, 48, 47, 49, 54]⟩, .int .u32 0, .int .u32 0] W fun e w2 => e = .returned (.agg #[.int .i64 1, .int .u64 0, .string ⟨#[10, 1, 0, 0]⟩, .int .i64 16, .int .u32 0, .int .u32 0]) ∧ Below W.heap.size W w2) := fun W hb => of_g ⟨#[118, 52, 32, 49, 48, 46, 49, 46, 48, 46, 48, 47, 49, 54]⟩ ⟨#[10, 1, 0, 0]⟩ 1 0 16 0 0 (fun W2 h2 => parse_ka W2 h2) W (HT.out W hb).1
  have HO_ka_5_0 : Hid (∀ W, Below w.heap.size w W → Calls Tryz.prog 22 #[.string ⟨#[118, 52, 32, 49, 48, 46, 49, 46, 48, 46, 48, 47, 49, 54]⟩, .int .u32 5, .int .u32 0] W fun e w2 => e = .returned (.agg #[.int .i64 1, .int .u64 0, .string ⟨#[10, 1, 0, 0]⟩, .int .i64 16, .int .u32 5, .int .u32 0]) ∧ Below W.heap.size W w2) := fun W hb => of_g ⟨#[118, 52, 32, 49, 48, 46, 49, 46, 48, 46, 48, 47, 49, 54]⟩ ⟨#[10, 1, 0, 0]⟩ 1 0 16 5 0 (fun W2 h2 => parse_ka W2 h2) W (HT.out W hb).1
  have HO_kb_0_16 : Hid (∀ W, Below w.heap.size w W → Calls Tryz.prog 22 #[.string ⟨#[108, 52, 32, 49, 48, 46, 48, 46, 48, 46, 48, 47, 55]⟩, .int .u32 0, .int .u32 16] W fun e w2 => e = .returned (.agg #[.int .i64 3, .int .u64 0, .string ⟨#[10, 0, 0, 0]⟩, .int .i64 7, .int .u32 0, .int .u32 16]) ∧ Below W.heap.size W w2) := fun W hb => of_g ⟨#[108, 52, 32, 49, 48, 46, 48, 46, 48, 46, 48, 47, 55]⟩ ⟨#[10, 0, 0, 0]⟩ 3 0 7 0 16 (fun W2 h2 => parse_kb W2 h2) W (HT.out W hb).1
  have HO_kc_0_0 : Hid (∀ W, Below w.heap.size w W → Calls Tryz.prog 22 #[.string ⟨#[118, 52, 32, 48, 46, 48, 46, 48, 46, 48, 47, 48]⟩, .int .u32 0, .int .u32 0] W fun e w2 => e = .returned (.agg #[.int .i64 1, .int .u64 0, .string ⟨#[0, 0, 0, 0]⟩, .int .i64 0, .int .u32 0, .int .u32 0]) ∧ Below W.heap.size W w2) := fun W hb => of_g ⟨#[118, 52, 32, 48, 46, 48, 46, 48, 46, 48, 47, 48]⟩ ⟨#[0, 0, 0, 0]⟩ 1 0 0 0 0 (fun W2 h2 => parse_kc W2 h2) W (HT.out W hb).1
  have HO_kd_0_0 : Hid (∀ W, Below w.heap.size w W → Calls Tryz.prog 22 #[.string ⟨#[118, 52, 32, 49, 48, 46, 48, 46, 48, 46, 48, 47, 55]⟩, .int .u32 0, .int .u32 0] W fun e w2 => e = .returned (.agg #[.int .i64 1, .int .u64 0, .string ⟨#[10, 0, 0, 0]⟩, .int .i64 7, .int .u32 0, .int .u32 0]) ∧ Below W.heap.size W w2) := fun W hb => of_g ⟨#[118, 52, 32, 49, 48, 46, 48, 46, 48, 46, 48, 47, 55]⟩ ⟨#[10, 0, 0, 0]⟩ 1 0 7 0 0 (fun W2 h2 => parse_kd W2 h2) W (HT.out W hb).1
  have HO_ke_0_0 : Hid (∀ W, Below w.heap.size w W → Calls Tryz.prog 22 #[.string ⟨#[108, 52, 32, 49, 48, 46, 48, 46, 48, 46, 48, 47, 56]⟩, .int .u32 0, .int .u32 0] W fun e w2 => e = .returned (.agg #[.int .i64 3, .int .u64 0, .string ⟨#[10, 0, 0, 0]⟩, .int .i64 8, .int .u32 0, .int .u32 0]) ∧ Below W.heap.size W w2) := fun W hb => of_g ⟨#[108, 52, 32, 49, 48, 46, 48, 46, 48, 46, 48, 47, 56]⟩ ⟨#[10, 0, 0, 0]⟩ 3 0 8 0 0 (fun W2 h2 => parse_ke W2 h2) W (HT.out W hb).1
  have HO_k6_0_0 : Hid (∀ W, Below w.heap.size w W → Calls Tryz.prog 22 #[.string ⟨#[118, 54, 32, 48, 58, 48, 58, 48, 58, 48, 58, 48, 58, 48, 58, 48, 58, 48, 47, 48]⟩, .int .u32 0, .int .u32 0] W fun e w2 => e = .returned (.agg #[.int .i64 2, .int .u64 0, .string ⟨#[0, 0, 0, 0, 0, 0, 0, 0, 0, 0, 0, 0, 0, 0, 0, 0]⟩, .int .i64 0, .int .u32 0, .int .u32 0]) ∧ Below W.heap.size W w2) := fun W hb => of_d ⟨#[118, 54, 32, 48, 58, 48, 58, 48, 58, 48, 58, 48, 58, 48, 58, 48, 58, 48, 47, 48]⟩ ⟨#[0, 0, 0, 0, 0, 0, 0, 0, 0, 0, 0, 0, 0, 0, 0, 0]⟩ 2 0 0 0 0 Deb (fun _ _ h b => h.below b) (fun W2 h2 d2 => parse_6 W2 h2 d2) W (HT.out W hb).1 (HT.out W hb).2
  have HO_ke_0_9 : Hid (∀ W, Below w.heap.size w W → Calls Tryz.prog 22 #[.string ⟨#[108, 52, 32, 49, 48, 46, 48, 46, 48, 46, 48, 47, 56]⟩, .int .u32 0, .int .u32 9] W fun e w2 => e = .returned (.agg #[.int .i64 3, .int .u64 0, .string ⟨#[10, 0, 0, 0]⟩, .int .i64 8, .int .u32 0, .int .u32 9]) ∧ Below W.heap.size W w2) := fun W hb => of_g ⟨#[108, 52, 32, 49, 48, 46, 48, 46, 48, 46, 48, 47, 56]⟩ ⟨#[10, 0, 0, 0]⟩ 3 0 8 0 9 (fun W2 h2 => parse_ke W2 h2) W (HT.out W hb).1
  have HO_kf_0_7 : Hid (∀ W, Below w.heap.size w W → Calls Tryz.prog 22 #[.string ⟨#[108, 52, 32, 57, 46, 48, 46, 48, 46, 48, 47, 56]⟩, .int .u32 0, .int .u32 7] W fun e w2 => e = .returned (.agg #[.int .i64 3, .int .u64 0, .string ⟨#[9, 0, 0, 0]⟩, .int .i64 8, .int .u32 0, .int .u32 7]) ∧ Below W.heap.size W w2) := fun W hb => of_g ⟨#[108, 52, 32, 57, 46, 48, 46, 48, 46, 48, 47, 56]⟩ ⟨#[9, 0, 0, 0]⟩ 3 0 8 0 7 (fun W2 h2 => parse_kf W2 h2) W (HT.out W hb).1
  have HO_ke_0_8 : Hid (∀ W, Below w.heap.size w W → Calls Tryz.prog 22 #[.string ⟨#[108, 52, 32, 49, 48, 46, 48, 46, 48, 46, 48, 47, 56]⟩, .int .u32 0, .int .u32 8] W fun e w2 => e = .returned (.agg #[.int .i64 3, .int .u64 0, .string ⟨#[10, 0, 0, 0]⟩, .int .i64 8, .int .u32 0, .int .u32 8]) ∧ Below W.heap.size W w2) := fun W hb => of_g ⟨#[108, 52, 32, 49, 48, 46, 48, 46, 48, 46, 48, 47, 56]⟩ ⟨#[10, 0, 0, 0]⟩ 3 0 8 0 8 (fun W2 h2 => parse_ke W2 h2) W (HT.out W hb).1
  have HO_kf_0_0 : Hid (∀ W, Below w.heap.size w W → Calls Tryz.prog 22 #[.string ⟨#[108, 52, 32, 57, 46, 48, 46, 48, 46, 48, 47, 56]⟩, .int .u32 0, .int .u32 0] W fun e w2 => e = .returned (.agg #[.int .i64 3, .int .u64 0, .string ⟨#[9, 0, 0, 0]⟩, .int .i64 8, .int .u32 0, .int .u32 0]) ∧ Below W.heap.size W w2) := fun W hb => of_g ⟨#[108, 52, 32, 57, 46, 48, 46, 48, 46, 48, 47, 56]⟩ ⟨#[9, 0, 0, 0]⟩ 3 0 8 0 0 (fun W2 h2 => parse_kf W2 h2) W (HT.out W hb).1
  have HO_kg_0_1 : Hid (∀ W, Below w.heap.size w W → Calls Tryz.prog 22 #[.string ⟨#[118, 52, 32, 49, 48, 46, 48, 46, 48, 46, 48, 47, 56]⟩, .int .u32 0, .int .u32 1] W fun e w2 => e = .returned (.agg #[.int .i64 1, .int .u64 0, .string ⟨#[10, 0, 0, 0]⟩, .int .i64 8, .int .u32 0, .int .u32 1]) ∧ Below W.heap.size W w2) := fun W hb => of_g ⟨#[118, 52, 32, 49, 48, 46, 48, 46, 48, 46, 48, 47, 56]⟩ ⟨#[10, 0, 0, 0]⟩ 1 0 8 0 1 (fun W2 h2 => parse_kg W2 h2) W (HT.out W hb).1
  have HO_ke_0_1048576 : Hid (∀ W, Below w.heap.size w W → Calls Tryz.prog 22 #[.string ⟨#[108, 52, 32, 49, 48, 46, 48, 46, 48, 46, 48, 47, 56]⟩, .int .u32 0, .int .u32 1048576] W fun e w2 => e = .returned (.agg #[.int .i64 3, .int .u64 0, .string ⟨#[10, 0, 0, 0]⟩, .int .i64 8, .int .u32 0, .int .u32 1048576]) ∧ Below W.heap.size W w2) := fun W hb => of_g ⟨#[108, 52, 32, 49, 48, 46, 48, 46, 48, 46, 48, 47, 56]⟩ ⟨#[10, 0, 0, 0]⟩ 3 0 8 0 1048576 (fun W2 h2 => parse_ke W2 h2) W (HT.out W hb).1
  have HE1 : Hid (∀ W, Below w.heap.size w W → Calls Tryz.prog 15 #[.slice (some ⟨W.heap.size, 0, none⟩) 1 1, .int .i64 1, .bool false] (W.alloc (.cells #[.int .i64 1, .int .u64 0, .string ⟨#[10, 1, 0, 0]⟩, .int .i64 16, .int .u32 0, .int .u32 0] 27)) fun e w2 => e = .returned (.tuple #[.string ⟨#[16, 10, 1]⟩, .int .i64 0]) ∧ Below W.heap.size W w2) := fun W hb => by
    have := enc_one 1 false ⟨1, 0, ⟨#[10, 1, 0, 0]⟩, 16, 0, 0⟩ W (HT.out W hb).1 (by decide) ⟨by decide, by decide, by decide, by decide, by decide, by decide, by decide⟩
    rwa [knE1] at this
  have HE2 : Hid (∀ W, Below w.heap.size w W → Calls Tryz.prog 15 #[.slice (some ⟨W.heap.size, 0, none⟩) 1 1, .int .i64 1, .bool true] (W.alloc (.cells #[.int .i64 1, .int .u64 0, .string ⟨#[10, 1, 0, 0]⟩, .int .i64 16, .int .u32 5, .int .u32 0] 27)) fun e w2 => e = .returned (.tuple #[.string ⟨#[0, 0, 0, 5, 16, 10, 1]⟩, .int .i64 0]) ∧ Below W.heap.size W w2) := fun W hb => by
    have := enc_one 1 true ⟨1, 0, ⟨#[10, 1, 0, 0]⟩, 16, 5, 0⟩ W (HT.out W hb).1 (by decide) ⟨by decide, by decide, by decide, by decide, by decide, by decide, by decide⟩
    rwa [knE2] at this
  have HE3 : Hid (∀ W, Below w.heap.size w W → Calls Tryz.prog 15 #[.slice (some ⟨W.heap.size, 0, none⟩) 1 1, .int .i64 3, .bool false] (W.alloc (.cells #[.int .i64 3, .int .u64 0, .string ⟨#[10, 0, 0, 0]⟩, .int .i64 7, .int .u32 0, .int .u32 16] 27)) fun e w2 => e = .returned (.tuple #[.string ⟨#[31, 0, 1, 1, 10]⟩, .int .i64 0]) ∧ Below W.heap.size W w2) := fun W hb => by
    have := enc_one 3 false ⟨3, 0, ⟨#[10, 0, 0, 0]⟩, 7, 0, 16⟩ W (HT.out W hb).1 (by decide) ⟨by decide, by decide, by decide, by decide, by decide, by decide, by decide⟩
    rwa [knE3] at this
  have HE4 : Hid (∀ W, Below w.heap.size w W → Calls Tryz.prog 15 #[.slice (some ⟨W.heap.size, 0, none⟩) 1 1, .int .i64 1, .bool false] (W.alloc (.cells #[.int .i64 1, .int .u64 0, .string ⟨#[10, 1, 0, 0]⟩, .int .i64 16, .int .u32 5, .int .u32 0] 27)) fun e w2 => e = .returned (.tuple #[.string ⟨#[]⟩, .int .i64 2]) ∧ Below W.heap.size W w2) := fun W hb => by
    have := enc_one 1 false ⟨1, 0, ⟨#[10, 1, 0, 0]⟩, 16, 5, 0⟩ W (HT.out W hb).1 (by decide) ⟨by decide, by decide, by decide, by decide, by decide, by decide, by decide⟩
    rwa [knE4] at this
  have HE5 : Hid (∀ W, Below w.heap.size w W → Calls Tryz.prog 15 #[.slice (some ⟨W.heap.size, 0, none⟩) 1 1, .int .i64 1, .bool false] (W.alloc (.cells #[.int .i64 2, .int .u64 0, .string ⟨#[0, 0, 0, 0, 0, 0, 0, 0, 0, 0, 0, 0, 0, 0, 0, 0]⟩, .int .i64 0, .int .u32 0, .int .u32 0] 27)) fun e w2 => e = .returned (.tuple #[.string ⟨#[]⟩, .int .i64 2]) ∧ Below W.heap.size W w2) := fun W hb => by
    have := enc_one 1 false ⟨2, 0, ⟨#[0, 0, 0, 0, 0, 0, 0, 0, 0, 0, 0, 0, 0, 0, 0, 0]⟩, 0, 0, 0⟩ W (HT.out W hb).1 (by decide) ⟨by decide, by decide, by decide, by decide, by decide, by decide, by decide⟩
    rwa [knE5] at this
  have HD1 : Hid (∀ W, Below w.heap.size w W → Calls Tryz.prog 20 #[.string ⟨#[16, 10]⟩, .int .i64 1, .bool false] W fun e w2 => e = .returned (.tuple #[.slice none 0 0, .int .i64 4]) ∧ Below W.heap.size W w2) := fun W hb => (dec_of 1 false [16, 10] _ knD1 W (HT.out W hb).1 (by decide) (by decide)).mono fun e w2 ⟨h1, h2⟩ => ⟨h2, h1⟩
  have HD2 : Hid (∀ W, Below w.heap.size w W → Calls Tryz.prog 20 #[.string ⟨#[33, 10, 0, 0, 0, 0]⟩, .int .i64 1, .bool false] W fun e w2 => e = .returned (.tuple #[.slice none 0 0, .int .i64 4]) ∧ Below W.heap.size W w2) := fun W hb => (dec_of 1 false [33, 10, 0, 0, 0, 0] _ knD2 W (HT.out W hb).1 (by decide) (by decide)).mono fun e w2 ⟨h1, h2⟩ => ⟨h2, h1⟩
  have HD3 : Hid (∀ W, Below w.heap.size w W → Calls Tryz.prog 20 #[.string ⟨#[16]⟩, .int .i64 1, .bool false] W fun e w2 => e = .returned (.tuple #[.slice none 0 0, .int .i64 4]) ∧ Below W.heap.size W w2) := fun W hb => (dec_of 1 false [16] _ knD3 W (HT.out W hb).1 (by decide) (by decide)).mono fun e w2 ⟨h1, h2⟩ => ⟨h2, h1⟩
  have HD4 : Hid (∀ W, Below w.heap.size w W → Calls Tryz.prog 20 #[.string ⟨#[16, 10, 1, 0]⟩, .int .i64 1, .bool false] W fun e w2 => (∃ b off cap, e = .returned (.tuple #[.slice (some ⟨b, off, none⟩) 2 cap, .int .i64 0]) ∧ RowN w2 b off [⟨1, 0, ⟨#[10, 1, 0, 0]⟩, 16, 0, 0⟩, ⟨1, 0, ⟨#[0, 0, 0, 0]⟩, 0, 0, 0⟩]) ∧ Below W.heap.size W w2) := fun W hb => (dec_of 1 false [16, 10, 1, 0] _ knD4 W (HT.out W hb).1 (by decide) (by decide)).mono fun e w2 ⟨h1, v, h2, h3⟩ => by
    obtain ⟨ad, b, off, cap, rfl, had, _, hrow⟩ := h3.at
    obtain rfl : ad = some ⟨b, off, none⟩ := by rcases had with h | h; exact h; exact absurd h (by decide)
    exact ⟨⟨b, off, cap, h2, hrow⟩, h1⟩
  have HD5 : Hid (∀ W, Below w.heap.size w W → Calls Tryz.prog 20 #[.string ⟨#[7, 11]⟩, .int .i64 1, .bool false] W fun e w2 => (∃ b off cap, e = .returned (.tuple #[.slice (some ⟨b, off, none⟩) 1 cap, .int .i64 0]) ∧ RowN w2 b off [⟨1, 0, ⟨#[10, 0, 0, 0]⟩, 7, 0, 0⟩]) ∧ Below W.heap.size W w2) := fun W hb => (dec_of 1 false [7, 11] _ knD5 W (HT.out W hb).1 (by decide) (by decide)).mono fun e w2 ⟨h1, v, h2, h3⟩ => by
    obtain ⟨ad, b, off, cap, rfl, had, _, hrow⟩ := h3.at
    obtain rfl : ad = some ⟨b, off, none⟩ := by rcases had with h | h; exact h; exact absurd h (by decide)
    exact ⟨⟨b, off, cap, h2, hrow⟩, h1⟩
  have HD6 : Hid (∀ W, Below w.heap.size w W → Calls Tryz.prog 20 #[.string ⟨#[32, 128, 0, 0, 10]⟩, .int .i64 3, .bool false] W fun e w2 => (∃ b off cap, e = .returned (.tuple #[.slice (some ⟨b, off, none⟩) 1 cap, .int .i64 0]) ∧ RowN w2 b off [⟨3, 0, ⟨#[10, 0, 0, 0]⟩, 8, 0, 0⟩]) ∧ Below W.heap.size W w2) := fun W hb => (dec_of 3 false [32, 128, 0, 0, 10] _ knD6 W (HT.out W hb).1 (by decide) (by decide)).mono fun e w2 ⟨h1, v, h2, h3⟩ => by
    obtain ⟨ad, b, off, cap, rfl, had, _, hrow⟩ := h3.at
    obtain rfl : ad = some ⟨b, off, none⟩ := by rcases had with h | h; exact h; exact absurd h (by decide)
    exact ⟨⟨b, off, cap, h2, hrow⟩, h1⟩
  have HD7 : Hid (∀ W, Below w.heap.size w W → Calls Tryz.prog 20 #[.string ⟨#[32, 0, 1, 0, 10]⟩, .int .i64 3, .bool false] W fun e w2 => e = .returned (.tuple #[.slice none 0 0, .int .i64 4]) ∧ Below W.heap.size W w2) := fun W hb => (dec_of 3 false [32, 0, 1, 0, 10] _ knD7 W (HT.out W hb).1 (by decide) (by decide)).mono fun e w2 ⟨h1, h2⟩ => ⟨h2, h1⟩
  have HD8 : Hid (∀ W, Below w.heap.size w W → Calls Tryz.prog 20 #[.string ⟨#[23, 0, 1, 1]⟩, .int .i64 3, .bool false] W fun e w2 => e = .returned (.tuple #[.slice none 0 0, .int .i64 4]) ∧ Below W.heap.size W w2) := fun W hb => (dec_of 3 false [23, 0, 1, 1] _ knD8 W (HT.out W hb).1 (by decide) (by decide)).mono fun e w2 ⟨h1, h2⟩ => ⟨h2, h1⟩
  have HD9 : Hid (∀ W, Below w.heap.size w W → Calls Tryz.prog 20 #[.string ⟨#[]⟩, .int .i64 1, .bool true] W fun e w2 => (∃ ad cap, e = .returned (.tuple #[.slice ad 0 cap, .int .i64 0])) ∧ Below W.heap.size W w2) := fun W hb => (dec_of 1 true [] _ knD9 W (HT.out W hb).1 (by decide) (by decide)).mono fun e w2 ⟨h1, v, h2, h3⟩ => by
    obtain ⟨ad, b, off, cap, rfl, _⟩ := h3.at
    exact ⟨⟨ad, cap, h2⟩, h1⟩
  have HX1 : Hid (∀ W, Below w.heap.size w W → Calls Tryz.prog 20 #[.string ⟨#[]⟩, .int .i64 0, .bool false] W fun e w2 => e = .returned (.tuple #[.slice none 0 0, .int .i64 2]) ∧ w2 = W) := fun W hb => decode_arg 0 false ⟨#[]⟩ W (HT.out W hb).1.sizes (by decide)
  have HX2 : Hid (∀ W, Below w.heap.size w W → Calls Tryz.prog 15 #[.slice none 0 0, .int .i64 6, .bool false] W fun e w2 => e = .returned (.tuple #[.string ⟨#[]⟩, .int .i64 2]) ∧ w2 = W) := fun W hb => encode_arg 6 false _ W (HT.out W hb).1.sizes (by decide)
  have HWD : Hid (∀ W, Below w.heap.size w W → Calls Tryz.prog 18 #[.slice (some ⟨W.heap.size, 0, none⟩) 3 3] (W.alloc (.cells #[.int .i64 3, .int .u64 0, .string ⟨#[10, 0, 0, 0]⟩, .int .i64 8, .int .u32 0, .int .u32 9, .int .i64 3, .int .u64 0, .string ⟨#[9, 0, 0, 0]⟩, .int .i64 8, .int .u32 0, .int .u32 7, .int .i64 3, .int .u64 0, .string ⟨#[10, 0, 0, 0]⟩, .int .i64 8, .int .u32 0, .int .u32 8] 27)) fun e w2 => (∃ b off cap, e = .returned (.slice (some ⟨b, off, none⟩) 2 cap) ∧ RowN w2 b off [⟨3, 0, ⟨#[9, 0, 0, 0]⟩, 8, 0, 0⟩, ⟨3, 0, ⟨#[10, 0, 0, 0]⟩, 8, 0, 0⟩]) ∧ Below W.heap.size W w2) := fun W hb => by
    have hb2 : Below W.heap.size W (W.alloc (.cells #[.int .i64 3, .int .u64 0, .string ⟨#[10, 0, 0, 0]⟩, .int .i64 8, .int .u32 0, .int .u32 9, .int .i64 3, .int .u64 0, .string ⟨#[9, 0, 0, 0]⟩, .int .i64 8, .int .u32 0, .int .u32 7, .int .i64 3, .int .u64 0, .string ⟨#[10, 0, 0, 0]⟩, .int .i64 8, .int .u32 0, .int .u32 8] 27)) := (Below.refl _ _).alloc (Nat.le_refl _) _
    refine (withdrawn_any _ _ _ (row3 W ⟨3, 0, ⟨#[10, 0, 0, 0]⟩, 8, 0, 9⟩ ⟨3, 0, ⟨#[9, 0, 0, 0]⟩, 8, 0, 7⟩ ⟨3, 0, ⟨#[10, 0, 0, 0]⟩, 8, 0, 8⟩) (by decide)).mono fun e w2 ⟨u, he, hn, hb3⟩ => ?_
    rw [knG] at hn
    obtain ⟨ad, b, off, cap, rfl, had, _, hrow⟩ := hn
    obtain rfl : ad = some ⟨b, off, none⟩ := by rcases had with h | h; exact h; exact absurd h (by decide)
    exact ⟨⟨b, off, cap, he, hrow⟩, hb2.trans (hb3.mono (by simp))⟩
  have HC1 : Hid (∀ W, Below w.heap.size w W → Calls Tryz.prog 9 #[.agg #[.int .i64 1, .int .u64 0, .string ⟨#[10, 0, 0, 0]⟩, .int .i64 8, .int .u32 0, .int .u32 1]] W fun e w2 => e = .returned (.int .i64 2) ∧ Below W.heap.size W w2) := fun W hb => by
    have := ncheck_any 1 0 ⟨#[10, 0, 0, 0]⟩ 8 0 1 W (HT.out W hb).1.sizes (HT.out W hb).1.rds
    rwa [knC1] at this
  have HC2 : Hid (∀ W, Below w.heap.size w W → Calls Tryz.prog 9 #[.agg #[.int .i64 3, .int .u64 0, .string ⟨#[10, 0, 0, 0]⟩, .int .i64 8, .int .u32 0, .int .u32 1048576]] W fun e w2 => e = .returned (.int .i64 2) ∧ Below W.heap.size W w2) := fun W hb => by
    have := ncheck_any 3 0 ⟨#[10, 0, 0, 0]⟩ 8 0 1048576 W (HT.out W hb).1.sizes (HT.out W hb).1.rds
    rwa [knC2] at this
  have HWK : Hid (∀ W, Below w.heap.size w W → Calls Tryz.prog 13 #[] W fun e w2 => e = .returned (.bool true) ∧ Below W.heap.size W w2) := fun W hb => works_any W (HT.out W hb).1
  clear h hd HT
  go_enter Tryz.func6, Tryz.ntmps6
  go_wp2_with fail
  refine Calls.mono (HO_ka_0_0.out _ (Below.refl _ _)) ?_
  rintro e w1 ⟨rfl, hb⟩
  have HB1 : Hid (Below w.heap.size w w1) := Below.trans (Below.refl _ _) (hb.mono (Nat.le_refl _))
  clear hb
  go_wp2_with fail
  refine Calls.mono (HE1.out _ HB1.out) ?_
  rintro e w2 ⟨rfl, hb⟩
  have HB2 : Hid (Below w.heap.size w w2) := Below.trans HB1.out (hb.mono HB1.out.size)
  clear hb HB1
  go_wp2_with fail
  refine Calls.mono (HO_ka_5_0.out _ HB2.out) ?_
  rintro e w3 ⟨rfl, hb⟩
  have HB3 : Hid (Below w.heap.size w w3) := Below.trans HB2.out (hb.mono HB2.out.size)
  clear hb HB2
  go_wp2_with fail
  refine Calls.mono (HE2.out _ HB3.out) ?_
  rintro e w4 ⟨rfl, hb⟩
  have HB4 : Hid (Below w.heap.size w w4) := Below.trans HB3.out (hb.mono HB3.out.size)
  clear hb HB3
  go_wp2_with fail
  refine Calls.mono (HO_kb_0_16.out _ HB4.out) ?_
  rintro e w5 ⟨rfl, hb⟩
  have HB5 : Hid (Below w.heap.size w w5) := Below.trans HB4.out (hb.mono HB4.out.size)
  clear hb HB4
  go_wp2_with fail
  refine Calls.mono (HE3.out _ HB5.out) ?_
  rintro e w6 ⟨rfl, hb⟩
  have HB6 : Hid (Below w.heap.size w w6) := Below.trans HB5.out (hb.mono HB5.out.size)
  clear hb HB5
  go_wp2_with fail
  refine with_world (fun wx => Below w.heap.size w wx ∧ wx.cell? ⟨w6.heap.size, 0, none⟩ = some (.string ⟨#[16, 10]⟩) ∧ wx.cell? ⟨w6.heap.size, 1, none⟩ = some (.string ⟨#[33, 10, 0, 0, 0, 0]⟩) ∧ wx.cell? ⟨w6.heap.size, 2, none⟩ = some (.string ⟨#[16]⟩)) ?_ ?_
  · exact ⟨HB6.out.alloc HB6.out.size _, by simp, by simp, by simp⟩
  rintro w7 ⟨hb, k0, k1, k2⟩
  have HB7 : Hid (Below w.heap.size w w7) := hb
  generalize w6.heap.size = q at *
  clear hb HB6
  refine wp_loop_rounds 4 ?_
  rw [rounds_succ]
  go_wp2_with fail
  refine Calls.mono (HD1.out _ HB7.out) ?_
  rintro e w8 ⟨rfl, hb⟩
  have HB8 : Hid (Below w.heap.size w w8) := Below.trans HB7.out (hb.mono HB7.out.size)
  replace k1 : w8.cell? ⟨q, 1, none⟩ = some (.string ⟨#[33, 10, 0, 0, 0, 0]⟩) := (hb.cell (p := ⟨q, 1, none⟩) (World.block_lt_of_cell? _ _ k1)).trans k1
  replace k2 : w8.cell? ⟨q, 2, none⟩ = some (.string ⟨#[16]⟩) := (hb.cell (p := ⟨q, 2, none⟩) (World.block_lt_of_cell? _ _ k2)).trans k2
  clear hb HB7
  go_wp2_with fail
  rw [rounds_succ]
  go_wp2_with fail
  refine Calls.mono (HD2.out _ HB8.out) ?_
  rintro e w9 ⟨rfl, hb⟩
  have HB9 : Hid (Below w.heap.size w w9) := Below.trans HB8.out (hb.mono HB8.out.size)
  replace k2 : w9.cell? ⟨q, 2, none⟩ = some (.string ⟨#[16]⟩) := (hb.cell (p := ⟨q, 2, none⟩) (World.block_lt_of_cell? _ _ k2)).trans k2
  clear hb HB8
  go_wp2_with fail
  rw [rounds_succ]
  go_wp2_with fail
  refine Calls.mono (HD3.out _ HB9.out) ?_
  rintro e w10 ⟨rfl, hb⟩
  have HB10 : Hid (Below w.heap.size w w10) := Below.trans HB9.out (hb.mono HB9.out.size)
  clear hb HB9
  go_wp2_with fail
  rw [rounds_succ]
  go_wp2_with fail
  refine Calls.mono (HD4.out _ HB10.out) ?_
  rintro e w11 ⟨⟨bl, ol, cl, rfl, hrow⟩, hb⟩
  have HB11 : Hid (Below w.heap.size w w11) := Below.trans HB10.out (hb.mono HB10.out.size)
  have HRl11 : Hid (RowN w11 bl ol [⟨1, 0, ⟨#[10, 1, 0, 0]⟩, 16, 0, 0⟩, ⟨1, 0, ⟨#[0, 0, 0, 0]⟩, 0, 0, 0⟩]) := hrow
  clear hb hrow HB10
  go_wp2_with fail
  refine Calls.mono (HD5.out _ HB11.out) ?_
  rintro e w12 ⟨⟨bm, om, cm, rfl, hrow⟩, hb⟩
  have HB12 : Hid (Below w.heap.size w w12) := Below.trans HB11.out (hb.mono HB11.out.size)
  have HRl12 : Hid (RowN w12 bl ol [⟨1, 0, ⟨#[10, 1, 0, 0]⟩, 16, 0, 0⟩, ⟨1, 0, ⟨#[0, 0, 0, 0]⟩, 0, 0, 0⟩]) := RowN.below HRl11.out hb
  have HRm12 : Hid (RowN w12 bm om [⟨1, 0, ⟨#[10, 0, 0, 0]⟩, 7, 0, 0⟩]) := hrow
  clear hb hrow HB11 HRl11
  go_wp2_with fail
  refine Calls.mono (HD6.out _ HB12.out) ?_
  rintro e w13 ⟨⟨bn, on, cn, rfl, hrow⟩, hb⟩
  have HB13 : Hid (Below w.heap.size w w13) := Below.trans HB12.out (hb.mono HB12.out.size)
  have HRl13 : Hid (RowN w13 bl ol [⟨1, 0, ⟨#[10, 1, 0, 0]⟩, 16, 0, 0⟩, ⟨1, 0, ⟨#[0, 0, 0, 0]⟩, 0, 0, 0⟩]) := RowN.below HRl12.out hb
  have HRm13 : Hid (RowN w13 bm om [⟨1, 0, ⟨#[10, 0, 0, 0]⟩, 7, 0, 0⟩]) := RowN.below HRm12.out hb
  have HRn13 : Hid (RowN w13 bn on [⟨3, 0, ⟨#[10, 0, 0, 0]⟩, 8, 0, 0⟩]) := hrow
  clear hb hrow HB12 HRl12 HRm12
  go_wp2_with fail
  refine Calls.mono (HD7.out _ HB13.out) ?_
  rintro e w14 ⟨rfl, hb⟩
  have HB14 : Hid (Below w.heap.size w w14) := Below.trans HB13.out (hb.mono HB13.out.size)
  have HRl14 : Hid (RowN w14 bl ol [⟨1, 0, ⟨#[10, 1, 0, 0]⟩, 16, 0, 0⟩, ⟨1, 0, ⟨#[0, 0, 0, 0]⟩, 0, 0, 0⟩]) := RowN.below HRl13.out hb
  have HRm14 : Hid (RowN w14 bm om [⟨1, 0, ⟨#[10, 0, 0, 0]⟩, 7, 0, 0⟩]) := RowN.below HRm13.out hb
  have HRn14 : Hid (RowN w14 bn on [⟨3, 0, ⟨#[10, 0, 0, 0]⟩, 8, 0, 0⟩]) := RowN.below HRn13.out hb
  clear hb HB13 HRl13 HRm13 HRn13
  go_wp2_with fail
  refine Calls.mono (HD8.out _ HB14.out) ?_
  rintro e w15 ⟨rfl, hb⟩
  have HB15 : Hid (Below w.heap.size w w15) := Below.trans HB14.out (hb.mono HB14.out.size)
  have HRl15 : Hid (RowN w15 bl ol [⟨1, 0, ⟨#[10, 1, 0, 0]⟩, 16, 0, 0⟩, ⟨1, 0, ⟨#[0, 0, 0, 0]⟩, 0, 0, 0⟩]) := RowN.below HRl14.out hb
  have HRm15 : Hid (RowN w15 bm om [⟨1, 0, ⟨#[10, 0, 0, 0]⟩, 7, 0, 0⟩]) := RowN.below HRm14.out hb
  have HRn15 : Hid (RowN w15 bn on [⟨3, 0, ⟨#[10, 0, 0, 0]⟩, 8, 0, 0⟩]) := RowN.below HRn14.out hb
  clear hb HB14 HRl14 HRm14 HRn14
  go_wp2_with fail
  obtain ⟨Sa, hS⟩ : ∃ S : World → Prop, S = fun wx => Below w15.heap.size w15 wx := ⟨_, rfl⟩
  have hs0 : Held Sa w15.drew := by unfold Held; rw [hS]; exact (Below.refl _ _).drew
  have HZa : Hid (∀ w', Held Sa w' → Below w.heap.size w w') := fun w' h => by unfold Held at h; rw [hS] at h; exact Below.trans HB15.out (h.mono HB15.out.size)
  have HKa : Hid (∀ w' w2, Held Sa w' → Below w'.heap.size w' w2 → Held Sa w2) := fun w' w2 h hb => by unfold Held at *; rw [hS] at *; exact h.trans (hb.mono h.size)
  have HAL : Hid (∀ w', Held Sa w' → Held Sa w'.drew) := fun w' h => by unfold Held at *; rw [hS] at *; exact h.drew
  have HCC : Hid (∀ w', Held Sa w' → ∀ a v, w15.cell? a = some v → w'.cell? a = some v) := fun w' h a v e => by unfold Held at h; rw [hS] at h; exact (h.cell (World.block_lt_of_cell? _ _ e)).trans e
  obtain ⟨x0, x1, x2, x3, x4, x5⟩ := HRl15.out 1 (by decide)
  have yl6 : ∀ w', Held Sa w' → w'.cell? ⟨bl, ol + 6, none⟩ = some (.int .i64 1) := fun w' h => HCC.out w' h _ _ (by simpa using x0)
  have yl7 : ∀ w', Held Sa w' → w'.cell? ⟨bl, ol + 7, none⟩ = some (.int .u64 0) := fun w' h => HCC.out w' h _ _ (by simpa using x1)
  have yl8 : ∀ w', Held Sa w' → w'.cell? ⟨bl, ol + 8, none⟩ = some (.string ⟨#[0, 0, 0, 0]⟩) := fun w' h => HCC.out w' h _ _ (by simpa using x2)
  have yl9 : ∀ w', Held Sa w' → w'.cell? ⟨bl, ol + 9, none⟩ = some (.int .i64 0) := fun w' h => HCC.out w' h _ _ (by simpa using x3)
  have yl10 : ∀ w', Held Sa w' → w'.cell? ⟨bl, ol + 10, none⟩ = some (.int .u32 0) := fun w' h => HCC.out w' h _ _ (by simpa using x4)
  have yl11 : ∀ w', Held Sa w' → w'.cell? ⟨bl, ol + 11, none⟩ = some (.int .u32 0) := fun w' h => HCC.out w' h _ _ (by simpa using x5)
  clear x0 x1 x2 x3 x4 x5
  obtain ⟨x0, x1, x2, x3, x4, x5⟩ := HRm15.out 0 (by decide)
  have ym0 : ∀ w', Held Sa w' → w'.cell? ⟨bm, om, none⟩ = some (.int .i64 1) := fun w' h => HCC.out w' h _ _ (by simpa using x0)
  have ym1 : ∀ w', Held Sa w' → w'.cell? ⟨bm, om + 1, none⟩ = some (.int .u64 0) := fun w' h => HCC.out w' h _ _ (by simpa using x1)
  have ym2 : ∀ w', Held Sa w' → w'.cell? ⟨bm, om + 2, none⟩ = some (.string ⟨#[10, 0, 0, 0]⟩) := fun w' h => HCC.out w' h _ _ (by simpa using x2)
  have ym3 : ∀ w', Held Sa w' → w'.cell? ⟨bm, om + 3, none⟩ = some (.int .i64 7) := fun w' h => HCC.out w' h _ _ (by simpa using x3)
  have ym4 : ∀ w', Held Sa w' → w'.cell? ⟨bm, om + 4, none⟩ = some (.int .u32 0) := fun w' h => HCC.out w' h _ _ (by simpa using x4)
  have ym5 : ∀ w', Held Sa w' → w'.cell? ⟨bm, om + 5, none⟩ = some (.int .u32 0) := fun w' h => HCC.out w' h _ _ (by simpa using x5)
  clear x0 x1 x2 x3 x4 x5
  obtain ⟨x0, x1, x2, x3, x4, x5⟩ := HRn15.out 0 (by decide)
  have yn0 : ∀ w', Held Sa w' → w'.cell? ⟨bn, on, none⟩ = some (.int .i64 3) := fun w' h => HCC.out w' h _ _ (by simpa using x0)
  have yn1 : ∀ w', Held Sa w' → w'.cell? ⟨bn, on + 1, none⟩ = some (.int .u64 0) := fun w' h => HCC.out w' h _ _ (by simpa using x1)
  have yn2 : ∀ w', Held Sa w' → w'.cell? ⟨bn, on + 2, none⟩ = some (.string ⟨#[10, 0, 0, 0]⟩) := fun w' h => HCC.out w' h _ _ (by simpa using x2)
  have yn3 : ∀ w', Held Sa w' → w'.cell? ⟨bn, on + 3, none⟩ = some (.int .i64 8) := fun w' h => HCC.out w' h _ _ (by simpa using x3)
  have yn4 : ∀ w', Held Sa w' → w'.cell? ⟨bn, on + 4, none⟩ = some (.int .u32 0) := fun w' h => HCC.out w' h _ _ (by simpa using x4)
  have yn5 : ∀ w', Held Sa w' → w'.cell? ⟨bn, on + 5, none⟩ = some (.int .u32 0) := fun w' h => HCC.out w' h _ _ (by simpa using x5)
  clear x0 x1 x2 x3 x4 x5
  clear hS HCC HRl15 HRm15 HRn15
  go_region_held3 (fun w' => Held Sa w') (first | (with_reducible assumption) | (refine HAL.out _ ?_; with_reducible assumption))
    (first
      | (go_at_call 22; with_reducible refine Calls.mono (HO_kc_0_0.out _ (HZa.out _ (by with_reducible assumption))) ?_; rintro e wa ⟨rfl, sA0⟩; have sA := HKa.out _ _ (by with_reducible assumption) sA0; clear sA0)
      | (go_at_call 22; with_reducible refine Calls.mono (HO_kd_0_0.out _ (HZa.out _ (by with_reducible assumption))) ?_; rintro e wa ⟨rfl, sA0⟩; have sA := HKa.out _ _ (by with_reducible assumption) sA0; clear sA0)
      | (go_at_call 22; with_reducible refine Calls.mono (HO_ke_0_0.out _ (HZa.out _ (by with_reducible assumption))) ?_; rintro e wa ⟨rfl, sA0⟩; have sA := HKa.out _ _ (by with_reducible assumption) sA0; clear sA0))
  have HB16 : Hid (Below w.heap.size w wa) := HZa.out _ (by with_reducible assumption)
  generalize wa = w16 at *
  go_wp2_with fail
  refine Calls.mono (HO_ka_5_0.out _ HB16.out) ?_
  rintro e w17 ⟨rfl, hb⟩
  have HB17 : Hid (Below w.heap.size w w17) := Below.trans HB16.out (hb.mono HB16.out.size)
  clear hb HB16
  go_wp2_with fail
  refine Calls.mono (HE4.out _ HB17.out) ?_
  rintro e w18 ⟨rfl, hb⟩
  have HB18 : Hid (Below w.heap.size w w18) := Below.trans HB17.out (hb.mono HB17.out.size)
  clear hb HB17
  go_wp2_with fail
  refine Calls.mono (HO_k6_0_0.out _ HB18.out) ?_
  rintro e w19 ⟨rfl, hb⟩
  have HB19 : Hid (Below w.heap.size w w19) := Below.trans HB18.out (hb.mono HB18.out.size)
  clear hb HB18
  go_wp2_with fail
  refine Calls.mono (HE5.out _ HB19.out) ?_
  rintro e w20 ⟨rfl, hb⟩
  have HB20 : Hid (Below w.heap.size w w20) := Below.trans HB19.out (hb.mono HB19.out.size)
  clear hb HB19
  go_wp2_with fail
  refine Calls.mono (HX1.out _ HB20.out) ?_
  rintro e wx ⟨rfl, hwx⟩
  subst wx
  go_wp2_with fail
  refine Calls.mono (HX2.out _ HB20.out) ?_
  rintro e wx ⟨rfl, hwx⟩
  subst wx
  go_wp2_with fail
  refine Calls.mono (HD9.out _ HB20.out) ?_
  rintro e w21 ⟨⟨adz, cz, rfl⟩, hb⟩
  have HB21 : Hid (Below w.heap.size w w21) := Below.trans HB20.out (hb.mono HB20.out.size)
  clear hb HB20
  go_wp2_with fail
  refine Calls.mono (HO_ke_0_9.out _ HB21.out) ?_
  rintro e w22 ⟨rfl, hb⟩
  have HB22 : Hid (Below w.heap.size w w22) := Below.trans HB21.out (hb.mono HB21.out.size)
  clear hb HB21
  go_wp2_with fail
  refine Calls.mono (HO_kf_0_7.out _ HB22.out) ?_
  rintro e w23 ⟨rfl, hb⟩
  have HB23 : Hid (Below w.heap.size w w23) := Below.trans HB22.out (hb.mono HB22.out.size)
  clear hb HB22
  go_wp2_with fail
  refine Calls.mono (HO_ke_0_8.out _ HB23.out) ?_
  rintro e w24 ⟨rfl, hb⟩
  have HB24 : Hid (Below w.heap.size w w24) := Below.trans HB23.out (hb.mono HB23.out.size)
  clear hb HB23
  go_wp2_with fail
  refine Calls.mono (HWD.out _ HB24.out) ?_
  rintro e w25 ⟨⟨bg, og, cg, rfl, hrow⟩, hb⟩
  have HB25 : Hid (Below w.heap.size w w25) := Below.trans HB24.out (hb.mono HB24.out.size)
  have HRg25 : Hid (RowN w25 bg og [⟨3, 0, ⟨#[9, 0, 0, 0]⟩, 8, 0, 0⟩, ⟨3, 0, ⟨#[10, 0, 0, 0]⟩, 8, 0, 0⟩]) := hrow
  clear hb hrow HB24
  go_wp2_with fail
  obtain ⟨Sb, hS⟩ : ∃ S : World → Prop, S = fun wx => Below w25.heap.size w25 wx := ⟨_, rfl⟩
  have hs0 : Held Sb w25.drew := by unfold Held; rw [hS]; exact (Below.refl _ _).drew
  have HZb : Hid (∀ w', Held Sb w' → Below w.heap.size w w') := fun w' h => by unfold Held at h; rw [hS] at h; exact Below.trans HB25.out (h.mono HB25.out.size)
  have HKb : Hid (∀ w' w2, Held Sb w' → Below w'.heap.size w' w2 → Held Sb w2) := fun w' w2 h hb => by unfold Held at *; rw [hS] at *; exact h.trans (hb.mono h.size)
  have HAL : Hid (∀ w', Held Sb w' → Held Sb w'.drew) := fun w' h => by unfold Held at *; rw [hS] at *; exact h.drew
  have HCC : Hid (∀ w', Held Sb w' → ∀ a v, w25.cell? a = some v → w'.cell? a = some v) := fun w' h a v e => by unfold Held at h; rw [hS] at h; exact (h.cell (World.block_lt_of_cell? _ _ e)).trans e
  obtain ⟨x0, x1, x2, x3, x4, x5⟩ := HRg25.out 0 (by decide)
  have yg0 : ∀ w', Held Sb w' → w'.cell? ⟨bg, og, none⟩ = some (.int .i64 3) := fun w' h => HCC.out w' h _ _ (by simpa using x0)
  have yg1 : ∀ w', Held Sb w' → w'.cell? ⟨bg, og + 1, none⟩ = some (.int .u64 0) := fun w' h => HCC.out w' h _ _ (by simpa using x1)
  have yg2 : ∀ w', Held Sb w' → w'.cell? ⟨bg, og + 2, none⟩ = some (.string ⟨#[9, 0, 0, 0]⟩) := fun w' h => HCC.out w' h _ _ (by simpa using x2)
  have yg3 : ∀ w', Held Sb w' → w'.cell? ⟨bg, og + 3, none⟩ = some (.int .i64 8) := fun w' h => HCC.out w' h _ _ (by simpa using x3)
  have yg4 : ∀ w', Held Sb w' → w'.cell? ⟨bg, og + 4, none⟩ = some (.int .u32 0) := fun w' h => HCC.out w' h _ _ (by simpa using x4)
  have yg5 : ∀ w', Held Sb w' → w'.cell? ⟨bg, og + 5, none⟩ = some (.int .u32 0) := fun w' h => HCC.out w' h _ _ (by simpa using x5)
  clear x0 x1 x2 x3 x4 x5
  obtain ⟨x0, x1, x2, x3, x4, x5⟩ := HRg25.out 1 (by decide)
  have yg6 : ∀ w', Held Sb w' → w'.cell? ⟨bg, og + 6, none⟩ = some (.int .i64 3) := fun w' h => HCC.out w' h _ _ (by simpa using x0)
  have yg7 : ∀ w', Held Sb w' → w'.cell? ⟨bg, og + 7, none⟩ = some (.int .u64 0) := fun w' h => HCC.out w' h _ _ (by simpa using x1)
  have yg8 : ∀ w', Held Sb w' → w'.cell? ⟨bg, og + 8, none⟩ = some (.string ⟨#[10, 0, 0, 0]⟩) := fun w' h => HCC.out w' h _ _ (by simpa using x2)
  have yg9 : ∀ w', Held Sb w' → w'.cell? ⟨bg, og + 9, none⟩ = some (.int .i64 8) := fun w' h => HCC.out w' h _ _ (by simpa using x3)
  have yg10 : ∀ w', Held Sb w' → w'.cell? ⟨bg, og + 10, none⟩ = some (.int .u32 0) := fun w' h => HCC.out w' h _ _ (by simpa using x4)
  have yg11 : ∀ w', Held Sb w' → w'.cell? ⟨bg, og + 11, none⟩ = some (.int .u32 0) := fun w' h => HCC.out w' h _ _ (by simpa using x5)
  clear x0 x1 x2 x3 x4 x5
  clear hS HCC HRg25
  go_region_held3 (fun w' => Held Sb w') (first | (with_reducible assumption) | (refine HAL.out _ ?_; with_reducible assumption))
    (first
      | (go_at_call 22; with_reducible refine Calls.mono (HO_kf_0_0.out _ (HZb.out _ (by with_reducible assumption))) ?_; rintro e wa ⟨rfl, sA0⟩; have sA := HKb.out _ _ (by with_reducible assumption) sA0; clear sA0)
      | (go_at_call 22; with_reducible refine Calls.mono (HO_ke_0_0.out _ (HZb.out _ (by with_reducible assumption))) ?_; rintro e wa ⟨rfl, sA0⟩; have sA := HKb.out _ _ (by with_reducible assumption) sA0; clear sA0)
      | (go_at_call 22; with_reducible refine Calls.mono (HO_kg_0_1.out _ (HZb.out _ (by with_reducible assumption))) ?_; rintro e wa ⟨rfl, sA0⟩; have sA := HKb.out _ _ (by with_reducible assumption) sA0; clear sA0)
      | (go_at_call 22; with_reducible refine Calls.mono (HO_ke_0_1048576.out _ (HZb.out _ (by with_reducible assumption))) ?_; rintro e wa ⟨rfl, sA0⟩; have sA := HKb.out _ _ (by with_reducible assumption) sA0; clear sA0)
      | (go_at_call 9; with_reducible refine Calls.mono (HC1.out _ (HZb.out _ (by with_reducible assumption))) ?_; rintro e wa ⟨rfl, sA0⟩; have sA := HKb.out _ _ (by with_reducible assumption) sA0; clear sA0)
      | (go_at_call 9; with_reducible refine Calls.mono (HC2.out _ (HZb.out _ (by with_reducible assumption))) ?_; rintro e wa ⟨rfl, sA0⟩; have sA := HKb.out _ _ (by with_reducible assumption) sA0; clear sA0)
      | (go_at_call 13; with_reducible refine Calls.mono (HWK.out _ (HZb.out _ (by with_reducible assumption))) ?_; rintro e wa ⟨rfl, sA0⟩; have sA := HKb.out _ _ (by with_reducible assumption) sA0; clear sA0))
  go_wp2
  go_ret
  exact ⟨rfl, HZb.out _ (by with_reducible assumption)⟩
end Go.Proofs.YtfhbgpepkplbaaaGreatDoor
