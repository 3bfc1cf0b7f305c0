/-
  Sums that are rounded are ordered as what is summed. No condition.
-/
import Derived.Test.YthlijhnplalflaaVl
namespace Go.Proofs.Ythlijhnplalflaa
open Go.RowKit

theorem word_inj {s t : Bool} {a b : Nat} (ha : a < 2 ^ 31) (hb : b < 2 ^ 31) (h : FloatKind.f32.format.word s a = FloatKind.f32.format.word t b) : s = t ∧ a = b := by
  have e1 : FloatKind.f32.format.signWeight = 2 ^ 31 := rfl
  unfold Ieee.Format.word at h
  rw [e1] at h
  cases s <;> cases t <;> simp at h <;> (first | exact ⟨rfl, by omega⟩ | (exfalso; omega))

theorem Near.mono0 {Z : Int} {z k : Nat} {t : Bool} {j : Int} (h : Near Z z) (hz : FloatKind.f32.decode z = .number t k j) (hl : z < 2 ^ 32) {K : Nat} {L : Int} (hK : K < 2 ^ 24) (hL : -149 ≤ L) (hc : 2 ^ 23 ≤ K ∨ L = -149) (hY : vl false K L ≤ Z) : vl false K L ≤ vl t k j := by
  obtain ⟨f1, f2, f3, f4, f5⟩ := read_facts32 hl hz
  have hp : (0 : Int) ≤ (K : Int) * pw (L + 149).toNat := Int.mul_nonneg (Int.natCast_nonneg _) (Int.natCast_nonneg _)
  rw [vl_pos] at *
  by_cases h0 : Z = 0
  · obtain ⟨neg, r, h1, h2, h3⟩ := h.hi (K := 0) (L := -149) (by decide) (by decide) (.inr rfl) (by rw [h0]; decide)
    have hr : r = 0 := by simp [rg] at h2; omega
    subst hr
    rw [f4] at h1
    have := (word_inj (by omega) (by simp) h1).2
    have hk : k = 0 := by simp at this; omega
    subst hk
    have e0 : vl t 0 j = 0 := by cases t <;> simp [vl_pos, vl_neg]
    rw [e0]
    omega
  · obtain ⟨r, h1, h2⟩ := h.lo hK hL hc h0 (by
      have : ((K * 2 ^ (L + 149).toNat : Nat) : Int) = (K : Int) * pw (L + 149).toNat := by unfold pw; rw [Int.natCast_mul]
      omega)
    have hs : decide (Z < 0) = false := by simp; omega
    rw [f4, hs] at h1
    obtain ⟨rfl, hr⟩ := word_inj (by omega) (by omega) h1
    have hle : rg K L ≤ rg k j := by unfold rg at *; omega
    have := rg_le hK f1 hL f2 hc f3 hle
    rw [vl_pos]
    unfold pw
    rw [← Int.natCast_mul, ← Int.natCast_mul]
    omega

theorem Near.mono {Z : Int} {z k : Nat} {t s : Bool} {j : Int} (h : Near Z z) (hz : FloatKind.f32.decode z = .number t k j) (hl : z < 2 ^ 32) {K : Nat} {L : Int} (hK : K < 2 ^ 24) (hL : -149 ≤ L) (hc : 2 ^ 23 ≤ K ∨ L = -149) (hY : vl s K L ≤ Z) : vl s K L ≤ vl t k j := by
  cases s with
  | false => exact h.mono0 hz hl hK hL hc hY
  | true =>
    have hp : (0 : Int) ≤ (K : Int) * pw (L + 149).toNat := Int.mul_nonneg (Int.natCast_nonneg _) (Int.natCast_nonneg _)
    rw [vl_neg] at *
    by_cases h0 : 0 ≤ Z
    · have := h.mono0 hz hl (K := 0) (L := -149) (by decide) (by decide) (.inr rfl) (by rw [vl_pos]; simpa using h0)
      rw [vl_pos] at this
      simp at this
      omega
    · obtain ⟨f1, f2, f3, f4, f5⟩ := read_facts32 hl hz
      have hcast : ((K * 2 ^ (L + 149).toNat : Nat) : Int) = (K : Int) * pw (L + 149).toNat := by unfold pw; rw [Int.natCast_mul]
      obtain ⟨neg, r, h1, h2, h3⟩ := h.hi hK hL hc (by omega)
      rw [f4] at h1
      obtain ⟨rfl, hr⟩ := word_inj (by omega) (by omega) h1
      have hle : rg k j ≤ rg K L := by unfold rg at *; omega
      have hk := rg_le f1 hK f2 hL f3 hc hle
      have hcast2 : ((k * 2 ^ (j + 149).toNat : Nat) : Int) = (k : Int) * pw (j + 149).toNat := by unfold pw; rw [Int.natCast_mul]
      cases t
      · rw [vl_pos]; omega
      · rw [vl_neg]; omega
end Go.Proofs.Ythlijhnplalflaa
