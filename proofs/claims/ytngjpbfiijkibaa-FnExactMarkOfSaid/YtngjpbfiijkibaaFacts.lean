/-
  Words of 64-bit numbers and what is read of them. No condition.
-/
import Derived.Test.YtngjpbfiijkibaaWord
import Derived.Test.YtngjpbfiijkibaaExact
namespace Go.Proofs.Ytngjpbfiijkibaa
open Go.RowKit

/-! ### Words and what is read of them -/
theorem read_facts {y : Nat} (h : y < 2 ^ 64) {s : Bool} {m : Nat} {e : Int} (hd : FloatKind.f64.decode y = .number s m e) :
    m < 2 ^ 53 ∧ -1074 ≤ e ∧ (2 ^ 52 ≤ m ∨ e = -1074) ∧ y = FloatKind.f64.format.word s ((e + 1074).toNat * 2 ^ 52 + m) ∧ (e + 1074).toNat * 2 ^ 52 + m < 2047 * 2 ^ 52 := by
  unfold FloatKind.decode Ieee.Format.read at hd
  have e1 : FloatKind.f64.format.signWeight = 2 ^ 63 := rfl
  have e2 : FloatKind.f64.format.binade = 2 ^ 52 := rfl
  have e3 : FloatKind.f64.format.leastPlace = -1074 := rfl
  have e4 : FloatKind.f64.format.infRung = 2047 * 2 ^ 52 := rfl
  have hw : ∀ b : Bool, ∀ q, FloatKind.f64.format.word b q = if b then 2 ^ 63 + q else q := fun _ _ => rfl
  rw [hw]
  simp only [e1, e2, e3, e4] at hd
  have hsg : (if (y / 2 ^ 63 % 2 == 1) then 2 ^ 63 + y % 2 ^ 63 else y % 2 ^ 63) = y := by
    by_cases hb : y < 2 ^ 63
    · rw [Nat.div_eq_of_lt hb]; simp; omega
    · have : y / 2 ^ 63 = 1 := by omega
      rw [this]; simp; omega
  generalize (y / 2 ^ 63 % 2 == 1) = b at hd hsg
  generalize y % 2 ^ 63 = q at hd hsg
  by_cases h1 : q < 2 ^ 52
  · rw [if_pos h1] at hd
    cases hd
    refine ⟨by omega, by omega, .inr rfl, ?_, by simp; omega⟩
    rw [← hsg]; simp
  · rw [if_neg h1] at hd
    by_cases h2 : q < 2047 * 2 ^ 52
    · rw [if_pos h2] at hd
      cases hd
      have h3 : ((-1074 + ((q / 2 ^ 52 - 1 : Nat) : Int)) + 1074).toNat * 2 ^ 52 + (2 ^ 52 + q % 2 ^ 52) = q := by omega
      refine ⟨by omega, by omega, .inl (by omega), ?_, by omega⟩
      rw [h3, hsg]
    · rw [if_neg h2] at hd
      split at hd <;> cases hd

theorem cut_shift (neg : Bool) (m k : Nat) (hm : m ≠ 0) : Ieee.Toward.even.cut neg (m <<< k) k = m := by
  unfold Ieee.Toward.cut
  have hs : m <<< k = m * 2 ^ k := Nat.shiftLeft_eq ..
  have hmin : min k ((m * 2 ^ k).log2 + 2) = k := by rw [← hs, log2_shift hm]; omega
  have hd : m * 2 ^ k / 2 ^ k = m := Nat.mul_div_cancel _ (Nat.two_pow_pos _)
  have hr : m * 2 ^ k % 2 ^ k = 0 := Nat.mul_mod_left _ _
  simp only [Nat.one_shiftLeft, hs, hmin, hd, hr]
  simp

/-- What is read of a word, written with more digits, is this word. -/
theorem write_shift {y : Nat} (h : y < 2 ^ 64) {s : Bool} {m : Nat} {e : Int} (hd : FloatKind.f64.decode y = .number s m e) (hm : m ≠ 0) (k : Nat) : FloatKind.f64.encode (.number s (m <<< k) (e - k)) = y := by
  obtain ⟨h1, h2, h3, h4, h5⟩ := read_facts h hd
  have hne : m <<< k ≠ 0 := by rw [Nat.shiftLeft_eq]; exact Nat.mul_ne_zero hm (Nat.pos_iff_ne_zero.1 (Nat.two_pow_pos _))
  have hlog := log2_lt_pow h1 hm
  show FloatKind.f64.format.nearest s (m <<< k) (e - k) = y
  unfold Ieee.Format.nearest
  have e2 : FloatKind.f64.format.binade = 2 ^ 52 := rfl
  have e3 : FloatKind.f64.format.leastPlace = -1074 := rfl
  have e4 : FloatKind.f64.format.infRung = 2047 * 2 ^ 52 := rfl
  have e5 : FloatKind.f64.format.fractionBits = 52 := rfl
  have hL : max (e - k + ((m <<< k).log2 : Int) - (52 : Int)) (-1074) = e := by
    rw [log2_shift hm]
    rcases h3 with h3 | h3
    · have : 52 ≤ m.log2 := (Nat.le_log2 hm).2 h3
      omega
    · subst h3; omega
  rw [if_neg hne]
  simp only [e2, e3, e4, e5]
  have e6 : ((52 : Nat) : Int) = 52 := rfl
  rw [e6, hL]
  have a1 : (e - k - e).toNat = 0 := by omega
  have a2 : (e - (e - k)).toNat = k := by omega
  have a3 : (e - -1074).toNat = (e + 1074).toNat := by omega
  rw [a1, a2, a3, Nat.shiftLeft_zero, cut_shift s m k hm, Nat.min_eq_left (Nat.le_of_lt h5)]
  exact h4.symm

end Go.Proofs.Ytngjpbfiijkibaa
