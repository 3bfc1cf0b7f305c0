/-
  Rounding depends on the number alone, not on how it is written; a half of a number. No condition.
-/
import Derived.Test.YthajdpfdnihimaaMulO
namespace Go.Proofs.Ythajdpfdnihimaa
open Go.RowKit

theorem cut_more (neg : Bool) (n d k : Nat) (hn : n ≠ 0) : Ieee.Toward.even.cut neg (n <<< k) (d + k) = Ieee.Toward.even.cut neg n d := by
  unfold Ieee.Toward.cut
  have hmin : min (d + k) ((n <<< k).log2 + 2) = min d (n.log2 + 2) + k := by rw [log2_shift hn]; omega
  rw [Nat.shiftLeft_eq] at hmin
  simp only [Nat.shiftLeft_eq, Nat.one_mul, hmin]
  generalize min d (n.log2 + 2) = q
  have e1 : n * 2 ^ k / 2 ^ (q + k) = n / 2 ^ q := by rw [Nat.pow_add]; exact Nat.mul_div_mul_right _ _ (Nat.two_pow_pos k)
  have e2 : n * 2 ^ k % 2 ^ (q + k) = n % 2 ^ q * 2 ^ k := by rw [Nat.pow_add]; exact Nat.mul_mod_mul_right ..
  have hp := Nat.two_pow_pos k
  have e3 : 2 * (n % 2 ^ q * 2 ^ k) = 2 * (n % 2 ^ q) * 2 ^ k := (Nat.mul_assoc ..).symm
  have c1 : decide (2 ^ (q + k) < 2 * (n % 2 ^ q * 2 ^ k)) = decide (2 ^ q < 2 * (n % 2 ^ q)) := by
    rw [e3, Nat.pow_add]
    exact decide_eq_decide.2 (Nat.mul_lt_mul_right hp)
  have c2 : (2 ^ (q + k) == 2 * (n % 2 ^ q * 2 ^ k)) = (2 ^ q == 2 * (n % 2 ^ q)) := by
    rw [e3, Nat.pow_add]
    rw [Bool.eq_iff_iff]
    simp only [beq_iff_eq]
    exact ⟨fun h => Nat.eq_of_mul_eq_mul_right hp h, fun h => congrArg (· * 2 ^ k) h⟩
  rw [e1, e2, c1, c2]

theorem nearest_shift (f : Ieee.Format) (neg : Bool) {m : Nat} (hm : m ≠ 0) (e : Int) (k : Nat) : f.nearest neg (m <<< k) (e - k) = f.nearest neg m e := by
  have hne : m <<< k ≠ 0 := by rw [Nat.shiftLeft_eq]; exact Nat.mul_ne_zero hm (Nat.pos_iff_ne_zero.1 (Nat.two_pow_pos _))
  unfold Ieee.Format.nearest
  rw [if_neg hne, if_neg hm]
  have hlast : max (e - k + ((m <<< k).log2 : Int) - f.fractionBits) f.leastPlace = max (e + (m.log2 : Int) - f.fractionBits) f.leastPlace := by
    rw [log2_shift hm]
    congr 1
    omega
  simp only [hlast]
  generalize max (e + (m.log2 : Int) - f.fractionBits) f.leastPlace = L
  have hk : Ieee.Toward.even.cut neg ((m <<< k) <<< (e - k - L).toNat) (L - (e - k)).toNat = Ieee.Toward.even.cut neg (m <<< (e - L).toNat) (L - e).toNat := by
    by_cases hL : e ≤ L
    · have h1 : (e - k - L).toNat = 0 := by omega
      have h2 : (e - L).toNat = 0 := by omega
      have h3 : (L - (e - k)).toNat = (L - e).toNat + k := by omega
      rw [h1, h2, h3, Nat.shiftLeft_zero, Nat.shiftLeft_zero, cut_more _ _ _ _ hm]
    · have h2 : (L - e).toNat = 0 := by omega
      rw [h2]
      generalize hu : (e - L).toNat = u
      by_cases hku : k ≤ u
      · have h1 : (e - k - L).toNat = u - k := by omega
        have h3 : (L - (e - k)).toNat = 0 := by omega
        rw [h1, h3, ← Nat.shiftLeft_add, show k + (u - k) = u by omega]
      · have h1 : (e - k - L).toNat = 0 := by omega
        have h3 : (L - (e - k)).toNat = k - u := by omega
        have hmu : m <<< u ≠ 0 := by rw [Nat.shiftLeft_eq]; exact Nat.mul_ne_zero hm (Nat.pos_iff_ne_zero.1 (Nat.two_pow_pos _))
        rw [h1, h3, Nat.shiftLeft_zero, show m <<< k = (m <<< u) <<< (k - u) by rw [← Nat.shiftLeft_add, show u + (k - u) = k by omega], cut_shift _ _ _ hmu]
        have := cut_shift neg (m <<< u) 0 hmu
        rw [Nat.shiftLeft_zero] at this
        exact this.symm
  rw [hk]

/-- A half times a number is this number over 2. -/
theorem half_quo {x : Nat} {v : Option Nat} (ix : Is .f64 x v) : fo .mul .f64 (some 4602678819172646912) v = fo .quo .f64 v (some 4611686018427387904) := by
  cases v with
  | none => rfl
  | some z =>
    obtain rfl := ix.notNaN
    have h1 : FloatKind.f64.format.read 4602678819172646912 = .number false (2 ^ 52) (-53) := by rfl
    have h2 : FloatKind.f64.format.read 4611686018427387904 = .number false (2 ^ 52) (-51) := by rfl
    cases hd : FloatKind.f64.decode x with
    | nan s f => have := ix.dec; rw [hd] at this; cases this
    | infinity s =>
      unfold FloatKind.decode at hd
      simp [fo, floatBits, Ieee.Format.mul, Ieee.Format.div, h1, h2, hd, Ieee.Datum.product, Ieee.Datum.quotient]
    | number s m e =>
      obtain ⟨f1, -⟩ := read_facts ix.2 hd
      have ha : fo .mul .f64 (some 4602678819172646912) (some x) = some (FloatKind.f64.format.nearest s (2 ^ 52 * m) (-53 + e)) := by
        unfold FloatKind.decode at hd
        simp only [fo, Option.bind_some, floatBits, Ieee.Format.mul, h1, hd, Ieee.Datum.product, Option.map_some, Bool.false_bne]
        rfl
      have hb : ∃ more : Nat, 52 ≤ more ∧ fo .quo .f64 (some x) (some 4611686018427387904) = some (FloatKind.f64.format.nearest s (2 * (m <<< more / 2 ^ 52) + (m <<< more % 2 ^ 52 != 0).toNat) (e - (-51) - more - 1)) := by
        refine ⟨52 + 2 + (2 ^ 52).log2 - m.log2, ?_, ?_⟩
        · rw [Nat.log2_two_pow]
          by_cases hm : m = 0
          · subst hm; simp
          · have := log2_lt_pow f1 hm
            omega
        · unfold FloatKind.decode at hd
          simp only [fo, Option.bind_some, floatBits, Ieee.Format.div, h2, hd, Ieee.Datum.quotient]
          rw [if_neg (by decide)]
          simp only [Option.map_some, Bool.bne_false]
          rfl
      obtain ⟨more, hmore, hb⟩ := hb
      rw [ha, hb]
      by_cases hm : m = 0
      · subst hm
        simp [Ieee.Format.nearest]
      · have e1 : m <<< more / 2 ^ 52 = m <<< (more - 52) := by
          rw [Nat.shiftLeft_eq, Nat.shiftLeft_eq, show 2 ^ more = 2 ^ (more - 52) * 2 ^ 52 by rw [← Nat.pow_add]; congr 1; omega, ← Nat.mul_assoc, Nat.mul_div_cancel _ (Nat.two_pow_pos _)]
        have e2 : m <<< more % 2 ^ 52 = 0 := by
          rw [Nat.shiftLeft_eq, show 2 ^ more = 2 ^ (more - 52) * 2 ^ 52 by rw [← Nat.pow_add]; congr 1; omega, ← Nat.mul_assoc, Nat.mul_mod_left]
        have e3 : 2 * (m <<< (more - 52)) + ((0 : Nat) != 0).toNat = m <<< (more - 51) := by
          rw [Nat.shiftLeft_eq, Nat.shiftLeft_eq, show more - 51 = (more - 52) + 1 by omega, Nat.pow_succ]
          simp
          rw [Nat.mul_comm 2, Nat.mul_assoc]
        rw [e1, e2, e3]
        have n1 := nearest_shift FloatKind.f64.format s hm (e - 1) 52
        have n2 := nearest_shift FloatKind.f64.format s hm (e - 1) (more - 51)
        rw [Nat.shiftLeft_eq, Nat.mul_comm] at n1
        rw [show (-53 + e : Int) = e - 1 - (52 : Nat) by omega, n1, show (e - (-51) - more - 1 : Int) = e - 1 - ((more - 51 : Nat) : Int) by omega, n2]
end Go.Proofs.Ythajdpfdnihimaa
