/-
  Rounding of a number that the format has keeps where it lies; how numbers are ordered. No condition.
-/
import Derived.Test.YtjljdnkedbejaaaLow
namespace Go.Proofs.Ytjljdnkedbejaaa

def eMost (k : FloatKind) : Int := match k with | .f32 => 127 | .f64 => 1023
def bMost (k : FloatKind) : Nat := match k with | .f32 => 255 | .f64 => 2047

/-- A number that the format has is kept as it is. -/
theorem write_exact (k : FloatKind) (s : Bool) (m : Nat) (e : Int) (hm : m ≠ 0) (h1 : m.log2 ≤ k.format.fractionBits) (h2 : k.format.leastPlace ≤ e + m.log2 - k.format.fractionBits)
    (h3 : e + m.log2 ≤ eMost k) :
    k.decode (k.encode (.number s m e)) = .number s (m <<< (k.format.fractionBits - m.log2)) (e + m.log2 - k.format.fractionBits) := by
  have hbp : 0 < k.format.binade := Nat.two_pow_pos _
  have hbe : k.format.binade = 2 ^ k.format.fractionBits := rfl
  have hl := least k
  have hf := frac k
  have ht : k.format.infRung = bMost k * k.format.binade := by cases k <;> rfl
  have hlast : max (e + (m.log2 : Int) - (k.format.fractionBits : Int)) k.format.leastPlace = e + m.log2 - k.format.fractionBits := by omega
  have hd : (e + (m.log2 : Int) - k.format.fractionBits - e).toNat = 0 := by omega
  have hu : (e - (e + (m.log2 : Int) - k.format.fractionBits)).toNat = k.format.fractionBits - m.log2 := by omega
  generalize hG : (e + (m.log2 : Int) - k.format.fractionBits - k.format.leastPlace).toNat = G
  have hk1 : k.format.binade ≤ m <<< (k.format.fractionBits - m.log2) := by
    rw [Nat.shiftLeft_eq, hbe]
    calc 2 ^ k.format.fractionBits = 2 ^ m.log2 * 2 ^ (k.format.fractionBits - m.log2) := by rw [← Nat.pow_add]; congr 1; omega
      _ ≤ m * 2 ^ (k.format.fractionBits - m.log2) := Nat.mul_le_mul_right _ (Nat.log2_self_le hm)
  have hk2 : m <<< (k.format.fractionBits - m.log2) < 2 * k.format.binade := by
    rw [Nat.shiftLeft_eq, hbe]
    calc m * 2 ^ (k.format.fractionBits - m.log2) < 2 ^ (m.log2 + 1) * 2 ^ (k.format.fractionBits - m.log2) := Nat.mul_lt_mul_of_pos_right (lt_pow_log2 m) (Nat.two_pow_pos _)
      _ = 2 * 2 ^ k.format.fractionBits := by rw [← Nat.pow_add, Nat.mul_comm 2, ← Nat.pow_succ]; congr 1; omega
  generalize hK : m <<< (k.format.fractionBits - m.log2) = K at hk1 hk2
  have hR : k.format.nearest s m e = k.format.word s (min (G * k.format.binade + K) k.format.infRung) := by
    unfold Ieee.Format.nearest
    rw [if_neg hm]
    simp only [hlast, hd, hu, cut_zero, hG, hK]
  have hGt : G + 2 ≤ bMost k := by cases k <;> simp [eMost, bMost] at hl hf h3 ⊢ <;> omega
  have hlt : G * k.format.binade + K < k.format.infRung := by
    rw [ht]
    calc G * k.format.binade + K < G * k.format.binade + 2 * k.format.binade := by omega
      _ = (G + 2) * k.format.binade := (Nat.add_mul ..).symm
      _ ≤ _ := Nat.mul_le_mul_right _ hGt
  unfold FloatKind.decode FloatKind.encode Ieee.Format.write
  simp only [hR]
  rw [Nat.min_eq_left (Nat.le_of_lt hlt)]
  have hs : G * k.format.binade + K < k.format.signWeight := Nat.lt_trans hlt k.format.infRung_lt
  have e1 : k.format.word s (G * k.format.binade + K) % k.format.signWeight = G * k.format.binade + K := by
    unfold Ieee.Format.word; split
    · rw [Nat.add_mod_left, Nat.mod_eq_of_lt hs]
    · exact Nat.mod_eq_of_lt hs
  have e2 : (k.format.word s (G * k.format.binade + K) / k.format.signWeight % 2 == 1) = s := by
    have hsp : 0 < k.format.signWeight := Nat.two_pow_pos _
    unfold Ieee.Format.word
    cases s with
    | true => rw [if_pos rfl, Nat.add_div_left _ hsp, Nat.div_eq_of_lt hs]; rfl
    | false => rw [if_neg (by decide), Nat.div_eq_of_lt hs]; rfl
  have e3 : G * k.format.binade + K = (G + 1) * k.format.binade + (K - k.format.binade) := by rw [Nat.add_mul, Nat.one_mul]; omega
  have e4 : (G * k.format.binade + K) / k.format.binade = G + 1 := by
    rw [e3, Nat.add_comm, Nat.add_mul_div_right _ _ hbp, Nat.div_eq_of_lt (by omega)]; omega
  have e5 : (G * k.format.binade + K) % k.format.binade = K - k.format.binade := by
    rw [e3, Nat.add_comm, Nat.add_mul_mod_self_right, Nat.mod_eq_of_lt (by omega)]
  have e6 : ¬ G * k.format.binade + K < k.format.binade := by
    have := Nat.le_mul_of_pos_left k.format.binade (show 0 < G + 1 by omega)
    omega
  unfold Ieee.Format.read
  simp only [e1, e2, e4, e5]
  rw [if_neg e6, if_pos hlt]
  have e7 : k.format.binade + (K - k.format.binade) = K := by omega
  have e8 : k.format.leastPlace + ((G + 1 - 1 : Nat) : Int) = e + m.log2 - k.format.fractionBits := by omega
  rw [e7, e8]

theorem log2_shift {m n : Nat} (hm : m ≠ 0) : (m <<< n).log2 = m.log2 + n := by
  have h0 : m <<< n ≠ 0 := by rw [Nat.shiftLeft_eq]; exact Nat.ne_of_gt (Nat.mul_pos (Nat.pos_of_ne_zero hm) (Nat.two_pow_pos _))
  have h1 : m <<< n < 2 ^ (m.log2 + n + 1) := by
    rw [Nat.shiftLeft_eq, show m.log2 + n + 1 = (m.log2 + 1) + n by omega, Nat.pow_add]
    exact Nat.mul_lt_mul_of_pos_right (lt_pow_log2 m) (Nat.two_pow_pos _)
  have h2 : 2 ^ (m.log2 + n) ≤ m <<< n := by
    rw [Nat.shiftLeft_eq, Nat.pow_add]; exact Nat.mul_le_mul_right _ (Nat.log2_self_le hm)
  have h3 := log2_lt_pow h1 h0
  have h4 : m.log2 + n ≤ (m <<< n).log2 := (Nat.le_log2 h0).2 h2
  omega

/-- What is at least 2 ^ t is not less than 2 ^ t. -/
theorem order_ge {k : FloatKind} {x y : Nat} {m : Nat} {i j : Int} {q : Nat} (hx : k.decode x = .number false m i) (hm : m ≠ 0) (hy : k.decode y = .number false (2 ^ q) j) (ht : (q : Int) + j ≤ (m.log2 : Int) + i) : k.format.order x y ≠ some .lt := by
  unfold FloatKind.decode at hx hy
  simp only [Ieee.Format.order, hx, hy, Ieee.Datum.order, ne_eq, Option.some.injEq]
  rw [Int.compare_eq_lt]
  have a1 : (2 ^ q) <<< (j - min i j).toNat ≤ m <<< (i - min i j).toNat := by
    rw [Nat.shiftLeft_eq, Nat.shiftLeft_eq, ← Nat.pow_add]
    calc 2 ^ (q + (j - min i j).toNat) ≤ 2 ^ (m.log2 + (i - min i j).toNat) := Nat.pow_le_pow_right (by decide) (by omega)
      _ = 2 ^ m.log2 * 2 ^ (i - min i j).toNat := Nat.pow_add ..
      _ ≤ m * 2 ^ (i - min i j).toNat := Nat.mul_le_mul_right _ (Nat.log2_self_le hm)
  unfold Ieee.signed
  simp only [Bool.false_eq_true, if_false]
  omega
end Go.Proofs.Ytjljdnkedbejaaa
