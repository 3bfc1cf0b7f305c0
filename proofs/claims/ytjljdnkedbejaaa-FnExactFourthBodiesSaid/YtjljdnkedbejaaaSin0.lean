/-
  Single precision: what is read of a word is written as this word; numbers that are shifted are written as the same word; 1 times a number, half of it. No condition.
-/
import Derived.Test.YtjljdnkedbejaaaExact
namespace Go.Proofs.Ytjljdnkedbejaaa
open Go.RowKit

theorem read_facts32 {y : Nat} (h : y < 2 ^ 32) {s : Bool} {m : Nat} {e : Int} (hd : FloatKind.f32.decode y = .number s m e) :
    m < 2 ^ 24 ∧ -149 ≤ e ∧ (2 ^ 23 ≤ m ∨ e = -149) ∧ y = FloatKind.f32.format.word s ((e + 149).toNat * 2 ^ 23 + m) ∧ (e + 149).toNat * 2 ^ 23 + m < 255 * 2 ^ 23 := by
  unfold FloatKind.decode Ieee.Format.read at hd
  have e1 : FloatKind.f32.format.signWeight = 2 ^ 31 := rfl
  have e2 : FloatKind.f32.format.binade = 2 ^ 23 := rfl
  have e3 : FloatKind.f32.format.leastPlace = -149 := rfl
  have e4 : FloatKind.f32.format.infRung = 255 * 2 ^ 23 := rfl
  have hw : ∀ b : Bool, ∀ q, FloatKind.f32.format.word b q = if b then 2 ^ 31 + q else q := fun _ _ => rfl
  rw [hw]
  simp only [e1, e2, e3, e4] at hd
  have hsg : (if (y / 2 ^ 31 % 2 == 1) then 2 ^ 31 + y % 2 ^ 31 else y % 2 ^ 31) = y := by
    by_cases hb : y < 2 ^ 31
    · rw [Nat.div_eq_of_lt hb]; simp; omega
    · have : y / 2 ^ 31 = 1 := by omega
      rw [this]; simp; omega
  generalize (y / 2 ^ 31 % 2 == 1) = b at hd hsg
  generalize y % 2 ^ 31 = q at hd hsg
  by_cases h1 : q < 2 ^ 23
  · rw [if_pos h1] at hd
    cases hd
    refine ⟨by omega, by omega, .inr rfl, ?_, by simp; omega⟩
    rw [← hsg]; simp
  · rw [if_neg h1] at hd
    by_cases h2 : q < 255 * 2 ^ 23
    · rw [if_pos h2] at hd
      cases hd
      have h3 : ((-149 + ((q / 2 ^ 23 - 1 : Nat) : Int)) + 149).toNat * 2 ^ 23 + (2 ^ 23 + q % 2 ^ 23) = q := by omega
      refine ⟨by omega, by omega, .inl (by omega), ?_, by omega⟩
      rw [h3, hsg]
    · rw [if_neg h2] at hd
      split at hd <;> cases hd

theorem cut_none (neg : Bool) (m : Nat) : Ieee.Toward.even.cut neg m 0 = m := by
  simp [Ieee.Toward.cut, Nat.mod_one]

theorem cut_all (neg : Bool) (m k : Nat) (hm : m ≠ 0) : Ieee.Toward.even.cut neg (m <<< k) k = m := by
  unfold Ieee.Toward.cut
  have hs : m <<< k = m * 2 ^ k := Nat.shiftLeft_eq ..
  have hmin : min k ((m * 2 ^ k).log2 + 2) = k := by rw [← hs, log2_shift hm]; omega
  have hd : m * 2 ^ k / 2 ^ k = m := Nat.mul_div_cancel _ (Nat.two_pow_pos _)
  have hr : m * 2 ^ k % 2 ^ k = 0 := Nat.mul_mod_left _ _
  simp only [Nat.one_shiftLeft, hs, hmin, hd, hr]
  simp

theorem cut_scale (neg : Bool) (m j d : Nat) (hm : m ≠ 0) : Ieee.Toward.even.cut neg (m <<< j) (d + j) = Ieee.Toward.even.cut neg m d := by
  unfold Ieee.Toward.cut
  have hmin : min (d + j) ((m <<< j).log2 + 2) = min d (m.log2 + 2) + j := by rw [log2_shift hm]; omega
  simp only [Nat.one_shiftLeft, hmin]
  generalize min d (m.log2 + 2) = g
  have hs : m <<< j = m * 2 ^ j := Nat.shiftLeft_eq ..
  have hd : m * 2 ^ j / 2 ^ (g + j) = m / 2 ^ g := by rw [Nat.pow_add, Nat.mul_div_mul_right _ _ (Nat.two_pow_pos _)]
  have hr : m * 2 ^ j % 2 ^ (g + j) = m % 2 ^ g * 2 ^ j := by rw [Nat.pow_add, Nat.mul_mod_mul_right]
  rw [hs, hd, hr]
  have hp : 0 < 2 ^ j := Nat.two_pow_pos _
  have e1 : (2 ^ (g + j) < 2 * (m % 2 ^ g * 2 ^ j)) = (2 ^ g < 2 * (m % 2 ^ g)) := by
    rw [Nat.pow_add, ← Nat.mul_assoc]; exact propext (Nat.mul_lt_mul_right hp)
  have e2 : (2 ^ (g + j) = 2 * (m % 2 ^ g * 2 ^ j)) = (2 ^ g = 2 * (m % 2 ^ g)) := by
    rw [Nat.pow_add, ← Nat.mul_assoc]
    exact propext ⟨fun h => Nat.eq_of_mul_eq_mul_right hp h, fun h => congrArg (· * 2 ^ j) h⟩
  have e3 : (2 ^ (g + j) == 2 * (m % 2 ^ g * 2 ^ j)) = (2 ^ g == 2 * (m % 2 ^ g)) := by
    rw [Bool.eq_iff_iff, beq_iff_eq, beq_iff_eq, e2]
  simp only [e1, e3]

/-- A number that is shifted is written as the same word. -/
theorem nearest_shift (f : Ieee.Format) (s : Bool) (m j : Nat) (e : Int) (hm : m ≠ 0) : f.nearest s (m <<< j) (e - j) = f.nearest s m e := by
  have hne : m <<< j ≠ 0 := by rw [Nat.shiftLeft_eq]; exact Nat.mul_ne_zero hm (Nat.pos_iff_ne_zero.1 (Nat.two_pow_pos _))
  unfold Ieee.Format.nearest
  rw [if_neg hne, if_neg hm]
  have hl : max (e - j + ((m <<< j).log2 : Int) - f.fractionBits) f.leastPlace = max (e + (m.log2 : Int) - f.fractionBits) f.leastPlace := by
    rw [log2_shift hm]; congr 1; omega
  simp only [hl]
  generalize max (e + (m.log2 : Int) - f.fractionBits) f.leastPlace = L
  have hk : Ieee.Toward.even.cut s ((m <<< j) <<< (e - j - L).toNat) (L - (e - j)).toNat = Ieee.Toward.even.cut s (m <<< (e - L).toNat) (L - e).toNat := by
    rcases Int.le_total L e with h | h
    · have a1 : (L - e).toNat = 0 := by omega
      rw [a1, cut_none]
      rcases Nat.le_total j (e - L).toNat with hj | hj
      · have a2 : (L - (e - j)).toNat = 0 := by omega
        have a3 : (e - j - L).toNat = (e - L).toNat - j := by omega
        rw [a2, cut_none, a3, ← Nat.shiftLeft_add]
        congr 1; omega
      · have a2 : (e - j - L).toNat = 0 := by omega
        have a3 : (L - (e - j)).toNat = j - (e - L).toNat := by omega
        have a4 : m <<< j = (m <<< (e - L).toNat) <<< (j - (e - L).toNat) := by rw [← Nat.shiftLeft_add]; congr 1; omega
        have hne2 : m <<< (e - L).toNat ≠ 0 := by rw [Nat.shiftLeft_eq]; exact Nat.mul_ne_zero hm (Nat.pos_iff_ne_zero.1 (Nat.two_pow_pos _))
        rw [a2, a3, Nat.shiftLeft_zero, a4, cut_all _ _ _ hne2]
    · have a1 : (e - L).toNat = 0 := by omega
      have a2 : (e - j - L).toNat = 0 := by omega
      have a3 : (L - (e - j)).toNat = (L - e).toNat + j := by omega
      rw [a1, a2, a3, Nat.shiftLeft_zero, Nat.shiftLeft_zero, cut_scale _ _ _ _ hm]
  rw [hk]

theorem nearest_zero (f : Ieee.Format) (s : Bool) (e : Int) : f.nearest s 0 e = f.word s 0 := by unfold Ieee.Format.nearest; simp

/-- What is read of a word is written as this word. -/
theorem write_read32 {x : Nat} (ix : Is .f32 x (some x)) : FloatKind.f32.format.write (FloatKind.f32.format.read x) = x := by
  have hx := ix.2
  cases hd : FloatKind.f32.decode x with
  | nan s f => have := ix.dec; rw [hd] at this; cases this
  | infinity s =>
    unfold FloatKind.decode at hd
    rw [hd]
    unfold Ieee.Format.read at hd
    have e1 : FloatKind.f32.format.signWeight = 2 ^ 31 := rfl
    have e2 : FloatKind.f32.format.binade = 2 ^ 23 := rfl
    have e4 : FloatKind.f32.format.infRung = 255 * 2 ^ 23 := rfl
    have hw : FloatKind.f32.format.write (.infinity s) = if s then 2 ^ 31 + 255 * 2 ^ 23 else 255 * 2 ^ 23 := by cases s <;> rfl
    rw [hw]
    simp only [e1, e2, e4] at hd
    have hx' : x < 2 ^ 32 := hx
    by_cases h1 : x % 2 ^ 31 < 2 ^ 23
    · rw [if_pos h1] at hd; cases hd
    · rw [if_neg h1] at hd
      by_cases h2 : x % 2 ^ 31 < 255 * 2 ^ 23
      · rw [if_pos h2] at hd; cases hd
      · rw [if_neg h2] at hd
        by_cases h3 : x % 2 ^ 31 = 255 * 2 ^ 23
        · rw [if_pos h3] at hd
          cases hd
          by_cases hb : x < 2 ^ 31
          · rw [Nat.div_eq_of_lt hb]; simp; omega
          · have : x / 2 ^ 31 = 1 := by omega
            rw [this]; simp; omega
        · rw [if_neg h3] at hd; cases hd
  | number s m e =>
    obtain ⟨h1, h2, h3, h4, h5⟩ := read_facts32 hx hd
    unfold FloatKind.decode at hd
    rw [hd]
    show FloatKind.f32.format.nearest s m e = x
    by_cases hm : m = 0
    · subst hm
      have he : e = -149 := by omega
      subst he
      rw [nearest_zero]
      exact h4.symm
    · unfold Ieee.Format.nearest
      have e2 : FloatKind.f32.format.binade = 2 ^ 23 := rfl
      have e3 : FloatKind.f32.format.leastPlace = -149 := rfl
      have e4 : FloatKind.f32.format.infRung = 255 * 2 ^ 23 := rfl
      have e5 : FloatKind.f32.format.fractionBits = 23 := rfl
      have hlog := log2_lt_pow h1 hm
      have hL : max (e + (m.log2 : Int) - (23 : Int)) (-149) = e := by
        rcases h3 with h3 | h3
        · have : 23 ≤ m.log2 := (Nat.le_log2 hm).2 h3
          omega
        · subst h3; omega
      rw [if_neg hm]
      simp only [e2, e3, e4, e5]
      have e6 : ((23 : Nat) : Int) = 23 := rfl
      rw [e6, hL]
      have a1 : (e - e).toNat = 0 := by omega
      have a3 : (e - -149).toNat = (e + 149).toNat := by omega
      rw [a1, a3, Nat.shiftLeft_zero, cut_none, Nat.min_eq_left (Nat.le_of_lt h5)]
      exact h4.symm

theorem one_mul32 {x : Nat} {v : Option Nat} (ix : Is .f32 x v) : fo .mul .f32 (some 1065353216) v = v := by
  cases v with
  | none => rfl
  | some z =>
    obtain rfl := ix.notNaN
    have hw := write_read32 ix
    have h1 : FloatKind.f32.format.read 1065353216 = .number false (2 ^ 23) (-23) := by rfl
    cases hd : FloatKind.f32.format.read x with
    | nan s f => have := ix.dec; unfold FloatKind.decode at this; rw [hd] at this; cases this
    | infinity s =>
      rw [hd] at hw
      simp only [fo, Option.bind_some, floatBits, Ieee.Format.mul, h1, hd, Ieee.Datum.product]
      simpa using hw
    | number s m e =>
      rw [hd] at hw
      simp only [fo, Option.bind_some, floatBits, Ieee.Format.mul, h1, hd, Ieee.Datum.product, Option.map_some, Bool.false_xor]
      rw [← hw]
      show some (FloatKind.f32.format.nearest s (2 ^ 23 * m) (-23 + e)) = some (FloatKind.f32.format.nearest s m e)
      by_cases hm : m = 0
      · subst hm; rw [Nat.mul_zero, nearest_zero, nearest_zero]
      · have := nearest_shift FloatKind.f32.format s m 23 e hm
        rw [Nat.shiftLeft_eq, Nat.mul_comm] at this
        rw [show (-23 + e : Int) = e - (23 : Nat) by omega, this]

/-- Half of a number is the half times it. -/
theorem half_mul32 {x : Nat} {v : Option Nat} (ix : Is .f32 x v) : fo .quo .f32 v (some 1073741824) = fo .mul .f32 (some 1056964608) v := by
  cases v with
  | none => rfl
  | some z =>
    obtain rfl := ix.notNaN
    have h1 : FloatKind.f32.format.read 1056964608 = .number false (2 ^ 23) (-24) := by rfl
    have h2 : FloatKind.f32.format.read 1073741824 = .number false (2 ^ 23) (-22) := by rfl
    cases hd : FloatKind.f32.format.read x with
    | nan s f => have := ix.dec; unfold FloatKind.decode at this; rw [hd] at this; cases this
    | infinity s =>
      simp [fo, floatBits, Ieee.Format.mul, Ieee.Format.div, h1, h2, hd, Ieee.Datum.product, Ieee.Datum.quotient]
    | number s m e =>
      obtain ⟨g1, -, -, -, -⟩ := read_facts32 ix.2 (show FloatKind.f32.decode x = _ from hd)
      have hp : (2 ^ 23 : Nat) ≠ 0 := by decide
      simp only [fo, Option.bind_some, floatBits, Ieee.Format.mul, Ieee.Format.div, h1, h2, hd, Ieee.Datum.product, Ieee.Datum.quotient, Option.map_some, Bool.false_xor, Bool.xor_false, if_neg hp]
      show some (FloatKind.f32.format.nearest s _ _) = some (FloatKind.f32.format.nearest s _ _)
      congr 1
      by_cases hm : m = 0
      · subst hm; simp [nearest_zero, Nat.zero_shiftLeft]
      · have hlog := log2_lt_pow g1 hm
        have hl2 : (2 ^ 23 : Nat).log2 = 23 := by decide
        have hfb : FloatKind.f32.format.fractionBits = 23 := rfl
        rw [hl2, hfb]
        generalize hM : 23 + 2 + 23 - m.log2 = more
        have h25 : 25 ≤ more := by omega
        have hsh : m <<< more = m <<< (more - 23) * 2 ^ 23 := by
          rw [Nat.shiftLeft_eq, Nat.shiftLeft_eq, Nat.mul_assoc, ← Nat.pow_add]; congr 2; omega
        rw [hsh, Nat.mul_div_cancel _ (by decide), Nat.mul_mod_left]
        have h3 : 2 * (m <<< (more - 23)) + ((0 : Nat) != 0).toNat = m <<< (more - 22) := by
          rw [Nat.shiftLeft_eq, Nat.shiftLeft_eq, show more - 22 = (more - 23) + 1 by omega, Nat.pow_succ]
          simp; rw [Nat.mul_comm 2, Nat.mul_assoc]
        rw [h3, show (e - -22 - (more : Int) - 1) = (e - 1) - ((more - 22 : Nat) : Int) by omega, nearest_shift _ _ _ _ _ hm]
        have := nearest_shift FloatKind.f32.format s m 23 (e - 1) hm
        rw [Nat.shiftLeft_eq, Nat.mul_comm] at this
        rw [show (-24 + e : Int) = (e - 1) - (23 : Nat) by omega, this]
end Go.Proofs.Ytjljdnkedbejaaa
