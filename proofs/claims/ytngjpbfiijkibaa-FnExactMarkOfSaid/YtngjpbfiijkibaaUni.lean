/-
  Bounds with signs: numbers from 0 to a power of two, and from minus a power of two to 0; a power of e of what is not positive is at most 1. No condition.
-/
import Derived.Test.YtngjpbfiijkibaaNumT
import Derived.Test.YtngjpbfiijkibaaIntF
import Derived.Test.YtngjpbfiijkibaaBound
namespace Go.Proofs.Ytngjpbfiijkibaa
open Go.RowKit

/-- A number with the sign told, or 0, of at most 2 ^ t. -/
def Sq (neg : Bool) (d : Ieee.Datum) (t : Int) : Prop := ∃ s m e, d = .number s m e ∧ (s = neg ∨ m = 0) ∧ (m ≠ 0 → ∃ a : Nat, m ≤ 2 ^ a ∧ (a : Int) + e ≤ t)
def SgO (k : FloatKind) (neg : Bool) (v : Option Nat) (t : Int) : Prop := ∀ b, v = some b → Sq neg (k.decode b) t

theorem SgO.none {k : FloatKind} {neg : Bool} {t : Int} : SgO k neg none t := fun _ h => by cases h
theorem SgO.le {k : FloatKind} {neg : Bool} {v : Option Nat} {t : Int} (h : SgO k neg v t) : LeO k v t := fun b hb => by
  obtain ⟨s, m, e, h1, -, h3⟩ := h b hb
  exact ⟨s, m, e, h1, h3⟩
theorem SgO.nn {k : FloatKind} {v : Option Nat} {t : Int} (h : SgO k false v t) : NnO k v := fun b hb => by
  obtain ⟨s, m, e, h1, h2, -⟩ := h b hb
  exact .inr ⟨s, m, e, h1, h2⟩
theorem SgO.mono {k : FloatKind} {neg : Bool} {v : Option Nat} {t u : Int} (h : SgO k neg v t) (hu : t ≤ u) : SgO k neg v u := fun b hb => by
  obtain ⟨s, m, e, h1, h2, h3⟩ := h b hb
  refine ⟨s, m, e, h1, h2, fun hm => ?_⟩
  obtain ⟨a, h4, h5⟩ := h3 hm
  exact ⟨a, h4, by omega⟩
theorem sg_of {k : FloatKind} {v : Option Nat} {t : Int} (h : LeO k v t) (hn : NnO k v) : SgO k false v t := fun b hb => by
  obtain ⟨s, m, e, h1, h3⟩ := h b hb
  rcases hn b hb with h | ⟨s', m', e', h4, h5⟩
  · rw [h1] at h; cases h
  · rw [h1] at h4; cases h4; exact ⟨s, m, e, h1, h5, h3⟩

theorem sg_write (k : FloatKind) (neg s : Bool) (m : Nat) (e t : Int) (hs : s = neg ∨ m = 0) (h : m ≠ 0 → ∃ a : Nat, m ≤ 2 ^ a ∧ (a : Int) + e ≤ t) (h1 : tLeast k ≤ t) (h2 : t ≤ tMost k) :
    Sq neg (k.decode (k.encode (.number s m e))) t := by
  obtain ⟨s', m', e', h3, h4⟩ := write_le k s m e t h h1 h2
  refine ⟨s', m', e', h3, ?_, h4⟩
  unfold FloatKind.decode FloatKind.encode Ieee.Format.write at h3
  by_cases hm : m = 0
  · subst hm
    have : k.format.nearest s 0 e = k.format.word s 0 := by unfold Ieee.Format.nearest; rfl
    simp only [this] at h3
    rw [read_word k s 0 (Nat.zero_le _), if_pos (show 0 < k.format.binade from Nat.two_pow_pos _)] at h3
    cases h3; exact .inr rfl
  · obtain rfl : s = neg := by rcases hs with h | h; exact h; exact absurd h hm
    obtain ⟨r, hr, _⟩ := nearest_rung k.format s m e hm
    simp only [hr] at h3
    rw [read_word k s _ (Nat.min_le_right _ _)] at h3
    split at h3
    · cases h3; exact .inl rfl
    · split at h3
      · cases h3; exact .inl rfl
      · cases h3

theorem sg_mul {k : FloatKind} {n1 n2 : Bool} {a b : Option Nat} {ta tb : Int} (ha : SgO k n1 a ta) (hb : SgO k n2 b tb) (h1 : tLeast k ≤ ta + tb) (h2 : ta + tb ≤ tMost k) : SgO k (n1 ^^ n2) (fo .mul k a b) (ta + tb) := by
  intro r hr
  obtain ⟨x, y, rfl, rfl, hf⟩ := fo_some hr
  obtain ⟨s, m, i, hx, hs, hm⟩ := ha x rfl
  obtain ⟨t, n, j, hy, ht, hn⟩ := hb y rfl
  unfold floatBits Ieee.Format.mul at hf
  unfold FloatKind.decode at hx hy
  simp only [hx, hy, Ieee.Datum.product, Option.map_some, Option.some.injEq] at hf
  subst hf
  refine sg_write k _ _ _ _ _ ?_ (fun h0 => ?_) h1 h2
  · rcases hs with hs | hs
    · rcases ht with ht | ht
      · rw [hs, ht]; exact .inl rfl
      · right; rw [ht, Nat.mul_zero]
    · right; rw [hs, Nat.zero_mul]
  · obtain ⟨p, hp, hp'⟩ := hm (fun h => h0 (by rw [h, Nat.zero_mul]))
    obtain ⟨q, hq, hq'⟩ := hn (fun h => h0 (by rw [h, Nat.mul_zero]))
    exact ⟨p + q, by rw [Nat.pow_add]; exact Nat.mul_le_mul hp hq, by omega⟩

theorem sg_div {k : FloatKind} {n1 : Bool} {a b : Option Nat} {ta tb : Int} (ha : SgO k n1 a ta) (hb : GeO k b tb) (nb : NnO k b) (h1 : tLeast k ≤ ta - tb) (h2 : ta - tb ≤ tMost k) : SgO k n1 (fo .quo k a b) (ta - tb) := by
  intro r hr
  obtain ⟨x, y, rfl, rfl, hf⟩ := fo_some hr
  obtain ⟨s, m, i, hx, hs, hm⟩ := ha x rfl
  have hny := nb y rfl
  unfold floatBits Ieee.Format.div at hf
  unfold FloatKind.decode at hx
  rcases hb y rfl with ⟨t, hy⟩ | ⟨t, n, j, hy, hn0, hn⟩
  · unfold FloatKind.decode at hy
    simp only [hx, hy, Ieee.Datum.quotient, Option.map_some, Option.some.injEq] at hf
    subst hf
    exact sg_write k n1 _ 0 _ _ (.inr rfl) (fun h0 => absurd rfl h0) h1 h2
  · have htf : t = false := by
      rcases hny with h | ⟨s', m', e', h4, h5⟩
      · rw [hy] at h; cases h
      · rw [hy] at h4; cases h4
        rcases h5 with h5 | h5
        · exact h5
        · exact absurd h5 hn0
    subst htf
    unfold FloatKind.decode at hy
    simp only [hx, hy, Ieee.Datum.quotient, if_neg hn0, Option.map_some, Option.some.injEq] at hf
    subst hf
    generalize hmore : k.format.fractionBits + 2 + n.log2 - m.log2 = more
    refine sg_write k _ _ _ _ _ ?_ (fun h0 => ?_) h1 h2
    · rcases hs with hs | hs
      · left; rw [hs]; cases n1 <;> rfl
      · right; subst hs; simp
    · by_cases hm0 : m = 0
      · exfalso; apply h0; subst hm0; simp
      · obtain ⟨p, hp, hp'⟩ := hm hm0
        have hpl : m.log2 ≤ p := by
          rcases pow_or hp hm0 with h | h
          · omega
          · rw [h, Nat.log2_two_pow]; exact Nat.le_refl _
        exact ⟨_, quot_le hn0 hp (by omega), by omega⟩

theorem signed_np {s : Bool} {m up : Nat} (h : s = true ∨ m = 0) : Ieee.signed s m up = -((m <<< up : Nat) : Int) := by
  unfold Ieee.signed
  rcases h with h | h
  · rw [h]; rfl
  · subst h; simp

/-- What is at least a power of two, and has a number added that is not positive and not greater: not negative, and not greater than before. -/
theorem sg_addn {k : FloatKind} {a b : Option Nat} {t u : Int} (ha : SgO k false a t) (hg : GeO k a u) (hb : SgO k true b u) (h1 : tLeast k ≤ t) (h2 : t ≤ tMost k) (hut : u ≤ t) : SgO k false (fo .add k a b) t := by
  intro r hr
  obtain ⟨x, y, rfl, rfl, hf⟩ := fo_some hr
  obtain ⟨s, m, i, hx, hs, hm⟩ := ha x rfl
  obtain ⟨w, n, j, hy, hw, hn⟩ := hb y rfl
  have hG : m ≠ 0 ∧ u ≤ (m.log2 : Int) + i := by
    rcases hg x rfl with ⟨t', h⟩ | ⟨t', n', j', h, h0, hl⟩ <;> rw [hx] at h <;> cases h
    exact ⟨h0, hl⟩
  unfold floatBits Ieee.Format.add at hf
  unfold FloatKind.decode at hx hy
  simp only [hx, hy, Ieee.Datum.sum, Option.map_some, Option.some.injEq] at hf
  subst hf
  rw [signed_nn hs, signed_np hw]
  have a1 := shift_le (base := min i j) (by omega) hm
  have hYX : n <<< (j - min i j).toNat ≤ m <<< (i - min i j).toNat := by
    rw [Nat.shiftLeft_eq, Nat.shiftLeft_eq]
    by_cases hn0 : n = 0
    · subst hn0; simp
    · obtain ⟨p, hp, hp'⟩ := hn hn0
      calc n * 2 ^ (j - min i j).toNat ≤ 2 ^ p * 2 ^ (j - min i j).toNat := Nat.mul_le_mul_right _ hp
        _ = 2 ^ (p + (j - min i j).toNat) := (Nat.pow_add ..).symm
        _ ≤ 2 ^ (m.log2 + (i - min i j).toNat) := Nat.pow_le_pow_right (by decide) (by omega)
        _ = 2 ^ m.log2 * 2 ^ (i - min i j).toNat := Nat.pow_add ..
        _ ≤ m * 2 ^ (i - min i j).toNat := Nat.mul_le_mul_right _ (Nat.log2_self_le hG.1)
  have hpos : min i j ≤ t := by
    obtain ⟨a, ha, h⟩ := hm hG.1; omega
  generalize m <<< (i - min i j).toNat = X at *
  generalize n <<< (j - min i j).toNat = Y at *
  refine sg_write k _ _ _ _ _ ?_ (fun h0 => ⟨(t - min i j).toNat, by omega, by omega⟩) h1 h2
  by_cases h0 : ((X : Int) + -(Y : Int)) = 0
  · right; rw [h0]; rfl
  · left; rw [if_neg h0]; simp; omega

/-- A difference of numbers that are not negative, the first of which is at least a power of two that the other is not above. -/
theorem sg_sub {k : FloatKind} {a b : Option Nat} {t u : Int} (ha : SgO k false a t) (hg : GeO k a u) (hb : SgO k false b u) (h1 : tLeast k ≤ t) (h2 : t ≤ tMost k) (hut : u ≤ t) : SgO k false (fo .sub k a b) t := by
  intro r hr
  obtain ⟨x, y, rfl, rfl, hf⟩ := fo_some hr
  obtain ⟨s, m, i, hx, hs, hm⟩ := ha x rfl
  obtain ⟨w, n, j, hy, hw, hn⟩ := hb y rfl
  have hG : m ≠ 0 ∧ u ≤ (m.log2 : Int) + i := by
    rcases hg x rfl with ⟨t', h⟩ | ⟨t', n', j', h, h0, hl⟩ <;> rw [hx] at h <;> cases h
    exact ⟨h0, hl⟩
  unfold floatBits Ieee.Format.sub at hf
  unfold FloatKind.decode at hx hy
  simp only [hx, hy, Ieee.Datum.opposite, Ieee.Datum.sum, Option.map_some, Option.some.injEq] at hf
  subst hf
  have hw' : (!w) = true ∨ n = 0 := by
    rcases hw with hw | hw
    · left; rw [hw]; rfl
    · exact .inr hw
  rw [signed_nn hs, signed_np hw']
  have a1 := shift_le (base := min i j) (by omega) hm
  have hYX : n <<< (j - min i j).toNat ≤ m <<< (i - min i j).toNat := by
    rw [Nat.shiftLeft_eq, Nat.shiftLeft_eq]
    by_cases hn0 : n = 0
    · subst hn0; simp
    · obtain ⟨p, hp, hp'⟩ := hn hn0
      calc n * 2 ^ (j - min i j).toNat ≤ 2 ^ p * 2 ^ (j - min i j).toNat := Nat.mul_le_mul_right _ hp
        _ = 2 ^ (p + (j - min i j).toNat) := (Nat.pow_add ..).symm
        _ ≤ 2 ^ (m.log2 + (i - min i j).toNat) := Nat.pow_le_pow_right (by decide) (by omega)
        _ = 2 ^ m.log2 * 2 ^ (i - min i j).toNat := Nat.pow_add ..
        _ ≤ m * 2 ^ (i - min i j).toNat := Nat.mul_le_mul_right _ (Nat.log2_self_le hG.1)
  have hpos : min i j ≤ t := by
    obtain ⟨a, ha, h⟩ := hm hG.1; omega
  generalize m <<< (i - min i j).toNat = X at *
  generalize n <<< (j - min i j).toNat = Y at *
  refine sg_write k _ _ _ _ _ ?_ (fun h0 => ⟨(t - min i j).toNat, by omega, by omega⟩) h1 h2
  by_cases h0 : ((X : Int) + -(Y : Int)) = 0
  · right; rw [h0]; rfl
  · left; rw [if_neg h0]; simp; omega

/-- What is from -2 ^ t to 2 ^ t is so behind a conversion to 32 bits. -/
theorem sg_cv {neg : Bool} {v : Option Nat} {t : Int} (h : SgO .f64 neg v t) (h1 : tLeast .f32 ≤ t) (h2 : t ≤ tMost .f32) : SgO .f32 neg (cv .f64 .f32 v) t := by
  intro r hr
  cases v with
  | none => cases hr
  | some x =>
    obtain ⟨s, m, e, hd, hs, hm⟩ := h x rfl
    have hr' : floatToFloatBits .f64 x .f32 = some r := hr
    unfold floatToFloatBits at hr'
    rw [if_neg (by decide)] at hr'
    rw [hd] at hr'
    simp only at hr'
    split at hr'
    · cases hr'
    · cases hr'
      exact sg_write .f32 neg s m e t hs hm h1 h2

end Go.Proofs.Ytngjpbfiijkibaa
