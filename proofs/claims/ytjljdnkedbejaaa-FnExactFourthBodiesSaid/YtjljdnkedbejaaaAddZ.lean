/-
  Single precision: a number and +0, where the number is not -0; and sums that are not -0. No condition.
-/
import Derived.Test.YtjljdnkedbejaaaSing
namespace Go.Proofs.Ytjljdnkedbejaaa
open Go.RowKit

/-- It is not -0. -/
def NZ (v : Option Nat) : Prop := v ≠ some 2147483648

theorem word32 (b : Bool) (q : Nat) : FloatKind.f32.format.word b q = if b then 2147483648 + q else q := rfl

theorem signed_zero (s : Bool) (u : Nat) : Ieee.signed s 0 u = 0 := by cases s <;> simp [Ieee.signed]

theorem add_z {r : Nat} {s : Option Nat} (ir : Is .f32 r s) (hz : NZ s) : fo .add .f32 s (some 0) = s := by
  cases s with
  | none => rfl
  | some z =>
    obtain rfl := ir.notNaN
    have h0 : FloatKind.f32.format.read 0 = .number false 0 (-149) := by rfl
    have hw := write_read32 ir
    cases hd : FloatKind.f32.format.read r with
    | nan t f =>
      have := ir.dec
      unfold FloatKind.decode at this
      rw [hd] at this
      cases this
    | infinity t =>
      rw [hd] at hw
      simp only [fo, Option.bind_some, floatBits, Ieee.Format.add, hd, h0, Ieee.Datum.sum, Option.map_some]
      exact congrArg some hw
    | number t m e =>
      obtain ⟨f1, f2, f3, f4, f5⟩ := read_facts32 ir.2 (show FloatKind.f32.decode r = _ from hd)
      rw [hd] at hw
      have hw' : FloatKind.f32.format.nearest t m e = r := hw
      have hmin : min e (-149) = -149 := by omega
      simp only [fo, Option.bind_some, floatBits, Ieee.Format.add, hd, h0, Ieee.Datum.sum, Option.map_some, hmin, signed_zero, Int.add_zero, Option.some.injEq, Ieee.Format.write]
      by_cases hm : m = 0
      · subst hm
        rw [nearest_zero, word32] at hw'
        rw [signed_zero, if_pos rfl]
        cases t with
        | false => simpa [nearest_zero, word32] using hw'
        | true =>
          exfalso
          apply hz
          have : r = 2147483648 := by simpa using hw'.symm
          rw [this]
      · obtain ⟨u, hu⟩ : ∃ u : Nat, (e - -149).toNat = u := ⟨_, rfl⟩
        rw [hu]
        have hne : m <<< u ≠ 0 := by rw [Nat.shiftLeft_eq]; exact Nat.mul_ne_zero hm (Nat.pos_iff_ne_zero.1 (Nat.two_pow_pos _))
        have hp : e - (u : Int) = -149 := by omega
        have hs := nearest_shift FloatKind.f32.format t m u e hm
        rw [hp, hw'] at hs
        cases t with
        | false =>
          have h1 : Ieee.signed false m u = ((m <<< u : Nat) : Int) := rfl
          rw [h1]
          generalize m <<< u = M at *
          have h2 : ¬ (((M : Nat) : Int) = 0) := by omega
          have h3 : ¬ (((M : Nat) : Int) < 0) := by omega
          rw [if_neg h2]
          simp only [h3, decide_false, Int.natAbs_natCast]
          exact hs
        | true =>
          have h1 : Ieee.signed true m u = -((m <<< u : Nat) : Int) := rfl
          rw [h1]
          generalize m <<< u = M at *
          have h2 : ¬ (-((M : Nat) : Int) = 0) := by omega
          have h3 : (-((M : Nat) : Int) < 0) := by omega
          rw [if_neg h2]
          simp only [h3, decide_true, Int.natAbs_neg, Int.natAbs_natCast]
          exact hs

/-- A number that is not 0 is written as a word that is no zero. -/
theorem rung_pos (s : Bool) (m : Nat) (e : Int) (hm : m ≠ 0) (he : -149 ≤ e) : ∃ q, FloatKind.f32.format.nearest s m e = FloatKind.f32.format.word s q ∧ 1 ≤ q ∧ q ≤ 2139095040 := by
  have e1 : FloatKind.f32.format.fractionBits = 23 := rfl
  have e3 : FloatKind.f32.format.leastPlace = -149 := rfl
  have e4 : FloatKind.f32.format.infRung = 2139095040 := rfl
  unfold Ieee.Format.nearest
  rw [if_neg hm]
  refine ⟨_, rfl, ?_, by rw [e4]; exact Nat.min_le_right ..⟩
  rw [e1, e3, e4]
  refine Nat.le_min.2 ⟨Nat.le_trans ?_ (Nat.le_add_left ..), by decide⟩
  generalize hL : max (e + (m.log2 : Int) - (23 : Nat)) (-149) = L
  by_cases h : L ≤ e
  · have h1 : (L - e).toNat = 0 := by omega
    rw [h1, cut_none, Nat.shiftLeft_eq]
    exact Nat.mul_pos (Nat.pos_of_ne_zero hm) (Nat.two_pow_pos _)
  · have h1 : (e - L).toNat = 0 := by omega
    have h2 : (L - e).toNat = m.log2 - 23 := by omega
    have h3 : 23 ≤ m.log2 := by omega
    rw [h1, Nat.shiftLeft_zero, h2]
    unfold Ieee.Toward.cut
    have hmin : min (m.log2 - 23) (m.log2 + 2) = m.log2 - 23 := by omega
    simp only [Nat.one_shiftLeft, hmin]
    refine Nat.le_trans ?_ (Nat.le_add_right ..)
    rw [Nat.le_div_iff_mul_le (Nat.two_pow_pos _), Nat.one_mul]
    exact Nat.le_trans (Nat.pow_le_pow_right (by decide) (by omega)) (Nat.log2_self_le hm)

theorem nz_add {a b : Nat} {u v : Option Nat} (ia : Is .f32 a u) (ib : Is .f32 b v) (hu : NZ u) : NZ (fo .add .f32 u v) := by
  intro h
  obtain ⟨x, y, rfl, rfl, hf⟩ := fo_some h
  obtain rfl := ia.notNaN
  obtain rfl := ib.notNaN
  have hinf : ∀ t, FloatKind.f32.format.write (.infinity t) ≠ 2147483648 := fun t => by cases t <;> decide
  simp only [floatBits, Ieee.Format.add] at hf
  cases ha : FloatKind.f32.format.read a with
  | nan s f => rw [ha] at hf; simp [Ieee.Datum.sum] at hf
  | infinity s =>
    rw [ha] at hf
    cases hb : FloatKind.f32.format.read b with
    | nan t f => rw [hb] at hf; simp [Ieee.Datum.sum] at hf
    | infinity t =>
      rw [hb] at hf
      simp only [Ieee.Datum.sum] at hf
      split at hf
      · simp only [Option.map_some, Option.some.injEq] at hf; exact hinf _ hf
      · cases hf
    | number t n j =>
      rw [hb] at hf
      simp only [Ieee.Datum.sum, Option.map_some, Option.some.injEq] at hf
      exact hinf _ hf
  | number s m i =>
    rw [ha] at hf
    obtain ⟨f1, f2, f3, f4, f5⟩ := read_facts32 ia.2 (show FloatKind.f32.decode a = _ from ha)
    cases hb : FloatKind.f32.format.read b with
    | nan t f => rw [hb] at hf; simp [Ieee.Datum.sum] at hf
    | infinity t =>
      rw [hb] at hf
      simp only [Ieee.Datum.sum, Option.map_some, Option.some.injEq] at hf
      exact hinf _ hf
    | number t n j =>
      rw [hb] at hf
      obtain ⟨g1, g2, g3, g4, g5⟩ := read_facts32 ib.2 (show FloatKind.f32.decode b = _ from hb)
      simp only [Ieee.Datum.sum, Option.map_some, Option.some.injEq, Ieee.Format.write] at hf
      generalize hT : Ieee.signed s m (i - min i j).toNat + Ieee.signed t n (j - min i j).toNat = T at hf
      by_cases h0 : T = 0
      · subst h0
        rw [if_pos rfl, Int.natAbs_zero, nearest_zero, word32] at hf
        cases s with
        | false => simp at hf
        | true =>
          cases t with
          | false => simp at hf
          | true =>
            have s1 : Ieee.signed true m (i - min i j).toNat = -((m <<< (i - min i j).toNat : Nat) : Int) := rfl
            have s2 : Ieee.signed true n (j - min i j).toNat = -((n <<< (j - min i j).toNat : Nat) : Int) := rfl
            rw [s1, s2] at hT
            have hm0 : m <<< (i - min i j).toNat = 0 := by
              generalize m <<< (i - min i j).toNat = A at hT ⊢
              generalize n <<< (j - min i j).toNat = B at hT
              omega
            rw [Nat.shiftLeft_eq] at hm0
            have hm : m = 0 := (Nat.mul_eq_zero.1 hm0).resolve_right (Nat.pos_iff_ne_zero.1 (Nat.two_pow_pos _))
            apply hu
            have hi : i = -149 := by omega
            rw [f4, hm, hi]
            rfl
      · rw [if_neg h0] at hf
        obtain ⟨q, hq, q1, q2⟩ := rung_pos (decide (T < 0)) T.natAbs (min i j) (by omega) (by omega)
        rw [hq, word32] at hf
        split at hf <;> omega
end Go.Proofs.Ytjljdnkedbejaaa
