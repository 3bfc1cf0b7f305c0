/-
  The phase of a swing: plain facts. No condition.
-/
import Derived.Test.YtoomfcdaojmakaaWid
import Derived.Test.YtoomfcdaojmakaaMulO
import Derived.Test.YtoomfcdaojmakaaNarF
import Derived.Test.YtoomfcdaojmakaaPart0
namespace Go.Proofs.Ytoomfcdaojmakaa
open Go.RowKit

/-- What is finite is a number. -/
theorem fin_numS {x : Nat} {v : Option Nat} (ix : Is .f32 x v) (h : finS v = true) : ∃ s m e, v = some x ∧ FloatKind.f32.decode x = .number s m e := by
  cases v with
  | none => exact absurd h (by decide)
  | some z =>
    obtain rfl := ix.notNaN
    rcases single_low ix.dec with ⟨s, hs⟩ | ⟨s, m, e, hd, -⟩
    · exfalso
      have hsub : fo .sub .f32 (some x) (some x) = none := by
        unfold FloatKind.decode at hs
        simp [fo, floatBits, Ieee.Format.sub, hs, Ieee.Datum.opposite, Ieee.Datum.sum]
      unfold finS at h
      rw [hsub] at h
      exact absurd h (by decide)
    · exact ⟨s, m, e, rfl, hd⟩

theorem le_cv {v : Option Nat} {t : Int} (h : LeO .f32 v t) (h1 : tLeast .f64 ≤ t) (h2 : t ≤ tMost .f64) : LeO .f64 (cv .f32 .f64 v) t := by
  intro y hy
  unfold cv at hy
  cases v with
  | none => cases hy
  | some x =>
    simp only [Option.bind_some] at hy
    obtain ⟨s, m, e, hd, hm⟩ := h x rfl
    unfold floatToFloatBits at hy
    rw [if_neg (by decide), hd] at hy
    obtain ⟨s', m', e', hr, hb⟩ := write_le .f64 s m e t hm h1 h2
    simp only [hr] at hy
    have hne : (Ieee.Datum.number s' m' e').isInfinity = false := rfl
    rw [if_neg (by rw [hne]; decide)] at hy
    cases hy
    exact ⟨s', m', e', hr, hb⟩

/-- A number that is at least 0 and less than 1 is not greater than 1. -/
theorem part_le {r : Nat} {e : Option Nat} (ie : Is .f32 r e) (h : partB e = true) : LeO .f32 e 0 := by
  have hf : finS e = true := by
    cases hh : finS e with
    | true => rfl
    | false => rw [part_fin ie hh] at h; cases h
  obtain ⟨s, m, i, rfl, hd⟩ := fin_numS ie hf
  intro b hb
  cases hb
  refine ⟨s, m, i, hd, fun hm => ?_⟩
  have r0 : FloatKind.f32.format.read 0 = .number false 0 (-149) := by rfl
  have r1 : FloatKind.f32.format.read 1065353216 = .number false 8388608 (-23) := by rfl
  have hd' := hd
  unfold FloatKind.decode at hd'
  unfold partB cmpB at h
  simp only [ordO, Option.bind_some, Ieee.Format.order, hd', r0, r1, Ieee.Datum.order] at h
  obtain ⟨f1, f2, -, -, f5⟩ := read_facts32 ie.2 hd
  have e0 : (i - min i (-149)).toNat = (i + 149).toNat := by omega
  rw [e0] at h
  have hz : ∀ up, Ieee.signed false 0 up = 0 := fun up => by simp [Ieee.signed]
  rw [hz] at h
  have hpos : 0 < m <<< (i + 149).toNat := by rw [Nat.shiftLeft_eq]; exact Nat.mul_pos (Nat.pos_of_ne_zero hm) (Nat.two_pow_pos _)
  have hpos1 : 0 < m <<< (i - min i (-23)).toNat := by rw [Nat.shiftLeft_eq]; exact Nat.mul_pos (Nat.pos_of_ne_zero hm) (Nat.two_pow_pos _)
  obtain ⟨hg, hl⟩ := (Bool.and_eq_true_iff).1 h
  have hs : s = false := by
    cases s with
    | false => rfl
    | true =>
      exfalso
      have hneg : Ieee.signed true m (i + 149).toNat < 0 := by
        unfold Ieee.signed
        simp only [if_true]
        omega
      rw [Int.compare_eq_lt.2 hneg] at hg
      simp at hg
  subst hs
  have hlt : Ieee.signed false m (i - min i (-23)).toNat < Ieee.signed false 8388608 (-23 - min i (-23)).toNat := by
    cases hcmp : compare (Ieee.signed false m (i - min i (-23)).toNat) (Ieee.signed false 8388608 (-23 - min i (-23)).toNat) with
    | lt => exact Int.compare_eq_lt.1 hcmp
    | eq => rw [hcmp] at hl; simp at hl
    | gt => rw [hcmp] at hl; simp at hl
  have hsf : ∀ q up, Ieee.signed false q up = ((q <<< up : Nat) : Int) := fun q up => by simp [Ieee.signed]
  rw [hsf, hsf, Nat.shiftLeft_eq, Nat.shiftLeft_eq] at hlt
  have hlt' : m * 2 ^ (i - min i (-23)).toNat < 2 ^ 23 * 2 ^ (-23 - min i (-23)).toNat := by exact_mod_cast hlt
  rw [← Nat.pow_add] at hlt'
  by_cases hi : i ≤ -23
  · refine ⟨(-i).toNat, ?_, by omega⟩
    have h1 : (i - min i (-23)).toNat = 0 := by omega
    have h2 : 23 + (-23 - min i (-23)).toNat = (-i).toNat := by omega
    rw [h1, h2, Nat.pow_zero, Nat.mul_one] at hlt'
    exact Nat.le_of_lt hlt'
  · have h1 : (i - min i (-23)).toNat = (i + 23).toNat := by omega
    have h2 : 23 + (-23 - min i (-23)).toNat = 23 := by omega
    rw [h1, h2] at hlt'
    have hle : 2 ^ (i + 23).toNat ≤ m * 2 ^ (i + 23).toNat := Nat.le_mul_of_pos_left _ (Nat.pos_of_ne_zero hm)
    have h3 : (i + 23).toNat < 23 := (Nat.pow_lt_pow_iff_right (by decide : 1 < 2)).1 (Nat.lt_of_le_of_lt hle hlt')
    refine ⟨(-i).toNat, ?_, by omega⟩
    have h4 : 2 ^ 23 = 2 ^ (-i).toNat * 2 ^ (i + 23).toNat := by rw [← Nat.pow_add]; congr 1; omega
    rw [h4] at hlt'
    exact Nat.le_of_lt (Nat.lt_of_mul_lt_mul_right hlt')

theorem part_fin' {r : Nat} {e : Option Nat} (ie : Is .f32 r e) (h : partB e = true) : finS e = true := by
  cases hh : finS e with
  | true => rfl
  | false => rw [part_fin ie hh] at h; cases h

theorem quo_z0 : fo .quo .f64 (some 0) (some 4618760256179416344) = some 0 := by decide +kernel
theorem quo_z1 : fo .quo .f64 (some 9223372036854775808) (some 4618760256179416344) = some 9223372036854775808 := by decide +kernel
theorem word_z (s : Bool) : FloatKind.f64.format.word s 0 = if s then 9223372036854775808 else 0 := by cases s <;> decide
theorem write_z (s : Bool) (j : Int) : FloatKind.f64.format.write (.number s 0 j) = if s then 9223372036854775808 else 0 := by
  rw [← word_z]
  show FloatKind.f64.format.nearest s 0 j = _
  unfold Ieee.Format.nearest
  exact if_pos rfl
theorem mul_z {q : Nat} {s : Bool} {m : Nat} {i : Int} (hd : FloatKind.f64.decode q = .number s m i) : fo .mul .f64 (some q) (some 0) = some (if s then 9223372036854775808 else 0) := by
  have h0 : FloatKind.f64.format.read 0 = .number false 0 (-1074) := by rfl
  unfold FloatKind.decode at hd
  rw [← write_z s (i + (-1074))]
  simp only [fo, Option.bind_some, floatBits, Ieee.Format.mul, hd, h0, Ieee.Datum.product, Option.map_some, Nat.mul_zero, Bool.bne_false]
theorem swP_big {y : Nat} {e v : Option Nat} (iy : Is .f64 y v) (le1 : LeO .f64 e 0) (h : LeO .f64 v 53) : Fit .f64 .f32 (swP e v) := by
  have h1 : LeO .f64 (fo .quo .f64 (fo .mul .f64 e (sinP v)) (some 4618760256179416344)) (0 + 110 - 2) := le_div (le_mul le1 (le_sinP iy) (by decide) (by decide)) (ge_lit (k := .f64) (b := 4618760256179416344) (t := 2) (by kernel_rfl)) (by decide) (by decide)
  have h2 : LeO .f64 (swP e v) (108 + 1) := by unfold swP; exact le_sub (u := 108) (h.mono (by decide)) (h1.mono (by decide)) (by decide) (by decide)
  exact fit_le h2 (by decide)

theorem fit_swP {r x : Nat} {e v : Option Nat} (ie : Is .f32 r e) (ix : Is .f32 x v) (hp : partB e = true) (hf : finS v = true) : Fit .f64 .f32 (swP (cv .f32 .f64 e) (cv .f32 .f64 v)) := by
  obtain ⟨s, m, i, rfl, hd⟩ := fin_numS ix hf
  have le1 := le_cv (part_le ie hp) (by decide) (by decide)
  by_cases hm : m = 0
  · subst hm
    obtain ⟨-, hc⟩ | ⟨y, -, hc, iy⟩ := cv_is ix
    · intro z hz
      unfold swP at hz
      rw [hc] at hz
      cases hz
    · exact swP_big (hc ▸ iy) le1 (le_cv (fun b hb => by cases hb; exact ⟨s, 0, i, hd, fun h => absurd rfl h⟩) (by decide) (by decide))
  · obtain ⟨y, hy, iy, hdy⟩ := wide_dec ix.2 hd hm
    by_cases hE : i - ((52 - m.log2 : Nat) : Int) < 0
    · refine swP_big (hy ▸ iy) le1 ?_
      rw [hy]
      intro b hb
      cases hb
      have := (read_facts iy.2 hdy).1
      exact ⟨s, _, _, hdy, fun _ => ⟨53, by omega, by omega⟩⟩
    · have hpart := part_great iy.2 hdy (by omega)
      have hs : sinP (some y) = some 0 := by unfold sinP; rw [hpart]; exact sinF_zero
      have hz : fo .quo .f64 (fo .mul .f64 (cv .f32 .f64 e) (some 0)) (some 4618760256179416344) = some 0 ∨ fo .quo .f64 (fo .mul .f64 (cv .f32 .f64 e) (some 0)) (some 4618760256179416344) = some 9223372036854775808 := by
        obtain ⟨s1, m1, i1, rfl, hd1⟩ := fin_numS ie (part_fin' ie hp)
        obtain ⟨h0, -⟩ | ⟨q, -, hc, iq⟩ := cv_is ie
        · cases h0
        · obtain ⟨s2, m2, i2, hd2, -⟩ := le1 q hc
          rw [hc, mul_z hd2]
          cases s2
          · exact .inl quo_z0
          · exact .inr quo_z1
      have hsw : swP (cv .f32 .f64 e) (cv .f32 .f64 (some x)) = some y := by
        unfold swP
        rw [hy, hs]
        rcases hz with hz | hz
        · rw [hz]; exact sub_zero iy.2 hdy
        · rw [hz]; exact sub_negzero iy.2 hdy (by rw [Nat.shiftLeft_eq]; exact Nat.mul_ne_zero hm (Nat.pos_iff_ne_zero.1 (Nat.two_pow_pos _)))
      rw [hsw]
      intro z hzz
      cases hzz
      rw [narrow_wide ix.2 hd hm hy]
      rfl

/-- The phase of a swing, and whether it is one. -/
def phN (e v : Option Nat) : Option Nat := if partB e && finS v then finN (cv .f64 .f32 (swP (cv .f32 .f64 e) (cv .f32 .f64 v))) else some 0
def phB (e v : Option Nat) : Bool := partB e && finS v && finS (cv .f64 .f32 (swP (cv .f32 .f64 e) (cv .f32 .f64 v)))
end Go.Proofs.Ytoomfcdaojmakaa
