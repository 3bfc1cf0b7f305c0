/-
  What a 32-bit number is in 64 bits: none, infinite, a zero, or a number with all its digits; and how it compares. No condition.
-/
import Derived.Test.YtjgdjhokkgandaaLog
namespace Go.Proofs.Ytjgdjhokkgandaa
open Go.RowKit

theorem read_facts32 {y : Nat} {s : Bool} {m : Nat} {e : Int} (hd : FloatKind.f32.decode y = .number s m e) : m < 2 ^ 24 ∧ -149 ≤ e ∧ e ≤ 104 := by
  unfold FloatKind.decode Ieee.Format.read at hd
  have e1 : FloatKind.f32.format.signWeight = 2 ^ 31 := rfl
  have e2 : FloatKind.f32.format.binade = 2 ^ 23 := rfl
  have e3 : FloatKind.f32.format.leastPlace = -149 := rfl
  have e4 : FloatKind.f32.format.infRung = 255 * 2 ^ 23 := rfl
  simp only [e1, e2, e3, e4] at hd
  generalize y % 2 ^ 31 = q at hd
  by_cases h1 : q < 2 ^ 23
  · rw [if_pos h1] at hd
    cases hd
    omega
  · rw [if_neg h1] at hd
    by_cases h2 : q < 255 * 2 ^ 23
    · rw [if_pos h2] at hd
      cases hd
      omega
    · rw [if_neg h2] at hd
      split at hd <;> cases hd

theorem leq_zero {y : Nat} {s : Bool} {m : Nat} {e : Int} (h : FloatKind.f32.decode y = .number s m e) (hs : s = true ∨ m = 0) : cmpB .leq .f32 (some y) (some 0) = true := by
  have o := ord_some (order_num h (show FloatKind.f32.decode 0 = .number false 0 (-149) from by rfl))
  unfold cmpB
  simp only [o]
  unfold Ieee.signed
  simp only [Bool.false_eq_true, if_false, Nat.zero_shiftLeft]
  rcases hs with rfl | rfl
  · simp only [if_true]
    generalize m <<< (e - min e (-149)).toNat = X
    have : compare (-((X : Nat) : Int)) ((0 : Nat) : Int) ≠ .gt := by rw [Ne, Int.compare_eq_gt]; omega
    cases hc : compare (-((X : Nat) : Int)) ((0 : Nat) : Int) with
    | lt => rfl
    | eq => rfl
    | gt => exact absurd hc this
  · cases s <;> simp <;> rfl

/-- A number of 32 bits, in 64. -/
inductive Kind64 (u v : Option Nat) : Prop
  | no (h : v = none)
  | inf (s : Bool) (h : v = some (FloatKind.f64.encode (.infinity s)))
  | zero (y : Nat) (s : Bool) (e : Int) (h : v = some y) (hd : FloatKind.f64.decode y = .number s 0 e) (g : cmpB .leq .f32 u (some 0) = true)
  | neg (y : Nat) (m : Nat) (e : Int) (h : v = some y) (hd : FloatKind.f64.decode y = .number true m e) (hm : m ≠ 0) (g : cmpB .leq .f32 u (some 0) = true)
  | pos (m : Nat) (e : Int) (h : Nrm v m e) (l : -300 ≤ e) (u : e ≤ 300)

theorem kind64 {x : Nat} {v : Option Nat} (ix : Is .f32 x v) : Kind64 v (cv .f32 .f64 v) := by
  cases v with
  | none => exact .no rfl
  | some z =>
    obtain rfl := ix.notNaN
    obtain ⟨y, hy⟩ := Option.isSome_iff_exists.1 (fit_widen ix x rfl)
    have hc : cv .f32 .f64 (some x) = some y := hy
    have hI : Is .f64 y (some y) := cv_notNaN (s := .f32) (by decide) hy
    unfold floatToFloatBits at hy
    rw [if_neg (by decide)] at hy
    rcases single_low ix.dec with ⟨s, hs⟩ | ⟨s, m, e, hd, hm⟩
    · rw [hs] at hy
      simp only [Option.some.injEq] at hy
      subst hy
      exact .inf s hc
    · rw [hd] at hy
      obtain ⟨f1, f2, f3⟩ := read_facts32 hd
      obtain ⟨s', m', e', hr, hb⟩ := write_low .f64 s m e 200 hm (by decide) (by decide)
      simp only [hr] at hy
      have hne : (Ieee.Datum.number s' m' e').isInfinity = false := rfl
      rw [if_neg (by rw [hne]; decide)] at hy
      simp only [Option.some.injEq] at hy
      by_cases hm0 : m = 0
      · subst hm0
        have h0 : FloatKind.f64.decode y = .number s 0 (-1074) := by
          have hn : FloatKind.f64.format.nearest s 0 e = FloatKind.f64.format.word s 0 := by unfold Ieee.Format.nearest; rw [if_pos rfl]
          rw [← hy]
          show FloatKind.f64.decode (FloatKind.f64.format.nearest s 0 e) = _
          rw [hn]; cases s <;> rfl
        exact .zero y s _ hc h0 (leq_zero hd (.inr rfl))
      · have hl : m.log2 < 24 := log2_lt_pow f1 hm0
        have hw := write_exact .f64 s m e hm0 (by rw [show FloatKind.f64.format.fractionBits = 52 from rfl]; omega)
          (by rw [show FloatKind.f64.format.fractionBits = 52 from rfl, show FloatKind.f64.format.leastPlace = -1074 from rfl]; omega) (by simp [eMost]; omega)
        rw [show FloatKind.f64.format.fractionBits = 52 from rfl] at hw
        have hM : 2 ^ 52 ≤ m <<< (52 - m.log2) := by
          rw [Nat.shiftLeft_eq]
          calc 2 ^ 52 = 2 ^ m.log2 * 2 ^ (52 - m.log2) := by rw [← Nat.pow_add]; congr 1; omega
            _ ≤ m * 2 ^ (52 - m.log2) := Nat.mul_le_mul_right _ (Nat.log2_self_le hm0)
        rw [hy] at hw
        cases s with
        | true => exact .neg y _ _ hc hw (by omega) (leq_zero hd (.inl rfl))
        | false => exact .pos _ _ ⟨y, hc, hI.2, hw, hM⟩ (by omega) (by omega)

theorem lss_zero {y : Nat} {s : Bool} {m : Nat} {e : Int} (h : FloatKind.f64.decode y = .number s m e) : cmpB .lss .f64 (some y) (some 0) = (s && decide (m ≠ 0)) := by
  have o := ord_some (order_num h (show FloatKind.f64.decode 0 = .number false 0 (-1074) from by rfl))
  unfold cmpB
  simp only [o]
  unfold Ieee.signed
  simp only [Bool.false_eq_true, if_false, Nat.zero_shiftLeft]
  generalize hX : m <<< (e - min e (-1074)).toNat = X
  have hz : m = 0 ↔ X = 0 := by
    rw [← hX, Nat.shiftLeft_eq]
    constructor
    · rintro rfl; simp
    · intro h; exact (Nat.mul_eq_zero.1 h).resolve_right (Nat.pos_iff_ne_zero.1 (Nat.two_pow_pos _))
  cases s with
  | false =>
    have : compare ((X : Nat) : Int) ((0 : Nat) : Int) ≠ .lt := by rw [Ne, Int.compare_eq_lt]; omega
    simp only [Bool.false_eq_true, if_false, Bool.false_and]
    cases hc : compare ((X : Nat) : Int) ((0 : Nat) : Int) with
    | lt => exact absurd hc this
    | eq => rfl
    | gt => rfl
  | true =>
    simp only [if_true, Bool.true_and]
    by_cases h0 : m = 0
    · rw [hz.1 h0]; simp [h0]
    · have hx : X ≠ 0 := fun h => h0 (hz.2 h)
      have : compare (-((X : Nat) : Int)) ((0 : Nat) : Int) = .lt := by rw [Int.compare_eq_lt]; omega
      rw [this]; simp [h0]

theorem gtr_most {v : Option Nat} {m : Nat} {e : Int} (h : Nrm v m e) (u : e ≤ 300) : cmpB .gtr .f64 v (some 9218868437227405311) = false := by
  obtain ⟨b, rfl, hb, hd, hm⟩ := h
  obtain ⟨f1, f2, f3, f4, f5⟩ := read_facts hb hd
  have hl := log2_lt_pow f1 (show m ≠ 0 by omega)
  have ho : FloatKind.f64.format.order b 9218868437227405311 = some .lt :=
    order_lt (t := 1000) (n := 9007199254740991) (j := 971) ⟨false, m, e, hd, fun _ => by omega⟩ rfl (by decide) (by decide)
  have h2 : ordO .f64 (some b) (some 9218868437227405311) = some .lt := ho
  simp [cmpB, h2]
end Go.Proofs.Ytjgdjhokkgandaa
