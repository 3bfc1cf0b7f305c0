/-
  A 64-bit number divided by 1. No condition.
-/
import Derived.Test.YtoomfcdaojmakaaMulO
namespace Go.Proofs.Ytoomfcdaojmakaa
open Go.RowKit

theorem div_one {x : Nat} {v : Option Nat} (ix : Is .f64 x v) : fo .quo .f64 v (some 4607182418800017408) = v := by
  cases v with
  | none => rfl
  | some z =>
    obtain rfl := ix.notNaN
    have h1 : FloatKind.f64.format.read 4607182418800017408 = .number false (2 ^ 52) (-52) := by rfl
    have e1 : FloatKind.f64.format.fractionBits = 52 := rfl
    cases hd : FloatKind.f64.decode x with
    | nan s f => have := ix.dec; rw [hd] at this; cases this
    | infinity s =>
      have hw := inf_word ix.2 hd
      unfold FloatKind.decode at hd
      simp only [fo, Option.bind_some, floatBits, Ieee.Format.div, h1, hd, Ieee.Datum.quotient]
      simpa [FloatKind.encode] using hw
    | number s m e =>
      obtain ⟨f1, f2, f3, f4, f5⟩ := read_facts ix.2 hd
      have hd' := hd
      unfold FloatKind.decode at hd'
      have hne : ¬ ((2 : Nat) ^ 52 = 0) := by decide
      have hl : ((2 : Nat) ^ 52).log2 = 52 := by decide
      simp only [fo, Option.bind_some, floatBits, Ieee.Format.div, h1, hd', Ieee.Datum.quotient, if_neg hne, Option.map_some, Option.some.injEq, e1, hl]
      by_cases h0 : m = 0
      · subst h0
        have := zero_word ix.2 hd (e - -52 - ((52 + 2 + 52 - (0 : Nat).log2 : Nat) : Int) - 1)
        simpa [FloatKind.encode] using this
      · have hm : m.log2 < 53 := log2_lt_pow f1 h0
        obtain ⟨j, hj⟩ : ∃ j, 52 + 2 + 52 - m.log2 = j + 52 := ⟨54 - m.log2, by omega⟩
        rw [hj]
        have hs : m <<< (j + 52) = m * 2 ^ j * 2 ^ 52 := by rw [Nat.shiftLeft_eq, Nat.pow_add, Nat.mul_assoc]
        have hq : m <<< (j + 52) / 2 ^ 52 = m * 2 ^ j := by rw [hs]; exact Nat.mul_div_cancel _ (by decide)
        have hr : m <<< (j + 52) % 2 ^ 52 = 0 := by rw [hs]; exact Nat.mul_mod_left _ _
        rw [hq, hr]
        have hz : 2 * (m * 2 ^ j) + ((0 : Nat) != 0).toNat = m <<< (j + 1) := by
          rw [Nat.shiftLeft_eq, Nat.pow_succ]
          show 2 * (m * 2 ^ j) + 0 = m * (2 ^ j * 2)
          rw [Nat.add_zero, Nat.mul_comm 2, Nat.mul_assoc]
        rw [hz]
        have hw := write_shift ix.2 hd h0 (j + 1)
        have hp : e - -52 - ((j + 52 : Nat) : Int) - 1 = e - ((j + 1 : Nat) : Int) := by omega
        have hb : (s ^^ false) = s := by cases s <;> rfl
        rw [hp, hb]
        exact hw
end Go.Proofs.Ytoomfcdaojmakaa
