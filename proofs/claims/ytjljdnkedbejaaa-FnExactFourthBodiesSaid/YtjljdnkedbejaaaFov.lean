/-
  A product with what is not finite is not finite; three steps: values. No condition.
-/
import Derived.Test.YtjljdnkedbejaaaStn
namespace Go.Proofs.Ytjljdnkedbejaaa
open Go.RowKit

theorem fin_cases {x : Nat} {v : Option Nat} (ix : Is .f32 x v) : finS v = true ∨ v = none ∨ ∃ s, v = some x ∧ FloatKind.f32.decode x = .infinity s := by
  cases v with
  | none => exact .inr (.inl rfl)
  | some z =>
    obtain rfl := ix.notNaN
    rcases single_low ix.dec with ⟨s, hs⟩ | ⟨s, m, e, hd, hm⟩
    · exact .inr (.inr ⟨s, rfl, hs⟩)
    · refine .inl ?_
      have hsub : fo .sub .f32 (some x) (some x) = some 0 := by
        unfold FloatKind.decode at hd
        have h0 : Ieee.signed s m 0 + Ieee.signed (!s) m 0 = 0 := by cases s <;> simp [Ieee.signed] <;> omega
        simp [fo, floatBits, Ieee.Format.sub, hd, Ieee.Datum.opposite, Ieee.Datum.sum, h0]
        cases s <;> rfl
      unfold finS
      rw [hsub]
      decide

theorem nf_inf (s : Bool) : finS (some (FloatKind.f32.format.write (.infinity s))) = false := by cases s <;> decide
theorem nf_none : finS none = false := rfl

/-- What is written of no number. -/
def notNum (d : Option Ieee.Datum) : Prop := d = none ∨ ∃ s, d = some (.infinity s)
theorem nf_map {d : Option Ieee.Datum} (h : notNum d) : finS (d.map FloatKind.f32.format.write) = false := by
  rcases h with rfl | ⟨s, rfl⟩
  · exact nf_none
  · exact nf_inf s

theorem mul_l (s : Bool) (d : Ieee.Datum) : notNum ((Ieee.Datum.infinity s).product d) := by
  cases d with
  | nan a b => exact .inl rfl
  | infinity t => exact .inr ⟨_, rfl⟩
  | number a b c =>
    simp only [Ieee.Datum.product]
    split
    · exact .inl rfl
    · exact .inr ⟨_, rfl⟩
section
variable {a : Nat} {u : Option Nat} (ia : Is .f32 a u) (h : finS u = false)
include ia h
theorem nf_or : u = none ∨ ∃ s, u = some a ∧ FloatKind.f32.format.read a = .infinity s := by
  rcases fin_cases ia with k | k | ⟨s, k, hd⟩
  · rw [k] at h; cases h
  · exact .inl k
  · exact .inr ⟨s, k, hd⟩

theorem nf_mul_l (v : Option Nat) : finS (fo .mul .f32 u v) = false := by
  rcases nf_or ia h with rfl | ⟨s, rfl, hd⟩
  · rfl
  · cases v with
    | none => rfl
    | some b =>
      show finS (((FloatKind.f32.format.read a).product (FloatKind.f32.format.read b)).map _) = false
      rw [hd]
      exact nf_map (mul_l s _)
end

/-- The parts of a tick. -/
def tkP (k : Nat) : Nat := if k = 1 then 3218729143 else 1068299356
def tkT (t : Option Nat) (k : Nat) : Option Nat := fo .mul .f32 t (some (tkP k))
/-- Bodies behind k parts of a step, and whether there are such. -/
def fouV (v : Nat → Option Nat) (c t : Option Nat) (n : Nat) : Nat → Nat → Option Nat
  | 0 => v
  | k + 1 => stepV (fouV v c t n k) c (tkT t k) n
def fouB (v : Nat → Option Nat) (c t : Option Nat) (n : Nat) : Nat → Bool
  | 0 => true
  | k + 1 => fouB v c t n k && stepB (fouV v c t n k) c (tkT t k) n
theorem step_are {u : Nat → Option Nat} {c t : Option Nat} {n : Nat} (h : stepB u c t n = true) : areB u n = true ∧ leastB c = true ∧ finS t = true ∧ areB (stepV u c t n) n = true := by
  unfold stepB kickB plB at h
  simp only [Bool.and_eq_true] at h
  exact ⟨h.2.1.1.1, h.2.1.1.2.1, h.1, h.2.2.2⟩
theorem fouB_no {v : Nat → Option Nat} {c t : Option Nat} {n k : Nat} (h : stepB (fouV v c t n k) c (tkT t k) n = false) : ∀ {m}, k < m → fouB v c t n m = false
  | m + 1, hk => by
    by_cases e : k = m
    · subst e; simp [fouB, h]
    · simp [fouB, fouB_no h (show k < m by omega)]
theorem fou_can {x : Nat} {v : Nat → Option Nat} {c t : Option Nat} {n : Nat} (it : Is .f32 x t) (h : fouB v c t n 3 = true) : (areB v n && leastB c && finS t) = true := by
  have h1 : stepB v c (tkT t 0) n = true := by
    simp only [fouB, Bool.and_eq_true] at h
    exact h.1.1.2
  obtain ⟨a1, a2, a3, -⟩ := step_are h1
  rw [a1, a2]
  cases hT : finS t with
  | true => rfl
  | false => rw [show finS (tkT t 0) = false from nf_mul_l it hT _] at a3; cases a3
end Go.Proofs.Ytjljdnkedbejaaa
