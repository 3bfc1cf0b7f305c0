/-
  What comes of a number that is not finite is not finite: sums, differences, products, roots, inner products of 32-bit numbers. No condition.
-/
import Derived.Test.YtohfhlbkfnndfaaSFn
import Derived.Test.YtohfhlbkfnndfaaRooS
import Derived.Test.YtohfhlbkfnndfaaSin0
namespace Go.Proofs.Ytohfhlbkfnndfaa
open Go.RowKit

theorem nf_inf (s : Bool) : finS (some (FloatKind.f32.format.write (.infinity s))) = false := by cases s <;> decide
theorem nf_none : finS none = false := rfl

/-- What is written of no number. -/
def notNum (d : Option Ieee.Datum) : Prop := d = none ∨ ∃ s, d = some (.infinity s)
theorem nf_map {d : Option Ieee.Datum} (h : notNum d) : finS (d.map FloatKind.f32.format.write) = false := by
  rcases h with rfl | ⟨s, rfl⟩
  · exact nf_none
  · exact nf_inf s

theorem sum_l (s : Bool) (d : Ieee.Datum) : notNum ((Ieee.Datum.infinity s).sum d) := by
  cases d with
  | nan a b => exact .inl rfl
  | infinity t =>
    cases s <;> cases t
    · exact .inr ⟨false, rfl⟩
    · exact .inl rfl
    · exact .inl rfl
    · exact .inr ⟨true, rfl⟩
  | number a b c => exact .inr ⟨s, rfl⟩
theorem sum_r (s : Bool) (d : Ieee.Datum) : notNum (d.sum (Ieee.Datum.infinity s)) := by
  cases d with
  | nan a b => exact .inl rfl
  | infinity t =>
    cases s <;> cases t
    · exact .inr ⟨false, rfl⟩
    · exact .inl rfl
    · exact .inl rfl
    · exact .inr ⟨true, rfl⟩
  | number a b c => exact .inr ⟨s, rfl⟩
theorem mul_l (s : Bool) (d : Ieee.Datum) : notNum ((Ieee.Datum.infinity s).product d) := by
  cases d with
  | nan a b => exact .inl rfl
  | infinity t => exact .inr ⟨_, rfl⟩
  | number a b c =>
    simp only [Ieee.Datum.product]
    split
    · exact .inl rfl
    · exact .inr ⟨_, rfl⟩
theorem mul_r (s : Bool) (d : Ieee.Datum) : notNum (d.product (Ieee.Datum.infinity s)) := by
  cases d with
  | nan a b => exact .inl rfl
  | infinity t => exact .inr ⟨_, rfl⟩
  | number a b c =>
    simp only [Ieee.Datum.product]
    split
    · exact .inl rfl
    · exact .inr ⟨_, rfl⟩

section
variable {a : Nat} {u : Option Nat} (ia : Is .f32 a u) (h : finS u = false)
include ia h
theorem nf_or : u = none ∨ ∃ s, u = some a ∧ FloatKind.f32.format.read a = .infinity s := by
  rcases fin_cases ia with k | k | ⟨s, k, hd⟩
  · rw [k] at h; cases h
  · exact .inl k
  · exact .inr ⟨s, k, hd⟩

theorem nf_add_l (v : Option Nat) : finS (fo .add .f32 u v) = false := by
  rcases nf_or ia h with rfl | ⟨s, rfl, hd⟩
  · rfl
  · cases v with
    | none => rfl
    | some b =>
      show finS (((FloatKind.f32.format.read a).sum (FloatKind.f32.format.read b)).map _) = false
      rw [hd]
      exact nf_map (sum_l s _)
theorem nf_add_r (v : Option Nat) : finS (fo .add .f32 v u) = false := by
  rcases nf_or ia h with rfl | ⟨s, rfl, hd⟩
  · cases v <;> rfl
  · cases v with
    | none => rfl
    | some b =>
      show finS (((FloatKind.f32.format.read b).sum (FloatKind.f32.format.read a)).map _) = false
      rw [hd]
      exact nf_map (sum_r s _)
theorem nf_sub_l (v : Option Nat) : finS (fo .sub .f32 u v) = false := by
  rcases nf_or ia h with rfl | ⟨s, rfl, hd⟩
  · rfl
  · cases v with
    | none => rfl
    | some b =>
      show finS (((FloatKind.f32.format.read a).sum (FloatKind.f32.format.read b).opposite).map _) = false
      rw [hd]
      exact nf_map (sum_l s _)
theorem nf_sub_r (v : Option Nat) : finS (fo .sub .f32 v u) = false := by
  rcases nf_or ia h with rfl | ⟨s, rfl, hd⟩
  · cases v <;> rfl
  · cases v with
    | none => rfl
    | some b =>
      show finS (((FloatKind.f32.format.read b).sum (FloatKind.f32.format.read a).opposite).map _) = false
      rw [hd]
      exact nf_map (sum_r _ _)
theorem nf_mul_l (v : Option Nat) : finS (fo .mul .f32 u v) = false := by
  rcases nf_or ia h with rfl | ⟨s, rfl, hd⟩
  · rfl
  · cases v with
    | none => rfl
    | some b =>
      show finS (((FloatKind.f32.format.read a).product (FloatKind.f32.format.read b)).map _) = false
      rw [hd]
      exact nf_map (mul_l s _)
theorem nf_mul_r (v : Option Nat) : finS (fo .mul .f32 v u) = false := by
  rcases nf_or ia h with rfl | ⟨s, rfl, hd⟩
  · cases v <;> rfl
  · cases v with
    | none => rfl
    | some b =>
      show finS (((FloatKind.f32.format.read b).product (FloatKind.f32.format.read a)).map _) = false
      rw [hd]
      exact nf_map (mul_r s _)

theorem nf_root : finS (rootO u) = false := by
  rcases nf_or ia h with rfl | ⟨s, rfl, hd⟩
  · rfl
  · have hw := write_read32 ia
    rw [hd] at hw
    subst hw
    cases s <;> decide
end

/-- What arithmetic comes to is a word. -/
theorem fo_is {op : BinOp} {a b : Nat} {u v : Option Nat} (hop : Arith op) (ia : Is .f32 a u) (ib : Is .f32 b v) (w : World) : ∃ r, Is .f32 r (fo op .f32 u v) := by
  obtain ⟨r, n, _, h⟩ := run_arith Try.prog w hop 22 .f32 a b ia ib
  exact ⟨r, h⟩
theorem and3_f {a b c : Bool} (h : (a && b && c) = false) : a = false ∨ b = false ∨ c = false := by
  cases a <;> cases b <;> cases c <;> simp_all
end Go.Proofs.Ytohfhlbkfnndfaa
