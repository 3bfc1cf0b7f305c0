/-
  Finite 32-bit numbers, of the program. No condition.
-/
import Derived.Test.YtbcbaejfafamjaaDoorFinD
import Derived.Test.YtbcbaejfafamjaaDoorMem
namespace Go.Proofs.YtbcbaejfafamjaaDoor
open Go.RowKit

theorem sFinite {x : Nat} {v : Option Nat} (ix : Is .f32 x v) (w : World) :
    Calls Tryd.prog 73 #[.float .f32 x] w (RetV (.bool (finS v)) w) := by
  have h := implFinite_any ix w
  rw [fin_same ix] at h
  exact h

theorem fin_cases {x : Nat} {v : Option Nat} (ix : Is .f32 x v) : finS v = true ∨ v = none ∨ ∃ s, v = some x ∧ FloatKind.f32.decode x = .infinity s := by
  cases v with
  | none => exact .inr (.inl rfl)
  | some z =>
    obtain rfl := ix.notNaN
    rcases single_low ix.dec with ⟨s, hs⟩ | ⟨s, m, e, hd, hm⟩
    · exact .inr (.inr ⟨s, rfl, hs⟩)
    · refine .inl ?_
      have hsub : fo .sub .f32 (some x) (some x) = some 0 := by
        unfold FloatKind.decode at hd
        have h0 : Ieee.signed s m 0 + Ieee.signed (!s) m 0 = 0 := by cases s <;> simp [Ieee.signed] <;> omega
        simp [fo, floatBits, Ieee.Format.sub, hd, Ieee.Datum.opposite, Ieee.Datum.sum, h0]
        cases s <;> rfl
      unfold finS
      rw [hsub]
      decide

end Go.Proofs.YtbcbaejfafamjaaDoor
