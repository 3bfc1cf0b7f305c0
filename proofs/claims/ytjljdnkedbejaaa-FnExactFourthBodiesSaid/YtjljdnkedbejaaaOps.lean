/-
  Plain facts on what a 32-bit number is in 64 bits, and on comparing a number with itself. No condition.
-/
import Derived.Test.YtjljdnkedbejaaaBase
import Derived.Test.YtjljdnkedbejaaaLow
namespace Go.Proofs.Ytjljdnkedbejaaa
open Go.RowKit

theorem und32 : (Try.prog.underlying 23).isSome = true := by rw [Try.underlying23]; rfl
theorem und64 : (Try.prog.underlying 61).isSome = true := by rw [Try.underlying61]; rfl

theorem bits_wrap {x : Nat} (h : x < 2 ^ 32) : ((x : Int)) < 4294967296 := by have : x < 4294967296 := h; omega

theorem neq_of {k : FloatKind} {b : Nat} {v : Option Nat} (h : Is k b v) : cmpB .neq k v v = v.isNone := by
  cases v with
  | none => rfl
  | some x => rw [neq_self h]; rfl

/-- What a 32-bit number is in 64 bits. -/
theorem cv_is {x : Nat} {v : Option Nat} (ix : Is .f32 x v) : (v = none ∧ cv .f32 .f64 v = none) ∨ ∃ y, v = some x ∧ cv .f32 .f64 v = some y ∧ Is .f64 y (some y) := by
  cases v with
  | none => exact .inl ⟨rfl, rfl⟩
  | some z =>
    obtain rfl := ix.notNaN
    obtain ⟨y, hy⟩ := Option.isSome_iff_exists.1 (fit_widen ix x rfl)
    exact .inr ⟨y, rfl, hy, cv_notNaN (by decide) hy⟩

theorem cv_neq {x : Nat} {v : Option Nat} (ix : Is .f32 x v) : cmpB .neq .f64 (cv .f32 .f64 v) (cv .f32 .f64 v) = v.isNone := by
  rcases cv_is ix with ⟨rfl, h⟩ | ⟨y, rfl, h, hi⟩
  · rw [h]; rfl
  · rw [h, neq_self hi]; rfl

end Go.Proofs.Ytjljdnkedbejaaa
