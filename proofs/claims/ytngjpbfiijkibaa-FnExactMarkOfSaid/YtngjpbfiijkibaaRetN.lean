/-
  Numbers that are handed back if they are finite, of the program. No condition.
-/
import Derived.Test.YtngjpbfiijkibaaSFn
namespace Go.Proofs.Ytngjpbfiijkibaa
open Go.RowKit

/-- A number is handed back, and whether it is good. -/
def RetNum (v : Option Nat) (ok : Bool) (w : World) (e : Ending) (w' : World) : Prop := (∃ r, e = .returned (.tuple #[.float .f32 r, .bool ok]) ∧ Is .f32 r v) ∧ Below w.heap.size w w'
/-- A number if it is finite. -/
def finN (v : Option Nat) : Option Nat := if finS v then v else some 0
theorem zero32 : Is .f32 0 (some 0) := is_lit32 0 (by decide)

theorem iFinN {x : Nat} {v : Option Nat} (ix : Is .f32 x v) (w : World) : Calls Try.prog 39 #[.float .f32 x] w (RetNum (finN v) (finS v) w) := by
  unfold finN
  cases h : finS v with
  | false =>
    go_enter Try.func39, Try.ntmps39
    go_wp2_with (go_at_call 27; refine (sFinite (by assumption) _).mono ?_; rintro eq wq ⟨nq, rfl, rfl⟩)
    go_ret2
    exact ⟨⟨_, rfl, zero32⟩, by repeat' (first | with_reducible exact Below.refl _ _ | with_reducible assumption | (with_reducible refine Below.setCell ?_ (by first | omega | (simp; done) | (simp; omega)) _) | (with_reducible refine Below.alloc ?_ (by first | omega | (simp; done) | (simp; omega)) _) | (with_reducible refine below_drewN ?_ _) | (with_reducible refine Below.drew ?_) | (with_reducible refine Below.trans ?_ (Below.mono (by first | (with_reducible assumption) | exact Grow.below (by assumption)) (by first | omega | (simp; done) | (simp; omega)))))⟩
  | true =>
    go_enter Try.func39, Try.ntmps39
    go_wp2_with (go_at_call 27; refine (sFinite (by assumption) _).mono ?_; rintro eq wq ⟨nq, rfl, rfl⟩)
    go_ret2
    exact ⟨⟨_, rfl, ix⟩, by repeat' (first | with_reducible exact Below.refl _ _ | with_reducible assumption | (with_reducible refine Below.setCell ?_ (by first | omega | (simp; done) | (simp; omega)) _) | (with_reducible refine Below.alloc ?_ (by first | omega | (simp; done) | (simp; omega)) _) | (with_reducible refine below_drewN ?_ _) | (with_reducible refine Below.drew ?_) | (with_reducible refine Below.trans ?_ (Below.mono (by first | (with_reducible assumption) | exact Grow.below (by assumption)) (by first | omega | (simp; done) | (simp; omega)))))⟩
end Go.Proofs.Ytngjpbfiijkibaa
