/-
  Numbers that are handed back if they are finite, of the model. No condition.
-/
import Derived.Test.YtngjpbfiijkibaaRetN
namespace Go.Proofs.Ytngjpbfiijkibaa
open Go.RowKit

theorem sFinN {x : Nat} {v : Option Nat} (ix : Is .f32 x v) (w : World) : Calls Try.prog 33 #[.float .f32 x] w (RetNum (finN v) (finS v) w) := by
  unfold finN
  cases h : finS v with
  | false =>
    go_enter Try.func33, Try.ntmps33
    go_wp2_with (go_at_call 23; refine (finite_any (by assumption) _).mono ?_; rintro eq wq ⟨nq, rfl, rfl⟩)
    go_ret2
    exact ⟨⟨_, rfl, zero32⟩, by repeat' (first | with_reducible exact Below.refl _ _ | with_reducible assumption | (with_reducible refine Below.setCell ?_ (by first | omega | (simp; done) | (simp; omega)) _) | (with_reducible refine Below.alloc ?_ (by first | omega | (simp; done) | (simp; omega)) _) | (with_reducible refine below_drewN ?_ _) | (with_reducible refine Below.drew ?_) | (with_reducible refine Below.trans ?_ (Below.mono (by first | (with_reducible assumption) | exact Grow.below (by assumption)) (by first | omega | (simp; done) | (simp; omega)))))⟩
  | true =>
    go_enter Try.func33, Try.ntmps33
    go_wp2_with (go_at_call 23; refine (finite_any (by assumption) _).mono ?_; rintro eq wq ⟨nq, rfl, rfl⟩)
    go_ret2
    exact ⟨⟨_, rfl, ix⟩, by repeat' (first | with_reducible exact Below.refl _ _ | with_reducible assumption | (with_reducible refine Below.setCell ?_ (by first | omega | (simp; done) | (simp; omega)) _) | (with_reducible refine Below.alloc ?_ (by first | omega | (simp; done) | (simp; omega)) _) | (with_reducible refine below_drewN ?_ _) | (with_reducible refine Below.drew ?_) | (with_reducible refine Below.trans ?_ (Below.mono (by first | (with_reducible assumption) | exact Grow.below (by assumption)) (by first | omega | (simp; done) | (simp; omega)))))⟩
end Go.Proofs.Ytngjpbfiijkibaa
