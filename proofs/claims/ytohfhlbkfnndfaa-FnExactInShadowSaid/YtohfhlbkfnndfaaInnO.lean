/-
  Inner products and lengths of vectors, of the program and of the model. No condition.
-/
import Derived.Test.YtohfhlbkfnndfaaIn0
namespace Go.Proofs.Ytohfhlbkfnndfaa
open Go.RowKit

theorem implSize {a0 a1 a2 : Nat} {x0 x1 x2 : Option Nat} (h0 : Is .f32 a0 x0) (h1 : Is .f32 a1 x1) (h2 : Is .f32 a2 x2) (w : World) :
    Calls Try.prog 31 #[vecV a0 a1 a2] w (RetG 3 (rootO (innerO x0 x1 x2 x0 x1 x2)) w) := by
  go_enter Try.func31, Try.ntmps31
  go_wp2_with (first | (go_at_call 33; refine (implInner h0 h1 h2 h0 h1 h2 _).mono ?_; rintro eq wq ⟨rq, rfl, hq, hb⟩; obtain ⟨hc, hf⟩ := bcell hb.1; have hz := hb.2; try simp at hz) | (go_at_call 45; refine (root_any (by assumption) _).mono ?_; rintro eq wq ⟨rq, nq, rfl, hq, rfl⟩))
  go_ret
  refine ⟨_, rfl, by assumption, ?_, by simp [*]⟩
  repeat' (first | with_reducible exact Below.refl _ _ | with_reducible assumption | (with_reducible refine Below.setCell ?_ (by first | omega | (simp; done) | (simp; omega)) _) | (with_reducible refine Below.alloc ?_ (by first | omega | (simp; done) | (simp; omega)) _) | (with_reducible refine below_drewN ?_ _) | (with_reducible refine Below.drew ?_) | (with_reducible refine Below.trans ?_ (Below.mono (by first | (with_reducible assumption) | exact Grow.below (by assumption)) (by first | omega | (simp; done) | (simp; omega)))))
theorem sLong {a0 a1 a2 : Nat} {x0 x1 x2 : Option Nat} (h0 : Is .f32 a0 x0) (h1 : Is .f32 a1 x1) (h2 : Is .f32 a2 x2) (w : World) :
    Calls Try.prog 60 #[vecV a0 a1 a2] w (RetG 3 (rootO (innerO x0 x1 x2 x0 x1 x2)) w) := by
  go_enter Try.func60, Try.ntmps60
  go_wp2_with (first | (go_at_call 62; refine (sInner h0 h1 h2 h0 h1 h2 _).mono ?_; rintro eq wq ⟨rq, rfl, hq, hb⟩; obtain ⟨hc, hf⟩ := bcell hb.1; have hz := hb.2; try simp at hz) | (go_at_call 56; refine (l01Sqrt_any (by assumption) _).mono ?_; rintro eq wq ⟨rq, nq, rfl, hq, rfl⟩))
  go_ret
  refine ⟨_, rfl, by assumption, ?_, by simp [*]⟩
  repeat' (first | with_reducible exact Below.refl _ _ | with_reducible assumption | (with_reducible refine Below.setCell ?_ (by first | omega | (simp; done) | (simp; omega)) _) | (with_reducible refine Below.alloc ?_ (by first | omega | (simp; done) | (simp; omega)) _) | (with_reducible refine below_drewN ?_ _) | (with_reducible refine Below.drew ?_) | (with_reducible refine Below.trans ?_ (Below.mono (by first | (with_reducible assumption) | exact Grow.below (by assumption)) (by first | omega | (simp; done) | (simp; omega)))))
end Go.Proofs.Ytohfhlbkfnndfaa
