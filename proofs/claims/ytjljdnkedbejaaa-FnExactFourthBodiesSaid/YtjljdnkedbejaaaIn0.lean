/-
  Inner products of vectors, of the program and of the model. No condition.
-/
import Derived.Test.YtjljdnkedbejaaaTo
import Derived.Test.YtjljdnkedbejaaaRootO
namespace Go.Proofs.Ytjljdnkedbejaaa
open Go.RowKit

/-- A number is handed back, and the world has grown by m blocks. -/
def RetG (m : Nat) (v : Option Nat) (w : World) (e : Ending) (w' : World) : Prop := ∃ r, e = .returned (.float .f32 r) ∧ Is .f32 r v ∧ Grow m w w'

def innerO (x0 x1 x2 y0 y1 y2 : Option Nat) : Option Nat := fo .add .f32 (fo .add .f32 (fo .mul .f32 x0 y0) (fo .mul .f32 x1 y1)) (fo .mul .f32 x2 y2)

theorem implInner {a0 a1 a2 b0 b1 b2 : Nat} {x0 x1 x2 y0 y1 y2 : Option Nat} (h0 : Is .f32 a0 x0) (h1 : Is .f32 a1 x1) (h2 : Is .f32 a2 x2) (g0 : Is .f32 b0 y0) (g1 : Is .f32 b1 y1) (g2 : Is .f32 b2 y2) (w : World) :
    Calls Try.prog 74 #[vecV a0 a1 a2, vecV b0 b1 b2] w (RetG 2 (innerO x0 x1 x2 y0 y1 y2) w) := by
  go_enter Try.func74, Try.ntmps74
  go_wp2_with (apply wpList_arith; rfl; simp [Arith]; rfl; rfl; (first | assumption | exact is_lit64 _ (by decide) | exact is_lit32 _ (by decide)); (first | assumption | exact is_lit64 _ (by decide) | exact is_lit32 _ (by decide)); intro Kq hKq rq nq hq; go_simp)
  go_ret
  refine ⟨_, rfl, by assumption, ?_, by simp [*]⟩
  repeat' (first | with_reducible exact Below.refl _ _ | with_reducible assumption | (with_reducible refine Below.setCell ?_ (by first | omega | (simp; done) | (simp; omega)) _) | (with_reducible refine Below.alloc ?_ (by first | omega | (simp; done) | (simp; omega)) _) | (with_reducible refine below_drewN ?_ _) | (with_reducible refine Below.drew ?_) | (with_reducible refine Below.trans ?_ (Below.mono (by first | (with_reducible assumption) | exact Grow.below (by assumption)) (by first | omega | (simp; done) | (simp; omega)))))

theorem sInner {a0 a1 a2 b0 b1 b2 : Nat} {x0 x1 x2 y0 y1 y2 : Option Nat} (h0 : Is .f32 a0 x0) (h1 : Is .f32 a1 x1) (h2 : Is .f32 a2 x2) (g0 : Is .f32 b0 y0) (g1 : Is .f32 b1 y1) (g2 : Is .f32 b2 y2) (w : World) :
    Calls Try.prog 58 #[vecV a0 a1 a2, vecV b0 b1 b2] w (RetG 2 (innerO x0 x1 x2 y0 y1 y2) w) := by
  go_enter Try.func58, Try.ntmps58
  go_wp2_with (apply wpList_arith; rfl; simp [Arith]; rfl; rfl; (first | assumption | exact is_lit64 _ (by decide) | exact is_lit32 _ (by decide)); (first | assumption | exact is_lit64 _ (by decide) | exact is_lit32 _ (by decide)); intro Kq hKq rq nq hq; go_simp)
  go_ret
  refine ⟨_, rfl, by assumption, ?_, by simp [*]⟩
  repeat' (first | with_reducible exact Below.refl _ _ | with_reducible assumption | (with_reducible refine Below.setCell ?_ (by first | omega | (simp; done) | (simp; omega)) _) | (with_reducible refine Below.alloc ?_ (by first | omega | (simp; done) | (simp; omega)) _) | (with_reducible refine below_drewN ?_ _) | (with_reducible refine Below.drew ?_) | (with_reducible refine Below.trans ?_ (Below.mono (by first | (with_reducible assumption) | exact Grow.below (by assumption)) (by first | omega | (simp; done) | (simp; omega)))))
end Go.Proofs.Ytjljdnkedbejaaa
