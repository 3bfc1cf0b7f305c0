/-
  Vectors whose words stand for the same values are found equal by the laws; vectors in blocks. No condition.
-/
import Derived.Test.YtlfcjfaddcciaaaHas
namespace Go.Proofs.Ytlfcjfaddcciaaa
open Go.RowKit

theorem eqVec_any {a0 a1 a2 b0 b1 b2 : Nat} {x0 x1 x2 : Option Nat} (h0 : Is .f32 a0 x0) (h1 : Is .f32 a1 x1) (h2 : Is .f32 a2 x2) (g0 : Is .f32 b0 x0) (g1 : Is .f32 b1 x1) (g2 : Is .f32 b2 x2) (w : World) :
    Calls Try.prog 14 #[vecV a0 a1 a2, vecV b0 b1 b2] w fun e w' => e = .returned (.bool true) ∧ Below w.heap.size w w' := by
  go_enter Try.func14, Try.ntmps14
  go_wp2_with (first | (apply wpList_wide und32 Try.underlying42; rfl; rfl; (first | assumption | exact is_lit64 _ (by decide) | exact is_lit32 _ (by decide)); intro Kq hKq rq nq hq; go_simp) | (go_at_call 18; refine (sameFloat_any (by assumption) (by assumption) _).mono ?_; rintro eq wq ⟨nq, rfl, rfl⟩))
  go_ret
  refine ⟨rfl, ?_⟩
  repeat' (first | with_reducible exact Below.refl _ _ | with_reducible assumption | (with_reducible refine Below.setCell ?_ (by first | omega | (simp; done) | (simp; omega)) _) | (with_reducible refine Below.alloc ?_ (by first | omega | (simp; done) | (simp; omega)) _) | (with_reducible refine below_drewN ?_ _) | (with_reducible refine Below.drew ?_) | (with_reducible refine Below.trans ?_ (Below.mono (by first | (with_reducible assumption) | exact Grow.below (by assumption)) (by first | omega | (simp; done) | (simp; omega)))))

/-- A vector in a block. -/
def VecIn (w : World) (R c0 c1 c2 : Nat) : Prop := R < w.heap.size ∧ w.cell? ⟨R, 0, none⟩ = some (.float .f32 c0) ∧ w.cell? ⟨R, 1, none⟩ = some (.float .f32 c1) ∧ w.cell? ⟨R, 2, none⟩ = some (.float .f32 c2)
theorem VecIn.at {X Y : World} {R c0 c1 c2 : Nat} (h : VecIn X R c0 c1 c2) (g : Below X.heap.size X Y) : VecIn Y R c0 c1 c2 :=
  ⟨Nat.lt_of_lt_of_le h.1 g.size, by rw [g.cell (p := ⟨R, 0, none⟩) h.1]; exact h.2.1, by rw [g.cell (p := ⟨R, 1, none⟩) h.1]; exact h.2.2.1, by rw [g.cell (p := ⟨R, 2, none⟩) h.1]; exact h.2.2.2⟩
theorem vec_alloc (w : World) (a b c : Nat) (T : TypeId) : VecIn (w.alloc (.cells #[.float .f32 a, .float .f32 b, .float .f32 c] T)) w.heap.size a b c := ⟨by simp, by simp, by simp, by simp⟩
theorem vec_put {W : World} {R : Nat} (h : Has R 3 W) (a b c : Nat) : VecIn (((W.setCell ⟨R, 0, none⟩ (.float .f32 a)).setCell ⟨R, 1, none⟩ (.float .f32 b)).setCell ⟨R, 2, none⟩ (.float .f32 c)) R a b c := by
  have q0 := h.cell (o := 0) (by decide)
  have q1 := h.cell (o := 1) (by decide)
  have q2 := h.cell (o := 2) (by decide)
  refine ⟨by simpa using h.1, ?_, ?_, ?_⟩
  · rw [World.cell?_setCell_other _ _ _ _ (by simp), World.cell?_setCell_other _ _ _ _ (by simp), cell_set _ (by rw [q0]; rfl)]
  · rw [World.cell?_setCell_other _ _ _ _ (by simp), cell_set _ (by rw [World.cell?_setCell_other _ _ _ _ (by simp), q1]; rfl)]
  · rw [cell_set _ (by rw [World.cell?_setCell_other _ _ _ _ (by simp), World.cell?_setCell_other _ _ _ _ (by simp), q2]; rfl)]
end Go.Proofs.Ytlfcjfaddcciaaa
