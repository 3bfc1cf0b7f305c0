/-
  Whether four numbers are a ball, of the program and of the model. No condition.
-/
import Derived.Test.YtbcbaejfafamjaaDoorFinL
import Derived.Test.YtbcbaejfafamjaaDoorMem
namespace Go.Proofs.YtbcbaejfafamjaaDoor
open Go.RowKit

/-- A ball of four words. -/
abbrev balV (a0 a1 a2 a3 : Nat) : Value := .agg #[.float .f32 a0, .float .f32 a1, .float .f32 a2, .float .f32 a3]

/-- Whether four numbers are a ball. -/
def balB (m r s t : Option Nat) : Bool := posB m && (posB r && (finS s && finS t))

theorem three_ways (b0 b1 b2 : Bool) : b0 = false ∨ b0 = true ∧ (b1 = false ∨ b1 = true ∧ (b2 = false ∨ b2 = true)) := by
  cases b0 <;> cases b1 <;> cases b2 <;> decide

section
variable {a0 a1 a2 a3 : Nat} {x0 x1 x2 x3 : Option Nat} (h0 : Is .f32 a0 x0) (h1 : Is .f32 a1 x1) (h2 : Is .f32 a2 x2) (h3 : Is .f32 a3 x3)
include h0 h1 h2 h3

theorem iBal (w : World) : Calls Tryd.prog 37 #[balV a0 a1 a2 a3] w fun e w' => e = .returned (.bool (balB x0 x1 x2 x3)) ∧ Below w.heap.size w w' := by
  have hst := run_store_float Tryd.prog
  cases hA : posB x0 && posB x1 <;>
    (go_enter Tryd.func37, Tryd.ntmps37
     go_wp2_with (first | (go_at_call 52; refine (iPos2 _ h0 h1 (by first | (simp; done) | (rw [alloc_drewN]; simp; done) | (simp [alloc_drewN]; done) | (simp [alloc_drewN, World.cell?_alloc_at]; done)) (by first | (simp; done) | (rw [alloc_drewN]; simp; done) | (simp [alloc_drewN]; done) | (simp [alloc_drewN, World.cell?_alloc_at]; done))).mono ?_; rintro eq wq ⟨nq, rfl, rfl⟩) | (go_at_call 53; refine (iFin2 _ h2 h3 (by first | (simp; done) | (rw [alloc_drewN]; simp; done) | (simp [alloc_drewN]; done) | (simp [alloc_drewN, World.cell?_alloc_at]; done)) (by first | (simp; done) | (rw [alloc_drewN]; simp; done) | (simp [alloc_drewN]; done) | (simp [alloc_drewN, World.cell?_alloc_at]; done))).mono ?_; rintro eq wq ⟨nr, rfl, rfl⟩))
     go_ret
     refine ⟨by unfold balB; rw [← Bool.and_assoc]; simp [hA], ?_⟩
     repeat' (first | with_reducible exact Below.refl _ _ | with_reducible assumption | (with_reducible refine Below.setCell ?_ (by first | omega | (simp; done) | (simp; omega)) _) | (with_reducible refine Below.alloc ?_ (by first | omega | (simp; done) | (simp; omega)) _) | (with_reducible refine below_drewN ?_ _) | (with_reducible refine Below.drew ?_) | (with_reducible refine Below.trans ?_ (Below.mono (by first | (with_reducible assumption) | exact Grow.below (by assumption)) (by first | omega | (simp; done) | (simp; omega))))))

theorem sBalP (b o : Nat) (w : World) (hb : b < w.heap.size) (c0 : w.cell? ⟨b, o, none⟩ = some (.float .f32 a0)) (c1 : w.cell? ⟨b, o + 1, none⟩ = some (.float .f32 a1)) (c2 : w.cell? ⟨b, o + 2, none⟩ = some (.float .f32 a2)) (c3 : w.cell? ⟨b, o + 3, none⟩ = some (.float .f32 a3)) :
    Calls Tryd.prog 51 #[.pointer (some ⟨b, o, none⟩)] w fun e w' => e = .returned (.bool (balB x0 x1 x2 x3)) ∧ Below w.heap.size w w' := by
  rcases three_ways (posB x0) (posB x1) (finS x2) with hA | ⟨hA, hB | ⟨hB, hC | hC⟩⟩ <;>
    (go_enter Tryd.func51, Tryd.ntmps51
     go_wp2_with (first | (go_at_call 70; refine (sPos (by assumption) _).mono ?_; rintro eq wq ⟨nq, rfl, rfl⟩) | (go_at_call 71; refine (finite_any (by assumption) _).mono ?_; rintro eq wq ⟨nq, rfl, rfl⟩))
     go_ret
     refine ⟨by simp [balB, *], ?_⟩
     repeat' (first | with_reducible exact Below.refl _ _ | with_reducible assumption | (with_reducible refine Below.setCell ?_ (by first | omega | (simp; done) | (simp; omega)) _) | (with_reducible refine Below.alloc ?_ (by first | omega | (simp; done) | (simp; omega)) _) | (with_reducible refine below_drewN ?_ _) | (with_reducible refine Below.drew ?_) | (with_reducible refine Below.trans ?_ (Below.mono (by first | (with_reducible assumption) | exact Grow.below (by assumption)) (by first | omega | (simp; done) | (simp; omega))))))
end

end Go.Proofs.YtbcbaejfafamjaaDoor
