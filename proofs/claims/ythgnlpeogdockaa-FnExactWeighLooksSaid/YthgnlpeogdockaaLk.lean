/-
  Whether five numbers are a look, of the program and of the model; the copy of a look that the laws make. No condition.
-/
import Derived.Test.YthgnlpeogdockaaFinL
import Derived.Test.YthgnlpeogdockaaZer
namespace Go.Proofs.Ythgnlpeogdockaa
open Go.RowKit

/-- A look of five words. -/
abbrev lkV (a0 a1 a2 a3 a4 : Nat) : Value := .agg #[.float .f32 a0, .float .f32 a1, .float .f32 a2, .float .f32 a3, .float .f32 a4]
/-- Whether five numbers are a look. -/
def lkB (x0 x1 x2 x3 x4 : Option Nat) : Bool := (finS x0 && finS x1 && finS x2 && finS x3) && zerB x4

def four {α : Type} (a b c d : α) (i : Nat) : α := if i = 0 then a else if i = 1 then b else if i = 2 then c else d
theorem finL4 (u v t s : Option Nat) : finL (four u v t s) 4 = (finS u && finS v && finS t && finS s) := by
  simp [finL, four]
theorem iFin4 {b cap : Nat} {a0 a1 a2 a3 : Nat} {x0 x1 x2 x3 : Option Nat} (w : World) (h0 : Is .f32 a0 x0) (h1 : Is .f32 a1 x1) (h2 : Is .f32 a2 x2) (h3 : Is .f32 a3 x3) (c0 : w.cell? ⟨b, 0, none⟩ = some (.float .f32 a0)) (c1 : w.cell? ⟨b, 1, none⟩ = some (.float .f32 a1)) (c2 : w.cell? ⟨b, 2, none⟩ = some (.float .f32 a2)) (c3 : w.cell? ⟨b, 3, none⟩ = some (.float .f32 a3)) :
    Calls Try.prog 61 #[.slice (some ⟨b, 0, none⟩) 4 cap] w (RetV (.bool (finS x0 && finS x1 && finS x2 && finS x3)) w) := by
  have h := iFinL b 4 cap (four a0 a1 a2 a3) (four x0 x1 x2 x3) w (by decide) (fun i hi => by match i, hi with | 0, _ => exact h0 | 1, _ => exact h1 | 2, _ => exact h2 | 3, _ => exact h3) (fun i hi => by match i, hi with | 0, _ => exact c0 | 1, _ => exact c1 | 2, _ => exact c2 | 3, _ => exact c3)
  rw [finL4] at h
  exact h

theorem ways4 (b0 b1 b2 b3 : Bool) : b0 = false ∨ b0 = true ∧ (b1 = false ∨ b1 = true ∧ (b2 = false ∨ b2 = true ∧ (b3 = false ∨ b3 = true))) := by
  cases b0 <;> cases b1 <;> cases b2 <;> cases b3 <;> decide

section
variable {a0 a1 a2 a3 a4 : Nat} {x0 x1 x2 x3 x4 : Option Nat} (h0 : Is .f32 a0 x0) (h1 : Is .f32 a1 x1) (h2 : Is .f32 a2 x2) (h3 : Is .f32 a3 x3) (h4 : Is .f32 a4 x4)
include h0 h1 h2 h3 h4

theorem iNoLook (w : World) : Calls Try.prog 37 #[lkV a0 a1 a2 a3 a4] w fun e w' => e = .returned (.bool (!lkB x0 x1 x2 x3 x4)) ∧ Below w.heap.size w w' := by
  cases hA : finS x0 && finS x1 && finS x2 && finS x3 <;>
    (go_enter Try.func37, Try.ntmps37
     go_wp2_with (first | (go_at_call 61; refine (iFin4 _ h0 h1 h2 h3 (by first | (simp; done) | (rw [alloc_drewN]; simp; done) | (simp [alloc_drewN]; done) | (simp [alloc_drewN, World.cell?_alloc_at]; done)) (by first | (simp; done) | (rw [alloc_drewN]; simp; done) | (simp [alloc_drewN]; done) | (simp [alloc_drewN, World.cell?_alloc_at]; done)) (by first | (simp; done) | (rw [alloc_drewN]; simp; done) | (simp [alloc_drewN]; done) | (simp [alloc_drewN, World.cell?_alloc_at]; done)) (by first | (simp; done) | (rw [alloc_drewN]; simp; done) | (simp [alloc_drewN]; done) | (simp [alloc_drewN, World.cell?_alloc_at]; done))).mono ?_; rintro eq wq ⟨nr, rfl, rfl⟩) | (go_at_call 56; refine (iZer (by assumption) _).mono ?_; rintro eq wq ⟨nq, rfl, rfl⟩))
     go_ret
     refine ⟨by simp [lkB, hA], ?_⟩
     repeat' (first | with_reducible exact Below.refl _ _ | with_reducible assumption | (with_reducible refine Below.setCell ?_ (by first | omega | (simp; done) | (simp; omega)) _) | (with_reducible refine Below.alloc ?_ (by first | omega | (simp; done) | (simp; omega)) _) | (with_reducible refine below_drewN ?_ _) | (with_reducible refine Below.drew ?_) | (with_reducible refine Below.trans ?_ (Below.mono (by first | (with_reducible assumption) | exact Grow.below (by assumption)) (by first | omega | (simp; done) | (simp; omega))))))

theorem sLook (b o : Nat) (w : World) (hb : b < w.heap.size) (c0 : w.cell? ⟨b, o, none⟩ = some (.float .f32 a0)) (c1 : w.cell? ⟨b, o + 1, none⟩ = some (.float .f32 a1)) (c2 : w.cell? ⟨b, o + 2, none⟩ = some (.float .f32 a2)) (c3 : w.cell? ⟨b, o + 3, none⟩ = some (.float .f32 a3)) (c4 : w.cell? ⟨b, o + 4, none⟩ = some (.float .f32 a4)) :
    Calls Try.prog 59 #[.pointer (some ⟨b, o, none⟩)] w fun e w' => e = .returned (.bool (lkB x0 x1 x2 x3 x4)) ∧ Below w.heap.size w w' := by
  rcases ways4 (finS x0) (finS x1) (finS x2) (finS x3) with hA | ⟨hA, hB | ⟨hB, hC | ⟨hC, hD | hD⟩⟩⟩ <;>
    (go_enter Try.func59, Try.ntmps59
     go_wp2_with (first | (go_at_call 55; refine (sZer (by assumption) _).mono ?_; rintro eq wq ⟨nq, rfl, rfl⟩) | (go_at_call 72; refine (finite_any (by assumption) _).mono ?_; rintro eq wq ⟨nq, rfl, rfl⟩))
     go_ret
     refine ⟨by simp [lkB, *], ?_⟩
     repeat' (first | with_reducible exact Below.refl _ _ | with_reducible assumption | (with_reducible refine Below.setCell ?_ (by first | omega | (simp; done) | (simp; omega)) _) | (with_reducible refine Below.alloc ?_ (by first | omega | (simp; done) | (simp; omega)) _) | (with_reducible refine below_drewN ?_ _) | (with_reducible refine Below.drew ?_) | (with_reducible refine Below.trans ?_ (Below.mono (by first | (with_reducible assumption) | exact Grow.below (by assumption)) (by first | omega | (simp; done) | (simp; omega))))))
end

theorem toLk {a0 a1 a2 a3 a4 : Nat} (w : World) : Calls Try.prog 35 #[lkV a0 a1 a2 a3 a4] w fun e w' => e = .returned (lkV a0 a1 a2 a3 a4) ∧ Below w.heap.size w w' := by
  have hst := run_store_float Try.prog
  go_enter Try.func35, Try.ntmps35
  go_wp2
  refine bodyPost_ret (v := lkV a0 a1 a2 a3 a4) (by simp [results, Try.results35, go_sem]) rfl ⟨rfl, ?_⟩
  repeat' (first | with_reducible exact Below.refl _ _ | with_reducible assumption | (with_reducible refine Below.setCell ?_ (by first | omega | (simp; done) | (simp; omega)) _) | (with_reducible refine Below.alloc ?_ (by first | omega | (simp; done) | (simp; omega)) _) | (with_reducible refine below_drewN ?_ _) | (with_reducible refine Below.drew ?_) | (with_reducible refine Below.trans ?_ (Below.mono (by first | (with_reducible assumption) | exact Grow.below (by assumption)) (by first | omega | (simp; done) | (simp; omega)))))

theorem eqLk {a0 b0 a1 b1 a2 b2 a3 b3 a4 b4 : Nat} {x0 x1 x2 x3 x4 : Option Nat} (h0 : Is .f32 a0 x0) (g0 : Is .f32 b0 x0) (h1 : Is .f32 a1 x1) (g1 : Is .f32 b1 x1) (h2 : Is .f32 a2 x2) (g2 : Is .f32 b2 x2) (h3 : Is .f32 a3 x3) (g3 : Is .f32 b3 x3) (h4 : Is .f32 a4 x4) (g4 : Is .f32 b4 x4) (w : World) :
    Calls Try.prog 38 #[lkV a0 a1 a2 a3 a4, lkV b0 b1 b2 b3 b4] w fun e w' => e = .returned (.bool true) ∧ Below w.heap.size w w' := by
  go_enter Try.func38, Try.ntmps38
  go_wp2_with (first | (apply wpList_wide und32 Try.underlying85; rfl; rfl; (first | assumption | exact is_lit64 _ (by decide) | exact is_lit32 _ (by decide)); intro Kq hKq rq nq hq; go_simp) | (go_at_call 62; refine (sameFloat_any (by assumption) (by assumption) _).mono ?_; rintro eq wq ⟨nq, rfl, rfl⟩))
  go_ret
  refine ⟨rfl, ?_⟩
  repeat' (first | with_reducible exact Below.refl _ _ | with_reducible assumption | (with_reducible refine Below.setCell ?_ (by first | omega | (simp; done) | (simp; omega)) _) | (with_reducible refine Below.alloc ?_ (by first | omega | (simp; done) | (simp; omega)) _) | (with_reducible refine below_drewN ?_ _) | (with_reducible refine Below.drew ?_) | (with_reducible refine Below.trans ?_ (Below.mono (by first | (with_reducible assumption) | exact Grow.below (by assumption)) (by first | omega | (simp; done) | (simp; omega)))))
end Go.Proofs.Ythgnlpeogdockaa
