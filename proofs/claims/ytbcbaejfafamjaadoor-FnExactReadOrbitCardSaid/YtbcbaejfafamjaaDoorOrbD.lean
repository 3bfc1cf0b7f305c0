/-
  Whether six numbers are an orbit, of the program and of the model. No condition.
-/
import Derived.Test.YtbcbaejfafamjaaDoorPart
namespace Go.Proofs.YtbcbaejfafamjaaDoor
open Go.RowKit

/-- An orbit of six words. -/
abbrev orbV (a0 a1 a2 a3 a4 a5 : Nat) : Value := .agg #[.float .f32 a0, .float .f32 a1, .float .f32 a2, .float .f32 a3, .float .f32 a4, .float .f32 a5]

/-- From 0 to a half. -/
def tiltB (v : Option Nat) : Bool := cmpB .geq .f32 v (some 0) && cmpB .leq .f32 v (some 1056964608)
def ellB (l r p : Option Nat) : Bool := cmpB .gtr .f32 l (some 0) && (partB r && partB p)
def braB (l r p : Option Nat) : Bool := cmpB .lss .f32 l (some 0) && (brR r && brP p)
/-- Whether six numbers are an orbit. -/
def orbB (l r t n p f : Option Nat) : Bool := finS l && (tiltB t && (partB n && (partB p && (ellB l r f || braB l r f))))

theorem iEll {a0 a1 a2 a3 a4 a5 : Nat} {x0 x1 x2 x3 x4 x5 : Option Nat} (h0 : Is .f32 a0 x0) (h1 : Is .f32 a1 x1) (_ : Is .f32 a2 x2) (_ : Is .f32 a3 x3) (_ : Is .f32 a4 x4) (h5 : Is .f32 a5 x5) (w : World) :
    Calls Tryd.prog 76 #[orbV a0 a1 a2 a3 a4 a5] w fun e w' => e = .returned (.bool (ellB x0 x1 x5)) ∧ Grow 1 w w' := by
  unfold ellB
  cases hA : cmpB .gtr .f32 x0 (some 0) <;> cases hB : partB x1 <;>
    (go_enter Tryd.func76, Tryd.ntmps76
     go_wp2_with (first | (apply wpList_cmp; rfl; simp [Cmp]; rfl; rfl; (first | assumption | exact is_lit64 _ (by decide) | exact is_lit32 _ (by decide)); (first | assumption | exact is_lit64 _ (by decide) | exact is_lit32 _ (by decide)); intro Kq hKq; go_simp) | (go_at_call 95; refine (iEllR (by assumption) _).mono ?_; rintro eq wq ⟨nq, rfl, rfl⟩) | (go_at_call 75; refine (iPart (by assumption) _).mono ?_; rintro eq wq ⟨nq, rfl, rfl⟩))
     go_ret
     refine ⟨rfl, ?_, by simp⟩
     repeat' (first | with_reducible exact Below.refl _ _ | with_reducible assumption | (with_reducible refine Below.setCell ?_ (by first | omega | (simp; done) | (simp; omega)) _) | (with_reducible refine Below.alloc ?_ (by first | omega | (simp; done) | (simp; omega)) _) | (with_reducible refine below_drewN ?_ _) | (with_reducible refine Below.drew ?_) | (with_reducible refine Below.trans ?_ (Below.mono (by first | (with_reducible assumption) | exact Grow.below (by assumption)) (by first | omega | (simp; done) | (simp; omega))))))

theorem iBra {a0 a1 a2 a3 a4 a5 : Nat} {x0 x1 x2 x3 x4 x5 : Option Nat} (h0 : Is .f32 a0 x0) (h1 : Is .f32 a1 x1) (_ : Is .f32 a2 x2) (_ : Is .f32 a3 x3) (_ : Is .f32 a4 x4) (h5 : Is .f32 a5 x5) (w : World) :
    Calls Tryd.prog 77 #[orbV a0 a1 a2 a3 a4 a5] w fun e w' => e = .returned (.bool (braB x0 x1 x5)) ∧ Grow 1 w w' := by
  unfold braB
  cases hA : cmpB .lss .f32 x0 (some 0) <;> cases hB : brR x1 <;>
    (go_enter Tryd.func77, Tryd.ntmps77
     go_wp2_with (first | (apply wpList_cmp; rfl; simp [Cmp]; rfl; rfl; (first | assumption | exact is_lit64 _ (by decide) | exact is_lit32 _ (by decide)); (first | assumption | exact is_lit64 _ (by decide) | exact is_lit32 _ (by decide)); intro Kq hKq; go_simp) | (go_at_call 96; refine (iBraR (by assumption) _).mono ?_; rintro eq wq ⟨nq, rfl, rfl⟩) | (go_at_call 97; refine (iBraP (by assumption) _).mono ?_; rintro eq wq ⟨nq, rfl, rfl⟩))
     go_ret
     refine ⟨rfl, ?_, by simp⟩
     repeat' (first | with_reducible exact Below.refl _ _ | with_reducible assumption | (with_reducible refine Below.setCell ?_ (by first | omega | (simp; done) | (simp; omega)) _) | (with_reducible refine Below.alloc ?_ (by first | omega | (simp; done) | (simp; omega)) _) | (with_reducible refine below_drewN ?_ _) | (with_reducible refine Below.drew ?_) | (with_reducible refine Below.trans ?_ (Below.mono (by first | (with_reducible assumption) | exact Grow.below (by assumption)) (by first | omega | (simp; done) | (simp; omega))))))

set_option maxHeartbeats 1600000 in
theorem iOrb {a0 a1 a2 a3 a4 a5 : Nat} {x0 x1 x2 x3 x4 x5 : Option Nat} (h0 : Is .f32 a0 x0) (h1 : Is .f32 a1 x1) (h2 : Is .f32 a2 x2) (h3 : Is .f32 a3 x3) (h4 : Is .f32 a4 x4) (h5 : Is .f32 a5 x5) (w : World) :
    Calls Tryd.prog 56 #[orbV a0 a1 a2 a3 a4 a5] w fun e w' => e = .returned (.bool (orbB x0 x1 x2 x3 x4 x5)) ∧ Below w.heap.size w w' := by
  have go : ∀ b0 b1 b2 b3 b4 b5, finS x0 = b0 → cmpB .geq .f32 x2 (some 0) = b1 → cmpB .leq .f32 x2 (some 1056964608) = b2 → partB x3 = b3 → partB x4 = b4 → ellB x0 x1 x5 = b5 → 
      (b0 = false ∨ b0 = true ∧ (b1 = false ∨ b1 = true ∧ (b2 = false ∨ b2 = true ∧ (b3 = false ∨ b3 = true ∧ (b4 = false ∨ b4 = true ∧ (b5 = false ∨ b5 = true)))))) := by
    intro b0 b1 b2 b3 b4 b5 _ _ _ _ _ _
    cases b0 <;> cases b1 <;> cases b2 <;> cases b3 <;> cases b4 <;> cases b5 <;> decide
  have hg := go _ _ _ _ _ _ rfl rfl rfl rfl rfl rfl
  clear go
  rcases hg with hA | ⟨hA, hB | ⟨hB, hC | ⟨hC, hD | ⟨hD, hE | ⟨hE, hF | hF⟩⟩⟩⟩⟩ <;>
    (go_enter Tryd.func56, Tryd.ntmps56
     go_wp2_with (first | (apply wpList_cmp; rfl; simp [Cmp]; rfl; rfl; (first | assumption | exact is_lit64 _ (by decide) | exact is_lit32 _ (by decide)); (first | assumption | exact is_lit64 _ (by decide) | exact is_lit32 _ (by decide)); intro Kq hKq; go_simp) | (go_at_call 73; refine (sFinite (by assumption) _).mono ?_; rintro eq wq ⟨nq, rfl, rfl⟩) | (go_at_call 75; refine (iPart (by assumption) _).mono ?_; rintro eq wq ⟨nq, rfl, rfl⟩) | (go_at_call 76; refine (iEll (by assumption) (by assumption) (by assumption) (by assumption) (by assumption) (by assumption) _).mono ?_; rintro eq wq ⟨rfl, hb⟩; obtain ⟨hc, hf⟩ := bcell hb.1; have hz := hb.2; try simp at hz) | (go_at_call 77; refine (iBra (by assumption) (by assumption) (by assumption) (by assumption) (by assumption) (by assumption) _).mono ?_; rintro eq wq ⟨rfl, hb⟩; obtain ⟨hc, hf⟩ := bcell hb.1; have hz := hb.2; try simp at hz))
     go_ret
     refine ⟨by simp [orbB, tiltB, *], ?_⟩
     repeat' (first | with_reducible exact Below.refl _ _ | with_reducible assumption | (with_reducible refine Below.setCell ?_ (by first | omega | (simp; done) | (simp; omega)) _) | (with_reducible refine Below.alloc ?_ (by first | omega | (simp; done) | (simp; omega)) _) | (with_reducible refine below_drewN ?_ _) | (with_reducible refine Below.drew ?_) | (with_reducible refine Below.trans ?_ (Below.mono (by first | (with_reducible assumption) | exact Grow.below (by assumption)) (by first | omega | (simp; done) | (simp; omega))))))
end Go.Proofs.YtbcbaejfafamjaaDoor
