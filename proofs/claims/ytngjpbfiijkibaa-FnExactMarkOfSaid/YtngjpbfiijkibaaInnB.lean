/-
  Inner products and lengths of vectors: what stays as it was, told by blocks. No condition.
-/
import Derived.Test.YtngjpbfiijkibaaTo
import Derived.Test.YtngjpbfiijkibaaRootO
import Derived.Test.YtngjpbfiijkibaaRetN
namespace Go.Proofs.Ytngjpbfiijkibaa
open Go.RowKit

/-- A number is handed back, and the world has grown by m blocks. -/
def RetG (m : Nat) (v : Option Nat) (w : World) (e : Ending) (w' : World) : Prop := ∃ r, e = .returned (.float .f32 r) ∧ Is .f32 r v ∧ Grow m w w'

def innerO (x0 x1 x2 y0 y1 y2 : Option Nat) : Option Nat := fo .add .f32 (fo .add .f32 (fo .mul .f32 x0 y0) (fo .mul .f32 x1 y1)) (fo .mul .f32 x2 y2)

theorem implInner {a0 a1 a2 b0 b1 b2 : Nat} {x0 x1 x2 y0 y1 y2 : Option Nat} (h0 : Is .f32 a0 x0) (h1 : Is .f32 a1 x1) (h2 : Is .f32 a2 x2) (g0 : Is .f32 b0 y0) (g1 : Is .f32 b1 y1) (g2 : Is .f32 b2 y2) (w : World) :
    Calls Try.prog 40 #[vecV a0 a1 a2, vecV b0 b1 b2] w (RetG 2 (innerO x0 x1 x2 y0 y1 y2) w) := by
  go_enter Try.func40, Try.ntmps40
  go_wp2_with (apply wpList_arith; rfl; simp [Arith]; rfl; rfl; (first | assumption | exact is_lit64 _ (by decide) | exact is_lit32 _ (by decide)); (first | assumption | exact is_lit64 _ (by decide) | exact is_lit32 _ (by decide)); intro Kq hKq rq nq hq; go_simp)
  go_ret
  refine ⟨_, rfl, by assumption, ?_, by simp [*]⟩
  repeat' (first | with_reducible exact Below.refl _ _ | with_reducible assumption | (with_reducible refine Below.setCell ?_ (by first | omega | (simp; done) | (simp; omega)) _) | (with_reducible refine Below.alloc ?_ (by first | omega | (simp; done) | (simp; omega)) _) | (with_reducible refine below_drewN ?_ _) | (with_reducible refine Below.drew ?_) | (with_reducible refine Below.trans ?_ (Below.mono (by first | (with_reducible assumption) | exact Grow.below (by assumption)) (by first | omega | (simp; done) | (simp; omega)))))

theorem sInner {a0 a1 a2 b0 b1 b2 : Nat} {x0 x1 x2 y0 y1 y2 : Option Nat} (h0 : Is .f32 a0 x0) (h1 : Is .f32 a1 x1) (h2 : Is .f32 a2 x2) (g0 : Is .f32 b0 y0) (g1 : Is .f32 b1 y1) (g2 : Is .f32 b2 y2) (w : World) :
    Calls Try.prog 60 #[vecV a0 a1 a2, vecV b0 b1 b2] w (RetG 2 (innerO x0 x1 x2 y0 y1 y2) w) := by
  go_enter Try.func60, Try.ntmps60
  go_wp2_with (apply wpList_arith; rfl; simp [Arith]; rfl; rfl; (first | assumption | exact is_lit64 _ (by decide) | exact is_lit32 _ (by decide)); (first | assumption | exact is_lit64 _ (by decide) | exact is_lit32 _ (by decide)); intro Kq hKq rq nq hq; go_simp)
  go_ret
  refine ⟨_, rfl, by assumption, ?_, by simp [*]⟩
  repeat' (first | with_reducible exact Below.refl _ _ | with_reducible assumption | (with_reducible refine Below.setCell ?_ (by first | omega | (simp; done) | (simp; omega)) _) | (with_reducible refine Below.alloc ?_ (by first | omega | (simp; done) | (simp; omega)) _) | (with_reducible refine below_drewN ?_ _) | (with_reducible refine Below.drew ?_) | (with_reducible refine Below.trans ?_ (Below.mono (by first | (with_reducible assumption) | exact Grow.below (by assumption)) (by first | omega | (simp; done) | (simp; omega)))))

theorem implSize {a0 a1 a2 : Nat} {x0 x1 x2 : Option Nat} (h0 : Is .f32 a0 x0) (h1 : Is .f32 a1 x1) (h2 : Is .f32 a2 x2) (w : World) :
    Calls Try.prog 32 #[vecV a0 a1 a2] w (RetG 3 (rootO (innerO x0 x1 x2 x0 x1 x2)) w) := by
  go_enter Try.func32, Try.ntmps32
  go_wp2_with (first | (go_at_call 40; refine (implInner h0 h1 h2 h0 h1 h2 _).mono ?_; rintro eq wq ⟨rq, rfl, hq, hb⟩; obtain ⟨hc, hf⟩ := bcell hb.1; have hz := hb.2; try simp at hz) | (go_at_call 55; refine (root_any (by assumption) _).mono ?_; rintro eq wq ⟨rq, nq, rfl, hq, rfl⟩))
  go_ret
  refine ⟨_, rfl, by assumption, ?_, by simp [*]⟩
  repeat' (first | with_reducible exact Below.refl _ _ | with_reducible assumption | (with_reducible refine Below.setCell ?_ (by first | omega | (simp; done) | (simp; omega)) _) | (with_reducible refine Below.alloc ?_ (by first | omega | (simp; done) | (simp; omega)) _) | (with_reducible refine below_drewN ?_ _) | (with_reducible refine Below.drew ?_) | (with_reducible refine Below.trans ?_ (Below.mono (by first | (with_reducible assumption) | exact Grow.below (by assumption)) (by first | omega | (simp; done) | (simp; omega)))))
theorem sLong {a0 a1 a2 : Nat} {x0 x1 x2 : Option Nat} (h0 : Is .f32 a0 x0) (h1 : Is .f32 a1 x1) (h2 : Is .f32 a2 x2) (w : World) :
    Calls Try.prog 50 #[vecV a0 a1 a2] w (RetG 3 (rootO (innerO x0 x1 x2 x0 x1 x2)) w) := by
  go_enter Try.func50, Try.ntmps50
  go_wp2_with (first | (go_at_call 60; refine (sInner h0 h1 h2 h0 h1 h2 _).mono ?_; rintro eq wq ⟨rq, rfl, hq, hb⟩; obtain ⟨hc, hf⟩ := bcell hb.1; have hz := hb.2; try simp at hz) | (go_at_call 47; refine (l01Sqrt_any (by assumption) _).mono ?_; rintro eq wq ⟨rq, nq, rfl, hq, rfl⟩))
  go_ret
  refine ⟨_, rfl, by assumption, ?_, by simp [*]⟩
  repeat' (first | with_reducible exact Below.refl _ _ | with_reducible assumption | (with_reducible refine Below.setCell ?_ (by first | omega | (simp; done) | (simp; omega)) _) | (with_reducible refine Below.alloc ?_ (by first | omega | (simp; done) | (simp; omega)) _) | (with_reducible refine below_drewN ?_ _) | (with_reducible refine Below.drew ?_) | (with_reducible refine Below.trans ?_ (Below.mono (by first | (with_reducible assumption) | exact Grow.below (by assumption)) (by first | omega | (simp; done) | (simp; omega)))))

/-- The length of a vector. -/
def lenO (x0 x1 x2 : Option Nat) : Option Nat := rootO (innerO x0 x1 x2 x0 x1 x2)
theorem iInnB {a0 a1 a2 b0 b1 b2 : Nat} {x0 x1 x2 y0 y1 y2 : Option Nat} (h0 : Is .f32 a0 x0) (h1 : Is .f32 a1 x1) (h2 : Is .f32 a2 x2) (g0 : Is .f32 b0 y0) (g1 : Is .f32 b1 y1) (g2 : Is .f32 b2 y2) (W : World) :
    Calls Try.prog 40 #[vecV a0 a1 a2, vecV b0 b1 b2] W fun e w' => (∃ r, e = .returned (.float .f32 r) ∧ Is .f32 r (innerO x0 x1 x2 y0 y1 y2)) ∧ Below W.heap.size W w' :=
  (implInner h0 h1 h2 g0 g1 g2 W).mono fun _ _ ⟨r, e, i, g⟩ => ⟨⟨r, e, i⟩, g.below⟩
theorem iLenB {a0 a1 a2 : Nat} {x0 x1 x2 : Option Nat} (h0 : Is .f32 a0 x0) (h1 : Is .f32 a1 x1) (h2 : Is .f32 a2 x2) (W : World) :
    Calls Try.prog 32 #[vecV a0 a1 a2] W fun e w' => (∃ r, e = .returned (.float .f32 r) ∧ Is .f32 r (lenO x0 x1 x2)) ∧ Below W.heap.size W w' :=
  (implSize h0 h1 h2 W).mono fun _ _ ⟨r, e, i, g⟩ => ⟨⟨r, e, i⟩, g.below⟩
theorem sInnB {a0 a1 a2 b0 b1 b2 : Nat} {x0 x1 x2 y0 y1 y2 : Option Nat} (h0 : Is .f32 a0 x0) (h1 : Is .f32 a1 x1) (h2 : Is .f32 a2 x2) (g0 : Is .f32 b0 y0) (g1 : Is .f32 b1 y1) (g2 : Is .f32 b2 y2) (W : World) :
    Calls Try.prog 60 #[vecV a0 a1 a2, vecV b0 b1 b2] W fun e w' => (∃ r, e = .returned (.float .f32 r) ∧ Is .f32 r (innerO x0 x1 x2 y0 y1 y2)) ∧ Below W.heap.size W w' :=
  (sInner h0 h1 h2 g0 g1 g2 W).mono fun _ _ ⟨r, e, i, g⟩ => ⟨⟨r, e, i⟩, g.below⟩
theorem sLenB {a0 a1 a2 : Nat} {x0 x1 x2 : Option Nat} (h0 : Is .f32 a0 x0) (h1 : Is .f32 a1 x1) (h2 : Is .f32 a2 x2) (W : World) :
    Calls Try.prog 50 #[vecV a0 a1 a2] W fun e w' => (∃ r, e = .returned (.float .f32 r) ∧ Is .f32 r (lenO x0 x1 x2)) ∧ Below W.heap.size W w' :=
  (sLong h0 h1 h2 W).mono fun _ _ ⟨r, e, i, g⟩ => ⟨⟨r, e, i⟩, g.below⟩
end Go.Proofs.Ytngjpbfiijkibaa
