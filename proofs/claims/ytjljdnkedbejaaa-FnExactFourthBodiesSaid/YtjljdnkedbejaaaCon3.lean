/-
  Differences, inner products, roots and squares of distances that are known words, of the program. No condition.
-/
import Derived.Test.YtjljdnkedbejaaaIn0
import Derived.Test.YtjljdnkedbejaaaVLess
import Derived.Test.YtjljdnkedbejaaaRootO
import Derived.Test.YtjljdnkedbejaaaClo
namespace Go.Proofs.Ytjljdnkedbejaaa
open Go.RowKit

theorem iInner3 {a0 a1 a2 rI : Nat} {x0 x1 x2 : Option Nat} (h0 : Is .f32 a0 x0) (h1 : Is .f32 a1 x1) (h2 : Is .f32 a2 x2) (e : innerO x0 x1 x2 x0 x1 x2 = some rI) (W : World) :
    Calls Try.prog 74 #[vecV a0 a1 a2, vecV a0 a1 a2] W fun e w' => e = .returned (.float .f32 rI) ∧ Below W.heap.size W w' := by
  refine (implInner h0 h1 h2 h0 h1 h2 W).mono ?_
  rintro _ w' ⟨r, rfl, h, hg⟩
  rw [e] at h
  obtain rfl := h.notNaN
  exact ⟨rfl, hg.below⟩

theorem iSqOf {x0 x1 x2 x rI rC rQ : Nat} (i0 : Is .f32 x0 (some x0)) (i1 : Is .f32 x1 (some x1)) (i2 : Is .f32 x2 (some x2)) (ix : Is .f32 x (some x)) (eI : innerO (some x0) (some x1) (some x2) (some x0) (some x1) (some x2) = some rI) (eC : fo .mul .f32 (some x) (some x) = some rC) (eQ : fo .add .f32 (some rI) (some rC) = some rQ) (W : World) :
    Calls Try.prog 69 #[vecV x0 x1 x2, .float .f32 x] W fun e w' => e = .returned (.float .f32 rQ) ∧ Below W.heap.size W w' := by
  have IN := fun W => iInner3 i0 i1 i2 eI W
  have iI : Is .f32 rI (some rI) := is_fo32 (show fo .add .f32 _ _ = some rI from eI)
  have EC := Lib.hid eC
  have EQ := Lib.hid eQ
  clear eI eC eQ
  go_enter Try.func69, Try.ntmps69
  go_wp2_with (first | (apply wpList_arith; rfl; simp [Arith]; rfl; rfl; (first | assumption | exact is_lit64 _ (by decide) | exact is_lit32 _ (by decide)); (first | assumption | exact is_lit64 _ (by decide) | exact is_lit32 _ (by decide)); intro Kq hKq rq nq hq; go_simp) | (go_at_call 74; (with_reducible refine (IN _).mono ?_); rintro eq wq ⟨rfl, hbs⟩))
  go_ret
  rw [EC.out, EQ.out] at hq
  obtain rfl := hq.notNaN
  exact ⟨rfl, by repeat' (first | with_reducible exact Below.refl _ _ | with_reducible assumption | (with_reducible refine Below.setCell ?_ (by first | omega | (simp; done) | (simp; omega)) _) | (with_reducible refine Below.alloc ?_ (by first | omega | (simp; done) | (simp; omega)) _) | (with_reducible refine below_drewN ?_ _) | (with_reducible refine Below.drew ?_) | (with_reducible refine Below.trans ?_ (Below.mono (by first | (with_reducible assumption) | exact Grow.below (by assumption)) (by first | omega | (simp; done) | (simp; omega)))))⟩

theorem iLess3 {a0 a1 a2 b0 b1 b2 x0 x1 x2 : Nat} {u0 u1 u2 w0 w1 w2 : Option Nat} (h0 : Is .f32 a0 u0) (h1 : Is .f32 a1 u1) (h2 : Is .f32 a2 u2) (g0 : Is .f32 b0 w0) (g1 : Is .f32 b1 w1) (g2 : Is .f32 b2 w2) (e0 : fo .sub .f32 u0 w0 = some x0) (e1 : fo .sub .f32 u1 w1 = some x1) (e2 : fo .sub .f32 u2 w2 = some x2) (W : World) :
    Calls Try.prog 68 #[vecV a0 a1 a2, vecV b0 b1 b2] W fun e w' => e = .returned (vecV x0 x1 x2) ∧ Below W.heap.size W w' := by
  refine (implLess h0 h1 h2 g0 g1 g2 W).mono ?_
  rintro _ w' ⟨r0, r1, r2, rfl, k0, k1, k2, hg⟩
  rw [e0] at k0
  rw [e1] at k1
  rw [e2] at k2
  obtain rfl := k0.notNaN
  obtain rfl := k1.notNaN
  obtain rfl := k2.notNaN
  exact ⟨rfl, hg.below⟩

theorem iRoot3 {x r : Nat} {v : Option Nat} (ix : Is .f32 x v) (e : rootO v = some r) (W : World) : Calls Try.prog 70 #[.float .f32 x] W fun e w' => e = .returned (.float .f32 r) ∧ Below W.heap.size W w' := by
  refine (root_any ix W).mono ?_
  rintro _ w' ⟨q, n, rfl, h, rfl⟩
  rw [e] at h
  obtain rfl := h.notNaN
  exact ⟨rfl, below_drewN (Below.refl _ _) _⟩

end Go.Proofs.Ytjljdnkedbejaaa
