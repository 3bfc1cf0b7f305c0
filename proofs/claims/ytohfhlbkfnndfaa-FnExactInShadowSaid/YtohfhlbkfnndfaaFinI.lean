/-
  Inner products and lengths of what is not finite are not finite. No condition.
-/
import Derived.Test.YtohfhlbkfnndfaaFinU
import Derived.Test.YtohfhlbkfnndfaaInnB
import Derived.Test.YtohfhlbkfnndfaaVFin
namespace Go.Proofs.Ytohfhlbkfnndfaa
open Go.RowKit

section
variable {a0 a1 a2 b0 b1 b2 : Nat} {x0 x1 x2 y0 y1 y2 : Option Nat} (h0 : Is .f32 a0 x0) (h1 : Is .f32 a1 x1) (h2 : Is .f32 a2 x2) (g0 : Is .f32 b0 y0) (g1 : Is .f32 b1 y1) (g2 : Is .f32 b2 y2)
include h0 h1 h2 g0 g1 g2
theorem nf_inner (w : World) (h : finV y0 y1 y2 = false) : finS (innerO x0 x1 x2 y0 y1 y2) = false := by
  unfold finV at h
  have hM : Arith .mul := by simp [Arith]
  have hA : Arith .add := by simp [Arith]
  obtain ⟨r0, i0⟩ := fo_is hM h0 g0 w
  obtain ⟨r1, i1⟩ := fo_is hM h1 g1 w
  obtain ⟨r2, i2⟩ := fo_is hM h2 g2 w
  obtain ⟨r3, i3⟩ := fo_is hA i0 i1 w
  unfold innerO
  rcases and3_f h with k | k | k
  · exact nf_add_l i3 (nf_add_l i0 (nf_mul_r g0 k _) _) _
  · exact nf_add_l i3 (nf_add_r i1 (nf_mul_r g1 k _) _) _
  · exact nf_add_r i2 (nf_mul_r g2 k _) _
end
theorem nf_len {b0 b1 b2 : Nat} {y0 y1 y2 : Option Nat} (g0 : Is .f32 b0 y0) (g1 : Is .f32 b1 y1) (g2 : Is .f32 b2 y2) (w : World) (h : finV y0 y1 y2 = false) : finS (lenO y0 y1 y2) = false := by
  have hM : Arith .mul := by simp [Arith]
  have hA : Arith .add := by simp [Arith]
  obtain ⟨r0, i0⟩ := fo_is hM g0 g0 w
  obtain ⟨r1, i1⟩ := fo_is hM g1 g1 w
  obtain ⟨r2, i2⟩ := fo_is hM g2 g2 w
  obtain ⟨r3, i3⟩ := fo_is hA i0 i1 w
  obtain ⟨r4, i4⟩ := fo_is hA i3 i2 w
  exact nf_root i4 (nf_inner g0 g1 g2 g0 g1 g2 w h)
end Go.Proofs.Ytohfhlbkfnndfaa
