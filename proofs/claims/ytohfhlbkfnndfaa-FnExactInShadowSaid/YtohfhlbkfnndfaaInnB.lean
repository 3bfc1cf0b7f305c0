/-
  Inner products and lengths of vectors: what stays as it was, told by blocks. No condition.
-/
import Derived.Test.YtohfhlbkfnndfaaInnO
import Derived.Test.YtohfhlbkfnndfaaRetN
namespace Go.Proofs.Ytohfhlbkfnndfaa
open Go.RowKit

/-- The length of a vector. -/
def lenO (x0 x1 x2 : Option Nat) : Option Nat := rootO (innerO x0 x1 x2 x0 x1 x2)
theorem iInnB {a0 a1 a2 b0 b1 b2 : Nat} {x0 x1 x2 y0 y1 y2 : Option Nat} (h0 : Is .f32 a0 x0) (h1 : Is .f32 a1 x1) (h2 : Is .f32 a2 x2) (g0 : Is .f32 b0 y0) (g1 : Is .f32 b1 y1) (g2 : Is .f32 b2 y2) (W : World) :
    Calls Try.prog 33 #[vecV a0 a1 a2, vecV b0 b1 b2] W fun e w' => (∃ r, e = .returned (.float .f32 r) ∧ Is .f32 r (innerO x0 x1 x2 y0 y1 y2)) ∧ Below W.heap.size W w' :=
  (implInner h0 h1 h2 g0 g1 g2 W).mono fun _ _ ⟨r, e, i, g⟩ => ⟨⟨r, e, i⟩, g.below⟩
theorem iLenB {a0 a1 a2 : Nat} {x0 x1 x2 : Option Nat} (h0 : Is .f32 a0 x0) (h1 : Is .f32 a1 x1) (h2 : Is .f32 a2 x2) (W : World) :
    Calls Try.prog 31 #[vecV a0 a1 a2] W fun e w' => (∃ r, e = .returned (.float .f32 r) ∧ Is .f32 r (lenO x0 x1 x2)) ∧ Below W.heap.size W w' :=
  (implSize h0 h1 h2 W).mono fun _ _ ⟨r, e, i, g⟩ => ⟨⟨r, e, i⟩, g.below⟩
theorem sInnB {a0 a1 a2 b0 b1 b2 : Nat} {x0 x1 x2 y0 y1 y2 : Option Nat} (h0 : Is .f32 a0 x0) (h1 : Is .f32 a1 x1) (h2 : Is .f32 a2 x2) (g0 : Is .f32 b0 y0) (g1 : Is .f32 b1 y1) (g2 : Is .f32 b2 y2) (W : World) :
    Calls Try.prog 62 #[vecV a0 a1 a2, vecV b0 b1 b2] W fun e w' => (∃ r, e = .returned (.float .f32 r) ∧ Is .f32 r (innerO x0 x1 x2 y0 y1 y2)) ∧ Below W.heap.size W w' :=
  (sInner h0 h1 h2 g0 g1 g2 W).mono fun _ _ ⟨r, e, i, g⟩ => ⟨⟨r, e, i⟩, g.below⟩
theorem sLenB {a0 a1 a2 : Nat} {x0 x1 x2 : Option Nat} (h0 : Is .f32 a0 x0) (h1 : Is .f32 a1 x1) (h2 : Is .f32 a2 x2) (W : World) :
    Calls Try.prog 60 #[vecV a0 a1 a2] W fun e w' => (∃ r, e = .returned (.float .f32 r) ∧ Is .f32 r (lenO x0 x1 x2)) ∧ Below W.heap.size W w' :=
  (sLong h0 h1 h2 W).mono fun _ _ ⟨r, e, i, g⟩ => ⟨⟨r, e, i⟩, g.below⟩
end Go.Proofs.Ytohfhlbkfnndfaa
