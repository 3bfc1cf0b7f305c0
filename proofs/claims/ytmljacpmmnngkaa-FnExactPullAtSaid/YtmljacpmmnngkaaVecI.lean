/-
  Vectors in blocks. No condition.
-/
import Derived.Test.YtmljacpmmnngkaaHas
namespace Go.Proofs.Ytmljacpmmnngkaa
open Go.RowKit

/-- A vector in a block. -/
def VecIn (w : World) (R c0 c1 c2 : Nat) : Prop := R < w.heap.size ∧ w.cell? ⟨R, 0, none⟩ = some (.float .f32 c0) ∧ w.cell? ⟨R, 1, none⟩ = some (.float .f32 c1) ∧ w.cell? ⟨R, 2, none⟩ = some (.float .f32 c2)
theorem VecIn.at {X Y : World} {R c0 c1 c2 : Nat} (h : VecIn X R c0 c1 c2) (g : Below X.heap.size X Y) : VecIn Y R c0 c1 c2 :=
  ⟨Nat.lt_of_lt_of_le h.1 g.size, by rw [g.cell (p := ⟨R, 0, none⟩) h.1]; exact h.2.1, by rw [g.cell (p := ⟨R, 1, none⟩) h.1]; exact h.2.2.1, by rw [g.cell (p := ⟨R, 2, none⟩) h.1]; exact h.2.2.2⟩
theorem vec_alloc (w : World) (a b c : Nat) (T : TypeId) : VecIn (w.alloc (.cells #[.float .f32 a, .float .f32 b, .float .f32 c] T)) w.heap.size a b c := ⟨by simp, by simp, by simp, by simp⟩
theorem vec_put {W : World} {R : Nat} (h : Has R 3 W) (a b c : Nat) : VecIn (((W.setCell ⟨R, 0, none⟩ (.float .f32 a)).setCell ⟨R, 1, none⟩ (.float .f32 b)).setCell ⟨R, 2, none⟩ (.float .f32 c)) R a b c := by
  have q0 := h.cell (o := 0) (by decide)
  have q1 := h.cell (o := 1) (by decide)
  have q2 := h.cell (o := 2) (by decide)
  refine ⟨by simpa using h.1, ?_, ?_, ?_⟩
  · rw [World.cell?_setCell_other _ _ _ _ (by simp), World.cell?_setCell_other _ _ _ _ (by simp), cell_set _ (by rw [q0]; rfl)]
  · rw [World.cell?_setCell_other _ _ _ _ (by simp), cell_set _ (by rw [World.cell?_setCell_other _ _ _ _ (by simp), q1]; rfl)]
  · rw [cell_set _ (by rw [World.cell?_setCell_other _ _ _ _ (by simp), World.cell?_setCell_other _ _ _ _ (by simp), q2]; rfl)]
end Go.Proofs.Ytmljacpmmnngkaa
