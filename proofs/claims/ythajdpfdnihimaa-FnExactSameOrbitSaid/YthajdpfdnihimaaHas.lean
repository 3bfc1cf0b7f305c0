/-
  That the cells of a block are there, whatever they hold: plain facts, for regions that end in a store. No condition.
-/
import Derived.Test.YthajdpfdnihimaaMem
namespace Go.Proofs.Ythajdpfdnihimaa
open Go.RowKit

/-- The first m cells of the block R are there, and nothing of it is frozen. -/
def Has (R m : Nat) (w : World) : Prop := R < w.heap.size ∧ (∀ o, o < m → (w.cell? ⟨R, o, none⟩).isSome = true) ∧ ∀ o, w.frozen? ⟨R, o, none⟩ = false
/-- What a cell holds. -/
def rdc (w : World) (R o : Nat) : Value := (w.cell? ⟨R, o, none⟩).getD undef

theorem Has.cell {R m o : Nat} {w : World} (h : Has R m w) (ho : o < m) : w.cell? ⟨R, o, none⟩ = some (rdc w R o) := by
  unfold rdc
  obtain ⟨v, hv⟩ := Option.isSome_iff_exists.1 (h.2.1 o ho)
  rw [hv]; rfl
theorem Has.frz {R m : Nat} {w : World} (h : Has R m w) (o : Nat) : w.frozen? ⟨R, o, none⟩ = false := h.2.2 o
theorem Has.grow {R m k : Nat} {X Y : World} (h : Has R m X) (g : Grow k X Y) : Has R m Y :=
  ⟨Nat.lt_of_lt_of_le h.1 g.1.size, fun o ho => by rw [g.1.cell (p := ⟨R, o, none⟩) h.1]; exact h.2.1 o ho, fun o => by rw [g.1.frozen (p := ⟨R, o, none⟩) h.1]; exact h.2.2 o⟩
theorem Has.drewN {R m : Nat} {X : World} (h : Has R m X) (n : Nat) : Has R m (X.drewN n) := h
theorem Has.drew {R m : Nat} {X : World} (h : Has R m X) : Has R m X.drew := h
theorem Has.setCell {R m : Nat} {X : World} (h : Has R m X) (a : Addr) (v : Value) : Has R m (X.setCell a v) := by
  refine ⟨by simpa using h.1, fun o ho => ?_, fun o => by rw [World.frozen?_setCell]; exact h.2.2 o⟩
  by_cases e : a = ⟨R, o, none⟩
  · obtain ⟨u, hu⟩ := Option.isSome_iff_exists.1 (h.2.1 o ho)
    subst e
    rw [World.cell?_setCell_same _ _ _ hu]; rfl
  · rw [World.cell?_setCell_other _ _ _ _ e]; exact h.2.1 o ho
theorem keepS {B m : Nat} {W0 X Y : World} (h : Below B W0 X) (g : Grow m X Y) (hB : B ≤ W0.heap.size) : Below B W0 Y := h.trans (g.1.mono (Nat.le_trans hB h.size))
end Go.Proofs.Ythajdpfdnihimaa
