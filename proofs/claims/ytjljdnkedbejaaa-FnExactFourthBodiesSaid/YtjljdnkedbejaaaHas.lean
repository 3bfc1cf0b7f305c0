/-
  That the cells of a block are there, whatever they hold: plain facts, for regions that end in a store. No condition.
-/
import Derived.Test.YtjljdnkedbejaaaMem
namespace Go.Proofs.Ytjljdnkedbejaaa
open Go.RowKit

/-- The first m cells of the block R are there, and nothing of it is frozen. -/
def Has (R m : Nat) (w : World) : Prop := R < w.heap.size ∧ (∀ o, o < m → (w.cell? ⟨R, o, none⟩).isSome = true) ∧ ∀ o, w.frozen? ⟨R, o, none⟩ = false
/-- What a cell holds. -/
def rdc (w : World) (R o : Nat) : Value := (w.cell? ⟨R, o, none⟩).getD undef

theorem Has.cell {R m o : Nat} {w : World} (h : Has R m w) (ho : o < m) : w.cell? ⟨R, o, none⟩ = some (rdc w R o) := by
  unfold rdc
  obtain ⟨v, hv⟩ := Option.isSome_iff_exists.1 (h.2.1 o ho)
  rw [hv]; rfl
theorem Has.frz {R m : Nat} {w : World} (h : Has R m w) (o : Nat) : w.frozen? ⟨R, o, none⟩ = false := h.2.2 o
theorem Has.grow {R m k : Nat} {X Y : World} (h : Has R m X) (g : Grow k X Y) : Has R m Y :=
  ⟨Nat.lt_of_lt_of_le h.1 g.1.size, fun o ho => by rw [g.1.cell (p := ⟨R, o, none⟩) h.1]; exact h.2.1 o ho, fun o => by rw [g.1.frozen (p := ⟨R, o, none⟩) h.1]; exact h.2.2 o⟩
theorem Has.drewN {R m : Nat} {X : World} (h : Has R m X) (n : Nat) : Has R m (X.drewN n) := h
theorem Has.drew {R m : Nat} {X : World} (h : Has R m X) : Has R m X.drew := h
theorem Has.setCell {R m : Nat} {X : World} (h : Has R m X) (a : Addr) (v : Value) : Has R m (X.setCell a v) := by
  refine ⟨by simpa using h.1, fun o ho => ?_, fun o => by rw [World.frozen?_setCell]; exact h.2.2 o⟩
  by_cases e : a = ⟨R, o, none⟩
  · obtain ⟨u, hu⟩ := Option.isSome_iff_exists.1 (h.2.1 o ho)
    subst e
    rw [World.cell?_setCell_same _ _ _ hu]; rfl
  · rw [World.cell?_setCell_other _ _ _ _ e]; exact h.2.1 o ho
theorem Has.alloc {R m : Nat} {X : World} (h : Has R m X) (o : Obj) : Has R m (X.alloc o) := by
  have hb : Below X.heap.size X (X.alloc o) := (Below.refl _ _).alloc (Nat.le_refl _) _
  exact ⟨Nat.lt_of_lt_of_le h.1 hb.size, fun i hi => by rw [hb.cell (p := ⟨R, i, none⟩) h.1]; exact h.2.1 i hi, fun i => by rw [hb.frozen (p := ⟨R, i, none⟩) h.1]; exact h.2.2 i⟩
theorem Has.below {R m B : Nat} {X Y : World} (h : Has R m X) (g : Below B X Y) (hR : R < B) : Has R m Y :=
  ⟨Nat.lt_of_lt_of_le h.1 g.size, fun o ho => by rw [g.cell (p := ⟨R, o, none⟩) hR]; exact h.2.1 o ho, fun o => by rw [g.frozen (p := ⟨R, o, none⟩) hR]; exact h.2.2 o⟩
theorem Has.at {R m : Nat} {X Y : World} (h : Has R m X) (g : Below X.heap.size X Y) : Has R m Y := h.below g h.1
theorem has_alloc3 (w : World) (a b c : Value) (T : TypeId) : Has w.heap.size 3 (w.alloc (.cells #[a, b, c] T)) := by
  refine ⟨by simp, fun o ho => ?_, fun o => by simp⟩
  match o, ho with
  | 0, _ => simp
  | 1, _ => simp
  | 2, _ => simp
theorem has_alloc7 (w : World) (a0 a1 a2 a3 a4 a5 a6 : Value) (T : TypeId) : Has w.heap.size 7 (w.alloc (.cells #[a0, a1, a2, a3, a4, a5, a6] T)) := by
  refine ⟨by simp, fun o ho => ?_, fun o => by simp⟩
  match o, ho with
  | 0, _ => simp
  | 1, _ => simp
  | 2, _ => simp
  | 3, _ => simp
  | 4, _ => simp
  | 5, _ => simp
  | 6, _ => simp
theorem has_alloc2 (w : World) (a b : Value) (T : TypeId) : Has w.heap.size 2 (w.alloc (.cells #[a, b] T)) := by
  refine ⟨by simp, fun o ho => ?_, fun o => by simp⟩
  match o, ho with
  | 0, _ => simp
  | 1, _ => simp
theorem cell_set {w : World} {a : Addr} (v : Value) (h : (w.cell? a).isSome = true) : (w.setCell a v).cell? a = some v := by
  obtain ⟨u, hu⟩ := Option.isSome_iff_exists.1 h
  rw [World.cell?_setCell_same _ _ _ hu]
theorem keepW {B : Nat} {W0 X Y : World} (h : Below B W0 X) (g : Below X.heap.size X Y) (hB : B ≤ W0.heap.size) : Below B W0 Y := h.trans (g.mono (Nat.le_trans hB h.size))
theorem keepS {B m : Nat} {W0 X Y : World} (h : Below B W0 X) (g : Grow m X Y) (hB : B ≤ W0.heap.size) : Below B W0 Y := h.trans (g.1.mono (Nat.le_trans hB h.size))
end Go.Proofs.Ytjljdnkedbejaaa
