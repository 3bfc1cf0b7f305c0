/-
  How the world grows where structs are laid: plain facts. No condition.
-/
import Derived.Test.YtjljdnkedbejaaaSame
import Derived.Deep.RegionHeld3
import Derived.Deep.DeepCutAuto
namespace Go.Proofs.Ytjljdnkedbejaaa
open Go.RowKit

theorem setCell_drewN (w : World) (n : Nat) (a : Addr) (v : Value) : (w.drewN n).setCell a v = (w.setCell a v).drewN n := rfl
theorem alloc_drewN (w : World) (n : Nat) (o : Obj) : (w.drewN n).alloc o = (w.alloc o).drewN n := rfl

/-- A vector of three words, as a value and as a block. -/
abbrev vecV (a b c : Nat) : Value := .agg #[.float .f32 a, .float .f32 b, .float .f32 c]

theorem bcell {W w1 : World} (hb : Below W.heap.size W w1) : (∀ b o, b < W.heap.size → w1.cell? ⟨b, o, none⟩ = W.cell? ⟨b, o, none⟩) ∧ (∀ b o, b < W.heap.size → w1.frozen? ⟨b, o, none⟩ = W.frozen? ⟨b, o, none⟩) :=
  ⟨fun b o h => hb.cell (p := ⟨b, o, none⟩) h, fun b o h => hb.frozen (p := ⟨b, o, none⟩) h⟩

/-- The world has grown by m blocks; what was there is as it was. -/
def Grow (m : Nat) (w w' : World) : Prop := Below w.heap.size w w' ∧ w'.heap.size = w.heap.size + m
theorem Grow.below {m : Nat} {w w' : World} (h : Grow m w w') : Below w.heap.size w w' := h.1

theorem keepT {B m : Nat} {W0 W2 wq : World} (g : Grow m W2 wq) (h : Below B W0 W2) (hB : B ≤ W2.heap.size) : Below B W0 wq := h.trans (g.1.mono hB)

theorem realloc {B : Nat} {W0 X : World} {o o' : Obj} (h : Below B W0 (X.alloc o)) (hB : B ≤ X.heap.size) : Below B W0 (X.alloc o') :=
  ⟨h.os, h.tape, h.output, by have := h.size; simpa using this, fun k hk => by
    have h1 := h.block k hk
    rw [Below.heap_alloc _ _ _ (by omega)] at h1 ⊢
    exact h1⟩

/-- A vector whose words stand for three values is handed back, and the world has grown. -/
def RetVec (m : Nat) (v0 v1 v2 : Option Nat) (w : World) (e : Ending) (w' : World) : Prop := ∃ r0 r1 r2, e = .returned (vecV r0 r1 r2) ∧ Is .f32 r0 v0 ∧ Is .f32 r1 v1 ∧ Is .f32 r2 v2 ∧ Grow m w w'

end Go.Proofs.Ytjljdnkedbejaaa
