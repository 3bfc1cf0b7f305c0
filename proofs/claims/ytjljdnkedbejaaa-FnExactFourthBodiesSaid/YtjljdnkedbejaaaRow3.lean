/-
  Rows of three numbers; a vector that is stored into a block of its own. No condition.
-/
import Derived.Test.YtjljdnkedbejaaaAreS
import Derived.Test.YtjljdnkedbejaaaTo
namespace Go.Proofs.Ytjljdnkedbejaaa
open Go.RowKit

theorem rth {W w1 w2 : World} {b n : Nat} {t : TypeId} {f : Nat → Value} (h2 : Below W.heap.size W w2) (hr : w1.rowIs b t n f) (e : W.heap = w1.heap) : w2.rowIs b t n f :=
  rt (w1 := W) (by obtain ⟨c, h, r⟩ := hr; exact ⟨c, by rw [e]; exact h, r⟩) h2

/-- Three words of a block. -/
abbrev w3 (s0 s1 s2 : Nat) (j : Nat) : Value := if j = 0 then .float .f32 s0 else if j = 1 then .float .f32 s1 else .float .f32 s2

theorem row3 {w : World} {b : Nat} {t : TypeId} {s0 s1 s2 : Nat} (h : w.rowIs b t 3 (w3 s0 s1 s2)) :
    w.cell? ⟨b, 0, none⟩ = some (.float .f32 s0) ∧ w.cell? ⟨b, 1, none⟩ = some (.float .f32 s1) ∧ w.cell? ⟨b, 2, none⟩ = some (.float .f32 s2) :=
  ⟨h.cell (i := 0) (by decide), h.cell (i := 1) (by decide), h.cell (i := 2) (by decide)⟩

theorem set3 {w : World} {b : Nat} {t : TypeId} {g : Nat → Value} (h : w.rowIs b t 3 g) (s0 s1 s2 : Nat) :
    (((w.setCell ⟨b, 0, none⟩ (.float .f32 s0)).setCell ⟨b, 1, none⟩ (.float .f32 s1)).setCell ⟨b, 2, none⟩ (.float .f32 s2)).rowIs b t 3 (w3 s0 s1 s2) := by
  refine (((h.set _ _).set _ _).set _ _).congr fun j hj => ?_
  match j, hj with
  | 0, _ => rfl
  | 1, _ => rfl
  | 2, _ => rfl

theorem alloc3 (w : World) (s0 s1 s2 : Nat) (t : TypeId) : (w.alloc (.cells #[.float .f32 s0, .float .f32 s1, .float .f32 s2] t)).rowIs w.heap.size t 3 (w3 s0 s1 s2) :=
  World.rowIs_alloc w #[.float .f32 s0, .float .f32 s1, .float .f32 s2] t _ (fun i hi => match i, hi with | 0, _ => rfl | 1, _ => rfl | 2, _ => rfl)

theorem growD {m : Nat} {X wq : World} (h : Grow m X.drew wq) : Grow m X wq := ⟨((Below.refl X.heap.size X).drew).trans h.1, h.2⟩
/-- A vector was stored into a block of its own behind the world X; what was there is as it was. -/
def NewV (X : World) (u0 u1 u2 : Option Nat) (s : Value) (wx : World) : Prop := ∃ D r0 r1 r2, s = .pointer (some ⟨D, 0, none⟩) ∧ wx.rowIs D 40 3 (w3 r0 r1 r2) ∧ Is .f32 r0 u0 ∧ Is .f32 r1 u1 ∧ Is .f32 r2 u2 ∧ Below X.heap.size X wx
theorem NewV.behind {X wq : World} {m r0 r1 r2 : Nat} {u0 u1 u2 : Option Nat} (h : Grow m X wq) (i0 : Is .f32 r0 u0) (i1 : Is .f32 r1 u1) (i2 : Is .f32 r2 u2) :
    NewV X u0 u1 u2 (.pointer (some ⟨wq.heap.size, 0, none⟩)) (wq.alloc (.cells #[.float .f32 r0, .float .f32 r1, .float .f32 r2] 40)) :=
  ⟨_, _, _, _, rfl, alloc3 wq r0 r1 r2 _, i0, i1, i2, h.1.alloc h.1.size _⟩
theorem NewV.ahead {X wq : World} {m r0 r1 r2 : Nat} {u0 u1 u2 : Option Nat} (h : Grow m (X.alloc (.cells #[.float .f32 0, .float .f32 0, .float .f32 0] 40)) wq) (i0 : Is .f32 r0 u0) (i1 : Is .f32 r1 u1) (i2 : Is .f32 r2 u2) :
    NewV X u0 u1 u2 (.pointer (some ⟨X.heap.size, 0, none⟩)) (((wq.setCell ⟨X.heap.size, 0, none⟩ (.float .f32 r0)).setCell ⟨X.heap.size, 1, none⟩ (.float .f32 r1)).setCell ⟨X.heap.size, 2, none⟩ (.float .f32 r2)) := by
  have hb := ((Below.refl X.heap.size X).alloc (Nat.le_refl _) (.cells #[.float .f32 0, .float .f32 0, .float .f32 0] 40)).trans (h.1.mono (by simp))
  exact ⟨_, _, _, _, rfl, set3 (rt (alloc3 X 0 0 0 _) h.1) r0 r1 r2, i0, i1, i2, ((hb.setCell (Nat.le_refl _) _).setCell (Nat.le_refl _) _).setCell (Nat.le_refl _) _⟩
end Go.Proofs.Ytjljdnkedbejaaa
