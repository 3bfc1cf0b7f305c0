/-
  Lists of vectors that are handed back: found equal, marked, and asked for their marks. No condition.
-/
import Derived.Test.YtjljdnkedbejaaaMarkB
import Derived.Test.YtjljdnkedbejaaaEqB
namespace Go.Proofs.Ytjljdnkedbejaaa
open Go.RowKit

theorem ov3 {w : World} {b n : Nat} {f : Nat → Value} (h : Own w b (3 * n) f) {k : Nat} (hk : k < n) :
    w.cell? ⟨b, k * 3, none⟩ = some (f (3 * k)) ∧ w.cell? ⟨b, k * 3 + 1, none⟩ = some (f (3 * k + 1)) ∧ w.cell? ⟨b, k * 3 + 2, none⟩ = some (f (3 * k + 2)) := by
  refine ⟨?_, ?_, ?_⟩ <;> rw [h.2.1 _ (by omega)] <;> congr 1 <;> congr 1 <;> omega
theorem cells3 {w : World} {b off n : Nat} {f : Nat → Nat} (h : ∀ i, i < 3 * n → w.cell? ⟨b, off + i, none⟩ = some (.float .f32 (f i))) {k : Nat} (hk : k < n) :
    w.cell? ⟨b, off + k * 3, none⟩ = some (.float .f32 (f (3 * k))) ∧ w.cell? ⟨b, off + k * 3 + 1, none⟩ = some (.float .f32 (f (3 * k + 1))) ∧ w.cell? ⟨b, off + k * 3 + 2, none⟩ = some (.float .f32 (f (3 * k + 2))) := by
  have e := fun j (hj : j < 3) => h (3 * k + j) (by omega)
  have e0 := e 0 (by omega)
  have e1 := e 1 (by omega)
  have e2 := e 2 (by omega)
  rw [show off + (3 * k + 0) = off + k * 3 by omega] at e0
  rw [show off + (3 * k + 1) = off + k * 3 + 1 by omega] at e1
  rw [show off + (3 * k + 2) = off + k * 3 + 2 by omega] at e2
  exact ⟨e0, e1, e2⟩
theorem oset3 {w : World} {b n : Nat} {g g' : Nat → Value} (h : Own w b (3 * n) g) {k : Nat} (hk : k < n) {v0 v1 v2 : Value} (e0 : g' (3 * k) = v0) (e1 : g' (3 * k + 1) = v1) (e2 : g' (3 * k + 2) = v2) (ho : ∀ j, j < 3 * n → (j < 3 * k ∨ 3 * k + 3 ≤ j) → g' j = g j) :
    Own (((w.setCell ⟨b, k * 3, none⟩ v0).setCell ⟨b, k * 3 + 1, none⟩ v1).setCell ⟨b, k * 3 + 2, none⟩ v2) b (3 * n) g' := by
  refine (((h.set (by omega) v0).set (by omega) v1).set (by omega) v2).congr fun j hj => ?_
  have hc : j < 3 * k ∨ j = 3 * k ∨ j = 3 * k + 1 ∨ j = 3 * k + 2 ∨ 3 * k + 3 ≤ j := by omega
  rcases hc with hc | rfl | rfl | rfl | hc
  · rw [ho j hj (.inl hc), if_neg (by omega), if_neg (by omega), if_neg (by omega)]
  · rw [e0, if_neg (by omega), if_neg (by omega), if_pos (by omega)]
  · rw [e1, if_neg (by omega), if_pos (by omega)]
  · rw [e2, if_pos (by omega)]
  · rw [ho j hj (.inr hc), if_neg (by omega), if_neg (by omega), if_neg (by omega)]

/-- The value is a list of m vectors whose words stand for u, in a block from lo to hi. -/
def RowVr (lo hi : Nat) (w : World) (v : Value) (m : Nat) (u : Nat → Option Nat) : Prop :=
  (m = 0 ∧ ∃ a c, v = .slice a 0 c) ∨ ∃ g c r, v = .slice (some ⟨g, 0, none⟩) m c ∧ lo ≤ g ∧ g < hi ∧ Own w g (3 * m) (wordV r) ∧ ∀ i, i < 3 * m → Is .f32 (r i) (u i)
theorem RowVr.step {lo hi m : Nat} {w W : World} {v : Value} {u : Nat → Option Nat} (h : RowVr lo hi w v m u) (hb : Below w.heap.size w W) : RowVr lo hi W v m u := by
  rcases h with h | ⟨g, c, r, e, hl, hh, ho, hi⟩
  · exact .inl h
  · exact .inr ⟨g, c, r, e, hl, hh, ho.step hb, hi⟩
theorem RowVr.heap {lo hi m : Nat} {w W : World} {v : Value} {u : Nat → Option Nat} (h : RowVr lo hi w v m u) (e : W.heap = w.heap) : RowVr lo hi W v m u := by
  rcases h with h | ⟨g, c, r, e', hl, hh, ho, hi⟩
  · exact .inl h
  · exact .inr ⟨g, c, r, e', hl, hh, ho.heap e, hi⟩
theorem RowVr.touch {lo hi m b : Nat} {w W : World} {v : Value} {u : Nat → Option Nat} (h : RowVr lo hi w v m u) (ht : Touch b w W) (hb : b < lo ∨ hi ≤ b) : RowVr lo hi W v m u := by
  rcases h with h | ⟨g, c, r, e, hl, hh, ho, hi⟩
  · exact .inl h
  · exact .inr ⟨g, c, r, e, hl, hh, ht.own (by omega) ho, hi⟩
/-- A list of vectors is handed back, and whether it is good. -/
def RetVecs (u : Nat → Option Nat) (n : Nat) (ok : Bool) (w : World) (e : Ending) (w' : World) : Prop :=
  (∃ v, e = .returned (.tuple #[v, .bool ok]) ∧ RowVr w.heap.size w'.heap.size w' v (if ok then n else 0) u) ∧ Below w.heap.size w w'
theorem RetVecs.no {u : Nat → Option Nat} {n : Nat} {w w' : World} (h : Below w.heap.size w w') : RetVecs u n false w (.returned (.tuple #[.slice none 0 0, .bool false])) w' := ⟨⟨_, rfl, .inl ⟨rfl, _, _, rfl⟩⟩, h⟩
end Go.Proofs.Ytjljdnkedbejaaa
