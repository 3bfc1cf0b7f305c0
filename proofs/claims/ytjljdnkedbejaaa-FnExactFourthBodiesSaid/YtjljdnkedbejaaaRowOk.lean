/-
  Lists of bodies that are handed back: found equal, marked, and asked for their marks. No condition.
-/
import Derived.Test.YtjljdnkedbejaaaMarkB
namespace Go.Proofs.Ytjljdnkedbejaaa
open Go.RowKit

/-- The value is a list of m bodies whose words stand for u, in a block from lo to hi. -/
def RowOk (lo hi : Nat) (w : World) (v : Value) (m : Nat) (u : Nat → Option Nat) : Prop :=
  (m = 0 ∧ ∃ a c, v = .slice a 0 c) ∨ ∃ g c r, v = .slice (some ⟨g, 0, none⟩) m c ∧ lo ≤ g ∧ g < hi ∧ Own w g (7 * m) (wordV r) ∧ ∀ i, i < 7 * m → Is .f32 (r i) (u i)
/-- The value is a list of m bodies that are marked. -/
def Marked (lo hi : Nat) (w : World) (v : Value) (m : Nat) : Prop :=
  (m = 0 ∧ ∃ a c, v = .slice a 0 c) ∨ ∃ g c, v = .slice (some ⟨g, 0, none⟩) m c ∧ lo ≤ g ∧ g < hi ∧ Own w g (7 * m) markV

theorem RowOk.step {lo hi m : Nat} {w W : World} {v : Value} {u : Nat → Option Nat} (h : RowOk lo hi w v m u) (hb : Below w.heap.size w W) : RowOk lo hi W v m u := by
  rcases h with h | ⟨g, c, r, e, hl, hh, ho, hi⟩
  · exact .inl h
  · exact .inr ⟨g, c, r, e, hl, hh, ho.step hb, hi⟩
theorem RowOk.heap {lo hi m : Nat} {w W : World} {v : Value} {u : Nat → Option Nat} (h : RowOk lo hi w v m u) (e : W.heap = w.heap) : RowOk lo hi W v m u := by
  rcases h with h | ⟨g, c, r, e', hl, hh, ho, hi⟩
  · exact .inl h
  · exact .inr ⟨g, c, r, e', hl, hh, ho.heap e, hi⟩
theorem RowOk.touch {lo hi m b : Nat} {w W : World} {v : Value} {u : Nat → Option Nat} (h : RowOk lo hi w v m u) (ht : Touch b w W) (hb : b < lo ∨ hi ≤ b) : RowOk lo hi W v m u := by
  rcases h with h | ⟨g, c, r, e, hl, hh, ho, hi⟩
  · exact .inl h
  · exact .inr ⟨g, c, r, e, hl, hh, ht.own (by omega) ho, hi⟩
theorem Marked.step {lo hi m : Nat} {w W : World} {v : Value} (h : Marked lo hi w v m) (hb : Below w.heap.size w W) : Marked lo hi W v m := by
  rcases h with h | ⟨g, c, e, hl, hh, ho⟩
  · exact .inl h
  · exact .inr ⟨g, c, e, hl, hh, ho.step hb⟩
theorem Marked.heap {lo hi m : Nat} {w W : World} {v : Value} (h : Marked lo hi w v m) (e : W.heap = w.heap) : Marked lo hi W v m := by
  rcases h with h | ⟨g, c, e', hl, hh, ho⟩
  · exact .inl h
  · exact .inr ⟨g, c, e', hl, hh, ho.heap e⟩

theorem eqOk {l1 h1 l2 h2 m : Nat} {w : World} {v1 v2 : Value} {u : Nat → Option Nat} (hm : m ≤ 1048576) (a : RowOk l1 h1 w v1 m u) (b : RowOk l2 h2 w v2 m u) :
    Calls Try.prog 10 #[v1, v2] w fun e w' => e = .returned (.bool true) ∧ Below w.heap.size w w' := by
  rcases Nat.eq_zero_or_pos m with rfl | hp
  · have z : ∀ {l h : Nat} {v : Value}, RowOk l h w v 0 u → ∃ a c, v = .slice a 0 c := by
      intro l h v x
      rcases x with ⟨_, x⟩ | ⟨g, c, r, e, _⟩
      · exact x
      · exact ⟨_, _, e⟩
    obtain ⟨a1, c1, rfl⟩ := z a
    obtain ⟨a2, c2, rfl⟩ := z b
    exact eqBS0 a1 a2 c1 c2 w
  · rcases a with ⟨h0, _⟩ | ⟨g, c, r, rfl, _, _, ho, hi⟩
    · omega
    · rcases b with ⟨h0, _⟩ | ⟨g', c', r', rfl, _, _, ho', hi'⟩
      · omega
      · exact eqBS g 0 g' 0 m c c' r r' u w hm ho.1 ho'.1 (ownCells ho) (ownCells ho') hi hi'

theorem markOk {lo hi m : Nat} {w : World} {v : Value} {u : Nat → Option Nat} (hm : m ≤ 1048576) (hlh : lo ≤ hi) (a : RowOk lo hi w v m u) :
    Calls Try.prog 11 #[v, .int .i64 1] w fun e w' => e = .returned (.int .i64 (1 + 7 * (m : Int))) ∧ Marked lo hi w' v m ∧ ∃ b, lo ≤ b ∧ Touch b w w' := by
  rcases a with ⟨rfl, x, c, rfl⟩ | ⟨g, c, r, rfl, hl, hh, ho, _⟩
  · exact (markB0 x c w).mono fun e w' ⟨he, hw⟩ => by subst he hw; exact ⟨rfl, .inl ⟨rfl, _, _, rfl⟩, lo, Nat.le_refl _, Touch.refl _ _⟩
  · exact (markB g m c _ w hm ho).mono fun e w' ⟨he, ho', ht⟩ => ⟨he, .inr ⟨g, c, rfl, hl, hh, ho'⟩, g, hl, ht⟩

theorem heldOk {lo hi m : Nat} {w : World} {v : Value} (hm : m ≤ 1048576) (a : Marked lo hi w v m) :
    Calls Try.prog 12 #[v, .int .i64 1] w (RetV (.int .i64 (1 + 7 * (m : Int))) w) := by
  rcases a with ⟨rfl, x, c, rfl⟩ | ⟨g, c, rfl, hl, hh, ho⟩
  · exact heldB0 x c w
  · exact heldB g m c w hm ho

/-- A list of bodies is handed back, and whether it is good. -/
def RetList (u : Nat → Option Nat) (n : Nat) (ok : Bool) (w : World) (e : Ending) (w' : World) : Prop :=
  (∃ v, e = .returned (.tuple #[v, .bool ok]) ∧ RowOk w.heap.size w'.heap.size w' v (if ok then n else 0) u) ∧ Below w.heap.size w w'
theorem RetList.no {u : Nat → Option Nat} {n : Nat} {w w' : World} (h : Below w.heap.size w w') : RetList u n false w (.returned (.tuple #[.slice none 0 0, .bool false])) w' := ⟨⟨_, rfl, .inl ⟨rfl, _, _, rfl⟩⟩, h⟩
end Go.Proofs.Ytjljdnkedbejaaa
