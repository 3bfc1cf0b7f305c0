/-
  A list that is handed on if it has bodies, of the program and of the model. No condition.
-/
import Derived.Test.YtpdmmefhghfkgaaRowOk
namespace Go.Proofs.Ytpdmmefhghfkgaa
open Go.RowKit

theorem iCheckedG (b n cap : Nat) (r : Nat → Nat) (u : Nat → Option Nat) (w : World) (hn : n ≤ 1048576) (ho : Own w b (7 * n) (wordV r)) (hu : ∀ i, i < 7 * n → Is .f32 (r i) (u i)) :
    Calls Try.prog 22 #[.slice (some ⟨b, 0, none⟩) n cap] w fun e w' => (∃ v, e = .returned (.tuple #[v, .bool (areB u n)]) ∧ (areB u n = true → v = .slice (some ⟨b, 0, none⟩) n cap) ∧ (areB u n = false → v = .slice none 0 0)) ∧ Below w.heap.size w w' := by
  have HA := iAre b 0 n cap r u w hn ho.1 (ownCells ho) hu
  cases ha : areB u n with
  | false =>
    rw [ha] at HA
    go_enter Try.func22, Try.ntmps22
    go_wp2_with (go_at_call 13; refine (HA).mono ?_; rintro _ W1 ⟨rfl, b1⟩)
    go_ret2
    exact ⟨⟨_, rfl, by simp, by simp⟩, b1⟩
  | true =>
    rw [ha] at HA
    go_enter Try.func22, Try.ntmps22
    go_wp2_with (go_at_call 13; refine (HA).mono ?_; rintro _ W1 ⟨rfl, b1⟩)
    go_ret2
    exact ⟨⟨_, rfl, by simp, by simp⟩, b1⟩

theorem sGiveG (b n cap : Nat) (r : Nat → Nat) (u : Nat → Option Nat) (w : World) (hn : n ≤ 1048576) (ho : Own w b (7 * n) (wordV r)) (hu : ∀ i, i < 7 * n → Is .f32 (r i) (u i)) :
    Calls Try.prog 17 #[.slice (some ⟨b, 0, none⟩) n cap] w fun e w' => (∃ v, e = .returned (.tuple #[v, .bool (areB u n)]) ∧ (areB u n = true → v = .slice (some ⟨b, 0, none⟩) n cap) ∧ (areB u n = false → v = .slice none 0 0)) ∧ Below w.heap.size w w' := by
  have HA := sAre b 0 n cap r u w hn ho.1 (ownCells ho) hu
  cases ha : areB u n with
  | false =>
    rw [ha] at HA
    go_enter Try.func17, Try.ntmps17
    go_wp2_with (go_at_call 24; refine (HA).mono ?_; rintro _ W1 ⟨rfl, b1⟩)
    go_ret2
    exact ⟨⟨_, rfl, by simp, by simp⟩, b1⟩
  | true =>
    rw [ha] at HA
    go_enter Try.func17, Try.ntmps17
    go_wp2_with (go_at_call 24; refine (HA).mono ?_; rintro _ W1 ⟨rfl, b1⟩)
    go_ret2
    exact ⟨⟨_, rfl, by simp, by simp⟩, b1⟩

/-- A list that is checked: what is handed back. -/
theorem retGive {b n cap : Nat} {r : Nat → Nat} {u : Nat → Option Nat} {w X W : World} {v : Value} (ht : areB u n = true → v = .slice (some ⟨b, 0, none⟩) n cap) (hf : areB u n = false → v = .slice none 0 0)
    (hg : w.heap.size ≤ b) (hX : Below w.heap.size w X) (ho : Own X b (7 * n) (wordV r)) (hu : ∀ i, i < 7 * n → Is .f32 (r i) (u i)) (hb : Below X.heap.size X W) :
    RetList u n (areB u n) w (.returned (.tuple #[v, .bool (areB u n)])) W := by
  refine ⟨⟨_, rfl, ?_⟩, hX.trans (hb.mono hX.size)⟩
  cases hc : areB u n with
  | true => exact .inr ⟨b, cap, r, ht hc, hg, Nat.lt_of_lt_of_le ho.1 hb.size, by simpa using ho.step hb, by simpa using hu⟩
  | false => exact .inl ⟨by simp, _, _, hf hc⟩
end Go.Proofs.Ytpdmmefhghfkgaa
