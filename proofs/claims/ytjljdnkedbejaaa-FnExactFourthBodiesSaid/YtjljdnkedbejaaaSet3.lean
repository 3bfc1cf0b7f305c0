/-
  Three numbers that are stored one after another into a block of one's own; a list that is handed on if it has bodies. No condition.
-/
import Derived.Test.YtjljdnkedbejaaaOwnC
import Derived.Test.YtjljdnkedbejaaaRowOk
namespace Go.Proofs.Ytjljdnkedbejaaa
open Go.RowKit

def put3 (r : Nat → Nat) (p q0 q1 q2 : Nat) (j : Nat) : Nat := if j = p then q0 else if j = p + 1 then q1 else if j = p + 2 then q2 else r j
theorem put3_0 (r : Nat → Nat) (p q0 q1 q2 : Nat) : put3 r p q0 q1 q2 p = q0 := by simp [put3]
theorem put3_1 (r : Nat → Nat) (p q0 q1 q2 : Nat) : put3 r p q0 q1 q2 (p + 1) = q1 := by simp [put3]
theorem put3_2 (r : Nat → Nat) (p q0 q1 q2 : Nat) : put3 r p q0 q1 q2 (p + 2) = q2 := by simp [put3]
theorem put3_o (r : Nat → Nat) (p q0 q1 q2 : Nat) {j : Nat} (h : j < p ∨ p + 3 ≤ j) : put3 r p q0 q1 q2 j = r j := by
  unfold put3
  rw [if_neg (by omega), if_neg (by omega), if_neg (by omega)]

theorem own3 {w : World} {b m : Nat} {r : Nat → Nat} (h : Own w b m (wordV r)) (p : Nat) (hp : p + 2 < m) (q0 q1 q2 : Nat) {p0 p1 p2 : Nat} (e0 : p0 = p) (e1 : p1 = p + 1) (e2 : p2 = p + 2) :
    Own (((w.setCell ⟨b, p0, none⟩ (.float .f32 q0)).setCell ⟨b, p1, none⟩ (.float .f32 q1)).setCell ⟨b, p2, none⟩ (.float .f32 q2)) b m (wordV (put3 r p q0 q1 q2)) := by
  subst e0 e1 e2
  refine (((h.set (by omega) _).set (by omega) _).set (by omega) _).congr fun j hj => ?_
  by_cases h2 : j = p0 + 2
  · subst h2; simp [wordV, put3_2]
  · by_cases h1 : j = p0 + 1
    · subst h1; simp [wordV, put3_1]
    · by_cases h0 : j = p0
      · subst h0; simp [wordV, put3_0]
      · rw [if_neg h2, if_neg h1, if_neg h0]
        simp [wordV, put3, h0, h1, h2]

/-- The numbers behind three that are put hold what they should. -/
theorem is_put3 {r : Nat → Nat} {p q0 q1 q2 : Nat} {u u' : Nat → Option Nat} {m : Nat} (h : ∀ i, i < m → Is .f32 (r i) (u i)) (i0 : Is .f32 q0 (u' p)) (i1 : Is .f32 q1 (u' (p + 1))) (i2 : Is .f32 q2 (u' (p + 2))) (hu : ∀ i, i < m → (i < p ∨ p + 3 ≤ i) → u' i = u i) : ∀ i, i < m → Is .f32 (put3 r p q0 q1 q2 i) (u' i) := by
  intro i hi
  by_cases hc : i < p ∨ p + 3 ≤ i
  · rw [put3_o _ _ _ _ _ hc, hu i hi hc]; exact h i hi
  · have hc' : i = p ∨ i = p + 1 ∨ i = p + 2 := by omega
    rcases hc' with rfl | rfl | rfl
    · rw [put3_0]; exact i0
    · rw [put3_1]; exact i1
    · rw [put3_2]; exact i2

theorem sGive (b n cap : Nat) (r : Nat → Nat) (u : Nat → Option Nat) (w : World) (hn : n ≤ 1048576) (ho : Own w b (7 * n) (wordV r)) (hu : ∀ i, i < 7 * n → Is .f32 (r i) (u i)) :
    Calls Try.prog 45 #[.slice (some ⟨b, 0, none⟩) n cap] w fun e w' => (∃ v, e = .returned (.tuple #[v, .bool (areB u n)]) ∧ (areB u n = true → v = .slice (some ⟨b, 0, none⟩) n cap) ∧ (areB u n = false → v = .slice none 0 0)) ∧ Below w.heap.size w w' := by
  have HA := sAre b 0 n cap r u w hn ho.1 (ownCells ho) hu
  cases ha : areB u n with
  | false =>
    rw [ha] at HA
    go_enter Try.func45, Try.ntmps45
    go_wp2_with (go_at_call 26; refine (HA).mono ?_; rintro _ W1 ⟨rfl, b1⟩)
    go_ret2
    exact ⟨⟨_, rfl, by simp, by simp⟩, b1⟩
  | true =>
    rw [ha] at HA
    go_enter Try.func45, Try.ntmps45
    go_wp2_with (go_at_call 26; refine (HA).mono ?_; rintro _ W1 ⟨rfl, b1⟩)
    go_ret2
    exact ⟨⟨_, rfl, by simp, by simp⟩, b1⟩

theorem sAre0 (a : Option Addr) (cap : Nat) (w : World) : Calls Try.prog 26 #[.slice a 0 cap] w fun e w' => e = .returned (.bool true) ∧ w' = w := by
  go_enter Try.func26, Try.ntmps26
  go_wp2
  go_loopw [3] (fun i wr => i = .int .i64 0 ∧ wr = w) (fun i _ => 0)
  case atStart => exact ⟨rfl, rfl⟩
  case round =>
    obtain ⟨rfl, rfl⟩ := hrel
    go_wp2
    go_ret
    exact ⟨rfl, rfl⟩
theorem sGive0 (a : Option Addr) (cap : Nat) (w : World) : Calls Try.prog 45 #[.slice a 0 cap] w fun e w' => e = .returned (.tuple #[.slice a 0 cap, .bool true]) ∧ w' = w := by
  go_enter Try.func45, Try.ntmps45
  go_wp2_with (go_at_call 26; refine (sAre0 _ _ _).mono ?_; rintro _ _ ⟨rfl, rfl⟩)
  go_ret2
  exact ⟨rfl, rfl⟩
end Go.Proofs.Ytjljdnkedbejaaa
