/-
  Words of 64-bit numbers and their order. No condition.
-/
import Derived.Test.YtngjpbfiijkibaaNumT
namespace Go.Proofs.Ytngjpbfiijkibaa
open Go.RowKit

theorem abs_num {y : Nat} {s : Bool} {m : Nat} {e : Int} (h : FloatKind.f64.decode y = .number s m e) : FloatKind.f64.decode (y % 2 ^ 63) = .number false m e := by
  have hr := read_abs .f64 y
  have e1 : FloatKind.f64.format.signWeight = 2 ^ 63 := rfl
  rw [e1] at hr
  unfold FloatKind.decode at h ⊢
  rw [hr, h]

theorem order_num {k : FloatKind} {x y : Nat} {s t : Bool} {m n : Nat} {i j : Int} (hx : k.decode x = .number s m i) (hy : k.decode y = .number t n j) :
    k.format.order x y = some (compare (Ieee.signed s m (i - min i j).toNat) (Ieee.signed t n (j - min i j).toNat)) := by
  unfold FloatKind.decode at hx hy
  simp only [Ieee.Format.order, hx, hy, Ieee.Datum.order]

theorem ord_some {k : FloatKind} {x y : Nat} {o : Ordering} (h : k.format.order x y = some o) : ordO k (some x) (some y) = some o := h

/-- Zero is where no digits are. -/
theorem eql_zero {y : Nat} {s : Bool} {m : Nat} {e : Int} (h : FloatKind.f64.decode y = .number s m e) : cmpB .eql .f64 (some y) (some 0) = decide (m = 0) := by
  have ho := ord_some (order_num h (show FloatKind.f64.decode 0 = .number false 0 (-1074) from by rfl))
  unfold cmpB
  simp only [ho]
  have h2 : Ieee.signed false 0 (-1074 - min e (-1074)).toNat = 0 := by simp [Ieee.signed]
  rw [h2]
  by_cases hm : m = 0
  · subst hm
    have h1 : Ieee.signed s 0 (e - min e (-1074)).toNat = 0 := by cases s <;> simp [Ieee.signed]
    rw [h1]; rfl
  · have h1 : Ieee.signed s m (e - min e (-1074)).toNat ≠ 0 := by
      have h3 : m <<< (e - min e (-1074)).toNat ≠ 0 := by
        rw [Nat.shiftLeft_eq]; exact Nat.mul_ne_zero hm (Nat.pos_iff_ne_zero.1 (Nat.two_pow_pos _))
      unfold Ieee.signed
      split <;> omega
    simp [hm]
    exact h1

/-- A number that is not greater than another one, divided by it. -/
theorem le_ratio {a b : Nat} {m n : Nat} {i j : Int} (ha : FloatKind.f64.decode a = .number false m i) (hb : FloatKind.f64.decode b = .number false n j) (hn : n ≠ 0)
    (hle : m <<< (i - min i j).toNat ≤ n <<< (j - min i j).toNat) : LeO .f64 (fo .quo .f64 (some a) (some b)) 1 := by
  refine (le_div (ta := (n.log2 : Int) + j + 1) (tb := (n.log2 : Int) + j) ?_ ?_ (by simp [tLeast]; omega) (by simp [tMost]; omega)).mono (by omega)
  · intro c hc
    cases hc
    refine ⟨false, m, i, ha, fun hm => ⟨m.log2 + 1, Nat.le_of_lt (lt_pow_log2 m), ?_⟩⟩
    rw [Nat.shiftLeft_eq, Nat.shiftLeft_eq] at hle
    have h1 : 2 ^ (m.log2 + (i - min i j).toNat) < 2 ^ (n.log2 + 1 + (j - min i j).toNat) := by
      rw [Nat.pow_add, Nat.pow_add]
      calc 2 ^ m.log2 * 2 ^ (i - min i j).toNat ≤ m * 2 ^ (i - min i j).toNat := Nat.mul_le_mul_right _ (Nat.log2_self_le hm)
        _ ≤ n * 2 ^ (j - min i j).toNat := hle
        _ < 2 ^ (n.log2 + 1) * 2 ^ (j - min i j).toNat := Nat.mul_lt_mul_of_pos_right (lt_pow_log2 n) (Nat.two_pow_pos _)
    have h2 := (Nat.pow_lt_pow_iff_right (a := 2) (by decide)).1 h1
    omega
  · intro c hc
    cases hc
    exact .inr ⟨false, n, j, hb, hn, Int.le_refl _⟩

/-- What is read of a word without a sign. -/
theorem read_pos {x : Nat} (h : x < 2 ^ 63) {s : Bool} {m : Nat} {e : Int} (hd : FloatKind.f64.decode x = .number s m e) :
    (x < 2 ^ 52 ∧ m = x ∧ e = -1074) ∨ (2 ^ 52 ≤ x ∧ m = 2 ^ 52 + x % 2 ^ 52 ∧ e = -1074 + (x / 2 ^ 52 - 1 : Nat)) := by
  unfold FloatKind.decode at hd
  have hw : x = FloatKind.f64.format.word false x := rfl
  have e1 : FloatKind.f64.format.signWeight = 2 ^ 63 := rfl
  have e2 : FloatKind.f64.format.binade = 2 ^ 52 := rfl
  have e3 : FloatKind.f64.format.leastPlace = -1074 := rfl
  unfold Ieee.Format.read at hd
  rw [e1, Nat.mod_eq_of_lt h, e2, e3] at hd
  simp only at hd
  by_cases h1 : x < 2 ^ 52
  · rw [if_pos h1] at hd
    cases hd
    exact .inl ⟨h1, rfl, rfl⟩
  · rw [if_neg h1] at hd
    split at hd
    · cases hd
      exact .inr ⟨by omega, rfl, rfl⟩
    · split at hd <;> cases hd

/-- Two numbers without a sign that are equal are one word. -/
theorem same_word {x y : Nat} (hx : x < 2 ^ 63) (hy : y < 2 ^ 63) {m n : Nat} {i j : Int} (dx : FloatKind.f64.decode x = .number false m i) (dy : FloatKind.f64.decode y = .number false n j)
    (h : m <<< (i - min i j).toNat = n <<< (j - min i j).toNat) : x = y := by
  have key : ∀ {x y m n : Nat} {i j : Int}, i < j → ((x < 2 ^ 52 ∧ m = x ∧ i = -1074) ∨ (2 ^ 52 ≤ x ∧ m = 2 ^ 52 + x % 2 ^ 52 ∧ i = -1074 + (x / 2 ^ 52 - 1 : Nat))) → ((y < 2 ^ 52 ∧ n = y ∧ j = -1074) ∨ (2 ^ 52 ≤ y ∧ n = 2 ^ 52 + y % 2 ^ 52 ∧ j = -1074 + (y / 2 ^ 52 - 1 : Nat))) → m <<< (i - min i j).toNat ≠ n <<< (j - min i j).toNat := by
    intro x y m n i j hij hx hy he
    rw [Nat.shiftLeft_eq, Nat.shiftLeft_eq] at he
    have h1 : (i - min i j).toNat = 0 := by omega
    rw [h1, Nat.pow_zero, Nat.mul_one] at he
    have hm : m < 2 ^ 53 := by
      rcases hx with ⟨a, b, _⟩ | ⟨a, b, _⟩
      · omega
      · have := Nat.mod_lt x (Nat.two_pow_pos 52); omega
    have hn : 2 ^ 52 ≤ n := by
      rcases hy with ⟨a, b, c⟩ | ⟨a, b, c⟩
      · exfalso
        rcases hx with ⟨_, _, d⟩ | ⟨_, _, d⟩ <;> omega
      · omega
    have h2 : 2 ^ 1 ≤ 2 ^ (j - min i j).toNat := Nat.pow_le_pow_right (by decide) (by omega)
    have h3 : 2 ^ 52 * 2 ^ 1 ≤ n * 2 ^ (j - min i j).toNat := Nat.mul_le_mul hn h2
    omega
  have rx := read_pos hx dx
  have ry := read_pos hy dy
  rcases Int.lt_trichotomy i j with hij | hij | hij
  · exact absurd h (key hij rx ry)
  · subst hij
    rw [Int.min_self, Int.sub_self] at h
    simp at h
    subst h
    rcases rx with ⟨a, b, c⟩ | ⟨a, b, c⟩ <;> rcases ry with ⟨a', b', c'⟩ | ⟨a', b', c'⟩
    · omega
    · exfalso; have := Nat.mod_lt x (Nat.two_pow_pos 52); omega
    · exfalso; have := Nat.mod_lt x (Nat.two_pow_pos 52); omega
    · omega
  · rw [show min i j = min j i from Int.min_comm ..] at h
    exact absurd h.symm (key hij ry rx)

theorem fo_lt {op : BinOp} {k : FloatKind} {a b : Option Nat} {r : Nat} (h : fo op k a b = some r) : r < 2 ^ k.format.width := by
  obtain ⟨x, y, _, _, hf⟩ := fo_some h
  have := floatBits_wf hf
  cases k
  · have h2 : r < 4294967296 := by simpa [Lit.wf] using this
    exact h2
  · have h2 : r < 18446744073709551616 := by simpa [Lit.wf] using this
    exact h2

end Go.Proofs.Ytngjpbfiijkibaa
