/-
  Decimal texts as lists of bytes: what a text spells, that the numeral of a number spells it, and is read back. No model in this text. No condition.
-/
import Derived.Test.YtbcbaejfafamjaaDoorDec
import Derived.Lib.ParseIntBTie
import Derived.Lib.AtoiTie
namespace Go.Proofs.YtbcbaejfafamjaaDoor
open Go.Lib

def vstep (a : Nat) (c : UInt8) : Nat := if 48 ≤ c.toNat ∧ c.toNat ≤ 57 then 10 * a + (c.toNat - 48) else a
def vfold (l : List UInt8) : Nat := l.foldl vstep 0
theorem vfold_snoc (l : List UInt8) (c : UInt8) : vfold (l ++ [c]) = vstep (vfold l) c := by unfold vfold; rw [List.foldl_append]; rfl
theorem vstep_le (a : Nat) (c : UInt8) : vstep a c ≤ 10 * a + 9 := by unfold vstep; split <;> omega
theorem vfold_lt (l : List UInt8) : vfold l < 10 ^ l.length := by
  suffices h : ∀ (l : List UInt8) (a : Nat), l.foldl vstep a < (a + 1) * 10 ^ l.length by simpa [vfold] using h l 0
  intro l
  induction l with
  | nil => intro a; simp
  | cons c l ih =>
    intro a
    have h1 := ih (vstep a c)
    have h2 := vstep_le a c
    simp only [List.foldl_cons, List.length_cons, Nat.pow_succ]
    calc l.foldl vstep (vstep a c) < (vstep a c + 1) * 10 ^ l.length := h1
      _ ≤ (10 * (a + 1)) * 10 ^ l.length := Nat.mul_le_mul_right _ (by omega)
      _ = (a + 1) * (10 ^ l.length * 10) := by rw [Nat.mul_comm 10 (a + 1), Nat.mul_assoc, Nat.mul_comm 10]

theorem digit_byte {d : Nat} (h : d < 10) : (UInt8.ofNat (48 + d)).toNat = 48 + d := by
  rw [UInt8.toNat_ofNat']; omega

theorem vfold_digits (u : Nat) : vfold (decDigits u) = u := by
  induction u using Nat.strongRecOn with
  | _ u ih =>
    by_cases h : u < 10
    · rw [decDigits, dif_pos h]
      unfold vfold
      simp only [List.foldl_cons, List.foldl_nil, vstep]
      rw [digit_byte h, if_pos (by omega)]; omega
    · rw [decDigits, dif_neg h, vfold_snoc, ih (u / 10) (by omega)]
      unfold vstep
      rw [digit_byte (by omega), if_pos (by omega)]; omega

theorem digits_mem (u : Nat) : ∀ c ∈ decDigits u, 48 ≤ c.toNat ∧ c.toNat ≤ 57 := by
  induction u using Nat.strongRecOn with
  | _ u ih =>
    intro c hc
    by_cases h : u < 10
    · rw [decDigits, dif_pos h] at hc
      simp only [List.mem_singleton] at hc
      rw [hc, digit_byte h]; omega
    · rw [decDigits, dif_neg h] at hc
      rcases List.mem_append.1 hc with hc | hc
      · exact ih (u / 10) (by omega) c hc
      · simp only [List.mem_singleton] at hc
        rw [hc, digit_byte (by omega)]; omega

theorem digits_ne (u : Nat) : decDigits u ≠ [] := by
  intro h
  have := decDigits_length u
  have := nDigits_pos u
  rw [h] at *
  simp at *
  omega

/-- What a text spells: a '-' ahead makes it negative. -/
def spells (l : List UInt8) : Int := if l.head? = some 45 then -((vfold l : Nat) : Int) else ((vfold l : Nat) : Int)

theorem head_digits (u : Nat) : (decDigits u).head? ≠ some 45 := by
  intro h
  have hm : (45 : UInt8) ∈ decDigits u := List.mem_of_mem_head? h
  have := digits_mem u 45 hm
  revert this; decide

theorem spells_itoa (n : Int) : spells (itoa n) = n := by
  unfold itoa
  by_cases h : n < 0
  · rw [if_pos h]
    unfold spells
    rw [if_pos (by rfl)]
    have : vfold (45 :: decDigits n.natAbs) = vfold (decDigits n.natAbs) := rfl
    rw [this, vfold_digits]; omega
  · rw [if_neg h]
    unfold spells
    rw [if_neg (head_digits _), vfold_digits]; omega

theorem decFrom_digits (l : List UInt8) (h : ∀ c ∈ l, 48 ≤ c.toNat ∧ c.toNat ≤ 57) : ∀ a, decFrom a l = some (l.foldl vstep a) := by
  induction l with
  | nil => intro a; rfl
  | cons c l ih =>
    intro a
    have hc := h c (List.mem_cons_self ..)
    have e : vstep a c = a * 10 + (c.toNat - 48) := by unfold vstep; rw [if_pos hc]; omega
    simp only [decFrom, digitVal, if_pos hc, List.foldl_cons, e]
    exact ih (fun d hd => h d (List.mem_cons_of_mem _ hd)) _

theorem decNat_digits (u : Nat) : decNat (decDigits u) = some u := by
  unfold decNat
  have : (decDigits u).isEmpty = false := by
    cases h : decDigits u with
    | nil => exact absurd h (digits_ne u)
    | cons c l => rfl
  rw [this, if_neg (by decide), decFrom_digits _ (digits_mem u)]
  exact congrArg some (vfold_digits u)

theorem atoi_itoa (n : Int) : atoi (itoa n) = some n := by
  unfold itoa
  by_cases h : n < 0
  · rw [if_pos h]
    have : atoi (45 :: decDigits n.natAbs) = (decNat (decDigits n.natAbs)).map fun (m : Nat) => -(m : Int) := rfl
    rw [this, decNat_digits]
    simp only [Option.map_some, Option.some.injEq]; omega
  · rw [if_neg h]
    have hm := digits_mem n.toNat
    have hd := decNat_digits n.toNat
    cases hl : decDigits n.toNat with
    | nil => exact absurd hl (digits_ne _)
    | cons c r =>
      rw [hl] at hm hd
      have hc := hm c (List.mem_cons_self ..)
      have h45 : (c == 45) = false := by
        apply Bool.eq_false_iff.2; intro e; rw [beq_iff_eq] at e; subst e; revert hc; decide
      have h43 : (c == 43) = false := by
        apply Bool.eq_false_iff.2; intro e; rw [beq_iff_eq] at e; subst e; revert hc; decide
      have : atoi (c :: r) = (decNat (c :: r)).map fun (m : Nat) => (m : Int) := by
        simp [atoi, h45, h43]
      rw [this, hd]
      simp only [Option.map_some, Option.some.injEq]; omega

theorem nDigits_le {u k : Nat} (hk : 1 ≤ k) (h : u < 10 ^ k) : nDigits u ≤ k := by
  apply Nat.le_of_not_lt
  intro hlt
  rcases (more_digits u k).2 hlt with h' | h'
  · omega
  · exact h' (Nat.div_eq_of_lt h)

theorem itoa_len {n : Int} (h1 : -1000000000000000 ≤ n) (h2 : n ≤ 1000000000000000) : 1 ≤ (itoa n).length ∧ (itoa n).length ≤ 17 := by
  unfold itoa
  split
  · have := nDigits_le (u := n.natAbs) (k := 16) (by decide) (by omega)
    rw [List.length_cons, decDigits_length]; omega
  · have := nDigits_le (u := n.toNat) (k := 16) (by decide) (by omega)
    have := nDigits_pos n.toNat
    rw [decDigits_length]; omega

theorem parse_itoa {n : Int} (h1 : -1000000000000000 ≤ n) (h2 : n ≤ 1000000000000000) : parseIntB 64 (itoa n) = .ok n := by
  have hl := itoa_len h1 h2
  rw [parseIntB_64, atoiAll_short _ (by omega), atoi_itoa]
  rfl

/-- Whether a text is a number's own. -/
def okV (l : List UInt8) : Bool := decide (-1000000000000000 ≤ spells l) && decide (spells l ≤ 1000000000000000) && (itoa (spells l) == l)

/-- What the parse of a text says of it. -/
theorem parse_okV (l : List UInt8) (v : Int) (h : parseIntB 64 l = .ok v) : (decide (-1000000000000000 ≤ v) && decide (v ≤ 1000000000000000) && (itoa v == l)) = okV l ∧ (okV l = true → v = spells l) := by
  have key : ∀ n : Int, itoa n = l → spells l = n := fun n hn => by rw [← hn]; exact spells_itoa n
  constructor
  · by_cases hv : itoa v = l
    · unfold okV; rw [key v hv]
    · have h1 : (itoa v == l) = false := by simpa using hv
      have h2 : okV l = false := by
        apply Bool.eq_false_iff.2
        intro ho
        unfold okV at ho
        simp only [Bool.and_eq_true, decide_eq_true_eq, beq_iff_eq] at ho
        obtain ⟨⟨a, b⟩, c⟩ := ho
        have := parse_itoa a b
        rw [c, h] at this
        cases this
        exact hv c
      rw [h1, h2]; simp
  · intro ho
    unfold okV at ho
    simp only [Bool.and_eq_true, decide_eq_true_eq, beq_iff_eq] at ho
    obtain ⟨⟨a, b⟩, c⟩ := ho
    have := parse_itoa a b
    rw [c, h] at this
    cases this
    rfl
theorem parse_bad (l : List UInt8) (h : ∀ v, parseIntB 64 l ≠ .ok v) : okV l = false := by
  apply Bool.eq_false_iff.2
  intro ho
  unfold okV at ho
  simp only [Bool.and_eq_true, decide_eq_true_eq, beq_iff_eq] at ho
  obtain ⟨⟨a, b⟩, c⟩ := ho
  have := parse_itoa a b
  rw [c] at this
  exact h _ this
theorem okV_len (l : List UInt8) (h : okV l = true) : 1 ≤ l.length ∧ l.length ≤ 17 := by
  unfold okV at h
  simp only [Bool.and_eq_true, decide_eq_true_eq, beq_iff_eq] at h
  obtain ⟨⟨a, b⟩, c⟩ := h
  rw [← c]
  exact itoa_len a b
end Go.Proofs.YtbcbaejfafamjaaDoor
