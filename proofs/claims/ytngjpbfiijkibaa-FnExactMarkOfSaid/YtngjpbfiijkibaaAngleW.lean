/-
  The angle of a point, of the program and of the model. No condition.
-/
import Derived.Test.YtngjpbfiijkibaaAngle
import Derived.Test.YtngjpbfiijkibaaWord
namespace Go.Proofs.Ytngjpbfiijkibaa
open Go.RowKit

def angO (y x : Option Nat) : Option Nat :=
  if finW y && finW x then
    if cmpB .eql .f64 y (some 0) && cmpB .eql .f64 x (some 0) then some 0 else
      (fun over : Bool =>
        (fun g : Option Nat =>
          (fun g1 : Option Nat =>
            (fun g2 : Option Nat => if cmpB .lss .f64 y (some 0) then negO .f64 g2 else g2)
              (if cmpB .lss .f64 x (some 0) then fo .sub .f64 (some 4602678819172646912) g1 else g1))
            (if over then fo .sub .f64 (some 4598175219545276416) g else g))
          (slopeO (if over then fo .quo .f64 (absO x) (absO y) else fo .quo .f64 (absO y) (absO x))))
        (cmpB .gtr .f64 (absO y) (absO x))
  else none

/-- How the two numbers without their signs stand to each other, and the quotient. -/
theorem ratio_cases {y x : Nat} {s t : Bool} {m n : Nat} {i j : Int} (hy : FloatKind.f64.decode y = .number s m i) (hx : FloatKind.f64.decode x = .number t n j)
    (hz : (cmpB .eql .f64 (some y) (some 0) && cmpB .eql .f64 (some x) (some 0)) = false) :
    (cmpB .gtr .f64 (absO (some y)) (absO (some x)) = true ∧ FloatKind.f64.format.order (y % 2 ^ 63) (x % 2 ^ 63) = some .gt ∧ LeO .f64 (fo .quo .f64 (absO (some x)) (absO (some y))) 1) ∨
    (cmpB .gtr .f64 (absO (some y)) (absO (some x)) = false ∧ (FloatKind.f64.format.order (y % 2 ^ 63) (x % 2 ^ 63) = some .lt ∨ FloatKind.f64.format.order (y % 2 ^ 63) (x % 2 ^ 63) = some .eq ∧ y % 2 ^ 63 = x % 2 ^ 63) ∧ LeO .f64 (fo .quo .f64 (absO (some y)) (absO (some x))) 1) := by
  have dy := abs_num hy
  have dx := abs_num hx
  have ho := order_num dy dx
  have e1 : absO (some y) = some (y % 2 ^ 63) := rfl
  have e2 : absO (some x) = some (x % 2 ^ 63) := rfl
  have s1 : Ieee.signed false m (i - min i j).toNat = ((m <<< (i - min i j).toNat : Nat) : Int) := rfl
  have s2 : Ieee.signed false n (j - min i j).toNat = ((n <<< (j - min i j).toNat : Nat) : Int) := rfl
  rw [s1, s2] at ho
  rw [eql_zero hy, eql_zero hx] at hz
  rw [e1, e2]
  have hc : ∀ o, FloatKind.f64.format.order (y % 2 ^ 63) (x % 2 ^ 63) = some o → cmpB .gtr .f64 (some (y % 2 ^ 63)) (some (x % 2 ^ 63)) = (o == .gt) := fun o h => by
    unfold cmpB
    rw [ord_some h]
    cases o <;> rfl
  have z1 : ∀ up, (0 : Nat) <<< up = 0 := fun up => by simp
  rcases Nat.lt_trichotomy (m <<< (i - min i j).toNat) (n <<< (j - min i j).toNat) with h | h | h
  · have h' : compare ((m <<< (i - min i j).toNat : Nat) : Int) ((n <<< (j - min i j).toNat : Nat) : Int) = .lt := by rw [Int.compare_eq_lt]; omega
    rw [h'] at ho
    refine .inr ⟨hc _ ho, .inl ho, le_ratio dy dx (fun h0 => ?_) (Nat.le_of_lt h)⟩
    rw [h0, z1] at h; exact absurd h (Nat.not_lt_zero _)
  · have h' : compare ((m <<< (i - min i j).toNat : Nat) : Int) ((n <<< (j - min i j).toNat : Nat) : Int) = .eq := by rw [Int.compare_eq_eq]; omega
    rw [h'] at ho
    refine .inr ⟨hc _ ho, .inr ⟨ho, same_word (Nat.mod_lt _ (Nat.two_pow_pos _)) (Nat.mod_lt _ (Nat.two_pow_pos _)) dy dx h⟩, le_ratio dy dx (fun h0 => ?_) (Nat.le_of_eq h)⟩
    subst h0
    rw [z1] at h
    rw [Nat.shiftLeft_eq] at h
    have : m = 0 := (Nat.mul_eq_zero.1 h).resolve_right (Nat.pos_iff_ne_zero.1 (Nat.two_pow_pos _))
    simp [this] at hz
  · have h' : compare ((m <<< (i - min i j).toNat : Nat) : Int) ((n <<< (j - min i j).toNat : Nat) : Int) = .gt := by rw [Int.compare_eq_gt]; omega
    rw [h'] at ho
    refine .inl ⟨hc _ ho, ho, le_ratio dx dy (fun h0 => ?_) (by rw [Int.min_comm]; exact Nat.le_of_lt h)⟩
    rw [h0, z1] at h; exact absurd h (Nat.not_lt_zero _)

theorem le_ang {y x : Option Nat} (hy : finW y = true → ∃ b s m e, y = some b ∧ FloatKind.f64.decode b = .number s m e) (hx : finW x = true → ∃ b s m e, x = some b ∧ FloatKind.f64.decode b = .number s m e) : LeO .f64 (angO y x) 28 := by
  unfold angO
  by_cases hf : (finW y && finW x) = true
  · rw [if_pos hf]
    simp only [Bool.and_eq_true] at hf
    obtain ⟨b, s, m, e, rfl, hd⟩ := hy hf.1
    obtain ⟨c, t, n, j, rfl, hc⟩ := hx hf.2
    by_cases hz : (cmpB .eql .f64 (some b) (some 0) && cmpB .eql .f64 (some c) (some 0)) = true
    · rw [if_pos hz]; exact le_lit (by kernel_rfl)
    · rw [if_neg hz]
      have key : ∀ over : Bool, over = cmpB .gtr .f64 (absO (some b)) (absO (some c)) → LeO .f64 (slopeO (if over then fo .quo .f64 (absO (some c)) (absO (some b)) else fo .quo .f64 (absO (some b)) (absO (some c)))) 26 := fun over ho => by
        rcases ratio_cases hd hc (by simpa using hz) with ⟨h1, _, h3⟩ | ⟨h1, _, h3⟩
        · rw [ho, h1]; exact le_slope h3
        · rw [ho, h1]; exact le_slope h3
      have k1 := key _ rfl
      have b1 : ∀ r, slopeO (if cmpB .gtr .f64 (absO (some b)) (absO (some c)) then fo .quo .f64 (absO (some c)) (absO (some b)) else fo .quo .f64 (absO (some b)) (absO (some c))) = some r → r < 2 ^ FloatKind.f64.format.width := fun r h => fo_lt h
      dsimp only
      generalize slopeO _ = g at k1 b1 ⊢
      have k2 : LeO .f64 (if cmpB .gtr .f64 (absO (some b)) (absO (some c)) then fo .sub .f64 (some 4598175219545276416) g else g) 27 := by
        split
        · exact le_sub (u := 26) (le_lit (by kernel_rfl)) k1 (by decide) (by decide)
        · exact k1.mono (by decide)
      have b2 : ∀ r, (if cmpB .gtr .f64 (absO (some b)) (absO (some c)) then fo .sub .f64 (some 4598175219545276416) g else g) = some r → r < 2 ^ FloatKind.f64.format.width := fun r h => by
        split at h
        · exact fo_lt h
        · exact b1 r h
      generalize (if cmpB .gtr .f64 (absO (some b)) (absO (some c)) then fo .sub .f64 (some 4598175219545276416) g else g) = g1 at k2 b2 ⊢
      have k3 : LeO .f64 (if cmpB .lss .f64 (some c) (some 0) then fo .sub .f64 (some 4602678819172646912) g1 else g1) 28 := by
        split
        · exact le_sub (u := 27) (le_lit (by kernel_rfl)) k2 (by decide) (by decide)
        · exact k2.mono (by decide)
      have b3 : ∀ r, (if cmpB .lss .f64 (some c) (some 0) then fo .sub .f64 (some 4602678819172646912) g1 else g1) = some r → r < 2 ^ FloatKind.f64.format.width := fun r h => by
        split at h
        · exact fo_lt h
        · exact b2 r h
      generalize (if cmpB .lss .f64 (some c) (some 0) then fo .sub .f64 (some 4602678819172646912) g1 else g1) = g2 at k3 b3 ⊢
      split
      · exact le_neg b3 k3
      · exact k3
  · rw [if_neg hf]; exact LeO.none
end Go.Proofs.Ytngjpbfiijkibaa
