/-
  The sine of a number of turns, as the program and as the model tell it: both are one, and small. No condition.
-/
import Derived.Test.YtngjpbfiijkibaaTrunc
import Derived.Test.YtngjpbfiijkibaaFacts
namespace Go.Proofs.Ytngjpbfiijkibaa
open Go.RowKit

theorem sub_zero {y : Nat} (h : y < 2 ^ 64) {s : Bool} {m : Nat} {e : Int} (hd : FloatKind.f64.decode y = .number s m e) : fo .sub .f64 (some y) (some 0) = some y := by
  obtain ⟨h1, h2, h3, h4, h5⟩ := read_facts h hd
  have h0 : FloatKind.f64.format.read 0 = .number false 0 (-1074) := by rfl
  have hd' := hd
  unfold FloatKind.decode at hd'
  have hmin : min e (-1074) = -1074 := by omega
  have hz : ∀ up, Ieee.signed true 0 up = 0 := fun up => by simp [Ieee.signed]
  unfold fo floatBits Ieee.Format.sub
  simp only [Option.bind_some, hd', h0, Ieee.Datum.opposite, Ieee.Datum.sum, Bool.not_false, hmin, hz, Option.map_some, Option.some.injEq, Int.add_zero]
  by_cases hm : m = 0
  · subst hm
    have : Ieee.signed s 0 (e - -1074).toNat = 0 := by cases s <;> simp [Ieee.signed]
    rw [this]
    have he : e = -1074 := by omega
    subst he
    simp only [if_true, Bool.and_true, Int.natAbs_zero]
    have h6 : FloatKind.f64.format.write (.number s 0 (-1074)) = FloatKind.f64.format.word s 0 := rfl
    have h7 : (((-1074 : Int) + 1074).toNat * 2 ^ 52 + 0) = 0 := by decide
    rw [h7] at h4
    rw [h6, ← h4]
  · have hk : (-1074 : Int) = e - ((e - -1074).toNat : Nat) := by omega
    have hne : m <<< (e - -1074).toNat ≠ 0 := by rw [Nat.shiftLeft_eq]; exact Nat.mul_ne_zero hm (Nat.pos_iff_ne_zero.1 (Nat.two_pow_pos _))
    have hw := write_shift h hd hm (e - -1074).toNat
    rw [← hk] at hw
    unfold FloatKind.encode at hw
    have hab := signed_natAbs s m (e - -1074).toNat
    have hs : Ieee.signed s m (e - -1074).toNat ≠ 0 := fun h => hne (by rw [← hab, h]; rfl)
    have hneg : decide (Ieee.signed s m (e - -1074).toNat < 0) = s := by
      unfold Ieee.signed
      generalize m <<< (e - -1074).toNat = X at hne
      cases s <;> simp <;> omega
    rw [if_neg hs, hab, hneg]
    exact hw

theorem div_min (n d : Nat) : n / 2 ^ min d (n.log2 + 2) = n / 2 ^ d := by
  by_cases h : d ≤ n.log2 + 2
  · rw [Nat.min_eq_left h]
  · rw [Nat.min_eq_right (by omega)]
    have h1 := lt_pow_log2 n
    rw [Nat.div_eq_of_lt (Nat.lt_of_lt_of_le h1 (Nat.pow_le_pow_right (by decide) (by omega))), Nat.div_eq_of_lt (Nat.lt_of_lt_of_le h1 (Nat.pow_le_pow_right (by decide) (by omega)))]

theorem cut_to_zero (s : Bool) (n d : Nat) : Ieee.Toward.zero.cut s n d = n / 2 ^ d := by
  unfold Ieee.Toward.cut
  simp only [Nat.one_shiftLeft, div_min]
  rfl

theorem integral_num {s : Bool} {m : Nat} {e : Int} : (Ieee.Datum.number s m e).integral .zero = .number s (m <<< e.toNat / 2 ^ (-e).toNat) 0 := by
  unfold Ieee.Datum.integral
  simp only [cut_to_zero]

/-- The integer of a number. -/
def intN (v : Option Nat) : Int := match v with | none => 0 | some b => ((FloatKind.f64.decode b).toInt .zero).getD 0

theorem int_num {y : Nat} {s : Bool} {m : Nat} {e : Int} (hd : FloatKind.f64.decode y = .number s m e) : (FloatKind.f64.decode y).toInt .zero = some (Ieee.signed s (m <<< e.toNat / 2 ^ (-e).toNat) 0) := by
  rw [hd]
  unfold Ieee.Datum.toInt
  rw [integral_num]

/-- The first step: a number less its integer. -/
def partO (v : Option Nat) : Option Nat := if cmpB .neq .f64 (truncO v) (some 0) then fo .sub .f64 v (truncO v) else v

theorem trunc_num {y : Nat} {s : Bool} {m : Nat} {e : Int} (hd : FloatKind.f64.decode y = .number s m e) : truncO (some y) = some (FloatKind.f64.encode (.number s (m <<< e.toNat / 2 ^ (-e).toNat) 0)) := by
  unfold truncO
  simp only [Option.bind_some, hd, integral_num]

theorem neq_eql {y : Nat} {s : Bool} {m : Nat} {e : Int} (h : FloatKind.f64.decode y = .number s m e) : cmpB .neq .f64 (some y) (some 0) = !decide (m = 0) := by
  rw [show cmpB .neq .f64 (some y) (some 0) = !cmpB .eql .f64 (some y) (some 0) from rfl, eql_zero h]

theorem self_sub {y : Nat} {s : Bool} {m : Nat} {e : Int} (h : FloatKind.f64.decode y = .number s m e) : fo .sub .f64 (some y) (some y) = some 0 := by
  unfold FloatKind.decode at h
  have h0 : Ieee.signed s m 0 + Ieee.signed (!s) m 0 = 0 := by cases s <;> simp [Ieee.signed] <;> omega
  simp [fo, floatBits, Ieee.Format.sub, h, Ieee.Datum.opposite, Ieee.Datum.sum, h0]
  cases s <;> rfl

theorem part_great {y : Nat} (h : y < 2 ^ 64) {s : Bool} {m : Nat} {e : Int} (hd : FloatKind.f64.decode y = .number s m e) (he : 0 ≤ e) : partO (some y) = some 0 := by
  obtain ⟨h1, h2, h3, h4, h5⟩ := read_facts h hd
  have hm : m ≠ 0 := by rcases h3 with h3 | h3 <;> omega
  have ht : truncO (some y) = some y := by
    rw [trunc_num hd]
    have a1 : (-e).toNat = 0 := by omega
    rw [a1, Nat.pow_zero, Nat.div_one]
    have := write_shift h hd hm e.toNat
    rw [show e - (e.toNat : Int) = 0 by omega] at this
    rw [this]
  unfold partO
  rw [ht, neq_eql hd]
  simp only [hm, decide_false, Bool.not_false, if_true]
  exact self_sub hd

/-- The integer of a number without places before 2 ^ 53, as a word. -/
theorem word_int {y : Nat} {s : Bool} {m : Nat} {e : Int} (hd : FloatKind.f64.decode y = .number s m e) (he : e < 0) {q : Nat} (hq : q = m / 2 ^ (-e).toNat) :
    truncO (some y) = some (FloatKind.f64.encode (.number s q 0)) ∧ intN (some y) = Ieee.signed s q 0 ∧ q ≤ m := by
  have a1 : e.toNat = 0 := by omega
  refine ⟨?_, ?_, ?_⟩
  · rw [trunc_num hd, a1, Nat.shiftLeft_zero, hq]
  · unfold intN
    simp only [int_num hd, a1, Nat.shiftLeft_zero, ← hq, Option.getD_some]
  · rw [hq]; exact Nat.div_le_self _ _

theorem part_small {y : Nat} (h : y < 2 ^ 64) {s : Bool} {m : Nat} {e : Int} (hd : FloatKind.f64.decode y = .number s m e) (he : e < 0) :
    partO (some y) = fo .sub .f64 (some y) (ifO (intN (some y))) ∧ LeO .f64 (partO (some y)) 0 ∧ (intN (some y)).natAbs < 2 ^ 53 := by
  obtain ⟨h1, h2, h3, h4, h5⟩ := read_facts h hd
  obtain ⟨ht, hi, hle⟩ := word_int hd he rfl
  have hsplit := Nat.div_add_mod m (2 ^ (-e).toNat)
  have hr := Nat.mod_lt m (Nat.two_pow_pos (-e).toNat)
  generalize hq : m / 2 ^ (-e).toNat = q at ht hi hle hsplit
  generalize m % 2 ^ (-e).toNat = r at hsplit hr
  have hna : (Ieee.signed s q 0).natAbs = q := by rw [signed_natAbs, Nat.shiftLeft_zero]
  refine ⟨?_, ?_, by rw [hi, hna]; omega⟩
  all_goals
    by_cases hq0 : q = 0
  · subst hq0
    have hn : cmpB .neq .f64 (truncO (some y)) (some 0) = false := by rw [ht]; cases s <;> decide
    have hz : Ieee.signed s 0 0 = 0 := by cases s <;> rfl
    unfold partO
    rw [hn, hi, hz, show ifO 0 = some 0 from rfl, sub_zero h hd]
    simp
  · have hlog := log2_lt_pow (show q < 2 ^ 53 by omega) hq0
    have hdec := write_exact .f64 s q 0 hq0 (by show q.log2 ≤ 52; omega) (by show (-1074 : Int) ≤ 0 + q.log2 - 52; omega) (by simp [eMost]; omega)
    have hne : q <<< (FloatKind.f64.format.fractionBits - q.log2) ≠ 0 := by rw [Nat.shiftLeft_eq]; exact Nat.mul_ne_zero hq0 (Nat.pos_iff_ne_zero.1 (Nat.two_pow_pos _))
    unfold partO
    rw [ht, neq_eql hdec, hi]
    simp only [hne, decide_false, Bool.not_false, if_true]
    have : ifO (Ieee.signed s q 0) = some (FloatKind.f64.encode (.number s q 0)) := by
      unfold ifO FloatKind.nearest
      have hneg : decide (Ieee.signed s q 0 < 0) = s := by unfold Ieee.signed; cases s <;> simp <;> omega
      rw [hna, hneg]
    rw [this]
  · subst hq0
    have hn : cmpB .neq .f64 (truncO (some y)) (some 0) = false := by rw [ht]; cases s <;> decide
    unfold partO
    rw [hn]
    intro b hb
    cases hb
    exact ⟨s, m, e, hd, fun _ => ⟨(-e).toNat, by omega, by omega⟩⟩
  · have hlog := log2_lt_pow (show q < 2 ^ 53 by omega) hq0
    have hdec := write_exact .f64 s q 0 hq0 (by show q.log2 ≤ 52; omega) (by show (-1074 : Int) ≤ 0 + q.log2 - 52; omega) (by simp [eMost]; omega)
    have hne : q <<< (FloatKind.f64.format.fractionBits - q.log2) ≠ 0 := by rw [Nat.shiftLeft_eq]; exact Nat.mul_ne_zero hq0 (Nat.pos_iff_ne_zero.1 (Nat.two_pow_pos _))
    unfold partO
    rw [ht, neq_eql hdec]
    simp only [hne, decide_false, Bool.not_false, if_true]
    intro b hb
    obtain ⟨x', y', hx, hy, hf⟩ := fo_some hb
    cases hx; cases hy
    have e5 : FloatKind.f64.format.fractionBits = 52 := rfl
    rw [e5] at hdec
    unfold floatBits Ieee.Format.sub at hf
    unfold FloatKind.decode at hd hdec
    simp only [hd, hdec, Ieee.Datum.opposite, Ieee.Datum.sum, Option.map_some, Option.some.injEq] at hf
    subst hf
    refine write_le .f64 _ _ _ 0 (fun h0 => ⟨(-(min e (0 + (q.log2 : Int) - ((52 : Nat) : Int)))).toNat, ?_, by omega⟩) (by decide) (by decide)
    generalize hbase : min e (0 + (q.log2 : Int) - ((52 : Nat) : Int)) = base
    have hX : m <<< (e - base).toNat = q * 2 ^ (-base).toNat + r * 2 ^ (e - base).toNat := by
      rw [Nat.shiftLeft_eq, ← hsplit, Nat.add_mul, Nat.mul_comm (2 ^ (-e).toNat) q, Nat.mul_assoc, ← Nat.pow_add]
      congr 3
      omega
    have hY : (q <<< (52 - q.log2)) <<< (0 + (q.log2 : Int) - ((52 : Nat) : Int) - base).toNat = q * 2 ^ (-base).toNat := by
      rw [Nat.shiftLeft_eq, Nat.shiftLeft_eq, Nat.mul_assoc, ← Nat.pow_add]
      congr 2
      omega
    have hR : r * 2 ^ (e - base).toNat ≤ 2 ^ (-base).toNat := by
      calc r * 2 ^ (e - base).toNat ≤ 2 ^ (-e).toNat * 2 ^ (e - base).toNat := Nat.mul_le_mul_right _ (Nat.le_of_lt hr)
        _ = 2 ^ (-base).toNat := by rw [← Nat.pow_add]; congr 1; omega
    unfold Ieee.signed
    rw [hX, hY]
    generalize q * 2 ^ (-base).toNat = A
    generalize r * 2 ^ (e - base).toNat = B at hR
    cases s <;> simp <;> omega
end Go.Proofs.Ytngjpbfiijkibaa
