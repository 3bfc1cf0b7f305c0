/-
  A 32-bit number that is widened and narrowed again; a number less a zero. No condition.
-/
import Derived.Test.YtoomfcdaojmakaaSine
namespace Go.Proofs.Ytoomfcdaojmakaa
open Go.RowKit

theorem read_facts32 {y : Nat} (h : y < 2 ^ 32) {s : Bool} {m : Nat} {e : Int} (hd : FloatKind.f32.decode y = .number s m e) :
    m < 2 ^ 24 ∧ -149 ≤ e ∧ (2 ^ 23 ≤ m ∨ e = -149) ∧ y = FloatKind.f32.format.word s ((e + 149).toNat * 2 ^ 23 + m) ∧ (e + 149).toNat * 2 ^ 23 + m < 255 * 2 ^ 23 := by
  unfold FloatKind.decode Ieee.Format.read at hd
  have e1 : FloatKind.f32.format.signWeight = 2 ^ 31 := rfl
  have e2 : FloatKind.f32.format.binade = 2 ^ 23 := rfl
  have e3 : FloatKind.f32.format.leastPlace = -149 := rfl
  have e4 : FloatKind.f32.format.infRung = 255 * 2 ^ 23 := rfl
  have hw : ∀ b : Bool, ∀ q, FloatKind.f32.format.word b q = if b then 2 ^ 31 + q else q := fun _ _ => rfl
  rw [hw]
  simp only [e1, e2, e3, e4] at hd
  have hsg : (if (y / 2 ^ 31 % 2 == 1) then 2 ^ 31 + y % 2 ^ 31 else y % 2 ^ 31) = y := by
    by_cases hb : y < 2 ^ 31
    · rw [Nat.div_eq_of_lt hb]; simp; omega
    · have : y / 2 ^ 31 = 1 := by omega
      rw [this]; simp; omega
  generalize (y / 2 ^ 31 % 2 == 1) = b at hd hsg
  generalize y % 2 ^ 31 = q at hd hsg
  by_cases h1 : q < 2 ^ 23
  · rw [if_pos h1] at hd
    cases hd
    refine ⟨by omega, by omega, .inr rfl, ?_, by simp; omega⟩
    rw [← hsg]; simp
  · rw [if_neg h1] at hd
    by_cases h2 : q < 255 * 2 ^ 23
    · rw [if_pos h2] at hd
      cases hd
      have h3 : ((-149 + ((q / 2 ^ 23 - 1 : Nat) : Int)) + 149).toNat * 2 ^ 23 + (2 ^ 23 + q % 2 ^ 23) = q := by omega
      refine ⟨by omega, by omega, .inl (by omega), ?_, by omega⟩
      rw [h3, hsg]
    · rw [if_neg h2] at hd
      split at hd <;> cases hd

theorem write_shift32 {y : Nat} (h : y < 2 ^ 32) {s : Bool} {m : Nat} {e : Int} (hd : FloatKind.f32.decode y = .number s m e) (hm : m ≠ 0) (k : Nat) : FloatKind.f32.encode (.number s (m <<< k) (e - k)) = y := by
  obtain ⟨h1, h2, h3, h4, h5⟩ := read_facts32 h hd
  have hne : m <<< k ≠ 0 := by rw [Nat.shiftLeft_eq]; exact Nat.mul_ne_zero hm (Nat.pos_iff_ne_zero.1 (Nat.two_pow_pos _))
  have hlog := log2_lt_pow h1 hm
  show FloatKind.f32.format.nearest s (m <<< k) (e - k) = y
  unfold Ieee.Format.nearest
  have e2 : FloatKind.f32.format.binade = 2 ^ 23 := rfl
  have e3 : FloatKind.f32.format.leastPlace = -149 := rfl
  have e4 : FloatKind.f32.format.infRung = 255 * 2 ^ 23 := rfl
  have e5 : FloatKind.f32.format.fractionBits = 23 := rfl
  have hL : max (e - k + ((m <<< k).log2 : Int) - (23 : Int)) (-149) = e := by
    rw [log2_shift hm]
    rcases h3 with h3 | h3
    · have : 23 ≤ m.log2 := (Nat.le_log2 hm).2 h3
      omega
    · subst h3; omega
  rw [if_neg hne]
  simp only [e2, e3, e4, e5]
  have e6 : ((23 : Nat) : Int) = 23 := rfl
  rw [e6, hL]
  have a1 : (e - k - e).toNat = 0 := by omega
  have a2 : (e - (e - k)).toNat = k := by omega
  have a3 : (e - -149).toNat = (e + 149).toNat := by omega
  rw [a1, a2, a3, Nat.shiftLeft_zero, cut_shift s m k hm, Nat.min_eq_left (Nat.le_of_lt h5)]
  exact h4.symm

theorem sub_negzero {y : Nat} (h : y < 2 ^ 64) {s : Bool} {m : Nat} {e : Int} (hd : FloatKind.f64.decode y = .number s m e) (hm : m ≠ 0) : fo .sub .f64 (some y) (some 9223372036854775808) = some y := by
  obtain ⟨h1, h2, h3, h4, h5⟩ := read_facts h hd
  have h0 : FloatKind.f64.format.read 9223372036854775808 = .number true 0 (-1074) := by rfl
  have hd' := hd
  unfold FloatKind.decode at hd'
  have hmin : min e (-1074) = -1074 := by omega
  have hz : ∀ up, Ieee.signed false 0 up = 0 := fun up => by simp [Ieee.signed]
  unfold fo floatBits Ieee.Format.sub
  simp only [Option.bind_some, hd', h0, Ieee.Datum.opposite, Ieee.Datum.sum, Bool.not_true, hmin, hz, Option.map_some, Option.some.injEq, Int.add_zero]
  have hk : (-1074 : Int) = e - ((e - -1074).toNat : Nat) := by omega
  have hne : m <<< (e - -1074).toNat ≠ 0 := by rw [Nat.shiftLeft_eq]; exact Nat.mul_ne_zero hm (Nat.pos_iff_ne_zero.1 (Nat.two_pow_pos _))
  have hw := write_shift h hd hm (e - -1074).toNat
  rw [← hk] at hw
  unfold FloatKind.encode at hw
  have hab := signed_natAbs s m (e - -1074).toNat
  have hs : Ieee.signed s m (e - -1074).toNat ≠ 0 := fun h => hne (by rw [← hab, h]; rfl)
  have hneg : decide (Ieee.signed s m (e - -1074).toNat < 0) = s := by
    unfold Ieee.signed
    generalize m <<< (e - -1074).toNat = X at hne
    cases s <;> simp <;> omega
  rw [if_neg hs, hab, hneg]
  exact hw

/-- What a 32-bit number is when it is widened. -/
theorem wide_dec {x : Nat} (hx : x < 2 ^ 32) {s : Bool} {m : Nat} {e : Int} (hd : FloatKind.f32.decode x = .number s m e) (hm : m ≠ 0) :
    ∃ y, cv .f32 .f64 (some x) = some y ∧ Is .f64 y (some y) ∧ FloatKind.f64.decode y = .number s (m <<< (52 - m.log2)) (e - ((52 - m.log2 : Nat) : Int)) := by
  obtain ⟨h1, h2, h3, h4, h5⟩ := read_facts32 hx hd
  have hl := log2_lt_pow h1 hm
  have hw := write_exact .f64 s m e hm (by show m.log2 ≤ 52; omega) (by show (-1074 : Int) ≤ e + m.log2 - 52; omega) (by show e + m.log2 ≤ 1023; omega)
  have hE : e + (m.log2 : Int) - (52 : Int) = e - ((52 - m.log2 : Nat) : Int) := by omega
  have hw' : FloatKind.f64.decode (FloatKind.f64.encode (.number s m e)) = .number s (m <<< (52 - m.log2)) (e - ((52 - m.log2 : Nat) : Int)) := by
    rw [← hE]; exact hw
  refine ⟨FloatKind.f64.encode (.number s m e), ?_, ?_, hw'⟩
  · unfold cv floatToFloatBits
    simp only [Option.bind_some]
    rw [if_neg (by decide), hd]
    simp only [hw']
    rfl
  · refine ⟨?_, (show FloatKind.f64.format.write _ < _ from Ieee.Format.write_lt _ _)⟩
    unfold nrm
    rw [hw']
    rfl

/-- A finite 32-bit number that is widened and narrowed again is as it was. -/
theorem narrow_wide {x : Nat} (hx : x < 2 ^ 32) {s : Bool} {m : Nat} {e : Int} (hd : FloatKind.f32.decode x = .number s m e) (hm : m ≠ 0) {y : Nat} (hy : cv .f32 .f64 (some x) = some y) : floatToFloatBits .f64 y .f32 = some x := by
  obtain ⟨y', hy', _, hdy⟩ := wide_dec hx hd hm
  rw [hy] at hy'
  cases hy'
  have hw := write_shift32 hx hd hm (52 - m.log2)
  unfold floatToFloatBits
  rw [if_neg (by decide), hdy]
  simp only [hw, hd]
  rfl
end Go.Proofs.Ytoomfcdaojmakaa
