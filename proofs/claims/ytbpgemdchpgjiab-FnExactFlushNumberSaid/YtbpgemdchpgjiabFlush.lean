/-
  A number without its subnormal ones, of the program and of the model. No condition.
-/
import Derived.Test.YtbpgemdchpgjiabSub
import Derived.Lib.Hide
namespace Go.Proofs.Ytbpgemdchpgjiab
open Go.RowKit

theorem f32from (n : Int) (w : World) : (callFunc 58 #[.int .u32 n]).run Try.prog w = .ok (.value (.float .f32 n.toNat)) w := by
  rw [run_callFunc_extern Try.func58 (by kernel_rfl) (by kernel_rfl) (by kernel_rfl) (e := Extern.MathFloatBits.float32frombits) (by kernel_rfl)]; rfl

theorem and_top (y q : Nat) : y &&& 2 ^ q = (y / 2 ^ q % 2 ^ 1) <<< q := by
  apply Nat.eq_of_testBit_eq
  intro i
  rw [Nat.testBit_and, show (2 : Nat) ^ q = (2 ^ 1 - 1) <<< q by rw [Nat.shiftLeft_eq]; omega, Nat.testBit_shiftLeft, Nat.testBit_shiftLeft, Nat.testBit_mod_two_pow, show ((2 ^ 1 - 1 : Nat) <<< q) = 2 ^ q by rw [Nat.shiftLeft_eq]; omega, Nat.testBit_div_two_pow, Nat.testBit_two_pow_sub_one]
  by_cases h : q ≤ i
  · rw [show i - q + q = i by omega, Bool.and_comm, Bool.and_assoc]
  · simp [h]

theorem cs_bits (y : Nat) (h : y < 2 ^ 64) : (bits .or .u64 (bits .andNot .u64 0 9223372036854775808) (bits .and .u64 (y : Int) 9223372036854775808)).toNat = y / 2 ^ 63 * 2 ^ 63 := by
  have h' : y < 18446744073709551616 := h
  have e2 : y &&& 9223372036854775808 = y / 2 ^ 63 * 2 ^ 63 := by
    have := and_top y 63
    rw [show (9223372036854775808 : Nat) = 2 ^ 63 by decide, this, Nat.shiftLeft_eq]
    have : y / 2 ^ 63 < 2 := by show y / 9223372036854775808 < 2; omega
    rw [Nat.mod_eq_of_lt this]
  have e3 : y / 2 ^ 63 * 2 ^ 63 < 18446744073709551616 := by show y / 9223372036854775808 * 9223372036854775808 < _; omega
  rw [u64_andNot 0 9223372036854775808 (by decide) (by decide) (by decide) (by decide), u64_and (y : Int) 9223372036854775808 (by omega) (by omega) (by decide) (by decide)]
  rw [Int.toNat_natCast, show (9223372036854775808 : Int).toNat = 9223372036854775808 by decide, e2, show ((0 : Int).toNat &&& (18446744073709551615 - 9223372036854775808)) = 0 by decide]
  rw [u64_or _ _ (by decide) (by decide) (by omega) (by omega)]
  rw [Int.toNat_natCast, Int.toNat_natCast, Int.toNat_natCast, Nat.zero_or]

theorem copysign_any (y : Nat) (hy : y < 2 ^ 64) (w : World) :
    Calls Try.prog 45 #[.float .f64 0, .float .f64 y] w (RetV (.float .f64 (y / 2 ^ 63 * 2 ^ 63)) w) := by
  have hb := f64bits
  have hf := f64from
  have HC := Lib.hid (cs_bits y hy)
  go_enter Try.func45, Try.ntmps45
  go_wp2
  go_ret
  exact RetV.eq 0 (by rw [← HC.out]; rfl)

theorem sign_bits (x : Nat) (h : x < 2 ^ 32) : bits .and .i64 (x : Int) 2147483648 = ((x / 2147483648 * 2147483648 : Nat) : Int) := by
  have h' : x < 4294967296 := h
  have e2 : x &&& 2147483648 = x / 2147483648 * 2147483648 := by
    have := and_top x 31
    rw [show (2147483648 : Nat) = 2 ^ 31 by decide, this, Nat.shiftLeft_eq]
    have : x / 2 ^ 31 < 2 := by show x / 2147483648 < 2; omega
    rw [Nat.mod_eq_of_lt this]
  unfold bits
  have e1 : (BitVec.ofInt IntKind.i64.bits (x : Int)).toNat = x := by
    show (BitVec.ofInt 64 (x : Int)).toNat = x
    simp; omega
  have e3 : (BitVec.ofInt IntKind.i64.bits (2147483648 : Int)).toNat = 2147483648 := by decide
  simp only [BitVec.toNat_and, e1, e3]
  rw [IntKind.wrap_i64, e2]
  omega

theorem from_any (z : Nat) (h : z ≤ 4294967295) (w : World) : Calls Try.prog 57 #[.int .i64 z] w (RetV (.float .f32 z) w) := by
  have hf := f32from
  go_enter Try.func57, Try.ntmps57
  go_wp2
  go_ret
  exact RetV.eq 0 (by simp)

/-- What is left of a number where its subnormal ones are taken for zeros. -/
def flO (v : Option Nat) : Option Nat := v.map fun x => if x % 2147483648 < 8388608 then x / 2147483648 * 2147483648 else x

theorem is_zero (z : Nat) (h : z = 0 ∨ z = 2147483648) : Is .f32 z (some z) := by
  rcases h with rfl | rfl <;> exact is_lit32 _ (by decide)

theorem zero_of (x : Nat) (h : x < 2 ^ 32) : x / 2147483648 * 2147483648 = 0 ∨ x / 2147483648 * 2147483648 = 2147483648 := by
  have h' : x < 4294967296 := h
  omega

theorem specFlush_any {x : Nat} {v : Option Nat} (ix : Is .f32 x v) (w : World) :
    Calls Try.prog 44 #[.float .f32 x] w (RetF .f32 (flO v) w) := by
  cases v with
  | none =>
    have hd : (bits .and .i64 (bitsI none) 2139095040 == 0) = false := by decide
    go_enter Try.func44, Try.ntmps44
    go_wp2_with (first | (go_at_call 42; refine (l01Bits_any ix _).mono ?_; rintro eq wq ⟨nq, rfl, rfl⟩))
    go_ret
    exact ⟨_, _, rfl, ix, rfl⟩
  | some y =>
    obtain rfl := ix.notNaN
    have hm := mask_and x ix.2
    by_cases h : x % 2147483648 < 8388608
    · have hd : (bits .and .i64 (bitsI (some x)) 2139095040 == 0) = true := by show (bits .and .i64 (x : Int) 2139095040 == 0) = true; rw [hm]; simp [h]
      obtain ⟨z, hz, hsb⟩ : ∃ z : Nat, z = x / 2147483648 * 2147483648 ∧ bits .and .i64 (bitsI (some x)) 2147483648 = (z : Int) := ⟨_, rfl, sign_bits x ix.2⟩
      have hle : z ≤ 4294967295 := by rcases zero_of x ix.2 with h | h <;> omega
      have hi : Is .f32 z (flO (some x)) := by
        have := is_zero z (by rw [hz]; exact zero_of x ix.2)
        simp only [flO, Option.map_some, if_pos h, ← hz]; exact this
      clear hz hm h
      go_enter Try.func44, Try.ntmps44
      go_wp2_with (first | (go_at_call 42; refine (l01Bits_any ix _).mono ?_; rintro eq wq ⟨nq, rfl, rfl⟩) | (go_at_call 57; refine (from_any z hle _).mono ?_; rintro eq wq ⟨nq, rfl, rfl⟩))
      go_ret
      exact ⟨_, _, rfl, hi, rfl⟩
    · have hd : (bits .and .i64 (bitsI (some x)) 2139095040 == 0) = false := by show (bits .and .i64 (x : Int) 2139095040 == 0) = false; rw [hm]; simp [h]
      have hi : Is .f32 x (flO (some x)) := by
        simp only [flO, Option.map_some, if_neg h]; exact ix
      clear hm h
      go_enter Try.func44, Try.ntmps44
      go_wp2_with (first | (go_at_call 42; refine (l01Bits_any ix _).mono ?_; rintro eq wq ⟨nq, rfl, rfl⟩))
      go_ret
      exact ⟨_, _, rfl, hi, rfl⟩

theorem specFlushNumber_any {x : Nat} {v : Option Nat} (ix : Is .f32 x v) (w : World) :
    Calls Try.prog 21 #[.float .f32 x] w (RetF .f32 (flO v) w) := by
  go_enter Try.func21, Try.ntmps21
  go_wp2_with (go_at_call 44; refine (specFlush_any ix _).mono ?_; rintro eq wq ⟨rq, nq, rfl, hq, rfl⟩)
  go_ret
  exact ⟨_, _, rfl, hq, rfl⟩

/-- What the program asks of a number before it makes it a zero. -/
def subI (v : Option Nat) : Bool := cmpB .neq .f32 v (some 0) && cmpB .lss .f64 (absO (cv .f32 .f64 v)) (some 4039728865751334912)

theorem sign_of {k : FloatKind} {y : Nat} {s : Bool} {m : Nat} {e : Int} (h : k.decode y = .number s m e) : (y / k.format.signWeight % 2 == 1) = s := by
  unfold FloatKind.decode Ieee.Format.read at h
  simp only at h
  split at h
  · injection h
  · split at h
    · injection h
    · split at h <;> cases h

theorem small_of {x : Nat} {v : Option Nat} (ix : Is .f32 x v) (hs : subI v = true) : v = some x ∧ x % 2147483648 < 8388608 ∧ x % 2147483648 ≠ 0 := by
  unfold subI at hs
  simp only [Bool.and_eq_true] at hs
  obtain ⟨h1, h2⟩ := hs
  rw [← sub_same ix h1] at h2
  cases v with
  | none => exact absurd h2 (by decide)
  | some y =>
    obtain rfl := ix.notNaN
    have hm := mask_and x ix.2
    have h2' : (bits .and .i64 (x : Int) 2139095040 == 0) = true := h2
    rw [hm] at h2'
    refine ⟨rfl, by simpa using h2', ?_⟩
    intro h0
    have hlt : x % 2147483648 < 8388608 := by omega
    have ho : ordO .f32 (some x) (some 0) = some .eq := by
      show FloatKind.f32.format.order x 0 = some .eq
      have hx := ix.2
      have hx' : x < 4294967296 := hx
      have : x = 0 ∨ x = 2147483648 := by omega
      rcases this with rfl | rfl <;> decide
    simp [cmpB, ho] at h1

theorem flush_same {x : Nat} {v : Option Nat} (ix : Is .f32 x v) (hs : subI v = false) : Is .f32 x (flO v) := by
  cases v with
  | none => exact ix
  | some y =>
    obtain rfl := ix.notNaN
    by_cases h : x % 2147483648 < 8388608
    · by_cases hz : cmpB .neq .f32 (some x) (some 0) = true
      · have h2 := sub_same ix hz
        have hm := mask_and x ix.2
        have h3 : (bits .and .i64 (bitsI (some x)) 2139095040 == 0) = true := by show (bits .and .i64 (x : Int) 2139095040 == 0) = true; rw [hm]; simp [h]
        rw [h3] at h2
        unfold subI at hs
        rw [hz, ← h2] at hs
        cases hs
      · have hd : FloatKind.f32.decode x = .number (x / 2147483648 % 2 == 1) (x % 2147483648) (-149) := by
          unfold FloatKind.decode Ieee.Format.read
          have hsw : FloatKind.f32.format.signWeight = 2147483648 := rfl
          have hbi : FloatKind.f32.format.binade = 8388608 := rfl
          have hlp : FloatKind.f32.format.leastPlace = -149 := rfl
          simp only [hsw, hbi, hlp]
          rw [if_pos h]
        have h0 : x % 2147483648 = 0 := by
          apply Classical.byContradiction
          intro h0
          apply hz
          have ho : ordO .f32 (some x) (some 0) ≠ some .eq := by
            show FloatKind.f32.format.order x 0 ≠ some .eq
            have h00 : FloatKind.f32.format.read 0 = .number false 0 (-149) := rfl
            unfold FloatKind.decode at hd
            unfold Ieee.Format.order
            rw [hd, h00]
            unfold Ieee.Datum.order Ieee.signed
            simp only [ne_eq, Option.some.injEq]
            rw [Int.compare_eq_eq]
            split <;> simp <;> omega
          simp [cmpB, ho]
        have : flO (some x) = some x := by
          simp only [flO, Option.map_some, if_pos h]
          congr 1
          omega
        rw [this]; exact ix
    · simp only [flO, Option.map_some, if_neg h]; exact ix

theorem top_word {x y : Nat} (hx : x < 2 ^ 32) {r : Nat} (hr : Is .f64 r (some y)) {m' : Nat} {e : Int} (hy : FloatKind.f64.decode y = .number (x / 2147483648 % 2 == 1) m' e) : r / 2 ^ 63 * 2 ^ 63 = x / 2147483648 * 2 ^ 63 := by
  obtain rfl := hr.notNaN
  have h1 := sign_of hy
  have h2 : r < 18446744073709551616 := hr.2
  have h3 : x < 4294967296 := hx
  have h4 : FloatKind.f64.format.signWeight = 9223372036854775808 := rfl
  rw [h4] at h1
  have : (r / 9223372036854775808 % 2 = 1) ↔ (x / 2147483648 % 2 = 1) := by
    rw [Bool.eq_iff_iff] at h1
    simpa using h1
  show r / 9223372036854775808 * 9223372036854775808 = x / 2147483648 * 9223372036854775808
  omega

theorem implFlush_any {x : Nat} {v : Option Nat} (ix : Is .f32 x v) (w : World) :
    Calls Try.prog 22 #[.float .f32 x] w (RetF .f32 (flO v) w) := by
  cases hs : subI v with
  | false =>
    have hi := flush_same ix hs
    unfold subI at hs
    go_enter Try.func22, Try.ntmps22
    go_wp2_with (first | (go_at_call 20; refine (implSub_any ix _).mono ?_; rintro eq wq ⟨nq, rfl, rfl⟩))
    go_ret
    exact ⟨_, _, rfl, hi, rfl⟩
  | true =>
    obtain ⟨hv, hlt, hne⟩ := small_of ix hs
    have hx := ix.2
    have hd : FloatKind.f32.decode x = .number (x / 2147483648 % 2 == 1) (x % 2147483648) (-149) := by
      unfold FloatKind.decode Ieee.Format.read
      have hsw : FloatKind.f32.format.signWeight = 2147483648 := rfl
      have hbi : FloatKind.f32.format.binade = 8388608 := rfl
      have hlp : FloatKind.f32.format.leastPlace = -149 := rfl
      simp only [hsw, hbi, hlp]
      rw [if_pos hlt]
    have hl : (x % 2147483648).log2 < 23 := log2_lt_pow hlt hne
    obtain ⟨y, m', hc, hy, -, -⟩ := wide_top hd hne (by omega) (by omega) (by omega)
    have hfl : flO v = some (x / 2147483648 * 2147483648) := by rw [hv]; simp only [flO, Option.map_some, if_pos hlt]
    have H : ∀ r, Is .f64 r (cv .f32 .f64 v) → r / 2 ^ 63 * 2 ^ 63 = x / 2147483648 * 2 ^ 63 := fun r hr => top_word hx (by rw [hv, hc] at hr; exact hr) hy
    have hx' : x < 4294967296 := hx
    have h01 : x / 2147483648 = 0 ∨ x / 2147483648 = 1 := by omega
    rcases h01 with h01 | h01
    · have H' : ∀ r, Is .f64 r (cv .f32 .f64 v) → Is .f64 (r / 2 ^ 63 * 2 ^ 63) (some 0) := fun r hr => by rw [H r hr, h01]; exact is_zero64
      have hf : Fit .f64 .f32 (some 0) := by intro q hq; cases hq; decide
      have hcv : cv .f64 .f32 (some 0) = flO v := by rw [hfl, h01]; decide
      unfold subI at hs
      clear H hv hlt hne hd hl hc hy hfl hx hx' h01
      go_enter Try.func22, Try.ntmps22
      go_wp2_with (first | (go_at_call 20; refine (implSub_any ix _).mono ?_; rintro eq wq ⟨nq, rfl, rfl⟩) | (apply wpList_wide und32 Try.underlying25; rfl; rfl; (first | assumption | exact is_lit64 _ (by decide) | exact is_lit32 _ (by decide)); intro Kq hKq rq nq hq; go_simp) | (apply wpList_cv .f64 .f32 (by decide) und64 Try.underlying22; rfl; rfl; (first | assumption | exact is_lit64 _ (by decide) | exact is_lit32 _ (by decide)); assumption; intro Kq hKq rq nq hq; go_simp) | (go_at_call 45; refine (copysign_any _ hq.2 _).mono ?_; rintro eq wq ⟨nq, rfl, rfl⟩; have hq := H' _ hq))
      go_ret
      exact ⟨_, _, rfl, by rw [← hcv]; assumption, rfl⟩
    · have H' : ∀ r, Is .f64 r (cv .f32 .f64 v) → Is .f64 (r / 2 ^ 63 * 2 ^ 63) (some 9223372036854775808) := fun r hr => by rw [H r hr, h01]; exact is_lit64 _ (by decide)
      have hf : Fit .f64 .f32 (some 9223372036854775808) := by intro q hq; cases hq; decide
      have hcv : cv .f64 .f32 (some 9223372036854775808) = flO v := by rw [hfl, h01]; decide
      unfold subI at hs
      clear H hv hlt hne hd hl hc hy hfl hx hx' h01
      go_enter Try.func22, Try.ntmps22
      go_wp2_with (first | (go_at_call 20; refine (implSub_any ix _).mono ?_; rintro eq wq ⟨nq, rfl, rfl⟩) | (apply wpList_wide und32 Try.underlying25; rfl; rfl; (first | assumption | exact is_lit64 _ (by decide) | exact is_lit32 _ (by decide)); intro Kq hKq rq nq hq; go_simp) | (apply wpList_cv .f64 .f32 (by decide) und64 Try.underlying22; rfl; rfl; (first | assumption | exact is_lit64 _ (by decide) | exact is_lit32 _ (by decide)); assumption; intro Kq hKq rq nq hq; go_simp) | (go_at_call 45; refine (copysign_any _ hq.2 _).mono ?_; rintro eq wq ⟨nq, rfl, rfl⟩; have hq := H' _ hq))
      go_ret
      exact ⟨_, _, rfl, by rw [← hcv]; assumption, rfl⟩

theorem walk_FnExactFlushNumber (x : Nat) (w : World) (hx : x < 2 ^ 32) :
    Calls Try.prog 6 #[.float .f32 x] w fun e w' => e = .returned (.bool true) ∧ Below w.heap.size w w' := by
  have ix : Is .f32 x (nrm .f32 x) := Is.self hx
  go_enter Try.func6, Try.ntmps6
  go_wp2_with (first | (apply wpList_wide und32 Try.underlying25; rfl; rfl; (first | assumption | exact is_lit64 _ (by decide) | exact is_lit32 _ (by decide)); intro Kq hKq rq nq hq; go_simp) | (go_at_call 21; refine (specFlushNumber_any ix _).mono ?_; rintro eq wq ⟨rq, nq, rfl, hq, rfl⟩) | (go_at_call 22; refine (implFlush_any ix _).mono ?_; rintro eq wq ⟨rq, nq, rfl, hq, rfl⟩) | (go_at_call 16; refine (sameFloat_any (by assumption) (by assumption) _).mono ?_; rintro eq wq ⟨nq, rfl, rfl⟩))
  go_ret
  exact ⟨rfl, below_drewN (Below.refl _ _) _⟩
end Go.Proofs.Ytbpgemdchpgjiab
