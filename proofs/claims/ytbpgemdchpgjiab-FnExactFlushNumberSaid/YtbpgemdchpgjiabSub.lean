/-
  Whether a number is subnormal, and the number without it, of the program and of the model. No condition.
-/
import Derived.Test.YtbpgemdchpgjiabSame
import Derived.Test.YtbpgemdchpgjiabBitsS
import Derived.Test.YtbpgemdchpgjiabAbs
import Derived.Test.YtbpgemdchpgjiabExact
namespace Go.Proofs.Ytbpgemdchpgjiab
open Go.RowKit

theorem and_mask (x : Nat) : x &&& 2139095040 = (x / 2 ^ 23 % 2 ^ 8) <<< 23 := by
  apply Nat.eq_of_testBit_eq
  intro i
  rw [Nat.testBit_and, show (2139095040 : Nat) = (2 ^ 8 - 1) <<< 23 by decide, Nat.testBit_shiftLeft, Nat.testBit_shiftLeft, Nat.testBit_mod_two_pow, Nat.testBit_div_two_pow, Nat.testBit_two_pow_sub_one]
  by_cases h : 23 ≤ i
  · rw [show i - 23 + 23 = i by omega, Bool.and_comm, Bool.and_assoc]
  · simp [h]

theorem mask_and (x : Nat) (h : x < 2 ^ 32) : (bits .and .i64 (x : Int) 2139095040 == 0) = decide (x % 2147483648 < 8388608) := by
  have h' : x < 4294967296 := h
  have e : bits .and .i64 (x : Int) 2139095040 = ((x &&& 2139095040 : Nat) : Int) := by
    unfold bits
    have e1 : (BitVec.ofInt IntKind.i64.bits (x : Int)).toNat = x := by
      show (BitVec.ofInt 64 (x : Int)).toNat = x
      simp; omega
    have e2 : (BitVec.ofInt IntKind.i64.bits (2139095040 : Int)).toNat = 2139095040 := by decide
    simp only [BitVec.toNat_and, e1, e2]
    have hle : x &&& 2139095040 ≤ x := Nat.and_le_left
    rw [IntKind.wrap_i64]
    omega
  rw [e, and_mask, Nat.shiftLeft_eq]
  by_cases hd : x % 2147483648 < 8388608
  · have : x / 2 ^ 23 % 2 ^ 8 = 0 := by show x / 8388608 % 256 = 0; omega
    rw [this]; simp [hd]
  · have : x / 2 ^ 23 % 2 ^ 8 ≠ 0 := by show x / 8388608 % 256 ≠ 0; omega
    simp only [hd, decide_false, beq_eq_false_iff_ne, ne_eq]
    intro hc
    have hp := Nat.mul_pos (Nat.pos_of_ne_zero this) (show 0 < 2 ^ 23 by decide)
    omega

/-- A 32-bit number that is no zero: what it is in 64 bits lies where it lies. -/
theorem wide_top {x : Nat} {s : Bool} {m : Nat} {e : Int} (hd : FloatKind.f32.decode x = .number s m e) (hm : m ≠ 0) (h1 : m.log2 ≤ 52) (h2 : -1022 ≤ e + (m.log2 : Int)) (h3 : e + (m.log2 : Int) ≤ 1023) :
    ∃ y m', cv .f32 .f64 (some x) = some y ∧ FloatKind.f64.decode y = .number s m' (e + m.log2 - 52) ∧ m' ≠ 0 ∧ m'.log2 = 52 := by
  have hw := write_exact .f64 s m e hm h1 (by have := least .f64; have hf := frac .f64; simp at this hf; omega) (by simpa [eMost] using h3)
  have hf : FloatKind.f64.format.fractionBits = 52 := rfl
  rw [hf] at hw
  refine ⟨_, m <<< (52 - m.log2), ?_, hw, ?_, ?_⟩
  · unfold cv
    simp only [Option.bind_some]
    unfold floatToFloatBits
    rw [if_neg (by decide), hd]
    simp only [hw]
    rfl
  · rw [Nat.shiftLeft_eq]; exact Nat.ne_of_gt (Nat.mul_pos (Nat.pos_of_ne_zero hm) (Nat.two_pow_pos _))
  · rw [log2_shift hm]; omega

theorem sub_same {x : Nat} {v : Option Nat} (ix : Is .f32 x v) (hne : cmpB .neq .f32 v (some 0) = true) :
    (bits .and .i64 (bitsI v) 2139095040 == 0) = cmpB .lss .f64 (absO (cv .f32 .f64 v)) (some 4039728865751334912) := by
  cases v with
  | none => decide
  | some z =>
    obtain rfl := ix.notNaN
    have hmask := mask_and x ix.2
    show (bits .and .i64 (x : Int) 2139095040 == 0) = _
    rw [hmask]
    have hn := ix.dec
    have hsw : FloatKind.f32.format.signWeight = 2147483648 := rfl
    have hbi : FloatKind.f32.format.binade = 8388608 := rfl
    have hir : FloatKind.f32.format.infRung = 2139095040 := rfl
    have hlp : FloatKind.f32.format.leastPlace = -149 := rfl
    have hsw2 : FloatKind.f64.format.signWeight = 2 ^ 63 := rfl
    have hW : FloatKind.f64.decode 4039728865751334912 = .number false (2 ^ 52) (-178) := rfl
    by_cases h1 : x % 2147483648 < 8388608
    · rw [decide_eq_true h1]
      have hd : FloatKind.f32.decode x = .number (x / 2147483648 % 2 == 1) (x % 2147483648) (-149) := by
        unfold FloatKind.decode Ieee.Format.read
        simp only [hsw, hbi, hlp]
        rw [if_pos h1]
      have hm : x % 2147483648 ≠ 0 := by
        intro h0
        rw [h0] at hd
        unfold FloatKind.decode at hd
        have ho : ordO .f32 (some x) (some 0) = some .eq := by
          show FloatKind.f32.format.order x 0 = some .eq
          have h00 : FloatKind.f32.format.read 0 = .number false 0 (-149) := rfl
          unfold Ieee.Format.order
          rw [hd, h00]
          unfold Ieee.Datum.order Ieee.signed
          simp
        simp [cmpB, ho] at hne
      have hl : (x % 2147483648).log2 < 23 := log2_lt_pow h1 hm
      obtain ⟨y, m', hc, hy, hm', hl'⟩ := wide_top hd hm (by omega) (by omega) (by omega)
      rw [hc]
      have hr := read_abs .f64 y
      unfold FloatKind.decode at hy
      rw [hy, hsw2] at hr
      have ho := order_lt (k := .f64) (x := y % 2 ^ 63) (y := 4039728865751334912) (t := -126) ⟨false, m', _, hr, fun _ => by omega⟩ hW (by decide) (by decide)
      have ho' : ordO .f64 (absO (some y)) (some 4039728865751334912) = some .lt := ho
      simp [cmpB, ho']
    · rw [decide_eq_false h1]
      by_cases h2 : x % 2147483648 < 2139095040
      · have hd : FloatKind.f32.decode x = .number (x / 2147483648 % 2 == 1) (8388608 + x % 2147483648 % 8388608) (-149 + ((x % 2147483648 / 8388608 - 1 : Nat) : Int)) := by
          unfold FloatKind.decode Ieee.Format.read
          simp only [hsw, hbi, hlp, hir]
          rw [if_neg h1, if_pos h2]
        have hm : 8388608 + x % 2147483648 % 8388608 ≠ 0 := by omega
        have hl : (8388608 + x % 2147483648 % 8388608).log2 = 23 := by
          have a1 : (8388608 + x % 2147483648 % 8388608).log2 < 24 := log2_lt_pow (show _ < 16777216 by omega) hm
          have a2 : 23 ≤ (8388608 + x % 2147483648 % 8388608).log2 := (Nat.le_log2 hm).2 (show 8388608 ≤ _ by omega)
          omega
        obtain ⟨y, m', hc, hy, hm', hl'⟩ := wide_top hd hm (by omega) (by omega) (by omega)
        rw [hc]
        have hr := read_abs .f64 y
        unfold FloatKind.decode at hy
        rw [hy, hsw2] at hr
        have ho := order_ge (k := .f64) (x := y % 2 ^ 63) (y := 4039728865751334912) (q := 52) (j := -178) hr hm' hW (by omega)
        have ho' : ¬ ordO .f64 (absO (some y)) (some 4039728865751334912) = some .lt := ho
        simp [cmpB, ho']
      · have h3 : x % 2147483648 = 2139095040 := by
          have : (FloatKind.f32.decode x).isNaN = false := hn
          unfold FloatKind.decode Ieee.Format.read at this
          simp only [hsw, hbi, hlp, hir] at this
          rw [if_neg h1, if_neg h2] at this
          by_cases h3 : x % 2147483648 = 2139095040
          · exact h3
          · rw [if_neg h3] at this; cases this
        have hx := ix.2
        have hx' : x < 4294967296 := hx
        have : x = 2139095040 ∨ x = 4286578688 := by omega
        rcases this with rfl | rfl <;> decide

theorem implSub_any {x : Nat} {v : Option Nat} (ix : Is .f32 x v) (w : World) :
    Calls Try.prog 20 #[.float .f32 x] w (RetV (.bool (cmpB .neq .f32 v (some 0) && cmpB .lss .f64 (absO (cv .f32 .f64 v)) (some 4039728865751334912))) w) := by
  cases hz : cmpB .neq .f32 v (some 0) with
  | true =>
    go_enter Try.func20, Try.ntmps20
    go_wp2_with (first | (apply wpList_cmp; rfl; simp [Cmp]; rfl; rfl; (first | assumption | exact is_lit64 _ (by decide) | exact is_lit32 _ (by decide)); (first | assumption | exact is_lit64 _ (by decide) | exact is_lit32 _ (by decide)); intro Kq hKq; go_simp) | (apply wpList_wide und32 Try.underlying25; rfl; rfl; (first | assumption | exact is_lit64 _ (by decide) | exact is_lit32 _ (by decide)); intro Kq hKq rq nq hq; go_simp) | (go_at_call 43; refine (abs_any (by assumption) _).mono ?_; rintro eq wq ⟨rq, nq, rfl, hq, rfl⟩))
    go_ret
    exact RetV.eq _ (by simp)
  | false =>
    go_enter Try.func20, Try.ntmps20
    go_wp2_with (first | (apply wpList_cmp; rfl; simp [Cmp]; rfl; rfl; (first | assumption | exact is_lit64 _ (by decide) | exact is_lit32 _ (by decide)); (first | assumption | exact is_lit64 _ (by decide) | exact is_lit32 _ (by decide)); intro Kq hKq; go_simp) | (apply wpList_wide und32 Try.underlying25; rfl; rfl; (first | assumption | exact is_lit64 _ (by decide) | exact is_lit32 _ (by decide)); intro Kq hKq rq nq hq; go_simp) | (go_at_call 43; refine (abs_any (by assumption) _).mono ?_; rintro eq wq ⟨rq, nq, rfl, hq, rfl⟩))
    go_ret
    exact RetV.mk0
theorem specSub_any {x : Nat} {v : Option Nat} (ix : Is .f32 x v) (w : World) :
    Calls Try.prog 19 #[.float .f32 x] w (RetV (.bool (cmpB .neq .f32 v (some 0) && (bits .and .i64 (bitsI v) 2139095040 == 0))) w) := by
  cases hz : cmpB .neq .f32 v (some 0) with
  | true =>
    go_enter Try.func19, Try.ntmps19
    go_wp2_with (first | (apply wpList_cmp; rfl; simp [Cmp]; rfl; rfl; (first | assumption | exact is_lit64 _ (by decide) | exact is_lit32 _ (by decide)); (first | assumption | exact is_lit64 _ (by decide) | exact is_lit32 _ (by decide)); intro Kq hKq; go_simp) | (go_at_call 42; refine (l01Bits_any (by assumption) _).mono ?_; rintro eq wq ⟨nq, rfl, rfl⟩))
    go_ret
    exact RetV.eq _ (by simp)
  | false =>
    go_enter Try.func19, Try.ntmps19
    go_wp2_with (first | (apply wpList_cmp; rfl; simp [Cmp]; rfl; rfl; (first | assumption | exact is_lit64 _ (by decide) | exact is_lit32 _ (by decide)); (first | assumption | exact is_lit64 _ (by decide) | exact is_lit32 _ (by decide)); intro Kq hKq; go_simp) | (go_at_call 42; refine (l01Bits_any (by assumption) _).mono ?_; rintro eq wq ⟨nq, rfl, rfl⟩))
    go_ret
    exact RetV.mk0

theorem walk_FnExactIsSubnormal (x : Nat) (w : World) (hx : x < 2 ^ 32) :
    Calls Try.prog 5 #[.float .f32 x] w fun e w' => e = .returned (.bool true) ∧ Below w.heap.size w w' := by
  have ix : Is .f32 x (nrm .f32 x) := Is.self hx
  cases hz : cmpB .neq .f32 (nrm .f32 x) (some 0) with
  | true =>
    have hs := sub_same ix hz
    go_enter Try.func5, Try.ntmps5
    go_wp2_with (first | (go_at_call 19; refine (specSub_any (by assumption) _).mono ?_; rintro eq wq ⟨nq, rfl, rfl⟩) | (go_at_call 20; refine (implSub_any (by assumption) _).mono ?_; rintro eq wq ⟨nq, rfl, rfl⟩))
    go_ret
    exact ⟨rfl, below_drewN (Below.refl _ _) _⟩
  | false =>
    go_enter Try.func5, Try.ntmps5
    go_wp2_with (first | (go_at_call 19; refine (specSub_any (by assumption) _).mono ?_; rintro eq wq ⟨nq, rfl, rfl⟩) | (go_at_call 20; refine (implSub_any (by assumption) _).mono ?_; rintro eq wq ⟨nq, rfl, rfl⟩))
    go_ret
    exact ⟨rfl, below_drewN (Below.refl _ _) _⟩
end Go.Proofs.Ytbpgemdchpgjiab
