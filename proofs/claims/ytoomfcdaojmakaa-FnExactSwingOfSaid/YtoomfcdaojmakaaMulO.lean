/-
  Products of some numbers, of the program; a number times 1. No condition.
-/
import Derived.Test.YtoomfcdaojmakaaSinP
import Derived.Test.YtoomfcdaojmakaaMem
import Derived.OwnWalk
import Derived.Lib.Hide
namespace Go.Proofs.Ytoomfcdaojmakaa
open Go.RowKit

/-- A number that is read of a word and written again is this word. -/
theorem inf_word {y : Nat} (h : y < 2 ^ 64) {s : Bool} (hd : FloatKind.f64.decode y = .infinity s) : FloatKind.f64.encode (.infinity s) = y := by
  unfold FloatKind.decode Ieee.Format.read at hd
  have e1 : FloatKind.f64.format.signWeight = 2 ^ 63 := rfl
  have e2 : FloatKind.f64.format.binade = 2 ^ 52 := rfl
  have e4 : FloatKind.f64.format.infRung = 2047 * 2 ^ 52 := rfl
  have hw : FloatKind.f64.encode (.infinity s) = if s then 2 ^ 63 + 2047 * 2 ^ 52 else 2047 * 2 ^ 52 := by cases s <;> rfl
  rw [hw]
  simp only [e1, e2, e4] at hd
  by_cases h1 : y % 2 ^ 63 < 2 ^ 52
  · rw [if_pos h1] at hd; cases hd
  · rw [if_neg h1] at hd
    by_cases h2 : y % 2 ^ 63 < 2047 * 2 ^ 52
    · rw [if_pos h2] at hd; cases hd
    · rw [if_neg h2] at hd
      by_cases h3 : y % 2 ^ 63 = 2047 * 2 ^ 52
      · rw [if_pos h3] at hd
        cases hd
        by_cases hb : y < 2 ^ 63
        · rw [Nat.div_eq_of_lt hb]; simp; omega
        · have : y / 2 ^ 63 = 1 := by omega
          rw [this]; simp; omega
      · rw [if_neg h3] at hd; cases hd

theorem zero_word {y : Nat} (h : y < 2 ^ 64) {s : Bool} {e : Int} (hd : FloatKind.f64.decode y = .number s 0 e) (i : Int) : FloatKind.f64.encode (.number s 0 i) = y := by
  obtain ⟨h1, h2, h3, h4, h5⟩ := read_facts h hd
  have he : e = -1074 := by omega
  subst he
  rw [h4]
  show FloatKind.f64.format.nearest s 0 i = _
  unfold Ieee.Format.nearest
  simp

theorem one_mul {x : Nat} {v : Option Nat} (ix : Is .f64 x v) : fo .mul .f64 (some 4607182418800017408) v = v := by
  cases v with
  | none => rfl
  | some z =>
    obtain rfl := ix.notNaN
    have h1 : FloatKind.f64.format.read 4607182418800017408 = .number false (2 ^ 52) (-52) := by rfl
    cases hd : FloatKind.f64.decode x with
    | nan s f => have := ix.dec; rw [hd] at this; cases this
    | infinity s =>
      have hw := inf_word ix.2 hd
      unfold FloatKind.decode at hd
      simp only [fo, Option.bind_some, floatBits, Ieee.Format.mul, h1, hd, Ieee.Datum.product]
      simpa [FloatKind.encode] using hw
    | number s m e =>
      have hm : ∀ k, fo .mul .f64 (some 4607182418800017408) (some x) = some k ↔ FloatKind.f64.encode (.number s (2 ^ 52 * m) (-52 + e)) = k := fun k => by
        unfold FloatKind.decode at hd
        simp only [fo, Option.bind_some, floatBits, Ieee.Format.mul, h1, hd, Ieee.Datum.product]
        simp [FloatKind.encode]
      rw [hm]
      by_cases h0 : m = 0
      · subst h0
        simpa using zero_word ix.2 hd _
      · have := write_shift ix.2 hd h0 52
        rw [Nat.shiftLeft_eq] at this
        rw [show (2 ^ 52 * m) = m * 2 ^ 52 from Nat.mul_comm _ _, show (-52 + e : Int) = e - (52 : Nat) by omega]
        exact this

theorem lq_low {d : Ieee.Datum} {t : Int} (h : Lq d t) : Low d (t + 1) := by
  obtain ⟨s, m, e, rfl, hm⟩ := h
  refine ⟨s, m, e, rfl, fun h0 => ?_⟩
  obtain ⟨a, ha, hae⟩ := hm h0
  have := (Nat.log2_lt h0).2 (Nat.lt_of_le_of_lt ha (Nat.pow_lt_pow_right (by decide) (Nat.lt_succ_self a)))
  omega

/-- The product of the first k of some numbers, from left to right. -/
def prodO (f : Nat → Option Nat) : Nat → Option Nat
  | 0 => some 4607182418800017408
  | k + 1 => fo .mul .f64 (prodO f k) (f k)

theorem iMulN (b n cap : Nat) (g : Nat → Nat) (f : Nat → Option Nat) (w : World) (hn : n ≤ 16) (hw : ∀ i, i < n → Is .f64 (g i) (f i)) (hr : ∀ i, i < n → w.cell? ⟨b, i, none⟩ = some (.float .f64 (g i))) :
    Calls Try.prog 41 #[.slice (some ⟨b, 0, none⟩) n cap] w (RetF .f64 (prodO f n) w) := by
  have HR := Lib.hid hr
  have HW := Lib.hid hw
  clear hr hw
  have ho : Is .f64 4607182418800017408 (some 4607182418800017408) := is_lit64 _ (by decide)
  go_enter Try.func41, Try.ntmps41
  go_wp2
  go_loopw [3, 8] (fun s i wr => ∃ k r m : Nat, k ≤ n ∧ i = .int .i64 k ∧ s = .float .f64 r ∧ Is .f64 r (prodO f k) ∧ wr = w.drewN m) (fun _ i _ => n - (intOf i).toNat)
  case atStart => exact ⟨0, _, 0, Nat.zero_le _, rfl, rfl, ho, rfl⟩
  case round =>
    obtain ⟨k, r, m, hk, rfl, rfl, hs, rfl⟩ := hrel
    by_cases hlt : k < n
    · have hc := HR.out k hlt
      have hi : Is .f64 (g k) (f k) := HW.out k hlt
      go_wp2_with (apply wpList_arith; rfl; simp [Arith]; rfl; rfl; (first | assumption | exact is_lit64 _ (by decide) | exact is_lit32 _ (by decide)); (first | assumption | exact is_lit64 _ (by decide) | exact is_lit32 _ (by decide)); intro Kq hKq rq nq hq; go_simp)
      go_roundw
      case rel => exact ⟨k + 1, _, _, by omega, by go_num, rfl, hq, rfl⟩
      case measure => simp [intOf]; omega
    · have hkn : Hid (k = n) := (show k = n by omega)
      go_wp2
      go_ret
      exact ⟨_, _, rfl, by rw [← hkn.out]; exact hs, rfl⟩

/-- A number is handed back. -/
def RetB (k : FloatKind) (v : Option Nat) (w : World) (e : Ending) (w' : World) : Prop := (∃ r, e = .returned (.float k r) ∧ Is k r v) ∧ Below w.heap.size w w'

/-- A swing less the sine of it times a Round in parts of a whole turn. -/
def swP (e x : Option Nat) : Option Nat := fo .sub .f64 x (fo .quo .f64 (fo .mul .f64 e (sinP x)) (some 4618760256179416344))

theorem sSwP {a b : Nat} {u v : Option Nat} (ia : Is .f64 a u) (ib : Is .f64 b v) (w : World) :
    Calls Try.prog 50 #[.float .f64 a, .float .f64 b] w (RetF .f64 (swP u v) w) := by
  go_enter Try.func50, Try.ntmps50
  go_wp2_with (first | (apply wpList_arith; rfl; simp [Arith]; rfl; rfl; (first | assumption | exact is_lit64 _ (by decide) | exact is_lit32 _ (by decide)); (first | assumption | exact is_lit64 _ (by decide) | exact is_lit32 _ (by decide)); intro Kq hKq rq nq hq; go_simp) | (go_at_call 67; refine (specSineP_any (by assumption) _).mono ?_; rintro eq wq ⟨rq, nq, rfl, hq, rfl⟩))
  go_ret
  exact ⟨_, _, rfl, by assumption, rfl⟩

theorem full_any (w : World) : Calls Try.prog 65 #[] w (RetV (.float .f64 4618760256179416344) w) := by
  go_enter Try.func65, Try.ntmps65
  go_wp2
  go_ret
  exact RetV.mk0

theorem iMul2 {b x y cap : Nat} {u v : Option Nat} (w : World) (ix : Is .f64 x u) (iy : Is .f64 y v) (c0 : w.cell? ⟨b, 0, none⟩ = some (.float .f64 x)) (c1 : w.cell? ⟨b, 1, none⟩ = some (.float .f64 y)) :
    Calls Try.prog 41 #[.slice (some ⟨b, 0, none⟩) 2 cap] w (RetF .f64 (fo .mul .f64 u v) w) := by
  have h := iMulN b 2 cap (fun i => if i = 0 then x else y) (fun i => if i = 0 then u else v) w (by decide) (fun i hi => by match i, hi with | 0, _ => exact ix | 1, _ => exact iy) (fun i hi => by match i, hi with | 0, _ => exact c0 | 1, _ => exact c1)
  have e : prodO (fun i => if i = 0 then u else v) 2 = fo .mul .f64 u v := by
    simp only [prodO, if_true, Nat.succ_ne_zero, if_false, one_mul ix]
  rw [e] at h
  exact h

theorem iSwP {a b : Nat} {u v : Option Nat} (ia : Is .f64 a u) (ib : Is .f64 b v) (w : World) :
    Calls Try.prog 54 #[.float .f64 a, .float .f64 b] w (RetB .f64 (swP u v) w) := by
  have hst := run_store_float Try.prog
  go_enter Try.func54, Try.ntmps54
  go_wp2_with (first | (apply wpList_arith; rfl; simp [Arith]; rfl; rfl; (first | assumption | exact is_lit64 _ (by decide) | exact is_lit32 _ (by decide)); (first | assumption | exact is_lit64 _ (by decide) | exact is_lit32 _ (by decide)); intro Kq hKq rq nq hq; go_simp) | (go_at_call 70; refine (sineP_any (by assumption) _).mono ?_; rintro eq wq ⟨rq, nq, rfl, hq, rfl⟩) | (go_at_call 65; refine (full_any _).mono ?_; rintro eq wq ⟨nq, rfl, rfl⟩) | (go_at_call 41; refine (iMul2 _ ia hq (by rw [alloc_drewN]; simp; done) (by rw [alloc_drewN]; simp; done)).mono ?_; rintro eq wq ⟨rq2, nq2, rfl, hq2, rfl⟩))
  go_ret
  refine ⟨⟨_, rfl, by assumption⟩, ?_⟩
  repeat' (first | with_reducible exact Below.refl _ _ | with_reducible assumption | (with_reducible refine Below.setCell ?_ (by first | omega | (simp; done) | (simp; omega)) _) | (with_reducible refine Below.alloc ?_ (by first | omega | (simp; done) | (simp; omega)) _) | (with_reducible refine below_drewN ?_ _) | (with_reducible refine Below.drew ?_) | (with_reducible refine Below.trans ?_ (Below.mono (by first | (with_reducible assumption) | exact Grow.below (by assumption)) (by first | omega | (simp; done) | (simp; omega)))))
end Go.Proofs.Ytoomfcdaojmakaa
