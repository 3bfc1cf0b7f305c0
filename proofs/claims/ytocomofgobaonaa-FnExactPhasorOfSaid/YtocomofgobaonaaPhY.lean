/-
  A point of the unit circle, the walk of the model where it takes quarters off. No condition.
-/
import Derived.Test.YtocomofgobaonaaPhX
namespace Go.Proofs.Ytocomofgobaonaa
open Go.RowKit

set_option maxHeartbeats 6400000 in
theorem specPh_main {y k : Nat} {n : Int} (iy : Is .f64 y (some y)) (hn : (FloatKind.f64.decode y).toInt .zero = some n) (hr : n.natAbs < 2 ^ 63)
    (n1 : cmpB .neq .f64 (fo .sub .f64 (some y) (some y)) (some 0) = false) (g1 : cmpB .geq .f64 (some y) (some 4841369599423283200) = false) (l1 : cmpB .leq .f64 (some y) (some 14064741636278059008) = false)
    {f : Option Nat} (hf : f = up1 (fo .sub .f64 (some y) (ifO n))) (hk : k ≤ 4) (ha : ∀ j, j < k → cmpB .geq .f64 (qN f j) qr64 = true) (hb : cmpB .geq .f64 (qN f k) qr64 = false) (w : World) :
    Calls Try.prog 19 #[.float .f64 y] w (RetC .f32 (cv .f64 .f32 (phA k (sinP (fo .sub .f64 qr64 (qN f k))) (sinP (qN f k)))) (cv .f64 .f32 (phB k (sinP (fo .sub .f64 qr64 (qN f k))) (sinP (qN f k)))) w) := by
  obtain ⟨y1, i1⟩ := is_fo (op := .sub) (a := some y) (b := ifO n)
  obtain ⟨y1, i1⟩ := is_up1 i1
  rw [← hf] at i1
  obtain ⟨y2, i2⟩ := is_qN i1 k
  obtain ⟨y3, i3⟩ := is_fo (op := .sub) (a := qr64) (b := qN f k)
  have lC := le_sinP i3
  have lS := le_sinP i2
  have fC : Fit .f64 .f32 _ := fit_le lC (by decide)
  have fS : Fit .f64 .f32 _ := fit_le lS (by decide)
  have fC0 := fit_opp lC
  have fS0 := fit_opp lS
  clear i1 i2 i3 lC lS
  have h1 := one_is
  have hq0 : Is .f64 4598175219545276416 qr64 := is_lit64 _ (by decide)
  have HA := Lib.hid ha
  have HB := Lib.hid hb
  clear ha hb
  obtain rfl | rfl | rfl | rfl | rfl : k = 0 ∨ k = 1 ∨ k = 2 ∨ k = 3 ∨ k = 4 := by omega
  · simp only [phA, phB, Nat.reduceEqDiff, reduceIte]
    cases hl : cmpB .lss .f64 (fo .sub .f64 (some y) (ifO n)) (some 0)
    all_goals
      unfold up1 at hf
      rw [hl] at hf
      simp only [if_true, Bool.false_eq_true, if_false] at hf
      have HF := Lib.hid hf
      clear hf
      go_enter Try.func19, Try.ntmps19
      go_wp2_with (first | (apply wpList_cmp; rfl; simp [Cmp]; rfl; rfl; (first | assumption | exact is_lit64 _ (by decide) | exact is_lit32 _ (by decide)); (first | assumption | exact is_lit64 _ (by decide) | exact is_lit32 _ (by decide)); intro Kq hKq; go_simp) | (apply wpList_arith; rfl; simp [Arith]; rfl; rfl; (first | assumption | exact is_lit64 _ (by decide) | exact is_lit32 _ (by decide)); (first | assumption | exact is_lit64 _ (by decide) | exact is_lit32 _ (by decide)); intro Kq hKq rq nq hq; go_simp) | (apply wpList_ftoi; exact Try.underlying25; exact Try.underlying2; rfl; rfl; exact hn; exact hr; intro Kq hKq; go_simp) | (apply wpList_itof; exact Try.underlying2; exact Try.underlying25; rfl; rfl; intro Kq hKq rq hq; go_simp))
      rw [← HF.out] at hq
      go_loopw [3, 4] (fun t i wr => ∃ j r m : Nat, j ≤ 0 ∧ i = .int .i64 (j : Int) ∧ t = .float .f64 r ∧ Is .f64 r (qN f j) ∧ wr = w.drewN m) (fun _ i _ => 0 - (intOf i).toNat)
      case atStart => exact ⟨0, _, _, Nat.zero_le _, rfl, rfl, hq, rfl⟩
      case round =>
        obtain ⟨j, r, m, hj, rfl, rfl, hs, rfl⟩ := hrel
        by_cases hlt : j < 0
        · have hc := HA.out j hlt
          go_wp2_with (first | (apply wpList_cmp; rfl; simp [Cmp]; rfl; rfl; (first | assumption | exact is_lit64 _ (by decide) | exact is_lit32 _ (by decide)); (first | assumption | exact is_lit64 _ (by decide) | exact is_lit32 _ (by decide)); intro Kq hKq; go_simp) | (apply wpList_arith; rfl; simp [Arith]; rfl; rfl; (first | assumption | exact is_lit64 _ (by decide) | exact is_lit32 _ (by decide)); (first | assumption | exact is_lit64 _ (by decide) | exact is_lit32 _ (by decide)); intro Kq hKq rq nq hq; go_simp))
          go_roundw
          case rel => exact ⟨j + 1, _, _, by omega, by go_num, rfl, by assumption, rfl⟩
          case measure => simp [intOf]; omega
        · have hkn : j = 0 := by omega
          subst hkn
          have hc := HB.out
          go_wp2_with (first | (apply wpList_cmp; rfl; simp [Cmp]; rfl; rfl; (first | assumption | exact is_lit64 _ (by decide) | exact is_lit32 _ (by decide)); (first | assumption | exact is_lit64 _ (by decide) | exact is_lit32 _ (by decide)); intro Kq hKq; go_simp) | (apply wpList_arith; rfl; simp [Arith]; rfl; rfl; (first | assumption | exact is_lit64 _ (by decide) | exact is_lit32 _ (by decide)); (first | assumption | exact is_lit64 _ (by decide) | exact is_lit32 _ (by decide)); intro Kq hKq rq nq hq; go_simp) | (go_at_call 29; refine (specSineP_any (by assumption) _).mono ?_; rintro eq wq ⟨rq, nq, rfl, hq, rfl⟩) | (go_at_call 28; refine (narrow_any (by assumption) (by assumption) _).mono ?_; rintro eq wq ⟨rq, nq, rfl, hq, rfl⟩))
          go_ret
          exact ⟨_, _, _, rfl, by assumption, by assumption, rfl⟩
  · simp only [phA, phB, Nat.reduceEqDiff, reduceIte]
    cases hl : cmpB .lss .f64 (fo .sub .f64 (some y) (ifO n)) (some 0)
    all_goals
      unfold up1 at hf
      rw [hl] at hf
      simp only [if_true, Bool.false_eq_true, if_false] at hf
      have HF := Lib.hid hf
      clear hf
      go_enter Try.func19, Try.ntmps19
      go_wp2_with (first | (apply wpList_cmp; rfl; simp [Cmp]; rfl; rfl; (first | assumption | exact is_lit64 _ (by decide) | exact is_lit32 _ (by decide)); (first | assumption | exact is_lit64 _ (by decide) | exact is_lit32 _ (by decide)); intro Kq hKq; go_simp) | (apply wpList_arith; rfl; simp [Arith]; rfl; rfl; (first | assumption | exact is_lit64 _ (by decide) | exact is_lit32 _ (by decide)); (first | assumption | exact is_lit64 _ (by decide) | exact is_lit32 _ (by decide)); intro Kq hKq rq nq hq; go_simp) | (apply wpList_ftoi; exact Try.underlying25; exact Try.underlying2; rfl; rfl; exact hn; exact hr; intro Kq hKq; go_simp) | (apply wpList_itof; exact Try.underlying2; exact Try.underlying25; rfl; rfl; intro Kq hKq rq hq; go_simp))
      rw [← HF.out] at hq
      go_loopw [3, 4] (fun t i wr => ∃ j r m : Nat, j ≤ 1 ∧ i = .int .i64 (j : Int) ∧ t = .float .f64 r ∧ Is .f64 r (qN f j) ∧ wr = w.drewN m) (fun _ i _ => 1 - (intOf i).toNat)
      case atStart => exact ⟨0, _, _, Nat.zero_le _, rfl, rfl, hq, rfl⟩
      case round =>
        obtain ⟨j, r, m, hj, rfl, rfl, hs, rfl⟩ := hrel
        by_cases hlt : j < 1
        · have hc := HA.out j hlt
          go_wp2_with (first | (apply wpList_cmp; rfl; simp [Cmp]; rfl; rfl; (first | assumption | exact is_lit64 _ (by decide) | exact is_lit32 _ (by decide)); (first | assumption | exact is_lit64 _ (by decide) | exact is_lit32 _ (by decide)); intro Kq hKq; go_simp) | (apply wpList_arith; rfl; simp [Arith]; rfl; rfl; (first | assumption | exact is_lit64 _ (by decide) | exact is_lit32 _ (by decide)); (first | assumption | exact is_lit64 _ (by decide) | exact is_lit32 _ (by decide)); intro Kq hKq rq nq hq; go_simp))
          go_roundw
          case rel => exact ⟨j + 1, _, _, by omega, by go_num, rfl, by assumption, rfl⟩
          case measure => simp [intOf]; omega
        · have hkn : j = 1 := by omega
          subst hkn
          have hc := HB.out
          go_wp2_with (first | (apply wpList_cmp; rfl; simp [Cmp]; rfl; rfl; (first | assumption | exact is_lit64 _ (by decide) | exact is_lit32 _ (by decide)); (first | assumption | exact is_lit64 _ (by decide) | exact is_lit32 _ (by decide)); intro Kq hKq; go_simp) | (apply wpList_arith; rfl; simp [Arith]; rfl; rfl; (first | assumption | exact is_lit64 _ (by decide) | exact is_lit32 _ (by decide)); (first | assumption | exact is_lit64 _ (by decide) | exact is_lit32 _ (by decide)); intro Kq hKq rq nq hq; go_simp) | (go_at_call 29; refine (specSineP_any (by assumption) _).mono ?_; rintro eq wq ⟨rq, nq, rfl, hq, rfl⟩) | (go_at_call 28; refine (narrow_any (by assumption) (by assumption) _).mono ?_; rintro eq wq ⟨rq, nq, rfl, hq, rfl⟩))
          go_ret
          exact ⟨_, _, _, rfl, by assumption, by assumption, rfl⟩
  · simp only [phA, phB, Nat.reduceEqDiff, reduceIte]
    cases hl : cmpB .lss .f64 (fo .sub .f64 (some y) (ifO n)) (some 0)
    all_goals
      unfold up1 at hf
      rw [hl] at hf
      simp only [if_true, Bool.false_eq_true, if_false] at hf
      have HF := Lib.hid hf
      clear hf
      go_enter Try.func19, Try.ntmps19
      go_wp2_with (first | (apply wpList_cmp; rfl; simp [Cmp]; rfl; rfl; (first | assumption | exact is_lit64 _ (by decide) | exact is_lit32 _ (by decide)); (first | assumption | exact is_lit64 _ (by decide) | exact is_lit32 _ (by decide)); intro Kq hKq; go_simp) | (apply wpList_arith; rfl; simp [Arith]; rfl; rfl; (first | assumption | exact is_lit64 _ (by decide) | exact is_lit32 _ (by decide)); (first | assumption | exact is_lit64 _ (by decide) | exact is_lit32 _ (by decide)); intro Kq hKq rq nq hq; go_simp) | (apply wpList_ftoi; exact Try.underlying25; exact Try.underlying2; rfl; rfl; exact hn; exact hr; intro Kq hKq; go_simp) | (apply wpList_itof; exact Try.underlying2; exact Try.underlying25; rfl; rfl; intro Kq hKq rq hq; go_simp))
      rw [← HF.out] at hq
      go_loopw [3, 4] (fun t i wr => ∃ j r m : Nat, j ≤ 2 ∧ i = .int .i64 (j : Int) ∧ t = .float .f64 r ∧ Is .f64 r (qN f j) ∧ wr = w.drewN m) (fun _ i _ => 2 - (intOf i).toNat)
      case atStart => exact ⟨0, _, _, Nat.zero_le _, rfl, rfl, hq, rfl⟩
      case round =>
        obtain ⟨j, r, m, hj, rfl, rfl, hs, rfl⟩ := hrel
        by_cases hlt : j < 2
        · have hc := HA.out j hlt
          go_wp2_with (first | (apply wpList_cmp; rfl; simp [Cmp]; rfl; rfl; (first | assumption | exact is_lit64 _ (by decide) | exact is_lit32 _ (by decide)); (first | assumption | exact is_lit64 _ (by decide) | exact is_lit32 _ (by decide)); intro Kq hKq; go_simp) | (apply wpList_arith; rfl; simp [Arith]; rfl; rfl; (first | assumption | exact is_lit64 _ (by decide) | exact is_lit32 _ (by decide)); (first | assumption | exact is_lit64 _ (by decide) | exact is_lit32 _ (by decide)); intro Kq hKq rq nq hq; go_simp))
          go_roundw
          case rel => exact ⟨j + 1, _, _, by omega, by go_num, rfl, by assumption, rfl⟩
          case measure => simp [intOf]; omega
        · have hkn : j = 2 := by omega
          subst hkn
          have hc := HB.out
          go_wp2_with (first | (apply wpList_cmp; rfl; simp [Cmp]; rfl; rfl; (first | assumption | exact is_lit64 _ (by decide) | exact is_lit32 _ (by decide)); (first | assumption | exact is_lit64 _ (by decide) | exact is_lit32 _ (by decide)); intro Kq hKq; go_simp) | (apply wpList_arith; rfl; simp [Arith]; rfl; rfl; (first | assumption | exact is_lit64 _ (by decide) | exact is_lit32 _ (by decide)); (first | assumption | exact is_lit64 _ (by decide) | exact is_lit32 _ (by decide)); intro Kq hKq rq nq hq; go_simp) | (go_at_call 29; refine (specSineP_any (by assumption) _).mono ?_; rintro eq wq ⟨rq, nq, rfl, hq, rfl⟩) | (go_at_call 28; refine (narrow_any (by assumption) (by assumption) _).mono ?_; rintro eq wq ⟨rq, nq, rfl, hq, rfl⟩))
          go_ret
          exact ⟨_, _, _, rfl, by assumption, by assumption, rfl⟩
  · simp only [phA, phB, Nat.reduceEqDiff, reduceIte]
    cases hl : cmpB .lss .f64 (fo .sub .f64 (some y) (ifO n)) (some 0)
    all_goals
      unfold up1 at hf
      rw [hl] at hf
      simp only [if_true, Bool.false_eq_true, if_false] at hf
      have HF := Lib.hid hf
      clear hf
      go_enter Try.func19, Try.ntmps19
      go_wp2_with (first | (apply wpList_cmp; rfl; simp [Cmp]; rfl; rfl; (first | assumption | exact is_lit64 _ (by decide) | exact is_lit32 _ (by decide)); (first | assumption | exact is_lit64 _ (by decide) | exact is_lit32 _ (by decide)); intro Kq hKq; go_simp) | (apply wpList_arith; rfl; simp [Arith]; rfl; rfl; (first | assumption | exact is_lit64 _ (by decide) | exact is_lit32 _ (by decide)); (first | assumption | exact is_lit64 _ (by decide) | exact is_lit32 _ (by decide)); intro Kq hKq rq nq hq; go_simp) | (apply wpList_ftoi; exact Try.underlying25; exact Try.underlying2; rfl; rfl; exact hn; exact hr; intro Kq hKq; go_simp) | (apply wpList_itof; exact Try.underlying2; exact Try.underlying25; rfl; rfl; intro Kq hKq rq hq; go_simp))
      rw [← HF.out] at hq
      go_loopw [3, 4] (fun t i wr => ∃ j r m : Nat, j ≤ 3 ∧ i = .int .i64 (j : Int) ∧ t = .float .f64 r ∧ Is .f64 r (qN f j) ∧ wr = w.drewN m) (fun _ i _ => 3 - (intOf i).toNat)
      case atStart => exact ⟨0, _, _, Nat.zero_le _, rfl, rfl, hq, rfl⟩
      case round =>
        obtain ⟨j, r, m, hj, rfl, rfl, hs, rfl⟩ := hrel
        by_cases hlt : j < 3
        · have hc := HA.out j hlt
          go_wp2_with (first | (apply wpList_cmp; rfl; simp [Cmp]; rfl; rfl; (first | assumption | exact is_lit64 _ (by decide) | exact is_lit32 _ (by decide)); (first | assumption | exact is_lit64 _ (by decide) | exact is_lit32 _ (by decide)); intro Kq hKq; go_simp) | (apply wpList_arith; rfl; simp [Arith]; rfl; rfl; (first | assumption | exact is_lit64 _ (by decide) | exact is_lit32 _ (by decide)); (first | assumption | exact is_lit64 _ (by decide) | exact is_lit32 _ (by decide)); intro Kq hKq rq nq hq; go_simp))
          go_roundw
          case rel => exact ⟨j + 1, _, _, by omega, by go_num, rfl, by assumption, rfl⟩
          case measure => simp [intOf]; omega
        · have hkn : j = 3 := by omega
          subst hkn
          have hc := HB.out
          go_wp2_with (first | (apply wpList_cmp; rfl; simp [Cmp]; rfl; rfl; (first | assumption | exact is_lit64 _ (by decide) | exact is_lit32 _ (by decide)); (first | assumption | exact is_lit64 _ (by decide) | exact is_lit32 _ (by decide)); intro Kq hKq; go_simp) | (apply wpList_arith; rfl; simp [Arith]; rfl; rfl; (first | assumption | exact is_lit64 _ (by decide) | exact is_lit32 _ (by decide)); (first | assumption | exact is_lit64 _ (by decide) | exact is_lit32 _ (by decide)); intro Kq hKq rq nq hq; go_simp) | (go_at_call 29; refine (specSineP_any (by assumption) _).mono ?_; rintro eq wq ⟨rq, nq, rfl, hq, rfl⟩) | (go_at_call 28; refine (narrow_any (by assumption) (by assumption) _).mono ?_; rintro eq wq ⟨rq, nq, rfl, hq, rfl⟩))
          go_ret
          exact ⟨_, _, _, rfl, by assumption, by assumption, rfl⟩
  · simp only [phA, phB, Nat.reduceEqDiff, reduceIte]
    cases hl : cmpB .lss .f64 (fo .sub .f64 (some y) (ifO n)) (some 0)
    all_goals
      unfold up1 at hf
      rw [hl] at hf
      simp only [if_true, Bool.false_eq_true, if_false] at hf
      have HF := Lib.hid hf
      clear hf
      go_enter Try.func19, Try.ntmps19
      go_wp2_with (first | (apply wpList_cmp; rfl; simp [Cmp]; rfl; rfl; (first | assumption | exact is_lit64 _ (by decide) | exact is_lit32 _ (by decide)); (first | assumption | exact is_lit64 _ (by decide) | exact is_lit32 _ (by decide)); intro Kq hKq; go_simp) | (apply wpList_arith; rfl; simp [Arith]; rfl; rfl; (first | assumption | exact is_lit64 _ (by decide) | exact is_lit32 _ (by decide)); (first | assumption | exact is_lit64 _ (by decide) | exact is_lit32 _ (by decide)); intro Kq hKq rq nq hq; go_simp) | (apply wpList_ftoi; exact Try.underlying25; exact Try.underlying2; rfl; rfl; exact hn; exact hr; intro Kq hKq; go_simp) | (apply wpList_itof; exact Try.underlying2; exact Try.underlying25; rfl; rfl; intro Kq hKq rq hq; go_simp))
      rw [← HF.out] at hq
      go_loopw [3, 4] (fun t i wr => ∃ j r m : Nat, j ≤ 4 ∧ i = .int .i64 (j : Int) ∧ t = .float .f64 r ∧ Is .f64 r (qN f j) ∧ wr = w.drewN m) (fun _ i _ => 4 - (intOf i).toNat)
      case atStart => exact ⟨0, _, _, Nat.zero_le _, rfl, rfl, hq, rfl⟩
      case round =>
        obtain ⟨j, r, m, hj, rfl, rfl, hs, rfl⟩ := hrel
        by_cases hlt : j < 4
        · have hc := HA.out j hlt
          go_wp2_with (first | (apply wpList_cmp; rfl; simp [Cmp]; rfl; rfl; (first | assumption | exact is_lit64 _ (by decide) | exact is_lit32 _ (by decide)); (first | assumption | exact is_lit64 _ (by decide) | exact is_lit32 _ (by decide)); intro Kq hKq; go_simp) | (apply wpList_arith; rfl; simp [Arith]; rfl; rfl; (first | assumption | exact is_lit64 _ (by decide) | exact is_lit32 _ (by decide)); (first | assumption | exact is_lit64 _ (by decide) | exact is_lit32 _ (by decide)); intro Kq hKq rq nq hq; go_simp))
          go_roundw
          case rel => exact ⟨j + 1, _, _, by omega, by go_num, rfl, by assumption, rfl⟩
          case measure => simp [intOf]; omega
        · have hkn : j = 4 := by omega
          subst hkn
          have hc := HB.out
          go_wp2_with (first | (apply wpList_cmp; rfl; simp [Cmp]; rfl; rfl; (first | assumption | exact is_lit64 _ (by decide) | exact is_lit32 _ (by decide)); (first | assumption | exact is_lit64 _ (by decide) | exact is_lit32 _ (by decide)); intro Kq hKq; go_simp) | (apply wpList_arith; rfl; simp [Arith]; rfl; rfl; (first | assumption | exact is_lit64 _ (by decide) | exact is_lit32 _ (by decide)); (first | assumption | exact is_lit64 _ (by decide) | exact is_lit32 _ (by decide)); intro Kq hKq rq nq hq; go_simp) | (go_at_call 29; refine (specSineP_any (by assumption) _).mono ?_; rintro eq wq ⟨rq, nq, rfl, hq, rfl⟩) | (go_at_call 28; refine (narrow_any (by assumption) (by assumption) _).mono ?_; rintro eq wq ⟨rq, nq, rfl, hq, rfl⟩))
          go_ret
          exact ⟨_, _, _, rfl, by assumption, by assumption, rfl⟩
end Go.Proofs.Ytocomofgobaonaa
