/-
  A point of the unit circle, the walks of the program and of the model. No condition.
-/
import Derived.Test.YtocomofgobaonaaPhC
import Derived.Test.YtocomofgobaonaaPhQ
namespace Go.Proofs.Ytocomofgobaonaa
open Go.RowKit

theorem is_fo {op : BinOp} {a b : Option Nat} : ∃ y, Is .f64 y (fo op .f64 a b) := by
  cases h : fo op .f64 a b with
  | none => exact ⟨9221120237041090561, by decide, by decide⟩
  | some r =>
    obtain ⟨x, y, _, _, hf⟩ := fo_some h
    exact ⟨r, floatBits_notNaN hf, fo_lt h⟩
theorem is_part {x : Nat} {v : Option Nat} (ix : Is .f64 x v) : ∃ y, Is .f64 y (partO v) := by
  unfold partO; split
  · exact is_fo
  · exact ⟨x, ix⟩
theorem is_up1 {x : Nat} {v : Option Nat} (ix : Is .f64 x v) : ∃ y, Is .f64 y (up1 v) := by
  unfold up1; split
  · exact is_fo
  · exact ⟨x, ix⟩
theorem is_qN {x : Nat} {v : Option Nat} (ix : Is .f64 x v) : ∀ j, ∃ y, Is .f64 y (qN v j)
  | 0 => ⟨x, ix⟩
  | _ + 1 => is_fo

def sinP (v : Option Nat) : Option Nat := sinF (partO v)
theorem le_sinP {y : Nat} {v : Option Nat} (iy : Is .f64 y v) : LeO .f64 (sinP v) 110 := by
  unfold sinP; rw [← sin_same iy]; exact le_sinS iy
theorem sineP_any {x : Nat} {v : Option Nat} (ix : Is .f64 x v) (w : World) : Calls Try.prog 18 #[.float .f64 x] w (RetF .f64 (sinP v) w) := sineOf_any ix w
theorem specSineP_any {y : Nat} {v : Option Nat} (iy : Is .f64 y v) (w : World) : Calls Try.prog 29 #[.float .f64 y] w (RetF .f64 (sinP v) w) := by
  unfold sinP; rw [← sin_same iy]; exact specSineW_any iy w

def opp0 (v : Option Nat) : Option Nat := fo .sub .f64 (some 0) v
def phA (k : Nat) (c s : Option Nat) : Option Nat := if k = 1 then opp0 s else if k = 2 then opp0 c else if k = 3 then s else c
def phB (k : Nat) (c s : Option Nat) : Option Nat := if k = 1 then c else if k = 2 then opp0 s else if k = 3 then opp0 c else s

theorem fit_opp {v : Option Nat} (h : LeO .f64 v 110) : Fit .f64 .f32 (opp0 v) := fit_le (le_sub (u := 110) (le_lit (by kernel_rfl)) h (by decide) (by decide)) (by decide)

set_option maxHeartbeats 3200000 in
theorem implPh_any {x k : Nat} {v : Option Nat} (ix : Is .f64 x v) (hk : k ≤ 4) (ha : ∀ j, j < k → cmpB .geq .f64 (qN (up1 (partO v)) j) qr64 = true) (hb : cmpB .geq .f64 (qN (up1 (partO v)) k) qr64 = false) (w : World) :
    Calls Try.prog 11 #[.float .f64 x] w (RetC .f32 (cv .f64 .f32 (phA k (sinP (fo .sub .f64 qr64 (qN (up1 (partO v)) k))) (sinP (qN (up1 (partO v)) k)))) (cv .f64 .f32 (phB k (sinP (fo .sub .f64 qr64 (qN (up1 (partO v)) k))) (sinP (qN (up1 (partO v)) k)))) w) := by
  obtain ⟨y0, i0⟩ := is_part ix
  obtain ⟨y1, i1⟩ := is_up1 i0
  obtain ⟨y2, i2⟩ := is_qN i1 k
  obtain ⟨y3, i3⟩ := is_fo (op := .sub) (a := qr64) (b := qN (up1 (partO v)) k)
  have lC := le_sinP i3
  have lS := le_sinP i2
  have fC : Fit .f64 .f32 _ := fit_le lC (by decide)
  have fS : Fit .f64 .f32 _ := fit_le lS (by decide)
  have fC0 := fit_opp lC
  have fS0 := fit_opp lS
  clear i0 i1 i2 i3 y0 y1 y2 y3 lC lS
  have HP := fun w => part_any ix w
  generalize up1 (partO v) = f at *
  have hq0 : Is .f64 4598175219545276416 qr64 := is_lit64 _ (by decide)
  have HA := Lib.hid ha
  have HB := Lib.hid hb
  clear ha hb
  obtain rfl | rfl | rfl | rfl | rfl : k = 0 ∨ k = 1 ∨ k = 2 ∨ k = 3 ∨ k = 4 := by omega
  · simp only [phA, phB, Nat.reduceEqDiff, reduceIte]
    go_enter Try.func11, Try.ntmps11
    go_wp2_with (first | (go_at_call 20; refine (HP _).mono ?_; rintro eq wq ⟨rq, nq, rfl, hq', rfl⟩))
    go_loopw [3, 4] (fun t i wr => ∃ j r m : Nat, j ≤ 0 ∧ i = .int .i64 (j : Int) ∧ t = .float .f64 r ∧ Is .f64 r (qN f j) ∧ wr = w.drewN m) (fun _ i _ => 0 - (intOf i).toNat)
    case atStart => exact ⟨0, _, _, Nat.zero_le _, rfl, rfl, hq', rfl⟩
    case round =>
      obtain ⟨j, r, m, hj, rfl, rfl, hs, rfl⟩ := hrel
      by_cases hlt : j < 0
      · have hc := HA.out j hlt
        go_wp2_with (first | (apply wpList_cmp; rfl; simp [Cmp]; rfl; rfl; (first | assumption | exact is_lit64 _ (by decide) | exact is_lit32 _ (by decide)); (first | assumption | exact is_lit64 _ (by decide) | exact is_lit32 _ (by decide)); intro Kq hKq; go_simp) | (apply wpList_arith; rfl; simp [Arith]; rfl; rfl; (first | assumption | exact is_lit64 _ (by decide) | exact is_lit32 _ (by decide)); (first | assumption | exact is_lit64 _ (by decide) | exact is_lit32 _ (by decide)); intro Kq hKq rq nq hq; go_simp))
        go_roundw
        case rel => exact ⟨j + 1, _, _, by omega, by go_num, rfl, by assumption, rfl⟩
        case measure => simp [intOf]; omega
      · have hkn : j = 0 := by omega
        subst hkn
        have hc := HB.out
        go_wp2_with (first | (apply wpList_cmp; rfl; simp [Cmp]; rfl; rfl; (first | assumption | exact is_lit64 _ (by decide) | exact is_lit32 _ (by decide)); (first | assumption | exact is_lit64 _ (by decide) | exact is_lit32 _ (by decide)); intro Kq hKq; go_simp) | (apply wpList_arith; rfl; simp [Arith]; rfl; rfl; (first | assumption | exact is_lit64 _ (by decide) | exact is_lit32 _ (by decide)); (first | assumption | exact is_lit64 _ (by decide) | exact is_lit32 _ (by decide)); intro Kq hKq rq nq hq; go_simp) | (go_at_call 18; refine (sineP_any (by assumption) _).mono ?_; rintro eq wq ⟨rq, nq, rfl, hq, rfl⟩) | (go_at_call 21; refine (narrowC_any (by assumption) (by assumption) (by assumption) (by assumption) _).mono ?_; rintro eq wq ⟨r1, r2, nq, rfl, hq1, hq2, rfl⟩))
        go_ret
        exact ⟨_, _, _, rfl, by assumption, by assumption, rfl⟩
  · simp only [phA, phB, Nat.reduceEqDiff, reduceIte]
    go_enter Try.func11, Try.ntmps11
    go_wp2_with (first | (go_at_call 20; refine (HP _).mono ?_; rintro eq wq ⟨rq, nq, rfl, hq', rfl⟩))
    go_loopw [3, 4] (fun t i wr => ∃ j r m : Nat, j ≤ 1 ∧ i = .int .i64 (j : Int) ∧ t = .float .f64 r ∧ Is .f64 r (qN f j) ∧ wr = w.drewN m) (fun _ i _ => 1 - (intOf i).toNat)
    case atStart => exact ⟨0, _, _, Nat.zero_le _, rfl, rfl, hq', rfl⟩
    case round =>
      obtain ⟨j, r, m, hj, rfl, rfl, hs, rfl⟩ := hrel
      by_cases hlt : j < 1
      · have hc := HA.out j hlt
        go_wp2_with (first | (apply wpList_cmp; rfl; simp [Cmp]; rfl; rfl; (first | assumption | exact is_lit64 _ (by decide) | exact is_lit32 _ (by decide)); (first | assumption | exact is_lit64 _ (by decide) | exact is_lit32 _ (by decide)); intro Kq hKq; go_simp) | (apply wpList_arith; rfl; simp [Arith]; rfl; rfl; (first | assumption | exact is_lit64 _ (by decide) | exact is_lit32 _ (by decide)); (first | assumption | exact is_lit64 _ (by decide) | exact is_lit32 _ (by decide)); intro Kq hKq rq nq hq; go_simp))
        go_roundw
        case rel => exact ⟨j + 1, _, _, by omega, by go_num, rfl, by assumption, rfl⟩
        case measure => simp [intOf]; omega
      · have hkn : j = 1 := by omega
        subst hkn
        have hc := HB.out
        go_wp2_with (first | (apply wpList_cmp; rfl; simp [Cmp]; rfl; rfl; (first | assumption | exact is_lit64 _ (by decide) | exact is_lit32 _ (by decide)); (first | assumption | exact is_lit64 _ (by decide) | exact is_lit32 _ (by decide)); intro Kq hKq; go_simp) | (apply wpList_arith; rfl; simp [Arith]; rfl; rfl; (first | assumption | exact is_lit64 _ (by decide) | exact is_lit32 _ (by decide)); (first | assumption | exact is_lit64 _ (by decide) | exact is_lit32 _ (by decide)); intro Kq hKq rq nq hq; go_simp) | (go_at_call 18; refine (sineP_any (by assumption) _).mono ?_; rintro eq wq ⟨rq, nq, rfl, hq, rfl⟩) | (go_at_call 21; refine (narrowC_any (by assumption) (by assumption) (by assumption) (by assumption) _).mono ?_; rintro eq wq ⟨r1, r2, nq, rfl, hq1, hq2, rfl⟩))
        go_ret
        exact ⟨_, _, _, rfl, by assumption, by assumption, rfl⟩
  · simp only [phA, phB, Nat.reduceEqDiff, reduceIte]
    go_enter Try.func11, Try.ntmps11
    go_wp2_with (first | (go_at_call 20; refine (HP _).mono ?_; rintro eq wq ⟨rq, nq, rfl, hq', rfl⟩))
    go_loopw [3, 4] (fun t i wr => ∃ j r m : Nat, j ≤ 2 ∧ i = .int .i64 (j : Int) ∧ t = .float .f64 r ∧ Is .f64 r (qN f j) ∧ wr = w.drewN m) (fun _ i _ => 2 - (intOf i).toNat)
    case atStart => exact ⟨0, _, _, Nat.zero_le _, rfl, rfl, hq', rfl⟩
    case round =>
      obtain ⟨j, r, m, hj, rfl, rfl, hs, rfl⟩ := hrel
      by_cases hlt : j < 2
      · have hc := HA.out j hlt
        go_wp2_with (first | (apply wpList_cmp; rfl; simp [Cmp]; rfl; rfl; (first | assumption | exact is_lit64 _ (by decide) | exact is_lit32 _ (by decide)); (first | assumption | exact is_lit64 _ (by decide) | exact is_lit32 _ (by decide)); intro Kq hKq; go_simp) | (apply wpList_arith; rfl; simp [Arith]; rfl; rfl; (first | assumption | exact is_lit64 _ (by decide) | exact is_lit32 _ (by decide)); (first | assumption | exact is_lit64 _ (by decide) | exact is_lit32 _ (by decide)); intro Kq hKq rq nq hq; go_simp))
        go_roundw
        case rel => exact ⟨j + 1, _, _, by omega, by go_num, rfl, by assumption, rfl⟩
        case measure => simp [intOf]; omega
      · have hkn : j = 2 := by omega
        subst hkn
        have hc := HB.out
        go_wp2_with (first | (apply wpList_cmp; rfl; simp [Cmp]; rfl; rfl; (first | assumption | exact is_lit64 _ (by decide) | exact is_lit32 _ (by decide)); (first | assumption | exact is_lit64 _ (by decide) | exact is_lit32 _ (by decide)); intro Kq hKq; go_simp) | (apply wpList_arith; rfl; simp [Arith]; rfl; rfl; (first | assumption | exact is_lit64 _ (by decide) | exact is_lit32 _ (by decide)); (first | assumption | exact is_lit64 _ (by decide) | exact is_lit32 _ (by decide)); intro Kq hKq rq nq hq; go_simp) | (go_at_call 18; refine (sineP_any (by assumption) _).mono ?_; rintro eq wq ⟨rq, nq, rfl, hq, rfl⟩) | (go_at_call 21; refine (narrowC_any (by assumption) (by assumption) (by assumption) (by assumption) _).mono ?_; rintro eq wq ⟨r1, r2, nq, rfl, hq1, hq2, rfl⟩))
        go_ret
        exact ⟨_, _, _, rfl, by assumption, by assumption, rfl⟩
  · simp only [phA, phB, Nat.reduceEqDiff, reduceIte]
    go_enter Try.func11, Try.ntmps11
    go_wp2_with (first | (go_at_call 20; refine (HP _).mono ?_; rintro eq wq ⟨rq, nq, rfl, hq', rfl⟩))
    go_loopw [3, 4] (fun t i wr => ∃ j r m : Nat, j ≤ 3 ∧ i = .int .i64 (j : Int) ∧ t = .float .f64 r ∧ Is .f64 r (qN f j) ∧ wr = w.drewN m) (fun _ i _ => 3 - (intOf i).toNat)
    case atStart => exact ⟨0, _, _, Nat.zero_le _, rfl, rfl, hq', rfl⟩
    case round =>
      obtain ⟨j, r, m, hj, rfl, rfl, hs, rfl⟩ := hrel
      by_cases hlt : j < 3
      · have hc := HA.out j hlt
        go_wp2_with (first | (apply wpList_cmp; rfl; simp [Cmp]; rfl; rfl; (first | assumption | exact is_lit64 _ (by decide) | exact is_lit32 _ (by decide)); (first | assumption | exact is_lit64 _ (by decide) | exact is_lit32 _ (by decide)); intro Kq hKq; go_simp) | (apply wpList_arith; rfl; simp [Arith]; rfl; rfl; (first | assumption | exact is_lit64 _ (by decide) | exact is_lit32 _ (by decide)); (first | assumption | exact is_lit64 _ (by decide) | exact is_lit32 _ (by decide)); intro Kq hKq rq nq hq; go_simp))
        go_roundw
        case rel => exact ⟨j + 1, _, _, by omega, by go_num, rfl, by assumption, rfl⟩
        case measure => simp [intOf]; omega
      · have hkn : j = 3 := by omega
        subst hkn
        have hc := HB.out
        go_wp2_with (first | (apply wpList_cmp; rfl; simp [Cmp]; rfl; rfl; (first | assumption | exact is_lit64 _ (by decide) | exact is_lit32 _ (by decide)); (first | assumption | exact is_lit64 _ (by decide) | exact is_lit32 _ (by decide)); intro Kq hKq; go_simp) | (apply wpList_arith; rfl; simp [Arith]; rfl; rfl; (first | assumption | exact is_lit64 _ (by decide) | exact is_lit32 _ (by decide)); (first | assumption | exact is_lit64 _ (by decide) | exact is_lit32 _ (by decide)); intro Kq hKq rq nq hq; go_simp) | (go_at_call 18; refine (sineP_any (by assumption) _).mono ?_; rintro eq wq ⟨rq, nq, rfl, hq, rfl⟩) | (go_at_call 21; refine (narrowC_any (by assumption) (by assumption) (by assumption) (by assumption) _).mono ?_; rintro eq wq ⟨r1, r2, nq, rfl, hq1, hq2, rfl⟩))
        go_ret
        exact ⟨_, _, _, rfl, by assumption, by assumption, rfl⟩
  · simp only [phA, phB, Nat.reduceEqDiff, reduceIte]
    go_enter Try.func11, Try.ntmps11
    go_wp2_with (first | (go_at_call 20; refine (HP _).mono ?_; rintro eq wq ⟨rq, nq, rfl, hq', rfl⟩))
    go_loopw [3, 4] (fun t i wr => ∃ j r m : Nat, j ≤ 4 ∧ i = .int .i64 (j : Int) ∧ t = .float .f64 r ∧ Is .f64 r (qN f j) ∧ wr = w.drewN m) (fun _ i _ => 4 - (intOf i).toNat)
    case atStart => exact ⟨0, _, _, Nat.zero_le _, rfl, rfl, hq', rfl⟩
    case round =>
      obtain ⟨j, r, m, hj, rfl, rfl, hs, rfl⟩ := hrel
      by_cases hlt : j < 4
      · have hc := HA.out j hlt
        go_wp2_with (first | (apply wpList_cmp; rfl; simp [Cmp]; rfl; rfl; (first | assumption | exact is_lit64 _ (by decide) | exact is_lit32 _ (by decide)); (first | assumption | exact is_lit64 _ (by decide) | exact is_lit32 _ (by decide)); intro Kq hKq; go_simp) | (apply wpList_arith; rfl; simp [Arith]; rfl; rfl; (first | assumption | exact is_lit64 _ (by decide) | exact is_lit32 _ (by decide)); (first | assumption | exact is_lit64 _ (by decide) | exact is_lit32 _ (by decide)); intro Kq hKq rq nq hq; go_simp))
        go_roundw
        case rel => exact ⟨j + 1, _, _, by omega, by go_num, rfl, by assumption, rfl⟩
        case measure => simp [intOf]; omega
      · have hkn : j = 4 := by omega
        subst hkn
        have hc := HB.out
        go_wp2_with (first | (apply wpList_cmp; rfl; simp [Cmp]; rfl; rfl; (first | assumption | exact is_lit64 _ (by decide) | exact is_lit32 _ (by decide)); (first | assumption | exact is_lit64 _ (by decide) | exact is_lit32 _ (by decide)); intro Kq hKq; go_simp) | (apply wpList_arith; rfl; simp [Arith]; rfl; rfl; (first | assumption | exact is_lit64 _ (by decide) | exact is_lit32 _ (by decide)); (first | assumption | exact is_lit64 _ (by decide) | exact is_lit32 _ (by decide)); intro Kq hKq rq nq hq; go_simp) | (go_at_call 18; refine (sineP_any (by assumption) _).mono ?_; rintro eq wq ⟨rq, nq, rfl, hq, rfl⟩) | (go_at_call 21; refine (narrowC_any (by assumption) (by assumption) (by assumption) (by assumption) _).mono ?_; rintro eq wq ⟨r1, r2, nq, rfl, hq1, hq2, rfl⟩))
        go_ret
        exact ⟨_, _, _, rfl, by assumption, by assumption, rfl⟩
end Go.Proofs.Ytocomofgobaonaa
