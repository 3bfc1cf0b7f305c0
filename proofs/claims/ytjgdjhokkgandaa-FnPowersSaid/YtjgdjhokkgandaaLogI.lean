/-
  The logarithm of a number, the walk of the program. No condition.
-/
import Derived.Test.YtjgdjhokkgandaaLogC
import Derived.Test.YtjgdjhokkgandaaFnsN
namespace Go.Proofs.Ytjgdjhokkgandaa
open Go.RowKit

theorem nanL_is (w : World) : Calls Try.prog 13 #[] w (RetF .f64 none w) := by
  have hf := f64from
  go_enter Try.func13, Try.ntmps13
  go_wp2
  go_ret
  exact ⟨_, 0, rfl, ⟨by decide, by decide⟩, rfl⟩

def negInf : Nat := 18442240474082181120
theorem ninf_is (w : World) : Calls Try.prog 11 #[.int .i64 (-1)] w (RetF .f64 (some negInf) w) := by
  have hf := f64from
  go_enter Try.func11, Try.ntmps11
  go_wp2
  go_ret
  exact ⟨_, 0, rfl, is_lit64 _ (by decide), rfl⟩
theorem isInf1_any {x : Nat} {v : Option Nat} (ix : Is .f64 x v) (w : World) :
    Calls Try.prog 14 #[.float .f64 x, .int .i64 1] w (RetV (.bool (cmpB .gtr .f64 v (some 9218868437227405311))) w) := by
  go_enter Try.func14, Try.ntmps14
  go_wp2_with (apply wpList_cmp; rfl; simp [Cmp]; rfl; rfl; (first | assumption | exact is_lit64 _ (by decide) | exact is_lit32 _ (by decide)); (first | assumption | exact is_lit64 _ (by decide) | exact is_lit32 _ (by decide)); intro Kq hKq; go_simp)
  go_ret
  exact RetV.mk0

/-- How the halving and the doubling ends. -/
structure Ends (v : Option Nat) (k1 k2 : Nat) : Prop where
  l1 : k1 ≤ 2000
  l2 : k2 ≤ 2000
  a1 : ∀ j, j < k1 → cmpB .geq .f64 (hlN v j) mid64 = true
  b1 : cmpB .geq .f64 (hlN v k1) mid64 = false
  a2 : ∀ j, j < k2 → cmpB .lss .f64 (dbN (hlN v k1) j) low64 = true
  b2 : cmpB .lss .f64 (dbN (hlN v k1) k2) low64 = false

theorem halved_any {x : Nat} {v : Option Nat} {k1 k2 : Nat} (E : Ends v k1 k2) (ix : Is .f64 x v) (w : World) :
    Calls Try.prog 15 #[.float .f64 x] w fun e w' => ∃ r m, e = .returned (.tuple #[.float .f64 r, .int .i64 ((k1 : Int) - k2)]) ∧ Is .f64 r (dbN (hlN v k1) k2) ∧ w' = w.drewN m := by
  have h2 : Is .f64 4611686018427387904 two64 := is_lit64 _ (by decide)
  have hm : Is .f64 4609434218613702656 mid64 := is_lit64 _ (by decide)
  have hl : Is .f64 4604930618986332160 low64 := is_lit64 _ (by decide)
  have HE := Lib.hid E
  have l1 := E.l1
  have l2 := E.l2
  clear E
  go_enter Try.func15, Try.ntmps15
  go_wp2
  go_loopw [0, 4] (fun t i wr => ∃ k r m : Nat, k ≤ k1 ∧ i = .int .i64 k ∧ t = .float .f64 r ∧ Is .f64 r (hlN v k) ∧ wr = w.drewN m) (fun _ i _ => k1 - (intOf i).toNat)
  case atStart => exact ⟨0, _, 0, Nat.zero_le _, rfl, rfl, ix, rfl⟩
  case round =>
    obtain ⟨k, r, m, hk, rfl, rfl, hs, rfl⟩ := hrel
    by_cases hlt : k < k1
    · have hc := HE.out.a1 k hlt
      go_wp2_with (first | (apply wpList_cmp; rfl; simp [Cmp]; rfl; rfl; (first | assumption | exact is_lit64 _ (by decide) | exact is_lit32 _ (by decide)); (first | assumption | exact is_lit64 _ (by decide) | exact is_lit32 _ (by decide)); intro Kq hKq; go_simp) | (apply wpList_arith; rfl; simp [Arith]; rfl; rfl; (first | assumption | exact is_lit64 _ (by decide) | exact is_lit32 _ (by decide)); (first | assumption | exact is_lit64 _ (by decide) | exact is_lit32 _ (by decide)); intro Kq hKq rq nq hq; go_simp))
      go_roundw
      case rel => exact ⟨k + 1, _, _, by omega, by go_num, rfl, by assumption, rfl⟩
      case measure => simp [intOf]; omega
    · have hkn : k = k1 := by omega
      subst hkn
      have hc := HE.out.b1
      go_wp2_with (first | (apply wpList_cmp; rfl; simp [Cmp]; rfl; rfl; (first | assumption | exact is_lit64 _ (by decide) | exact is_lit32 _ (by decide)); (first | assumption | exact is_lit64 _ (by decide) | exact is_lit32 _ (by decide)); intro Kq hKq; go_simp) | (apply wpList_arith; rfl; simp [Arith]; rfl; rfl; (first | assumption | exact is_lit64 _ (by decide) | exact is_lit32 _ (by decide)); (first | assumption | exact is_lit64 _ (by decide) | exact is_lit32 _ (by decide)); intro Kq hKq rq nq hq; go_simp))
      go_loopw [0, 4] (fun t i wr => ∃ j r m : Nat, j ≤ k2 ∧ i = .int .i64 ((k : Int) - j) ∧ t = .float .f64 r ∧ Is .f64 r (dbN (hlN v k) j) ∧ wr = w.drewN m) (fun _ i _ => (intOf i - k + k2).toNat)
      case atStart => exact ⟨0, _, _, Nat.zero_le _, by go_num, rfl, hs, rfl⟩
      case round =>
        obtain ⟨j, r, m, hj, rfl, rfl, hs, rfl⟩ := hrel
        by_cases hlt : j < k2
        · have hc := HE.out.a2 j hlt
          go_wp2_with (first | (apply wpList_cmp; rfl; simp [Cmp]; rfl; rfl; (first | assumption | exact is_lit64 _ (by decide) | exact is_lit32 _ (by decide)); (first | assumption | exact is_lit64 _ (by decide) | exact is_lit32 _ (by decide)); intro Kq hKq; go_simp) | (apply wpList_arith; rfl; simp [Arith]; rfl; rfl; (first | assumption | exact is_lit64 _ (by decide) | exact is_lit32 _ (by decide)); (first | assumption | exact is_lit64 _ (by decide) | exact is_lit32 _ (by decide)); intro Kq hKq rq nq hq; go_simp))
          go_roundw
          case rel => exact ⟨j + 1, _, _, by omega, by go_num, rfl, by assumption, rfl⟩
          case measure => simp [intOf]; omega
        · have hkn : j = k2 := by omega
          subst hkn
          have hc := HE.out.b2
          go_wp2_with (first | (apply wpList_cmp; rfl; simp [Cmp]; rfl; rfl; (first | assumption | exact is_lit64 _ (by decide) | exact is_lit32 _ (by decide)); (first | assumption | exact is_lit64 _ (by decide) | exact is_lit32 _ (by decide)); intro Kq hKq; go_simp) | (apply wpList_arith; rfl; simp [Arith]; rfl; rfl; (first | assumption | exact is_lit64 _ (by decide) | exact is_lit32 _ (by decide)); (first | assumption | exact is_lit64 _ (by decide) | exact is_lit32 _ (by decide)); intro Kq hKq rq nq hq; go_simp))
          go_ret2
          exact ⟨_, _, rfl, hs, rfl⟩

theorem logOf_main {x : Nat} {v : Option Nat} {k1 k2 : Nat} (E : Ends v k1 k2) (ix : Is .f64 x v) (n1 : cmpB .neq .f64 v v = false) (n2 : cmpB .lss .f64 v (some 0) = false) (n3 : cmpB .eql .f64 v (some 0) = false)
    (n4 : cmpB .gtr .f64 v (some 9218868437227405311) = false) (w : World) :
    Calls Try.prog 10 #[.float .f64 x] w (RetF .f64 (logN (dbN (hlN v k1) k2) ((k1 : Int) - k2)) w) := by
  have h2 : Is .f64 4611686018427387904 two64 := is_lit64 _ (by decide)
  have ho : Is .f64 4607182418800017408 (some 4607182418800017408) := is_lit64 _ (by decide)
  have HC := fun w => halved_any E ix w
  clear E
  unfold logN
  generalize dbN (hlN v k1) k2 = near at HC ⊢
  generalize (k1 : Int) - k2 = h at HC ⊢
  obtain ⟨s, hs⟩ : ∃ s, s = fo .quo .f64 (fo .sub .f64 near (some 4607182418800017408)) (fo .add .f64 near (some 4607182418800017408)) := ⟨_, rfl⟩
  rw [← hs]
  have HS := Lib.hid hs
  clear hs
  go_enter Try.func10, Try.ntmps10
  go_wp2_with (first | (apply wpList_cmp; rfl; simp [Cmp]; rfl; rfl; (first | assumption | exact is_lit64 _ (by decide) | exact is_lit32 _ (by decide)); (first | assumption | exact is_lit64 _ (by decide) | exact is_lit32 _ (by decide)); intro Kq hKq; go_simp) | (apply wpList_arith; rfl; simp [Arith]; rfl; rfl; (first | assumption | exact is_lit64 _ (by decide) | exact is_lit32 _ (by decide)); (first | assumption | exact is_lit64 _ (by decide) | exact is_lit32 _ (by decide)); intro Kq hKq rq nq hq; go_simp) | (go_at_call 12; refine (isNaN_any ix _).mono ?_; rintro eq wq ⟨nq, rfl, rfl⟩) | (go_at_call 14; refine (isInf1_any ix _).mono ?_; rintro eq wq ⟨nq, rfl, rfl⟩) | (go_at_call 15; refine (HC _).mono ?_; rintro eq wq ⟨rq, nq, rfl, hq', rfl⟩))
  rename_i hz2 _ _
  rw [← HS.out] at hz2 hq
  go_loopw [7, 8] (fun t i wr => ∃ k r m : Nat, k ≤ 13 ∧ i = .int .i64 (25 - 2 * (k : Int)) ∧ t = .float .f64 r ∧ Is .f64 r (serL (fo .mul .f64 s s) k) ∧ wr = w.drewN m) (fun _ i _ => (intOf i + 1).toNat)
  case atStart => exact ⟨0, _, _, Nat.zero_le _, rfl, rfl, is_zero64, rfl⟩
  case round =>
    obtain ⟨k, r, m, hk, rfl, rfl, hs, rfl⟩ := hrel
    by_cases hlt : k < 13
    · go_wp2_with (first | (apply wpList_arith; rfl; simp [Arith]; rfl; rfl; (first | assumption | exact is_lit64 _ (by decide) | exact is_lit32 _ (by decide)); (first | assumption | exact is_lit64 _ (by decide) | exact is_lit32 _ (by decide)); intro Kq hKq rq nq hq; go_simp) | (apply wpList_itof; exact Try.underlying3; exact Try.underlying27; rfl; rfl; intro Kq hKq rq hq; go_simp))
      go_roundw
      case rel => exact ⟨k + 1, _, _, by omega, by go_num, rfl, by assumption, rfl⟩
      case measure => simp [intOf]; omega
    · have hkn : k = 13 := by omega
      subst hkn
      go_wp2_with (first | (apply wpList_cmp; rfl; simp [Cmp]; rfl; rfl; (first | assumption | exact is_lit64 _ (by decide) | exact is_lit32 _ (by decide)); (first | assumption | exact is_lit64 _ (by decide) | exact is_lit32 _ (by decide)); intro Kq hKq; go_simp) | (apply wpList_arith; rfl; simp [Arith]; rfl; rfl; (first | assumption | exact is_lit64 _ (by decide) | exact is_lit32 _ (by decide)); (first | assumption | exact is_lit64 _ (by decide) | exact is_lit32 _ (by decide)); intro Kq hKq rq nq hq; go_simp) | (apply wpList_itof; exact Try.underlying3; exact Try.underlying27; rfl; rfl; intro Kq hKq rq hq; go_simp))
      go_ret
      exact ⟨_, _, rfl, by assumption, rfl⟩
end Go.Proofs.Ytjgdjhokkgandaa
