/-
  A power of e, of the program, and integers as 32-bit numbers. No condition.
-/
import Derived.Test.YtdkjekdokajfgaaIntF
import Derived.Test.YtdkjekdokajfgaaNumT
import Derived.Lib.Hide
namespace Go.Proofs.Ytdkjekdokajfgaa
open Go.RowKit

/-- An integer as a 32-bit number. -/

def serE (t : Option Nat) : Nat → Option Nat
  | 0 => some 4607182418800017408
  | j + 1 => fo .add .f64 (some 4607182418800017408) (fo .quo .f64 (fo .mul .f64 t (serE t j)) (ifO (12 - (j : Int))))
def sqN (p : Option Nat) : Nat → Option Nat
  | 0 => p
  | j + 1 => fo .mul .f64 (sqN p j) (sqN p j)
/-- A power of e, for a number that is not far from 0. -/
def expE (v : Option Nat) : Option Nat := sqN (serE (fo .quo .f64 v (some 4643211215818981376)) 12) 8

theorem exp_any {x : Nat} {v : Option Nat} (ix : Is .f64 x v) (h1 : cmpB .gtr .f64 v (some 4641240890982006784) = false) (h2 : cmpB .lss .f64 v (some 13864612927836782592) = false) (w : World) :
    Calls Try.prog 42 #[.float .f64 x] w (RetF .f64 (expE v) w) := by
  have ho : Is .f64 4607182418800017408 (some 4607182418800017408) := is_lit64 _ (by decide)
  unfold expE
  obtain ⟨t, ht⟩ : ∃ t, t = fo .quo .f64 v (some 4643211215818981376) := ⟨_, rfl⟩
  rw [← ht]
  have HT := Lib.hid ht
  clear ht
  go_enter Try.func42, Try.ntmps42
  go_wp2_with (first | (apply wpList_cmp; rfl; simp [Cmp]; rfl; rfl; (first | assumption | exact is_lit64 _ (by decide) | exact is_lit32 _ (by decide)); (first | assumption | exact is_lit64 _ (by decide) | exact is_lit32 _ (by decide)); intro Kq hKq; go_simp) | (apply wpList_arith; rfl; simp [Arith]; rfl; rfl; (first | assumption | exact is_lit64 _ (by decide) | exact is_lit32 _ (by decide)); (first | assumption | exact is_lit64 _ (by decide) | exact is_lit32 _ (by decide)); intro Kq hKq rq nq hq; go_simp))
  rw [← HT.out] at hq
  go_loopw [4, 5] (fun p i wr => ∃ k r m : Nat, k ≤ 12 ∧ i = .int .i64 (12 - (k : Int)) ∧ p = .float .f64 r ∧ Is .f64 r (serE t k) ∧ wr = w.drewN m) (fun _ i _ => (intOf i).toNat)
  case atStart => exact ⟨0, _, _, Nat.zero_le _, rfl, rfl, ho, rfl⟩
  case round =>
    obtain ⟨k, r, m, hk, rfl, rfl, hs, rfl⟩ := hrel
    by_cases hlt : k < 12
    · go_wp2_with (first | (apply wpList_arith; rfl; simp [Arith]; rfl; rfl; (first | assumption | exact is_lit64 _ (by decide) | exact is_lit32 _ (by decide)); (first | assumption | exact is_lit64 _ (by decide) | exact is_lit32 _ (by decide)); intro Kq hKq rq nq hq; go_simp) | (apply wpList_itof; exact Try.underlying3; exact Try.underlying42; rfl; rfl; intro Kq hKq rq hq; go_simp))
      go_roundw
      case rel => exact ⟨k + 1, _, _, by omega, by go_num, rfl, by assumption, rfl⟩
      case measure => simp [intOf]; omega
    · have hkn : k = 12 := by omega
      subst hkn
      go_wp2_with (first | (apply wpList_arith; rfl; simp [Arith]; rfl; rfl; (first | assumption | exact is_lit64 _ (by decide) | exact is_lit32 _ (by decide)); (first | assumption | exact is_lit64 _ (by decide) | exact is_lit32 _ (by decide)); intro Kq hKq rq nq hq; go_simp))
      go_loopw [4, 24] (fun p i wr => ∃ j r m : Nat, j ≤ 8 ∧ i = .int .i64 (j : Int) ∧ p = .float .f64 r ∧ Is .f64 r (sqN (serE t 12) j) ∧ wr = w.drewN m) (fun _ i _ => 8 - (intOf i).toNat)
      case atStart => exact ⟨0, _, _, Nat.zero_le _, rfl, rfl, hs, rfl⟩
      case round =>
        obtain ⟨j, r, m, hj, rfl, rfl, hs, rfl⟩ := hrel
        by_cases hlt : j < 8
        · go_wp2_with (first | (apply wpList_arith; rfl; simp [Arith]; rfl; rfl; (first | assumption | exact is_lit64 _ (by decide) | exact is_lit32 _ (by decide)); (first | assumption | exact is_lit64 _ (by decide) | exact is_lit32 _ (by decide)); intro Kq hKq rq nq hq; go_simp))
          go_roundw
          case rel => exact ⟨_, _, _, _, _, _, _, ⟨j + 1, _, _, by omega, by go_num, rfl, by assumption, rfl⟩, rfl⟩
          case measure => simp [intOf]; omega
        · have hkn : j = 8 := by omega
          subst hkn
          go_wp2_with (first | (apply wpList_arith; rfl; simp [Arith]; rfl; rfl; (first | assumption | exact is_lit64 _ (by decide) | exact is_lit32 _ (by decide)); (first | assumption | exact is_lit64 _ (by decide) | exact is_lit32 _ (by decide)); intro Kq hKq rq nq hq; go_simp))
          go_ret
          exact ⟨_, _, rfl, by assumption, rfl⟩
end Go.Proofs.Ytdkjekdokajfgaa
