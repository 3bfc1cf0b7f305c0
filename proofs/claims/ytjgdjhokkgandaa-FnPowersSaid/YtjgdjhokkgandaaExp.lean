/-
  A power of e, of the program, and integers as 32-bit numbers. No condition.
-/
import Derived.Test.YtjgdjhokkgandaaIntF
import Derived.Test.YtjgdjhokkgandaaNumT
import Derived.Lib.Hide
namespace Go.Proofs.Ytjgdjhokkgandaa
open Go.RowKit

/-- An integer as a 32-bit number. -/
def ifS (n : Int) : Option Nat := some (FloatKind.f32.nearest n)
theorem is_ifS (n : Int) : Is .f32 (FloatKind.f32.nearest n) (ifS n) := by
  refine ⟨?_, (show FloatKind.f32.format.write (.number (n < 0) n.natAbs 0) < _ from Ieee.Format.write_lt _ _)⟩
  have := write_notNaN .f32 (.number (n < 0) n.natAbs 0) rfl
  unfold nrm FloatKind.nearest ifS
  rw [if_neg (by rw [this]; decide)]
  rfl
theorem wpList_itofS {P : Program} {w : World} {ops : Array Oper} {rest : List Oper} {dt ty ps af gd} {a : Act} {Q : Exit → Act → World → Prop}
    {src dst : TypeId} {xo : Operand} {n : Int}
    (hs : P.underlying src = some (.int .i64)) (hd : P.underlying dst = some (.float .f32))
    (hw : Region.wanted { dst := dt, op := .convert src dst xo, type := ty, pos := ps, after := af, guard := gd } (yielded ops a.tmps) = true)
    (hx : a.eval xo = .int .i64 n)
    (h : ∀ K : Act → World → Prop, (∀ a w, wpList P ops Q rest a w → K a w) → ∀ r, Is .f32 r (ifS n) → K (a.put dt (.float .f32 r)) w) :
    wpList P ops Q ({ dst := dt, op := .convert src dst xo, type := ty, pos := ps, after := af, guard := gd } :: rest) a w := by
  refine wpList_wanted hw fun K hK => ?_
  unfold Oper.wp
  have hrun : (convert src dst (.int .i64 n)).run P w = .ok (.float .f32 (FloatKind.f32.nearest n)) w := by
    simp [convert, run_underlying hs, run_underlying hd, Conv.intToFloat]
  simp [execOp, hx, hrun, Result.andThen, Oper.upon]
  exact h K hK _ (is_ifS n)

def serE (t : Option Nat) : Nat → Option Nat
  | 0 => some 4607182418800017408
  | j + 1 => fo .add .f64 (some 4607182418800017408) (fo .quo .f64 (fo .mul .f64 t (serE t j)) (ifO (12 - (j : Int))))
def sqN (p : Option Nat) : Nat → Option Nat
  | 0 => p
  | j + 1 => fo .mul .f64 (sqN p j) (sqN p j)
/-- A power of e, for a number that is not far from 0. -/
def expE (v : Option Nat) : Option Nat := sqN (serE (fo .quo .f64 v (some 4643211215818981376)) 12) 8

theorem exp_any {x : Nat} {v : Option Nat} (ix : Is .f64 x v) (h1 : cmpB .gtr .f64 v (some 4641240890982006784) = false) (h2 : cmpB .lss .f64 v (some 13864612927836782592) = false) (w : World) :
    Calls Try.prog 9 #[.float .f64 x] w (RetF .f64 (expE v) w) := by
  have ho : Is .f64 4607182418800017408 (some 4607182418800017408) := is_lit64 _ (by decide)
  unfold expE
  obtain ⟨t, ht⟩ : ∃ t, t = fo .quo .f64 v (some 4643211215818981376) := ⟨_, rfl⟩
  rw [← ht]
  have HT := Lib.hid ht
  clear ht
  go_enter Try.func9, Try.ntmps9
  go_wp2_with (first | (apply wpList_cmp; rfl; simp [Cmp]; rfl; rfl; (first | assumption | exact is_lit64 _ (by decide) | exact is_lit32 _ (by decide)); (first | assumption | exact is_lit64 _ (by decide) | exact is_lit32 _ (by decide)); intro Kq hKq; go_simp) | (apply wpList_arith; rfl; simp [Arith]; rfl; rfl; (first | assumption | exact is_lit64 _ (by decide) | exact is_lit32 _ (by decide)); (first | assumption | exact is_lit64 _ (by decide) | exact is_lit32 _ (by decide)); intro Kq hKq rq nq hq; go_simp))
  rw [← HT.out] at hq
  go_loopw [4, 5] (fun p i wr => ∃ k r m : Nat, k ≤ 12 ∧ i = .int .i64 (12 - (k : Int)) ∧ p = .float .f64 r ∧ Is .f64 r (serE t k) ∧ wr = w.drewN m) (fun _ i _ => (intOf i).toNat)
  case atStart => exact ⟨0, _, _, Nat.zero_le _, rfl, rfl, ho, rfl⟩
  case round =>
    obtain ⟨k, r, m, hk, rfl, rfl, hs, rfl⟩ := hrel
    by_cases hlt : k < 12
    · go_wp2_with (first | (apply wpList_arith; rfl; simp [Arith]; rfl; rfl; (first | assumption | exact is_lit64 _ (by decide) | exact is_lit32 _ (by decide)); (first | assumption | exact is_lit64 _ (by decide) | exact is_lit32 _ (by decide)); intro Kq hKq rq nq hq; go_simp) | (apply wpList_itof; exact Try.underlying3; exact Try.underlying27; rfl; rfl; intro Kq hKq rq hq; go_simp))
      go_roundw
      case rel => exact ⟨k + 1, _, _, by omega, by go_num, rfl, by assumption, rfl⟩
      case measure => simp [intOf]; omega
    · have hkn : k = 12 := by omega
      subst hkn
      go_wp2_with (first | (apply wpList_arith; rfl; simp [Arith]; rfl; rfl; (first | assumption | exact is_lit64 _ (by decide) | exact is_lit32 _ (by decide)); (first | assumption | exact is_lit64 _ (by decide) | exact is_lit32 _ (by decide)); intro Kq hKq rq nq hq; go_simp))
      go_loopw [4, 24] (fun p i wr => ∃ j r m : Nat, j ≤ 8 ∧ i = .int .i64 (j : Int) ∧ p = .float .f64 r ∧ Is .f64 r (sqN (serE t 12) j) ∧ wr = w.drewN m) (fun _ i _ => 8 - (intOf i).toNat)
      case atStart => exact ⟨0, _, _, Nat.zero_le _, rfl, rfl, hs, rfl⟩
      case round =>
        obtain ⟨j, r, m, hj, rfl, rfl, hs, rfl⟩ := hrel
        by_cases hlt : j < 8
        · go_wp2_with (first | (apply wpList_arith; rfl; simp [Arith]; rfl; rfl; (first | assumption | exact is_lit64 _ (by decide) | exact is_lit32 _ (by decide)); (first | assumption | exact is_lit64 _ (by decide) | exact is_lit32 _ (by decide)); intro Kq hKq rq nq hq; go_simp))
          go_roundw
          case rel => exact ⟨_, _, _, _, _, _, _, ⟨j + 1, _, _, by omega, by go_num, rfl, by assumption, rfl⟩, rfl⟩
          case measure => simp [intOf]; omega
        · have hkn : j = 8 := by omega
          subst hkn
          go_wp2_with (first | (apply wpList_arith; rfl; simp [Arith]; rfl; rfl; (first | assumption | exact is_lit64 _ (by decide) | exact is_lit32 _ (by decide)); (first | assumption | exact is_lit64 _ (by decide) | exact is_lit32 _ (by decide)); intro Kq hKq rq nq hq; go_simp))
          go_ret
          exact ⟨_, _, rfl, by assumption, rfl⟩

theorem expN_any {x : Nat} {v : Option Nat} (ix : Is .f32 x v) (h1 : cmpB .gtr .f64 (cv .f32 .f64 v) (some 4641240890982006784) = false) (h2 : cmpB .lss .f64 (cv .f32 .f64 v) (some 13864612927836782592) = false)
    (hf : Fit .f64 .f32 (expE (cv .f32 .f64 v))) (w : World) :
    Calls Try.prog 6 #[.float .f32 x] w (RetF .f32 (cv .f64 .f32 (expE (cv .f32 .f64 v))) w) := by
  go_enter Try.func6, Try.ntmps6
  go_wp2_with (first | (apply wpList_wide und32 Try.underlying27; rfl; rfl; (first | assumption | exact is_lit64 _ (by decide) | exact is_lit32 _ (by decide)); intro Kq hKq rq nq hq; go_simp) | (apply wpList_cv .f64 .f32 (by decide) und64 Try.underlying24; rfl; rfl; (first | assumption | exact is_lit64 _ (by decide) | exact is_lit32 _ (by decide)); exact hf; intro Kq hKq rq nq hq; go_simp) | (go_at_call 9; refine (exp_any (by assumption) h1 h2 _).mono ?_; rintro eq wq ⟨rq, nq, rfl, hq, rfl⟩))
  go_ret
  exact ⟨_, _, rfl, by assumption, rfl⟩

/-- How far two numbers are from each other. -/
def gapO (a b : Option Nat) : Option Nat := if cmpB .lss .f64 a b then fo .sub .f64 b a else fo .sub .f64 a b
theorem gap_any {x y : Nat} {u v : Option Nat} (ix : Is .f64 x u) (iy : Is .f64 y v) (w : World) :
    Calls Try.prog 7 #[.float .f64 x, .float .f64 y] w (RetF .f64 (gapO u v) w) := by
  unfold gapO
  cases h : cmpB .lss .f64 u v with
  | true =>
    simp only [if_true]
    go_enter Try.func7, Try.ntmps7
    go_wp2_with (first | (apply wpList_cmp; rfl; simp [Cmp]; rfl; rfl; (first | assumption | exact is_lit64 _ (by decide) | exact is_lit32 _ (by decide)); (first | assumption | exact is_lit64 _ (by decide) | exact is_lit32 _ (by decide)); intro Kq hKq; go_simp) | (apply wpList_arith; rfl; simp [Arith]; rfl; rfl; (first | assumption | exact is_lit64 _ (by decide) | exact is_lit32 _ (by decide)); (first | assumption | exact is_lit64 _ (by decide) | exact is_lit32 _ (by decide)); intro Kq hKq rq nq hq; go_simp))
    go_ret
    exact ⟨_, _, rfl, by assumption, rfl⟩
  | false =>
    simp only [Bool.false_eq_true, if_false]
    go_enter Try.func7, Try.ntmps7
    go_wp2_with (first | (apply wpList_cmp; rfl; simp [Cmp]; rfl; rfl; (first | assumption | exact is_lit64 _ (by decide) | exact is_lit32 _ (by decide)); (first | assumption | exact is_lit64 _ (by decide) | exact is_lit32 _ (by decide)); intro Kq hKq; go_simp) | (apply wpList_arith; rfl; simp [Arith]; rfl; rfl; (first | assumption | exact is_lit64 _ (by decide) | exact is_lit32 _ (by decide)); (first | assumption | exact is_lit64 _ (by decide) | exact is_lit32 _ (by decide)); intro Kq hKq rq nq hq; go_simp))
    go_ret
    exact ⟨_, _, rfl, by assumption, rfl⟩
end Go.Proofs.Ytjgdjhokkgandaa
