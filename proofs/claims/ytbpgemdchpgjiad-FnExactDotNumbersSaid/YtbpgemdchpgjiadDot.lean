/-
  Sums of the products of two lists of numbers, of the program and of the model. No condition.
-/
import Derived.Test.YtbpgemdchpgjiadSumL
import Derived.OwnWalk
namespace Go.Proofs.Ytbpgemdchpgjiad
open Go.RowKit

/-- The sum of the first k products, from left to right. -/
def dotO (f g : Nat → Nat) : Nat → Option Nat
  | 0 => some 0
  | k + 1 => fo .add .f32 (dotO f g k) (fo .mul .f32 (nrm .f32 (f k)) (nrm .f32 (g k)))

/-- A float operation in a region that draws its order. -/
theorem upon_arith {P : Program} {o : Oper} {a : Act} {next : Act → World → Prop} {Q : Exit → Act → World → Prop} {op : BinOp} {t : TypeId} {k : FloatKind} {x y : Nat} {va vb : Option Nat} {w : World} {f : Value → World → Result Next}
    (hop : Arith op) (ix : Is k x va) (iy : Is k y vb) (h : ∀ r n, Is k r (fo op k va vb) → o.upon P a next Q (f (.float k r) (w.drewN n))) : o.upon P a next Q (((binOp op t (.float k x) (.float k y)).run P w).andThen f) := by
  obtain ⟨r, n, hr, hi⟩ := run_arith P w hop t k x y ix iy
  rw [hr]
  exact h r n hi

theorem prodOf {a b : Nat} {u v : Option Nat} (ia : Is .f32 a u) (ib : Is .f32 b v) (w : World) :
    Calls Try.prog 17 #[.float .f32 a, .float .f32 b] w (RetF .f32 (fo .mul .f32 u v) w) := by
  go_enter Try.func17, Try.ntmps17
  go_wp2_with (apply wpList_arith; rfl; simp [Arith]; rfl; rfl; (first | assumption | exact is_lit64 _ (by decide) | exact is_lit32 _ (by decide)); (first | assumption | exact is_lit64 _ (by decide) | exact is_lit32 _ (by decide)); intro Kq hKq rq nq hq; go_simp)
  go_ret
  exact ⟨_, _, rfl, hq, rfl⟩

set_option maxHeartbeats 1600000 in
theorem sDot (b off cap b' off' cap' n : Nat) (f g : Nat → Nat) (w : World) (hn : n ≤ 1048576) (hw : ∀ i, i < n → f i < 2 ^ 32) (hw' : ∀ i, i < n → g i < 2 ^ 32)
    (hr : ∀ i, i < n → w.cell? ⟨b, off + i, none⟩ = some (.float .f32 (f i))) (hr' : ∀ i, i < n → w.cell? ⟨b', off' + i, none⟩ = some (.float .f32 (g i))) :
    Calls Try.prog 15 #[.slice (some ⟨b, off, none⟩) n cap, .slice (some ⟨b', off', none⟩) n cap'] w (RetF .f32 (dotO f g n) w) := by
  have HR := Lib.hid hr
  have HW := Lib.hid hw
  have HR' := Lib.hid hr'
  have HW' := Lib.hid hw'
  clear hr hw hr' hw'
  go_enter Try.func15, Try.ntmps15
  go_wp2
  go_loopw [5, 6] (fun s i wr => ∃ k r m : Nat, k ≤ n ∧ i = .int .i64 k ∧ s = .float .f32 r ∧ Is .f32 r (dotO f g k) ∧ wr = w.drewN m) (fun _ i _ => n - (intOf i).toNat)
  case atStart => exact ⟨0, 0, 0, Nat.zero_le _, rfl, rfl, zero32, rfl⟩
  case round =>
    obtain ⟨k, r, m, hk, rfl, rfl, hs, rfl⟩ := hrel
    by_cases hlt : k < n
    · have hc := HR.out k hlt
      have hc' := HR'.out k hlt
      have hi : Is .f32 (f k) (nrm .f32 (f k)) := Is.self (HW.out k hlt)
      have hi' : Is .f32 (g k) (nrm .f32 (g k)) := Is.self (HW'.out k hlt)
      have hlt' : ((k : Nat) : Int) < (n : Int) := by omega
      have hk0 : (0 : Int) ≤ (k : Int) := by omega
      go_wp2_with fail
      go_region_with (first | ((refine upon_arith (by simp [Arith]) hi hi' ?_); intro rq nq hq; go_simp) | ((refine upon_arith (by simp [Arith]) hs hq ?_); intro rq nq hq; go_simp))
      all_goals
        go_wp2
        go_roundw
        case rel => exact ⟨k + 1, _, _, by omega, by go_num, rfl, by assumption, rfl⟩
        case measure => simp [intOf]; omega
    · have hkn : Hid (k = n) := (show k = n by omega)
      go_wp2
      go_ret
      exact ⟨_, _, rfl, by rw [← hkn.out]; exact hs, rfl⟩

set_option maxHeartbeats 1600000 in
theorem iDot (b off cap b' off' cap' n : Nat) (f g : Nat → Nat) (w : World) (hn : n ≤ 256) (hw : ∀ i, i < n → f i < 2 ^ 32) (hw' : ∀ i, i < n → g i < 2 ^ 32)
    (hr : ∀ i, i < n → w.cell? ⟨b, off + i, none⟩ = some (.float .f32 (f i))) (hr' : ∀ i, i < n → w.cell? ⟨b', off' + i, none⟩ = some (.float .f32 (g i))) :
    Calls Try.prog 16 #[.slice (some ⟨b, off, none⟩) n cap, .slice (some ⟨b', off', none⟩) n cap', .func (.func 17) #[] #[]] w fun e w' => ∃ r m, e = .returned (.tuple #[.float .f32 r, .bool true]) ∧ Is .f32 r (dotO f g n) ∧ w' = w.drewN m := by
  have HR := Lib.hid hr
  have HW := Lib.hid hw
  have HR' := Lib.hid hr'
  have HW' := Lib.hid hw'
  clear hr hw hr' hw'
  have hd : decide (256 < ((n : Nat) : Int)) = false := by simp; omega
  go_enter Try.func16, Try.ntmps16
  go_wp2
  go_loopw [8, 23] (fun s i wr => ∃ k r m : Nat, k ≤ n ∧ i = .int .i64 k ∧ s = .float .f32 r ∧ Is .f32 r (dotO f g k) ∧ wr = w.drewN m) (fun _ i _ => n - (intOf i).toNat)
  case atStart => exact ⟨0, 0, 0, Nat.zero_le _, rfl, rfl, zero32, rfl⟩
  case round =>
    obtain ⟨k, r, m, hk, rfl, rfl, hs, rfl⟩ := hrel
    by_cases hlt : k < n
    · have hc := HR.out k hlt
      have hc' := HR'.out k hlt
      have hi : Is .f32 (f k) (nrm .f32 (f k)) := Is.self (HW.out k hlt)
      have hi' : Is .f32 (g k) (nrm .f32 (g k)) := Is.self (HW'.out k hlt)
      go_wp2_with (first | (go_at_call 17; refine (prodOf hi hi' _).mono ?_; rintro eq wq ⟨rp, np, rfl, hp, rfl⟩) | (apply wpList_arith; rfl; simp [Arith]; rfl; rfl; (first | assumption | exact is_lit64 _ (by decide) | exact is_lit32 _ (by decide)); (first | assumption | exact is_lit64 _ (by decide) | exact is_lit32 _ (by decide)); intro Kq hKq rq nq hq; go_simp))
      go_roundw
      case rel => exact ⟨k + 1, _, _, by omega, by go_num, rfl, hq, rfl⟩
      case measure => simp [intOf]; omega
    · have hkn : Hid (k = n) := (show k = n by omega)
      go_wp2
      go_ret2
      exact ⟨_, _, rfl, by rw [← hkn.out]; exact hs, rfl⟩

theorem specDotN (b off cap b' off' cap' n : Nat) (f g : Nat → Nat) (w : World) (hn : n ≤ 256) (hw : ∀ i, i < n → f i < 2 ^ 32) (hw' : ∀ i, i < n → g i < 2 ^ 32)
    (hr : ∀ i, i < n → w.cell? ⟨b, off + i, none⟩ = some (.float .f32 (f i))) (hr' : ∀ i, i < n → w.cell? ⟨b', off' + i, none⟩ = some (.float .f32 (g i))) :
    Calls Try.prog 10 #[.slice (some ⟨b, off, none⟩) n cap, .slice (some ⟨b', off', none⟩) n cap'] w fun e w' => ∃ r m, e = .returned (.tuple #[.float .f32 r, .bool true]) ∧ Is .f32 r (dotO f g n) ∧ w' = w.drewN m := by
  have hd : decide (((n : Nat) : Int) ≤ 256) = true := by simp; omega
  have HC := sDot b off cap b' off' cap' n f g w (by omega) hw hw' hr hr'
  clear hr hw hr' hw'
  go_enter Try.func10, Try.ntmps10
  go_wp2_with (first | (go_at_call 15; refine HC.mono ?_; rintro eq wq ⟨rq, nq, rfl, hq, rfl⟩) | go_in)
  go_ret2
  exact ⟨_, _, rfl, hq, rfl⟩

theorem specDotN_out (b off cap b' off' cap' n n' : Nat) (w : World) (hn : 256 < n ∨ n ≠ n') :
    Calls Try.prog 10 #[.slice (some ⟨b, off, none⟩) n cap, .slice (some ⟨b', off', none⟩) n' cap'] w fun e w' => e = .returned (.tuple #[.float .f32 0, .bool false]) ∧ w' = w := by
  by_cases h2 : n ≤ 256
  · have hd : decide (((n : Nat) : Int) ≤ 256) = true := by simp; omega
    have hne : ¬ (((n : Nat) : Int) = ((n' : Nat) : Int)) := by omega
    go_enter Try.func10, Try.ntmps10
    go_wp2
    go_ret2
    exact ⟨rfl, rfl⟩
  · have hd : decide (((n : Nat) : Int) ≤ 256) = false := by simp; omega
    go_enter Try.func10, Try.ntmps10
    go_wp2
    go_ret2
    exact ⟨rfl, rfl⟩

theorem implDotN (b off cap b' off' cap' n : Nat) (f g : Nat → Nat) (w : World) (hn : n ≤ 256) (hw : ∀ i, i < n → f i < 2 ^ 32) (hw' : ∀ i, i < n → g i < 2 ^ 32)
    (hr : ∀ i, i < n → w.cell? ⟨b, off + i, none⟩ = some (.float .f32 (f i))) (hr' : ∀ i, i < n → w.cell? ⟨b', off' + i, none⟩ = some (.float .f32 (g i))) :
    Calls Try.prog 11 #[.slice (some ⟨b, off, none⟩) n cap, .slice (some ⟨b', off', none⟩) n cap'] w fun e w' => ∃ r m, e = .returned (.tuple #[.float .f32 r, .bool true]) ∧ Is .f32 r (dotO f g n) ∧ w' = w.drewN m := by
  have HC := iDot b off cap b' off' cap' n f g w hn hw hw' hr hr'
  clear hr hw hr' hw'
  go_enter Try.func11, Try.ntmps11
  go_wp2_with (go_at_call 16; refine HC.mono ?_; rintro eq wq ⟨rq, nq, rfl, hq, rfl⟩)
  go_ret2
  exact ⟨_, _, rfl, hq, rfl⟩

theorem implDotN_out (b off cap b' off' cap' n n' : Nat) (w : World) (hn : 256 < n ∨ n ≠ n') :
    Calls Try.prog 11 #[.slice (some ⟨b, off, none⟩) n cap, .slice (some ⟨b', off', none⟩) n' cap'] w fun e w' => e = .returned (.tuple #[.float .f32 0, .bool false]) ∧ w' = w := by
  by_cases h2 : n ≤ 256
  · have hd : decide (256 < ((n : Nat) : Int)) = false := by simp; omega
    have hne : ¬ (((n : Nat) : Int) = ((n' : Nat) : Int)) := by omega
    go_enter Try.func11, Try.ntmps11
    go_wp2
    go_ret2
    exact ⟨rfl, rfl⟩
  · have hd : decide (256 < ((n : Nat) : Int)) = true := by simp; omega
    go_enter Try.func11, Try.ntmps11
    go_wp2
    go_ret2
    exact ⟨rfl, rfl⟩
end Go.Proofs.Ytbpgemdchpgjiad
