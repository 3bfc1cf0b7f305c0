/-
  What the functions on the bits of a number give, of the program and of the model, and that the comparison of two results says yes where both stand for the same value. No condition.
-/
import Derived.Test.YtbpgemdchpgjiaaBase
import Derived.Test.YtbpgemdchpgjiaaLow
namespace Go.Proofs.Ytbpgemdchpgjiaa
open Go.RowKit

theorem und32 : (Try.prog.underlying 22).isSome = true := by rw [Try.underlying22]; rfl
theorem und64 : (Try.prog.underlying 29).isSome = true := by rw [Try.underlying29]; rfl

theorem f32bits (x : Nat) (w : World) : (callFunc 21 #[.float .f32 x]).run Try.prog w = .ok (.value (.int .u32 x)) w := by
  rw [run_callFunc_extern Try.func21 (by kernel_rfl) (by kernel_rfl) (by kernel_rfl) (e := Extern.MathFloatBits.float32bits) (by kernel_rfl)]; rfl

theorem isNaN_any {x : Nat} {v : Option Nat} (ix : Is .f64 x v) (w : World) :
    Calls Try.prog 20 #[.float .f64 x] w (RetV (.bool (cmpB .neq .f64 v v)) w) := by
  go_enter Try.func20, Try.ntmps20
  go_wp2_with (apply wpList_cmp; rfl; simp [Cmp]; rfl; rfl; (first | assumption | exact is_lit64 _ (by decide) | exact is_lit32 _ (by decide)); (first | assumption | exact is_lit64 _ (by decide) | exact is_lit32 _ (by decide)); intro Kq hKq; go_simp)
  go_ret
  exact RetV.mk0

theorem bits_wrap {x : Nat} (h : x < 2 ^ 32) : ((x : Int)) < 4294967296 := by have : x < 4294967296 := h; omega

theorem neq_of {k : FloatKind} {b : Nat} {v : Option Nat} (h : Is k b v) : cmpB .neq k v v = v.isNone := by
  cases v with
  | none => rfl
  | some x => rw [neq_self h]; rfl

/-- What a 32-bit number is in 64 bits. -/
theorem cv_is {x : Nat} {v : Option Nat} (ix : Is .f32 x v) : (v = none ∧ cv .f32 .f64 v = none) ∨ ∃ y, v = some x ∧ cv .f32 .f64 v = some y ∧ Is .f64 y (some y) := by
  cases v with
  | none => exact .inl ⟨rfl, rfl⟩
  | some z =>
    obtain rfl := ix.notNaN
    obtain ⟨y, hy⟩ := Option.isSome_iff_exists.1 (fit_widen ix x rfl)
    exact .inr ⟨y, rfl, hy, cv_notNaN (by decide) hy⟩

theorem cv_neq {x : Nat} {v : Option Nat} (ix : Is .f32 x v) : cmpB .neq .f64 (cv .f32 .f64 v) (cv .f32 .f64 v) = v.isNone := by
  rcases cv_is ix with ⟨rfl, h⟩ | ⟨y, rfl, h, hi⟩
  · rw [h]; rfl
  · rw [h, neq_self hi]; rfl

theorem l01Bits_any {x : Nat} {v : Option Nat} (ix : Is .f32 x v) (w : World) :
    Calls Try.prog 19 #[.float .f32 x] w (RetV (.int .i64 (bitsI v)) w) := by
  have hb := f32bits
  have hx : (x : Int) < 4294967296 := bits_wrap ix.2
  cases v with
  | none =>
    have hc := neq_of ix
    go_enter Try.func19, Try.ntmps19
    go_wp2_with (apply wpList_cmp; rfl; simp [Cmp]; rfl; rfl; (first | assumption | exact is_lit64 _ (by decide) | exact is_lit32 _ (by decide)); (first | assumption | exact is_lit64 _ (by decide) | exact is_lit32 _ (by decide)); intro Kq hKq; go_simp)
    go_ret
    exact RetV.mk0
  | some y =>
    obtain rfl := ix.notNaN
    have hc := neq_of ix
    go_enter Try.func19, Try.ntmps19
    go_wp2_with (apply wpList_cmp; rfl; simp [Cmp]; rfl; rfl; (first | assumption | exact is_lit64 _ (by decide) | exact is_lit32 _ (by decide)); (first | assumption | exact is_lit64 _ (by decide) | exact is_lit32 _ (by decide)); intro Kq hKq; go_simp)
    go_ret
    exact RetV.mk0

theorem bitsOf_any {x : Nat} {v : Option Nat} (ix : Is .f32 x v) (w : World) :
    Calls Try.prog 12 #[.float .f32 x] w (RetV (.int .i64 (bitsI v)) w) := by
  have hb := f32bits
  have hx : (x : Int) < 4294967296 := bits_wrap ix.2
  have hc := cv_neq ix
  cases v with
  | none =>
    go_enter Try.func12, Try.ntmps12
    go_wp2_with (first | (apply wpList_wide und32 Try.underlying29; rfl; rfl; (first | assumption | exact is_lit64 _ (by decide) | exact is_lit32 _ (by decide)); intro Kq hKq rq nq hq; go_simp) | (go_at_call 20; refine (isNaN_any (by assumption) _).mono ?_; rintro eq wq ⟨nq, rfl, rfl⟩))
    go_ret
    exact RetV.mk _
  | some y =>
    obtain rfl := ix.notNaN
    go_enter Try.func12, Try.ntmps12
    go_wp2_with (first | (apply wpList_wide und32 Try.underlying29; rfl; rfl; (first | assumption | exact is_lit64 _ (by decide) | exact is_lit32 _ (by decide)); intro Kq hKq rq nq hq; go_simp) | (go_at_call 20; refine (isNaN_any (by assumption) _).mono ?_; rintro eq wq ⟨nq, rfl, rfl⟩))
    go_ret
    exact RetV.mk _
end Go.Proofs.Ytbpgemdchpgjiaa
