/-
  The bits of a number, of the model. No condition.
-/
import Derived.Test.YtbcbaejfafamjaaDoorOps
namespace Go.Proofs.YtbcbaejfafamjaaDoor
open Go.RowKit

theorem f32bits (x : Nat) (w : World) : (callFunc 67 #[.float .f32 x]).run Tryd.prog w = .ok (.value (.int .u32 x)) w := by
  rw [run_callFunc_extern Tryd.func67 (by kernel_rfl) (by kernel_rfl) (by kernel_rfl) (e := Extern.MathFloatBits.float32bits) (by kernel_rfl)]; rfl

theorem l01Bits_any {x : Nat} {v : Option Nat} (ix : Is .f32 x v) (w : World) :
    Calls Tryd.prog 48 #[.float .f32 x] w (RetV (.int .i64 (bitsI v)) w) := by
  have hb := f32bits
  have hx : (x : Int) < 4294967296 := bits_wrap ix.2
  cases v with
  | none =>
    have hc := neq_of ix
    go_enter Tryd.func48, Tryd.ntmps48
    go_wp2_with (apply wpList_cmp; rfl; simp [Cmp]; rfl; rfl; (first | assumption | exact is_lit64 _ (by decide) | exact is_lit32 _ (by decide)); (first | assumption | exact is_lit64 _ (by decide) | exact is_lit32 _ (by decide)); intro Kq hKq; go_simp)
    go_ret
    exact RetV.mk0
  | some y =>
    obtain rfl := ix.notNaN
    have hc := neq_of ix
    go_enter Tryd.func48, Tryd.ntmps48
    go_wp2_with (apply wpList_cmp; rfl; simp [Cmp]; rfl; rfl; (first | assumption | exact is_lit64 _ (by decide) | exact is_lit32 _ (by decide)); (first | assumption | exact is_lit64 _ (by decide) | exact is_lit32 _ (by decide)); intro Kq hKq; go_simp)
    go_ret
    exact RetV.mk0

end Go.Proofs.YtbcbaejfafamjaaDoor
