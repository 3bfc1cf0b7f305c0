/-
  The number with some bits, of the program. No condition.
-/
import Derived.Test.YtbcbaejfafamjaaDoorBase
import Derived.WalkKit
namespace Go.Proofs.YtbcbaejfafamjaaDoor
open Go.RowKit

theorem f32from (n : Int) (w : World) : (callFunc 66 #[.int .u32 n]).run Tryd.prog w = .ok (.value (.float .f32 n.toNat)) w := by
  rw [run_callFunc_extern Tryd.func66 (by kernel_rfl) (by kernel_rfl) (by kernel_rfl) (e := Extern.MathFloatBits.float32frombits) (by kernel_rfl)]; rfl

theorem fromImpl_in (n : Int) (h0 : 0 ≤ n) (h1 : n ≤ 4294967295) (w : World) :
    Calls Tryd.prog 49 #[.int .i64 n] w (RetV (.tuple #[.float .f32 n.toNat, .bool true]) w) := by
  have hf := f32from
  go_enter Tryd.func49, Tryd.ntmps49
  go_wp2
  go_ret2
  exact RetV.mk0

theorem fromImpl_out (n : Int) (h : n < 0 ∨ 4294967295 < n) (w : World) :
    Calls Tryd.prog 49 #[.int .i64 n] w (RetV (.tuple #[.float .f32 0, .bool false]) w) := by
  rcases h with h | h
  · go_enter Tryd.func49, Tryd.ntmps49
    go_wp2
    go_ret2
    exact RetV.mk0
  · have h0 : 0 ≤ n := by omega
    have hd : decide (n ≤ 4294967295) = false := by simp; omega
    go_enter Tryd.func49, Tryd.ntmps49
    go_wp2
    go_ret2
    exact RetV.mk0
end Go.Proofs.YtbcbaejfafamjaaDoor
