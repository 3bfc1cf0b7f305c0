/-
  The bits of a 64-bit number, and a number without its sign, of the library. No condition.
-/
import Derived.Test.YtjljdnkedbejaaaOps
namespace Go.Proofs.Ytjljdnkedbejaaa
open Go.RowKit

theorem f64bits (x : Nat) (w : World) : (callFunc 73 #[.float .f64 x]).run Try.prog w = .ok (.value (.int .u64 x)) w := by
  rw [run_callFunc_extern Try.func73 (by kernel_rfl) (by kernel_rfl) (by kernel_rfl) (e := Extern.MathFloatBits.float64bits) (by kernel_rfl)]; rfl
theorem f64from (n : Int) (w : World) : (callFunc 72 #[.int .u64 n]).run Try.prog w = .ok (.value (.float .f64 n.toNat)) w := by
  rw [run_callFunc_extern Try.func72 (by kernel_rfl) (by kernel_rfl) (by kernel_rfl) (e := Extern.MathFloatBits.float64frombits) (by kernel_rfl)]; rfl
def absO (v : Option Nat) : Option Nat := v.map fun b => b % 2 ^ 63

theorem is_abs {x : Nat} {v : Option Nat} (ix : Is .f64 x v) : Is .f64 (x % 2 ^ 63) (absO v) := by
  have hr := read_abs .f64 x
  have e : FloatKind.f64.format.signWeight = 2 ^ 63 := rfl
  rw [e] at hr
  refine ⟨?_, Nat.lt_of_lt_of_le (Nat.mod_lt _ (Nat.two_pow_pos _)) (Nat.pow_le_pow_right (by decide) (by decide))⟩
  cases v with
  | none =>
    have hn : (FloatKind.f64.format.read x).isNaN = true := by
      have h1 := ix.1
      unfold nrm at h1
      by_cases hn : (FloatKind.f64.decode x).isNaN = true
      · exact hn
      · rw [if_neg hn] at h1; cases h1
    obtain ⟨s, f, hd⟩ := nan_cases hn
    rw [hd] at hr
    unfold nrm FloatKind.decode
    rw [hr]; rfl
  | some y =>
    obtain rfl := ix.notNaN
    have hn := ix.dec
    unfold FloatKind.decode at hn
    unfold nrm FloatKind.decode
    rw [hr]
    cases hd : FloatKind.f64.format.read x with
    | number s m e => rfl
    | infinity s => rfl
    | nan s f => rw [hd] at hn; cases hn

theorem abs_bits {x : Nat} (h : x < 2 ^ 64) : (bits .andNot .u64 (x : Int) 9223372036854775808).toNat = x % 2 ^ 63 := by
  have h' : x < 18446744073709551616 := h
  rw [u64_andNot (x : Int) 9223372036854775808 (by omega) (by omega) (by decide) (by decide), Int.toNat_natCast, Int.toNat_natCast]
  show x &&& (2 ^ 63 - 1) = _
  rw [Nat.and_two_pow_sub_one_eq_mod]

theorem abs_any {x : Nat} {v : Option Nat} (ix : Is .f64 x v) (w : World) :
    Calls Try.prog 66 #[.float .f64 x] w (RetF .f64 (absO v) w) := by
  have hb := f64bits
  have hf := f64from
  go_enter Try.func66, Try.ntmps66
  go_wp2
  go_ret
  exact ⟨_, 0, rfl, (abs_bits ix.2).symm ▸ is_abs ix, rfl⟩

end Go.Proofs.Ytjljdnkedbejaaa
