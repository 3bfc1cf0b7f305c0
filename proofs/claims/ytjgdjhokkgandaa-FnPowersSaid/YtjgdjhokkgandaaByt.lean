/-
  Slices of bytes, and a number that is chosen by one of them. No condition.
-/
import Derived.Test.YtjgdjhokkgandaaOps
import Derived.Lib.Hide
namespace Go.Proofs.Ytjgdjhokkgandaa
open Go.RowKit

/-- The cells of a slice of bytes: nothing is asked of an empty one. -/
def RowB (w : World) (a : Option Addr) (n : Nat) (f : Nat → Nat) : Prop := (n = 0) ∨ ∃ b off, a = some ⟨b, off, none⟩ ∧ b < w.heap.size ∧ ∀ i, i < n → w.cell? ⟨b, off + i, none⟩ = some (.int .u8 (f i : Int))

theorem RowB.below {w W : World} {a : Option Addr} {n : Nat} {f : Nat → Nat} (h : RowB w a n f) (hb : Below w.heap.size w W) : RowB W a n f := by
  rcases h with h | ⟨b, off, rfl, hlt, hr⟩
  · exact .inl h
  · exact .inr ⟨b, off, rfl, Nat.lt_of_lt_of_le hlt hb.size, fun i hi => (hb.cell (p := ⟨b, off + i, none⟩) hlt).trans (hr i hi)⟩

def atF (n : Nat) (f : Nat → Nat) (i m : Nat) : Nat := if i < n then f i % m else (i * 37 + 11) % m
theorem atF_lt {n : Nat} {f : Nat → Nat} {i m : Nat} (hm : 0 < m) : atF n f i m < m := by unfold atF; split <;> exact Nat.mod_lt _ hm

theorem at_any {a : Option Addr} {n : Nat} {f : Nat → Nat} {w : World} (cap : Nat) (i m : Nat) (hn : n ≤ 1048576) (hi : i ≤ 1000) (hm : 2 ≤ m) (hm' : m ≤ 100000) (hf : ∀ j, j < n → f j < 256) (h : RowB w a n f) :
    Calls Try.prog 5 #[.slice a n cap, .int .i64 i, .int .i64 m] w (RetV (.int .i64 (atF n f i m : Nat)) w) := by
  have h1 : decide ((m : Int) ≤ 1) = false := by simp; omega
  have hz : ¬ (m : Int) = 0 := by omega
  by_cases hlt : i < n
  · have e : atF n f i m = f i % m := by unfold atF; rw [if_pos hlt]
    rw [e]
    rcases h with rfl | ⟨b, off, rfl, hb, hr⟩
    · omega
    · have hc := hr i hlt
      have h2 : decide ((i : Int) < (n : Int)) = true := by simp; omega
      have hb := hf i hlt
      go_enter Try.func5, Try.ntmps5
      go_wp2
      go_ret
      exact RetV.eq 0 (by simp)
  · have e : atF n f i m = (i * 37 + 11) % m := by unfold atF; rw [if_neg hlt]
    rw [e]
    have h2 : decide ((i : Int) < (n : Int)) = false := by simp; omega
    go_enter Try.func5, Try.ntmps5
    go_wp2
    go_ret
    exact RetV.eq 0 (by simp)
end Go.Proofs.Ytjgdjhokkgandaa
