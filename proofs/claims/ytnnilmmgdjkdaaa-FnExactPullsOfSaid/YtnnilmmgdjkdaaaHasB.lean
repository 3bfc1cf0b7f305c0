/-
  Whether a list has a body, in the program and in the model. No condition.
-/
import Derived.Test.YtnnilmmgdjkdaaaAreS
namespace Go.Proofs.Ytnnilmmgdjkdaaa
open Go.RowKit

/-- Whether a number is one of n bodies. -/
def inB (i : Int) (n : Nat) : Bool := decide (0 ≤ i) && decide (i < (n : Int))

theorem iBodyOf (a : Option Addr) (n cap : Nat) (i : Int) (w : World) :
    Calls Try.prog 35 #[.slice a n cap, .int .i64 i] w (RetV (.bool (inB i n)) w) := by
  unfold inB
  by_cases h0 : 0 ≤ i
  · have h1 : ¬ i < 0 := by omega
    by_cases h2 : i < (n : Int)
    · go_enter Try.func35, Try.ntmps35
      go_wp2
      go_ret
      exact RetV.eq 0 (by simp [h0, h2])
    · go_enter Try.func35, Try.ntmps35
      go_wp2
      go_ret
      exact RetV.eq 0 (by simp [h0, h2])
  · go_enter Try.func35, Try.ntmps35
    go_wp2
    go_ret
    exact RetV.eq 0 (by simp; omega)


theorem l00In_any (a b c : Int) (w : World) : Calls Try.prog 55 #[.int .i64 a, .int .i64 b, .int .i64 c] w (RetV (.bool (decide (b ≤ a) && decide (a ≤ c))) w) := by
  by_cases h0 : b ≤ a
  · have h1 : ¬ a < b := by omega
    by_cases h2 : a ≤ c
    · have h3 : ¬ c < a := by omega
      go_enter Try.func55, Try.ntmps55
      go_wp2
      go_ret
      exact RetV.eq 0 (by simp [h0, h2])
    · have h3 : c < a := by omega
      go_enter Try.func55, Try.ntmps55
      go_wp2
      go_ret
      exact RetV.eq 0 (by simp [h0, h2])
  · have h1 : a < b := by omega
    go_enter Try.func55, Try.ntmps55
    go_wp2
    go_ret
    exact RetV.eq 0 (by simp; omega)


theorem sHas (b off n cap : Nat) (f : Nat → Nat) (v : Nat → Option Nat) (i : Int) (w : World) (hn : n ≤ 1048576) (hb : b < w.heap.size) (hr : ∀ i, i < 7 * n → w.cell? ⟨b, off + i, none⟩ = some (.float .f32 (f i))) (hv : ∀ i, i < 7 * n → Is .f32 (f i) (v i)) :
    Calls Try.prog 34 #[.slice (some ⟨b, off, none⟩) n cap, .int .i64 i] w fun e w' => e = .returned (.bool (areB v n && inB i n)) ∧ Below w.heap.size w w' := by
  have HA := sAre b off n cap f v w hn hb hr hv
  have HI := fun W => l00In_any i 0 ((n : Int) - 1) W
  have hw : wrap64 ((n : Int) - 1) = (n : Int) - 1 := by unfold wrap64; omega
  have hI : (decide (0 ≤ i) && decide (i ≤ (n : Int) - 1)) = inB i n := by unfold inB; congr 1; simp; omega
  rw [hI] at HI
  clear hr hv hI
  cases ha : areB v n with
  | false =>
    rw [ha] at HA
    go_enter Try.func34, Try.ntmps34
    go_wp2_with (go_at_call 23; refine (HA).mono ?_; rintro _ W1 ⟨rfl, b1⟩)
    go_ret
    exact ⟨rfl, b1⟩
  | true =>
    rw [ha] at HA
    go_enter Try.func34, Try.ntmps34
    go_wp2_with (first | (go_at_call 23; refine (HA).mono ?_; rintro _ W1 ⟨rfl, b1⟩) | (go_at_call 55; refine (HI _).mono ?_; rintro eq wq ⟨nq, rfl, rfl⟩))
    go_ret
    exact ⟨by simp, below_drewN b1 _⟩

end Go.Proofs.Ytnnilmmgdjkdaaa
