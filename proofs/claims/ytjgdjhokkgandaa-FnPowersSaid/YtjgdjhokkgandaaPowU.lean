/-
  Products of two powers of e, against the power of the sum, by computing. No condition.
-/
import Derived.Test.YtjgdjhokkgandaaPowT
namespace Go.Proofs.Ytjgdjhokkgandaa
open Go.RowKit

def chkP (s t : Nat) : Bool :=
  fo .add .f32 (some (wX (s + 32))) (some (wX (t + 32))) == some (wX (s + t)) &&
    cmpB .lss .f64 (gapO (fo .mul .f64 (some (wW (s + 32))) (some (wW (t + 32)))) (some (wW (s + t)))) (fo .mul .f64 (some 4562254508917369340) (some (wW (s + t))))
set_option maxRecDepth 100000 in
theorem chkP_0 : ∀ s, s < 13 → ∀ t, t < 65 → chkP (s + 0) t = true := by decide +kernel
set_option maxRecDepth 100000 in
theorem chkP_1 : ∀ s, s < 13 → ∀ t, t < 65 → chkP (s + 13) t = true := by decide +kernel
set_option maxRecDepth 100000 in
theorem chkP_2 : ∀ s, s < 13 → ∀ t, t < 65 → chkP (s + 26) t = true := by decide +kernel
set_option maxRecDepth 100000 in
theorem chkP_3 : ∀ s, s < 13 → ∀ t, t < 65 → chkP (s + 39) t = true := by decide +kernel
set_option maxRecDepth 100000 in
theorem chkP_4 : ∀ s, s < 13 → ∀ t, t < 65 → chkP (s + 52) t = true := by decide +kernel
theorem chkP_ok (s t : Nat) (hs : s < 65) (ht : t < 65) : chkP s t = true := by
  by_cases h1 : s < 13
  · exact chkP_0 s h1 t ht
  · by_cases h2 : s < 26
    · have := chkP_1 (s - 13) (by omega) t ht
      rwa [show s - 13 + 13 = s from by omega] at this
    · by_cases h3 : s < 39
      · have := chkP_2 (s - 26) (by omega) t ht
        rwa [show s - 26 + 26 = s from by omega] at this
      · by_cases h4 : s < 52
        · have := chkP_3 (s - 39) (by omega) t ht
          rwa [show s - 39 + 39 = s from by omega] at this
        · have := chkP_4 (s - 52) (by omega) t ht
          rwa [show s - 52 + 52 = s from by omega] at this
end Go.Proofs.Ytjgdjhokkgandaa
