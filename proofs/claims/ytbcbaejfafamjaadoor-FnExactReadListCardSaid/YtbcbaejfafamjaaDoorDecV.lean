/-
  A number in decimal: for every number the law's text returns true, and writes nothing that was there. What the library's table holds is the only condition.
-/
import Derived.Test.YtbcbaejfafamjaaDoorDec
import Derived.Test.YtbcbaejfafamjaaDoorFmt
import Derived.Lib.SmallJoins
import Derived.Lib.LaidTab
import Derived.Lib.AppendIntMem
import Derived.LaidMore
import Derived.Stop.Joined
import Derived.Stop.LaidErr
namespace Go.Proofs.YtbcbaejfafamjaaDoor
open Go.RowKit

theorem gPow : Tryd.prog.globalNamed "internal/strconv.uint64pow10" = some 4 := by kernel_rfl

theorem implDec (n : Int) (h0 : -9223372036854775808 ≤ n) (h1 : n ≤ 9223372036854775807) (w : World) (htab : Lib.TabIs Tryd.prog w "internal/strconv.uint64pow10" .u64 Lib.pow10Tab) :
    Calls Tryd.prog 46 #[.int .i64 n] w fun e w' => e = .returned (.string ⟨(Lib.itoa n).toArray⟩) ∧ Below w.heap.size w w' := by
  have HC := Tryd.strconv_FormatInt_10 n h0 h1 w htab
  clear h0 h1 htab
  go_enter Tryd.func46, Tryd.ntmps46
  go_wp2_with (go_at_call 65; refine HC.mono ?_; rintro eq wq ⟨rfl, k, os, rfl⟩)
  go_ret
  exact ⟨rfl, Lib.below_grow _ _ (Nat.le_refl _) k os⟩

/-- From the row's condition to what the library reads: the third on the list. -/
theorem pow_of_laid {l : List (String × DataW Unit)} {W : World} (hH : laidMetH Tryd.prog l W ↔ laidMet Tryd.prog l W) {a b : String × DataW Unit} {rest : List (String × DataW Unit)}
    (hl : l = a :: b :: ("internal/strconv.uint64pow10", Lib.tabData .u64 Lib.pow10Tab) :: rest) (h : laidMetH Tryd.prog l W) : Lib.TabIs Tryd.prog W "internal/strconv.uint64pow10" .u64 Lib.pow10Tab := by
  have h := hH.1 h
  rw [hl] at h
  exact Lib.tabIs_of_head gPow (by kernel_rfl) Tryd.underlying139 Tryd.underlying95 (by kernel_rfl) (by kernel_rfl) (laidMet.tail (laidMet.tail h))
end Go.Proofs.YtbcbaejfafamjaaDoor
