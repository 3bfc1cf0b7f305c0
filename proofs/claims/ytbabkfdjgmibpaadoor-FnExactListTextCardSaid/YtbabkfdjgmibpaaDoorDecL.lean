/-
  A number in decimal: for every number the law's text returns true, and writes nothing that was there. What the library's table holds is the only condition.
-/
import Derived.Test.YtbabkfdjgmibpaaDoorRows
import Derived.Test.YtbabkfdjgmibpaaDoorDec
import Derived.Test.YtbabkfdjgmibpaaDoorFmt
import Derived.Lib.SmallJoins
import Derived.Lib.LaidTab
import Derived.Lib.AppendIntMem
import Derived.LaidMore
import Derived.Stop.Joined
import Derived.Stop.LaidErr
namespace Go.Proofs.YtbabkfdjgmibpaaDoor
open Go.RowKit

theorem gPow : Tryd.prog.globalNamed "internal/strconv.uint64pow10" = some 0 := by kernel_rfl

theorem implDec (n : Int) (h0 : -9223372036854775808 ≤ n) (h1 : n ≤ 9223372036854775807) (w : World) (htab : Lib.TabIs Tryd.prog w "internal/strconv.uint64pow10" .u64 Lib.pow10Tab) :
    Calls Tryd.prog 8 #[.int .i64 n] w fun e w' => e = .returned (.string ⟨(Lib.itoa n).toArray⟩) ∧ Below w.heap.size w w' := by
  have HC := Tryd.strconv_FormatInt_10 n h0 h1 w htab
  clear h0 h1 htab
  go_enter Tryd.func8, Tryd.ntmps8
  go_wp2_with (go_at_call 20; refine HC.mono ?_; rintro eq wq ⟨rfl, k, os, rfl⟩)
  go_ret
  exact ⟨rfl, Lib.below_grow _ _ (Nat.le_refl _) k os⟩

theorem walk_dec (n : Int) (w : World) (h0 : -9223372036854775808 ≤ n) (h1 : n ≤ 9223372036854775807) (htab : Lib.TabIs Tryd.prog w "internal/strconv.uint64pow10" .u64 Lib.pow10Tab) :
    Calls Tryd.prog 3 #[.int .i64 n] w fun e w' => e = .returned (.bool true) ∧ Below w.heap.size w w' := by
  have HS := specDec n h0 h1 w
  have HI := fun (w' : World) (hb : Below w.heap.size w w') => implDec n h0 h1 w' (Joins.tab_stays gPow htab hb (Nat.le_refl _))
  clear h0 h1 htab
  go_enter Tryd.func3, Tryd.ntmps3
  go_wp2_with (first | (go_at_call 7; go_in) | (go_at_call 19; refine HS.mono ?_; rintro eq w1 ⟨rfl, hb1⟩) | (go_at_call 8; refine (HI w1 hb1).mono ?_; rintro eq w2 ⟨rfl, hb2⟩))
  go_ret
  exact ⟨rfl, hb1.trans (hb2.mono hb1.size)⟩

/-- From the row's condition to what the library reads: the third on the list. -/
theorem pow_of_laid {l : List (String × DataW Unit)} {W : World} (hH : laidMetH Tryd.prog l W ↔ laidMet Tryd.prog l W) {a b : String × DataW Unit} {rest : List (String × DataW Unit)}
    (hl : l = a :: b :: ("internal/strconv.uint64pow10", Lib.tabData .u64 Lib.pow10Tab) :: rest) (h : laidMetH Tryd.prog l W) : Lib.TabIs Tryd.prog W "internal/strconv.uint64pow10" .u64 Lib.pow10Tab := by
  have h := hH.1 h
  rw [hl] at h
  exact Lib.tabIs_of_head gPow (by kernel_rfl) Tryd.underlying78 Tryd.underlying54 (by kernel_rfl) (by kernel_rfl) (laidMet.tail (laidMet.tail h))

theorem walk_FnExactDecimal (n : Int) (W : World) (hw : Lit.wf (.int .i64 n) = true) (hL : laidMetH Tryd.prog Rows.fnExactDecimalRow.laid W) :
    Calls Tryd.prog 3 #[.int .i64 n] W fun e w' => e = .returned (.bool true) ∧ Below W.heap.size W w' := by
  have hn : -9223372036854775808 ≤ n ∧ n ≤ 9223372036854775807 := by simpa [Lit.wf, IntKind.min, IntKind.max, IntKind.signed, IntKind.bits] using hw
  refine walk_dec n W hn.1 hn.2 (pow_of_laid (a := ("math/bits.deBruijn32tab", Rows.laid_math_bits_deBruijn32tab)) (b := ("math/bits.deBruijn64tab", Rows.laid_math_bits_deBruijn64tab)) (rest := []) ?_ ?_ hL)
  · rw [MakeChecks.laidMetH_plain _ _ _ (by kernel_rfl)]
  · rfl
end Go.Proofs.YtbabkfdjgmibpaaDoor
