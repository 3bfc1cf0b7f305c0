/-
  Integers as 64-bit numbers, and 64-bit numbers as integers. No condition.
-/
import Derived.Test.YtngjpbfiijkibaaOps
import Derived.Test.YtngjpbfiijkibaaBound
namespace Go.Proofs.Ytngjpbfiijkibaa
open Go.RowKit

/-- An integer as a 64-bit number. -/
def ifO (n : Int) : Option Nat := some (FloatKind.f64.nearest n)

theorem is_if (n : Int) : Is .f64 (FloatKind.f64.nearest n) (ifO n) := by
  refine ⟨?_, (show FloatKind.f64.format.write (.number (n < 0) n.natAbs 0) < _ from Ieee.Format.write_lt _ _)⟩
  have := write_notNaN .f64 (.number (n < 0) n.natAbs 0) rfl
  unfold nrm FloatKind.nearest ifO
  rw [if_neg (by rw [this]; decide)]
  rfl

theorem ge_if {n : Int} (h : 1 ≤ n) : GeO .f64 (ifO n) 0 := by
  intro b hb
  cases hb
  exact write_ge .f64 _ _ _ _ (by omega) (by omega) (by decide) (by decide)

theorem wpList_itof {P : Program} {w : World} {ops : Array Oper} {rest : List Oper} {dt ty ps af gd} {a : Act} {Q : Exit → Act → World → Prop}
    {src dst : TypeId} {xo : Operand} {n : Int}
    (hs : P.underlying src = some (.int .i64)) (hd : P.underlying dst = some (.float .f64))
    (hw : Region.wanted { dst := dt, op := .convert src dst xo, type := ty, pos := ps, after := af, guard := gd } (yielded ops a.tmps) = true)
    (hx : a.eval xo = .int .i64 n)
    (h : ∀ K : Act → World → Prop, (∀ a w, wpList P ops Q rest a w → K a w) → ∀ r, Is .f64 r (ifO n) → K (a.put dt (.float .f64 r)) w) :
    wpList P ops Q ({ dst := dt, op := .convert src dst xo, type := ty, pos := ps, after := af, guard := gd } :: rest) a w := by
  refine wpList_wanted hw fun K hK => ?_
  unfold Oper.wp
  have hrun : (convert src dst (.int .i64 n)).run P w = .ok (.float .f64 (FloatKind.f64.nearest n)) w := by
    simp [convert, run_underlying hs, run_underlying hd, Conv.intToFloat]
  simp [execOp, hx, hrun, Result.andThen, Oper.upon]
  exact h K hK _ (is_if n)

theorem is_one : Is .f64 4607182418800017408 (some 4607182418800017408) := is_lit64 _ (by decide)

/-- The step of a walk at 'int64(x)'. -/
theorem wpList_ftoi {P : Program} {w : World} {ops : Array Oper} {rest : List Oper} {dt ty ps af gd} {a : Act} {Q : Exit → Act → World → Prop}
    {src dst : TypeId} {xo : Operand} {x : Nat} {n : Int}
    (hs : P.underlying src = some (.float .f64)) (hd : P.underlying dst = some (.int .i64))
    (hw : Region.wanted { dst := dt, op := .convert src dst xo, type := ty, pos := ps, after := af, guard := gd } (yielded ops a.tmps) = true)
    (hx : a.eval xo = .float .f64 x) (hn : (FloatKind.f64.decode x).toInt .zero = some n) (hr : n.natAbs < 2 ^ 63)
    (h : ∀ K : Act → World → Prop, (∀ a w, wpList P ops Q rest a w → K a w) → K (a.put dt (.int .i64 n)) w) :
    wpList P ops Q ({ dst := dt, op := .convert src dst xo, type := ty, pos := ps, after := af, guard := gd } :: rest) a w := by
  refine wpList_wanted hw fun K hK => ?_
  unfold Oper.wp
  have hlo : ¬ n < IntKind.i64.min := by show ¬ n < (-9223372036854775808 : Int); omega
  have hhi' : n ≤ 9223372036854775807 := by omega
  have hrun : (convert src dst (.float .f64 x)).run P w = .ok (.int .i64 n) w := by
    simp [convert, run_underlying hs, run_underlying hd, Conv.floatToInt, hn, hlo, hhi']
  simp [execOp, hx, hrun, Result.andThen, Oper.upon]
  exact h K hK

end Go.Proofs.Ytngjpbfiijkibaa
