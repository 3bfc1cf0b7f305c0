/-
  Arithmetic of floating-point numbers where a region that draws its order comes to it, in a seat that converts nothing. No condition.
-/
import Derived.Test.YtmljacpmmnngkaaOps
import Derived.Deep.RegionHeld3
namespace Go.Proofs.Ytmljacpmmnngkaa
open Go.RowKit

theorem upon_arith {P : Program} {o : Oper} {a : Act} {K : Act → World → Prop} {Q : Exit → Act → World → Prop} {op : BinOp} {t : TypeId} {k : FloatKind} {x y : Nat} {va vb : Option Nat} {w : World} (hop : Arith op) (ix : Is k x va) (iy : Is k y vb)
    (h : ∀ r n, Is k r (fo op k va vb) → K (a.put o.dst (.float k r)) (w.drewN n)) :
    Oper.upon P o a K Q (((binOp op t (.float k x) (.float k y)).run P w).andThen fun v w' => .ok (.value v) w') := by
  obtain ⟨r, n, hr, hi⟩ := run_arith P w hop t k x y ix iy
  rw [hr]
  exact h r n hi
end Go.Proofs.Ytmljacpmmnngkaa
