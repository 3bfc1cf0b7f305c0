/-
  The step of a walk through a region at floating-point arithmetic that may draw, where its place is told. No condition.
-/
import Derived.Test.YtjljdnkedbejaaaTake
import Derived.Test.YtjljdnkedbejaaaNum
namespace Go.Proofs.Ytjljdnkedbejaaa

theorem wpTakeA {P : Program} {md : Region.Mode} {ops : Array Oper} {Q : Exit → Act → World → Prop} {S : World → Prop} {i : Nat} {oi : Oper} (d : Option Nat) {op : BinOp} {t yt : TypeId} {xo yo : Operand} {k : FloatKind} {x y : Nat} {va vb : Option Nat} {fuel : Nat} {listed : Array Bool} {a : Act} {w : World}
    (hi : ops[i]? = some oi) (hd : oi.dst = d) (ho : oi.op = .binOp op t xo yo yt) (hr : Region.ready md ops listed = [i]) (hw : Region.wanted oi (yielded ops a.tmps) = true) (hop : Arith op)
    (hx : a.eval xo = .float k x) (hy : a.eval yo = .float k y) (ix : Is k x va) (iy : Is k y vb) (hS : ∀ n, S (w.drewN n))
    (h : ∀ r n, Is k r (fo op k va vb) → S (w.drewN n) → wpAnyH P md ops Q S fuel (listed.setIfInBounds i true) (a.put d (.float k r)) (w.drewN n)) : wpAnyH P md ops Q S (fuel + 1) listed a w := by
  subst hd
  refine wpAnyH_ready hr (by simp) (AllReadyH.cons hi (fun K hK => ?_) AllReadyH.nil)
  rw [if_pos hw]
  obtain ⟨r, n, hrun, hI⟩ := run_arith P w hop t k x y ix iy
  have hg : (eqGuard op t xo yo (.float k x) (.float k y)).run P w = .ok () w := by
    rcases hop with rfl | rfl | rfl | rfl <;> rfl
  cases oi with
  | mk dst op' type pos after guard =>
    simp only at ho
    subst ho
    unfold Oper.wp
    simp [execOp, hx, hy, hg, hrun, Result.andThen, Oper.upon]
    exact hK.out _ _ (hS n) (fun hs => h r n hI hs)
end Go.Proofs.Ytjljdnkedbejaaa
