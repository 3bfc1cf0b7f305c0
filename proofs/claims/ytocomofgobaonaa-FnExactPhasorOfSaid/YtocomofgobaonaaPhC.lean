/-
  Complex numbers, narrowed and compared, of the program and of the model. No condition.
-/
import Derived.Test.YtocomofgobaonaaSineZ
import Derived.Deep.RegionWith
namespace Go.Proofs.Ytocomofgobaonaa
open Go.RowKit

/-- A function that returns a complex number. -/
def RetC (k : FloatKind) (u v : Option Nat) (w : World) (e : Ending) (w' : World) : Prop := ∃ a b n, e = .returned (.complex k a b) ∧ Is k a u ∧ Is k b v ∧ w' = w.drewN n

theorem narrowC_any {a b : Nat} {u v : Option Nat} (ia : Is .f64 a u) (ib : Is .f64 b v) (fu : Fit .f64 .f32 u) (fv : Fit .f64 .f32 v) (w : World) :
    Calls Try.prog 21 #[.complex .f64 a b] w (RetC .f32 (cv .f64 .f32 u) (cv .f64 .f32 v) w) := by
  go_enter Try.func21, Try.ntmps21
  go_wp2_with (first | (apply wpList_cv .f64 .f32 (by decide) und64 Try.underlying22; rfl; rfl; exact ia; exact fu; intro Kq hKq rq nq hq; go_simp) | (apply wpList_cv .f64 .f32 (by decide) und64 Try.underlying22; rfl; rfl; exact ib; exact fv; intro Kq hKq rq nq hq; go_simp))
  go_ret
  exact ⟨_, _, _, rfl, by assumption, by assumption, rfl⟩

theorem run_f2f (P : Program) (w : World) {s k : FloatKind} (hne : s ≠ k) {x : Nat} {va : Option Nat} (ix : Is s x va) (hf : Fit s k va) :
    ∃ r n, (Conv.floatToFloat s x k).run P w = .ok (.float k r) (w.drewN n) ∧ Is k r (cv s k va) := by
  cases va with
  | some y =>
    obtain rfl := ix.notNaN
    obtain ⟨r, hr⟩ := Option.isSome_iff_exists.1 (hf x rfl)
    refine ⟨r, 0, ?_, by unfold cv; simp only [Option.bind_some, hr]; exact cv_notNaN hne hr⟩
    unfold floatToFloatBits at hr
    unfold Conv.floatToFloat
    rw [if_neg hne] at hr ⊢
    cases hd : s.decode x with
    | nan sg f => rw [hd] at hr; cases hr
    | infinity sg => rw [hd] at hr; cases hr; rfl
    | number sg m e =>
      simp only [hd] at hr ⊢
      split at hr
      · cases hr
      · cases hr
        rename_i hi
        rw [if_neg hi]
        rfl
  | none =>
    have hn : (s.decode x).isNaN = true := by
      have := ix.1; unfold nrm at this; split at this
      · assumption
      · cases this
    obtain ⟨sg, f, hd'⟩ := nan_cases hn
    refine ⟨(Question.nanConv k x).cut (w.tape w.drawn (.nanConv k x)), 1, ?_, by unfold cv; exact is_nanConv ..⟩
    unfold Conv.floatToFloat
    rw [if_neg hne]
    simp [hd', Question.forced, World.drew_is_drewN]

/-- The step of a walk at a conversion of a complex number. -/
theorem wpList_cvC {P : Program} {w : World} {ops : Array Oper} {rest : List Oper} {dt ty ps af gd} {a : Act} {Q : Exit → Act → World → Prop}
    {src dst : TypeId} {xo : Operand} {x y : Nat} {u v : Option Nat}
    (hs : P.underlying src = some (.complex .f32)) (hd : P.underlying dst = some (.complex .f64))
    (hw : Region.wanted { dst := dt, op := .convert src dst xo, type := ty, pos := ps, after := af, guard := gd } (yielded ops a.tmps) = true)
    (hx : a.eval xo = .complex .f32 x y) (ix : Is .f32 x u) (iy : Is .f32 y v)
    (h : ∀ K : Act → World → Prop, (∀ a w, wpList P ops Q rest a w → K a w) → ∀ r s n, Is .f64 r (cv .f32 .f64 u) → Is .f64 s (cv .f32 .f64 v) → K (a.put dt (.complex .f64 r s)) (w.drewN n)) :
    wpList P ops Q ({ dst := dt, op := .convert src dst xo, type := ty, pos := ps, after := af, guard := gd } :: rest) a w := by
  refine wpList_wanted hw fun K hK => ?_
  unfold Oper.wp
  obtain ⟨r, n, h1, i1⟩ := run_f2f P w (k := .f64) (by decide) ix (fit_widen ix)
  obtain ⟨s, m, h2, i2⟩ := run_f2f P (w.drewN n) (k := .f64) (by decide) iy (fit_widen iy)
  have hrun : (convert src dst (.complex .f32 x y)).run P w = .ok (.complex .f64 r s) ((w.drewN n).drewN m) := by
    simp [convert, run_underlying hs, run_underlying hd, Conv.complexToComplex, h1, h2, Result.andThen]
  rw [World.drewN_drewN] at hrun
  simp [execOp, hx, hrun, Result.andThen, Oper.upon]
  exact h K hK _ _ _ i1 i2

theorem sameComplex_any {a b c d : Nat} {u v : Option Nat} (ia : Is .f64 a u) (ib : Is .f64 b v) (ic : Is .f64 c u) (id : Is .f64 d v) (w : World) :
    Calls Try.prog 12 #[.complex .f64 a b, .complex .f64 c d] w (RetV (.bool true) w) := by
  go_enter Try.func12, Try.ntmps12
  go_wp2_with (first | (go_at_call_of 9 a; refine (sameFloat_any ia ic _).mono ?_; rintro eq wq ⟨nq, rfl, rfl⟩) | (go_at_call_of 9 b; refine (sameFloat_any ib id _).mono ?_; rintro eq wq ⟨nq, rfl, rfl⟩))
  go_ret
  exact RetV.mk _
end Go.Proofs.Ytocomofgobaonaa
