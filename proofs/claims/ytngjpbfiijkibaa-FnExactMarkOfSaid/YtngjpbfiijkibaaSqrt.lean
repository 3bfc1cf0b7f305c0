/-
  Roots of 64-bit numbers, of the library. No condition.
-/
import Derived.Test.YtngjpbfiijkibaaOps
import Derived.Test.YtngjpbfiijkibaaBound
namespace Go.Proofs.Ytngjpbfiijkibaa
open Go.RowKit

def sqO (k : FloatKind) (v : Option Nat) : Option Nat := v.bind fun x => k.format.sqrt x

theorem sqrt_fo (k : FloatKind) (x : Nat) : k.format.sqrt x = sqO k (nrm k x) := by
  unfold sqO nrm
  by_cases hx : (k.decode x).isNaN = true
  · obtain ⟨s, f, hd⟩ := nan_cases hx
    unfold FloatKind.decode at hd
    rw [if_pos hx]
    simp [Ieee.Format.sqrt, hd, Ieee.Datum.root]
  · simp [hx]

theorem sqrt_is {k : FloatKind} {x r : Nat} (h : k.format.sqrt x = some r) : Is k r (some r) := by
  refine ⟨?_, k.format.sqrt_lt h⟩
  unfold Ieee.Format.sqrt at h
  cases hd : (k.format.read x).root (k.format.fractionBits + 2) with
  | none => rw [hd] at h; cases h
  | some d =>
    rw [hd] at h
    cases h
    unfold nrm
    rw [if_neg (by have := write_notNaN k d (root_notNaN hd); unfold FloatKind.encode at this; simp [this])]

theorem extSqrt (args : Array Value) (w : World) : (callFunc 78 args).run Try.prog w = ((Extern.MathSqrt.sqrt args).run Try.prog w).andThen fun v w' => .ok (.value v) w' :=
  run_callFunc_extern Try.func78 (by kernel_rfl) (by kernel_rfl) (by kernel_rfl) (by kernel_rfl) args w

theorem sqrt_any {x : Nat} {v : Option Nat} (ix : Is .f64 x v) (w : World) :
    Calls Try.prog 66 #[.float .f64 x] w (RetF .f64 (sqO .f64 v) w) := by
  have e : FloatKind.f64.format.sqrt x = sqO .f64 v := by rw [sqrt_fo, ix.1]
  cases h : FloatKind.f64.format.sqrt x with
  | some r =>
    have hs : ∀ w : World, (callFunc 78 #[.float .f64 x]).run Try.prog w = .ok (.value (.float .f64 r)) w := fun w => by
      rw [extSqrt]
      change (Sem.run Try.prog (match FloatKind.f64.format.sqrt x with | some r => pure (Value.float .f64 r) | none => do pure (Value.float .f64 (← choose (.nanBits .f64 x x)))) w).andThen _ = _
      rw [h]; rfl
    go_enter Try.func66, Try.ntmps66
    go_wp2
    go_ret
    exact ⟨r, 0, rfl, by rw [← e, h]; exact sqrt_is h, rfl⟩
  | none =>
    have hs : ∀ w : World, (callFunc 78 #[.float .f64 x]).run Try.prog w = .ok (.value (.float .f64 ((Question.nanBits .f64 x x).cut (w.tape w.drawn (.nanBits .f64 x x))))) (w.drewN 1) := fun w => by
      rw [extSqrt]
      change (Sem.run Try.prog (match FloatKind.f64.format.sqrt x with | some r => pure (Value.float .f64 r) | none => do pure (Value.float .f64 (← choose (.nanBits .f64 x x)))) w).andThen _ = _
      rw [h]; simp [Question.forced, World.drew_is_drewN]
    go_enter Try.func66, Try.ntmps66
    go_wp2
    go_ret
    exact ⟨_, 1, rfl, by rw [← e, h]; exact is_nanBits .., rfl⟩

theorem nn_sqrt {k : FloatKind} {v : Option Nat} : NnO k (sqO k v) := by
  intro r hr
  cases v with
  | none => cases hr
  | some x =>
    have hf : k.format.sqrt x = some r := hr
    unfold Ieee.Format.sqrt at hf
    have hi := inf_write k false
    unfold FloatKind.encode at hi
    cases hd : k.format.read x with
    | number s m e =>
      rw [hd] at hf
      unfold Ieee.Datum.root at hf
      by_cases hm : m = 0
      · simp only [hm, if_true, Option.map_some, Option.some.injEq] at hf
        subst hf; exact nn_write k s 0 e (.inr rfl)
      · cases s with
        | true => simp [hm] at hf
        | false =>
          simp only [hm, if_false, Bool.false_eq_true, Option.map_some, Option.some.injEq] at hf
          subst hf; exact nn_write k false _ _ (.inl rfl)
    | infinity s =>
      rw [hd] at hf
      cases s with
      | true => simp [Ieee.Datum.root] at hf
      | false =>
        simp only [Ieee.Datum.root, Bool.false_eq_true, if_false, Option.map_some, Option.some.injEq] at hf
        subst hf; exact .inl hi
    | nan s f => rw [hd] at hf; simp [Ieee.Datum.root] at hf

end Go.Proofs.Ytngjpbfiijkibaa
