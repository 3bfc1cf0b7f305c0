/-
  A number without its places behind the point: of the library and as an integer. No condition.
-/
import Derived.Test.YtngjpbfiijkibaaIntF
import Derived.Test.YtngjpbfiijkibaaNumT
import Derived.Lib.Hide
namespace Go.Proofs.Ytngjpbfiijkibaa
open Go.RowKit

def truncO (v : Option Nat) : Option Nat := v.bind fun b => match FloatKind.f64.decode b with | .nan _ _ => none | d => some (FloatKind.f64.encode (d.integral .zero))

theorem extTrunc (args : Array Value) (w : World) : (callFunc 83 args).run Try.prog w = ((Extern.MathFloor.toIntegral "math.archTrunc" .zero args).run Try.prog w).andThen fun v w' => .ok (.value v) w' :=
  run_callFunc_extern Try.func83 (by kernel_rfl) (by kernel_rfl) (by kernel_rfl) (by kernel_rfl) args w

theorem toIntegral_eq (nm : String) (way : Ieee.Toward) (x : Nat) : Extern.MathFloor.toIntegral nm way #[Value.float .f64 x] = (match FloatKind.f64.decode x with
    | .nan s t => (if FloatKind.f64.format.quiet t = t then (pure (Value.float .f64 x) : Sem Value) else (do
        let kept ← choose (.extern "math.Floor,Ceil,Trunc,RoundToEven.signallingNaN kept" 2)
        pure (Value.float .f64 (if kept == 1 then x else FloatKind.f64.encode (.nan s (FloatKind.f64.format.quiet t))))))
    | d => pure (Value.float .f64 (FloatKind.f64.encode (d.integral way)))) := rfl

theorem is_quiet (s : Bool) (t : Nat) : Is .f64 (FloatKind.f64.encode (.nan s (FloatKind.f64.format.quiet t))) none := by
  refine ⟨nan_read .f64 _ ?_, (show FloatKind.f64.format.write _ < _ from Ieee.Format.write_lt _ _)⟩
  have e0 : FloatKind.f64.encode (.nan s (FloatKind.f64.format.quiet t)) = FloatKind.f64.format.word s (FloatKind.f64.format.infRung + (t ||| 2 ^ 51) % 2 ^ 52) := rfl
  have h1 : 2 ^ 51 ≤ (t ||| 2 ^ 51) % 2 ^ 52 := by
    rw [Nat.or_mod_two_pow]
    exact Nat.right_le_or
  have h2 : (t ||| 2 ^ 51) % 2 ^ 52 < 2 ^ 52 := Nat.mod_lt _ (Nat.two_pow_pos _)
  have e1 : FloatKind.f64.format.infRung = 2047 * 2 ^ 52 := rfl
  have e2 : FloatKind.f64.format.signWeight = 2 ^ 63 := rfl
  rw [e0, e1, e2]
  unfold Ieee.Format.word
  rw [e2]
  generalize (t ||| 2 ^ 51) % 2 ^ 52 = q at h1 h2
  split <;> omega

theorem integral_notNaN {d : Ieee.Datum} (way : Ieee.Toward) (h : d.isNaN = false) : (d.integral way).isNaN = false := by
  cases d with
  | number s m e => rfl
  | infinity s => rfl
  | nan s f => cases h

theorem is_trunc {x y : Nat} (h : truncO (some x) = some y) : Is .f64 y (some y) := by
  unfold truncO at h
  simp only [Option.bind_some] at h
  cases hd : FloatKind.f64.decode x with
  | number s m e =>
    rw [hd] at h
    simp only [Option.some.injEq] at h
    subst h
    refine ⟨?_, (show FloatKind.f64.format.write _ < _ from Ieee.Format.write_lt _ _)⟩
    unfold nrm
    rw [if_neg (by rw [write_notNaN .f64 _ rfl]; decide)]
  | infinity s =>
    rw [hd] at h
    simp only [Option.some.injEq] at h
    subst h
    refine ⟨?_, (show FloatKind.f64.format.write _ < _ from Ieee.Format.write_lt _ _)⟩
    unfold nrm
    rw [if_neg (by rw [write_notNaN .f64 _ rfl]; decide)]
  | nan s f => rw [hd] at h; cases h

theorem trunc_any {x : Nat} {v : Option Nat} (ix : Is .f64 x v) (w : World) :
    Calls Try.prog 81 #[.float .f64 x] w (RetF .f64 (truncO v) w) := by
  cases v with
  | some z =>
    obtain rfl := ix.notNaN
    have hn := ix.dec
    obtain ⟨y, hy⟩ : ∃ y, truncO (some x) = some y := by
      unfold truncO
      simp only [Option.bind_some]
      cases hd : FloatKind.f64.decode x with
      | number s m e => exact ⟨_, rfl⟩
      | infinity s => exact ⟨_, rfl⟩
      | nan s f => rw [hd] at hn; cases hn
    have hs : ∀ w : World, (callFunc 83 #[.float .f64 x]).run Try.prog w = .ok (.value (.float .f64 y)) w := fun w => by
      rw [extTrunc]
      unfold truncO at hy
      simp only [Option.bind_some] at hy
      rw [toIntegral_eq]
      cases hd : FloatKind.f64.decode x with
      | number s m e => rw [hd] at hy; simp only [Option.some.injEq] at hy; subst hy; simp
      | infinity s => rw [hd] at hy; simp only [Option.some.injEq] at hy; subst hy; simp
      | nan s f => rw [hd] at hn; cases hn
    rw [hy]
    have iy := is_trunc hy
    clear hn hy
    go_enter Try.func81, Try.ntmps81
    go_wp2
    go_ret
    exact ⟨y, 0, rfl, iy, rfl⟩
  | none =>
    have hn : (FloatKind.f64.decode x).isNaN = true := by
      have h1 := ix.1
      unfold nrm at h1
      by_cases hn : (FloatKind.f64.decode x).isNaN = true
      · exact hn
      · rw [if_neg hn] at h1; cases h1
    obtain ⟨s, t, hd⟩ := nan_cases hn
    have hs : ∀ w : World, ∃ p : Nat × Nat, (callFunc 83 #[.float .f64 x]).run Try.prog w = .ok (.value (.float .f64 p.1)) (w.drewN p.2) ∧ Is .f64 p.1 none := fun w => by
      rw [extTrunc]
      rw [toIntegral_eq]
      rw [hd]
      by_cases hq : FloatKind.f64.format.quiet t = t
      · exact ⟨(x, 0), by simp [hq]; rfl, ix⟩
      · simp [hq, Question.forced, World.drew_is_drewN]
        refine ⟨_, ⟨rfl, 1, rfl⟩, ?_⟩
        split
        · exact ix
        · exact is_quiet s t
    have hs := Classical.axiomOfChoice hs
    obtain ⟨f, hf⟩ := hs
    have hf1 := fun w => (hf w).1
    have hf2 := fun w => (hf w).2
    clear hf
    go_enter Try.func81, Try.ntmps81
    go_wp2
    go_ret
    exact ⟨_, _, rfl, hf2 _, rfl⟩
end Go.Proofs.Ytngjpbfiijkibaa
