/-
  Numbers made whole downwards by the library. No condition.
-/
import Derived.Test.YtngjpbfiijkibaaFloor
namespace Go.Proofs.Ytngjpbfiijkibaa
open Go.RowKit

theorem floor_is {x y : Nat} (h : floorO (some x) = some y) : Is .f64 y (some y) := by
  unfold floorO at h
  simp only [Option.bind_some] at h
  cases hd : FloatKind.f64.decode x with
  | number s m e =>
    rw [hd] at h
    simp only [Option.some.injEq] at h
    subst h
    refine ⟨?_, (show FloatKind.f64.format.write _ < _ from Ieee.Format.write_lt _ _)⟩
    unfold nrm
    rw [if_neg (by rw [write_notNaN .f64 _ rfl]; decide)]
  | infinity s =>
    rw [hd] at h
    simp only [Option.some.injEq] at h
    subst h
    refine ⟨?_, (show FloatKind.f64.format.write _ < _ from Ieee.Format.write_lt _ _)⟩
    unfold nrm
    rw [if_neg (by rw [write_notNaN .f64 _ rfl]; decide)]
  | nan s f => rw [hd] at h; cases h

theorem floor_any {x : Nat} {v : Option Nat} (ix : Is .f64 x v) (w : World) :
    Calls Try.prog 35 #[.float .f64 x] w (RetF .f64 (floorO v) w) := by
  cases v with
  | some z =>
    obtain rfl := ix.notNaN
    have hn := ix.dec
    obtain ⟨y, hy⟩ : ∃ y, floorO (some x) = some y := by
      unfold floorO
      simp only [Option.bind_some]
      cases hd : FloatKind.f64.decode x with
      | number s m e => exact ⟨_, rfl⟩
      | infinity s => exact ⟨_, rfl⟩
      | nan s f => rw [hd] at hn; cases hn
    have hs : ∀ w : World, (callFunc 57 #[.float .f64 x]).run Try.prog w = .ok (.value (.float .f64 y)) w := fun w => by
      rw [extFloor]
      unfold floorO at hy
      simp only [Option.bind_some] at hy
      rw [toIntegral_eq]
      cases hd : FloatKind.f64.decode x with
      | number s m e => rw [hd] at hy; simp only [Option.some.injEq] at hy; subst hy; simp
      | infinity s => rw [hd] at hy; simp only [Option.some.injEq] at hy; subst hy; simp
      | nan s f => rw [hd] at hn; cases hn
    rw [hy]
    have iy := floor_is hy
    clear hn hy
    go_enter Try.func35, Try.ntmps35
    go_wp2
    go_ret
    exact ⟨y, 0, rfl, iy, rfl⟩
  | none =>
    have hn : (FloatKind.f64.decode x).isNaN = true := by
      have h1 := ix.1
      unfold nrm at h1
      by_cases hn : (FloatKind.f64.decode x).isNaN = true
      · exact hn
      · rw [if_neg hn] at h1; cases h1
    obtain ⟨s, t, hd⟩ := nan_cases hn
    have hs : ∀ w : World, ∃ p : Nat × Nat, (callFunc 57 #[.float .f64 x]).run Try.prog w = .ok (.value (.float .f64 p.1)) (w.drewN p.2) ∧ Is .f64 p.1 none := fun w => by
      rw [extFloor]
      rw [toIntegral_eq]
      rw [hd]
      by_cases hq : FloatKind.f64.format.quiet t = t
      · exact ⟨(x, 0), by simp [hq]; rfl, ix⟩
      · simp [hq, Question.forced, World.drew_is_drewN]
        refine ⟨_, ⟨rfl, 1, rfl⟩, ?_⟩
        split
        · exact ix
        · exact is_quiet s t
    have hs := Classical.axiomOfChoice hs
    obtain ⟨f, hf⟩ := hs
    have hf1 := fun w => (hf w).1
    have hf2 := fun w => (hf w).2
    clear hf
    go_enter Try.func35, Try.ntmps35
    go_wp2
    go_ret
    exact ⟨_, _, rfl, hf2 _, rfl⟩

theorem floor_whole {x : Nat} (hx : x < 2 ^ 64) {s : Bool} {m : Nat} {e : Int} (hd : FloatKind.f64.decode x = .number s m e) (he : 0 ≤ e) (hm : m ≠ 0) : floorO (some x) = some x := by
  unfold floorO
  simp only [Option.bind_some, hd]
  have h1 : (-e).toNat = 0 := by omega
  have hc : Ieee.Toward.down.cut s (m <<< e.toNat) (-e).toNat = m <<< e.toNat := by
    rw [h1]
    unfold Ieee.Toward.cut
    simp [Nat.mod_one]
  have h2 := write_shift hx hd hm e.toNat
  rw [show e - (e.toNat : Int) = 0 by omega] at h2
  show some (FloatKind.f64.encode (.number s (Ieee.Toward.down.cut s (m <<< e.toNat) (-e).toNat) 0)) = some x
  rw [hc, h2]
end Go.Proofs.Ytngjpbfiijkibaa
