/-
  An orbit that a law is given, opened. No condition.
-/
import Derived.Test.YtmegolkpnmpbiaaDoorOrbD
import Derived.Deep.Slices
import Derived.ProofKit
import Derived.OpenShut
import Derived.Lib.SmallJoins
namespace Go.Proofs.YtmegolkpnmpbiaaDoor
open Go.ChangeShapes Go.WideShapes Go.ChangeAt Go.RowKit Go.Joins

theorem fieldO {H : Type} {enc : TypeId × Value → H} {w : World} {base : Nat} {spare : Nat → Bool} {held : Bool} {m : Nat} {c : Value} {y : DataW H × List MemPlace} (h : DataW.trod enc Tryd.prog w base spare held m 33 [c] = some y) :
    ∃ b, c = .float .f32 b ∧ b < 2 ^ 32 := by
  cases m with
  | zero => simp [DataW.trod] at h
  | succ n =>
    cases c <;> simp [DataW.trod, Tryd.underlying33] at h
    case float k b =>
      cases k <;> simp [Lit.wf] at h
      exact ⟨b, rfl, by omega⟩

theorem array6 {α : Type} {cs : Array α} (h : cs.size = 6) : ∃ c0 c1 c2 c3 c4 c5, cs = #[c0, c1, c2, c3, c4, c5] := by
  obtain ⟨l⟩ := cs
  match l, h with
  | [c0, c1, c2, c3, c4, c5], _ => exact ⟨c0, c1, c2, c3, c4, c5, rfl⟩

theorem cellsOrb : Tryd.prog.cellsOf 47 = 6 := by kernel_rfl
theorem cellsF32 : Tryd.prog.cellsOf 33 = 1 := by kernel_rfl

set_option maxRecDepth 100000 in
theorem openOrb {H : Type} {enc : TypeId × Value → H} {w : World} {base : Nat} {spare : Nat → Bool} {held : Bool} {r : Reach} {b0 : Nat} {v : Value} {d : DataW H} {p : List MemPlace}
    (hv : Value.okWide Tryd.prog w r b0 47 v) (h : DataW.Trod enc Tryd.prog w base spare held 47 v d p) :
    ∃ a0 a1 a2 a3 a4 a5, v = orbV a0 a1 a2 a3 a4 a5 ∧ a0 < 2 ^ 32 ∧ a1 < 2 ^ 32 ∧ a2 < 2 ^ 32 ∧ a3 < 2 ^ 32 ∧ a4 < 2 ^ 32 ∧ a5 < 2 ^ 32 := by
  obtain ⟨cs, rfl, hsz⟩ := okWide_struct Tryd.underlying47 hv
  obtain ⟨c0, c1, c2, c3, c4, c5, rfl⟩ := array6 (hsz.trans cellsOrb)
  obtain ⟨fuel, hf⟩ := h
  obtain ⟨xs, n, _, _, hl, hlen, hf⟩ := DataW.trod_struct Tryd.underlying47 hf
  match xs, hlen with
  | [y0, y1, y2, y3, y4, y5], _ =>
    obtain ⟨a0, rfl, l0⟩ := fieldO (c := c0) (by simpa [Value.cells, cellsF32] using hf 0 _ rfl)
    obtain ⟨a1, rfl, l1⟩ := fieldO (c := c1) (by simpa [Value.cells, cellsF32] using hf 1 _ rfl)
    obtain ⟨a2, rfl, l2⟩ := fieldO (c := c2) (by simpa [Value.cells, cellsF32] using hf 2 _ rfl)
    obtain ⟨a3, rfl, l3⟩ := fieldO (c := c3) (by simpa [Value.cells, cellsF32] using hf 3 _ rfl)
    obtain ⟨a4, rfl, l4⟩ := fieldO (c := c4) (by simpa [Value.cells, cellsF32] using hf 4 _ rfl)
    obtain ⟨a5, rfl, l5⟩ := fieldO (c := c5) (by simpa [Value.cells, cellsF32] using hf 5 _ rfl)
    exact ⟨a0, a1, a2, a3, a4, a5, rfl, l0, l1, l2, l3, l4, l5⟩
end Go.Proofs.YtmegolkpnmpbiaaDoor
