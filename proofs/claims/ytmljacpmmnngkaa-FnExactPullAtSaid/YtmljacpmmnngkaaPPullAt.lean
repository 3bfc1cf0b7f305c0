/-
  For every input the law FnExactPullAt returns true, and each argument reads afterwards as it read before. No condition.
-/
import Derived.Test.YtmljacpmmnngkaaRows
import Derived.Test.YtmljacpmmnngkaaPulL
import Derived.Test.YtmljacpmmnngkaaOpenB
import Derived.Deep.Slices
import Derived.ProofKit
import Derived.OpenShut
import Derived.ShutString
import Derived.ChangeOld
import Derived.Below
import Derived.Lib.SmallJoins
import Derived.Carry
namespace Go.Proofs.Ytmljacpmmnngkaa
open Go.ChangeShapes Go.WideShapes Go.ChangeAt Go.RowKit Go.Joins
open Go.ChangeMaps (open_string shut_string)
set_option linter.unusedVariables false

theorem own_fnExactPullAt : ownKnob Try.prog.godebug = none := by kernel_rfl
theorem laidOut_fnExactPullAt : laidOutB Try.prog = true := by kernel_rfl
theorem cells_vec_fnExactPullAt : Try.prog.cellsOf 25 = 3 := by kernel_rfl
theorem field_fnExactPullAt {H : Type} {enc : TypeId × Value → H} {w : World} {base : Nat} {spare : Nat → Bool} {held : Bool} {m : Nat} {c : Value} {y : DataW H × List MemPlace} (h : DataW.trod enc Try.prog w base spare held m 23 [c] = some y) :
    ∃ b, c = .float .f32 b ∧ b < 2 ^ 32 := by
  cases m with
  | zero => simp [DataW.trod] at h
  | succ n =>
    cases c <;> simp [DataW.trod, Try.underlying23] at h
    case float k b =>
      cases k <;> simp [Lit.wf] at h
      exact ⟨b, rfl, by omega⟩

set_option maxRecDepth 100000 in
theorem lifted_fnExactPullAt (os : Os) (started : os.Started) (H : Type) (enc : TypeId × Value → H) :
    ReturnsInHanded {} Try.checked os 3 .any (Rows.fnExactPullAtSpec.pre6 enc Try.prog Try.f3 Rows.fnExactPullAtRow.domain false) (Rows.fnExactPullAtSpec.post enc Try.prog Try.f3 false true false false) := by
  refine returnsInHanded_of_change (C := Try.checked) own_fnExactPullAt started (by kernel_rfl) Try.func3
    (ChangeSpec.witness6 (enc := enc) (C := Try.checked) false ⟨#[], #[.slice none 0 0, .agg #[.float .f32 0, .float .f32 0, .float .f32 0], .float .f32 0], []⟩ 8 (by kernel_rfl) (by kernel_rfl) (by kernel_rfl) (by kernel_rfl)) ?_
  intro W base args ds gs before hval0 hW hcnd _
  have hval : ∀ (j : Nat) t v, Try.f3.params[j]? = some t → args[j]? = some v → Value.okWide Try.prog W .any base t v := hval0
  have hW' := hW
  obtain ⟨p, q, hA0, hV, rfl, hfz, hnd⟩ := hW
  have hA : DataW.TrodAll enc Try.prog W 0 (fun _ => true) true Try.f3.params.toList args.toList ds p := hA0
  rw [Try.params3] at hA hval
  obtain ⟨v0, vs0, d0, ds0, p0, q0, hargs, rfl, rfl, h0, r0⟩ := trodAll_cons hA
  obtain ⟨v1, vs1, d1, ds1, p1, q1, rfl, rfl, rfl, h1, r1⟩ := trodAll_cons r0
  obtain ⟨v2, vs2, d2, ds2, p2, q2, rfl, rfl, rfl, h2, r2⟩ := trodAll_cons r1
  obtain ⟨rfl, rfl, rfl⟩ := trodAll_nil r2
  obtain rfl : args = #[v0, v1, v2] := by cases args; simp_all
  obtain ⟨rfl, rfl⟩ := trodVars_none hV
  have k0 := h0
  have lt0 : ∀ x ∈ p0, x.block < W.heap.size := by obtain ⟨m, hm⟩ := k0; exact DataW.trod_lt m _ _ _ hm
  obtain ⟨a0, n0, cap0, rfl⟩ := okWide_slice Try.underlying22 (hval 0 22 v0 rfl rfl)
  obtain ⟨f0, hg0⟩ : ∃ f : Nat → Nat, GoodBd W a0 n0 f := by
    obtain ⟨fuel, hf⟩ := h0
    exact openList (by simpa [Value.cells] using hf)
  have k1 := h1
  have lt1 : ∀ x ∈ p1, x.block < W.heap.size := by obtain ⟨m, hm⟩ := k1; exact DataW.trod_lt m _ _ _ hm
  obtain ⟨c10, c11, c12, y10, y11, y12, m1, rfl, -, -, g10, g11, g12⟩ := open_agg3 Try.underlying25 (by kernel_rfl) cells_vec_fnExactPullAt (hval 1 25 v1 rfl rfl) h1
  obtain ⟨a10, rfl, b10⟩ := field_fnExactPullAt g10
  obtain ⟨a11, rfl, b11⟩ := field_fnExactPullAt g11
  obtain ⟨a12, rfl, b12⟩ := field_fnExactPullAt g12
  have k2 := h2
  have lt2 : ∀ x ∈ p2, x.block < W.heap.size := by obtain ⟨m, hm⟩ := k2; exact DataW.trod_lt m _ _ _ hm
  obtain ⟨a2, rfl, -, -, w2⟩ := open_float Try.underlying23 (hval 2 23 v2 rfl rfl) h2
  have b2 : a2 < 2 ^ 32 := by simpa [Lit.wf] using w2
  clear hA0 hval0
  refine (walk_FnExactPullAt a0 n0 cap0 f0 a10 a11 a12 a2 W hg0 b10 b11 b12 b2).mono fun e W' ⟨he, bel⟩ => ?_
  subst he
  exact ⟨_, rfl, _, _, _, [], _, [], hW', trodAll_mk1 (shut_bool Try.underlying4 _), (trodAll_cons_mk (Below.trod laidOut_fnExactPullAt (by kernel_rfl) (of_decide_eq_true (by kernel_rfl)) k0 bel lt0) (trodAll_cons_mk (Below.trod laidOut_fnExactPullAt (by kernel_rfl) (of_decide_eq_true (by kernel_rfl)) k1 bel lt1) (trodAll_cons_mk (Below.trod laidOut_fnExactPullAt (by kernel_rfl) (of_decide_eq_true (by kernel_rfl)) k2 bel lt2) trodAll_mk0))), rfl, bel.frame _, fun h => by cases h⟩

theorem fnExactPullAt_proved : Rows.FnExactPullAtSaid :=
  OpenClaim.holds_of_wide 3 Try.f3 rfl rfl rfl rfl rfl rfl rfl ⟨rfl, rfl, rfl, rfl, rfl⟩ rfl rfl rfl rfl rfl (by kernel_rfl) Try.func3 (by kernel_rfl)
    (of_decide_eq_true (by kernel_rfl)) (by unfold Func.isWrapper; rw [if_neg (of_decide_eq_false (by kernel_rfl))]; exact ⟨rfl, rfl⟩)
    (fun os started H enc _ => lifted_fnExactPullAt os started H enc)
#print axioms fnExactPullAt_proved
end Go.Proofs.Ytmljacpmmnngkaa
