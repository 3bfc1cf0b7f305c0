/-
  For every input the law FnExactLongestPass returns true, and each argument reads afterwards as it read before. No condition.
-/
import Derived.Test.YthlijhnplalflaaRows
import Derived.Test.YthlijhnplalflaaLongP
import Derived.Deep.Slices
import Derived.ProofKit
import Derived.OpenShut
import Derived.ShutString
import Derived.ChangeOld
import Derived.Below
import Derived.Lib.SmallJoins
import Derived.Carry
namespace Go.Proofs.Ythlijhnplalflaa
open Go.ChangeShapes Go.WideShapes Go.ChangeAt Go.RowKit Go.Joins
open Go.ChangeMaps (open_string shut_string)
set_option linter.unusedVariables false

theorem own_fnExactLongestPass : ownKnob Try.prog.godebug = none := by kernel_rfl
theorem laidOut_fnExactLongestPass : laidOutB Try.prog = true := by kernel_rfl
theorem word_fnExactLongestPass {H : Type} {enc : TypeId × Value → H} {w : World} {base : Nat} {spare : Nat → Bool} {held : Bool} {m : Nat} {c : Value} {y : DataW H × List MemPlace} (h : DataW.trod enc Try.prog w base spare held m 4 [c] = some y) :
    ∃ b : Bool, c = .bool b := by
  cases m with
  | zero => simp [DataW.trod] at h
  | succ n =>
    cases c <;> simp [DataW.trod, Try.underlying4] at h
    case bool b => exact ⟨b, rfl⟩
theorem opent_fnExactLongestPass {H : Type} {enc : TypeId × Value → H} {w : World} {base : Nat} {spare : Nat → Bool} {held : Bool} {fuel : Nat} {a : Option Addr} {n cap : Nat} {x : DataW H × List MemPlace}
    (h : DataW.trod enc Try.prog w base spare held fuel 46 [.slice a n cap] = some x) : ∃ f : Nat → Bool, RowT w a n f := by
  rcases Go.Deep.open_slice1 Try.underlying46 (by kernel_rfl) h with ⟨hcs, _⟩ | ⟨x', len, cap', m, nn, V, D, Pl, hcs, hb, hl, hm, hmm, _, hV⟩
  · simp at hcs
    obtain ⟨rfl, rfl, rfl⟩ := hcs
    exact ⟨fun _ => false, .inl rfl⟩
  · simp at hcs
    obtain ⟨rfl, rfl, rfl⟩ := hcs
    have hm' : n ≤ m := by rw [hmm]; split <;> omega
    obtain ⟨f, hf⟩ := Go.Deep.choose_lt (p := fun i (b : Bool) => V i = .bool b) (fun i (hi : i < n) => word_fnExactLongestPass (hV i (by omega)).2)
    refine ⟨f, ?_⟩
    by_cases h0 : n = 0
    · exact .inl h0
    · have h1 := (hV 0 (by omega)).1
      obtain ⟨b, off, spot⟩ := x'
      have hspot : spot = none := by simpa [Addr.add] using World.cell?_spot h1
      subst hspot
      refine .inr ⟨b, off, rfl, World.block_lt_of_cell? _ _ h1, fun i hi => ?_⟩
      have h2 := (hV i (by omega)).1
      rw [hf i hi] at h2
      by_cases e : i = 0
      · subst e
        simpa [Addr.add] using h2
      · simpa [Addr.add, e] using h2

set_option maxRecDepth 100000 in
theorem lifted_fnExactLongestPass (os : Os) (started : os.Started) (H : Type) (enc : TypeId × Value → H) :
    ReturnsInHanded {} Try.checked os 11 .any (Rows.fnExactLongestPassSpec.pre6 enc Try.prog Try.f11 Rows.fnExactLongestPassRow.domain false) (Rows.fnExactLongestPassSpec.post enc Try.prog Try.f11 false true false false) := by
  refine returnsInHanded_of_change (C := Try.checked) own_fnExactLongestPass started (by kernel_rfl) Try.func11
    (ChangeSpec.witness6 (enc := enc) (C := Try.checked) false ⟨#[], #[.slice none 0 0], []⟩ 8 (by kernel_rfl) (by kernel_rfl) (by kernel_rfl) (by kernel_rfl)) ?_
  intro W base args ds gs before hval0 hW hcnd _
  have hval : ∀ (j : Nat) t v, Try.f11.params[j]? = some t → args[j]? = some v → Value.okWide Try.prog W .any base t v := hval0
  have hW' := hW
  obtain ⟨p, q, hA0, hV, rfl, hfz, hnd⟩ := hW
  have hA : DataW.TrodAll enc Try.prog W 0 (fun _ => true) true Try.f11.params.toList args.toList ds p := hA0
  rw [Try.params11] at hA hval
  obtain ⟨v0, vs0, d0, ds0, p0, q0, hargs, rfl, rfl, h0, r0⟩ := trodAll_cons hA
  obtain ⟨rfl, rfl, rfl⟩ := trodAll_nil r0
  obtain rfl : args = #[v0] := by cases args; simp_all
  obtain ⟨rfl, rfl⟩ := trodVars_none hV
  have k0 := h0
  have lt0 : ∀ x ∈ p0, x.block < W.heap.size := by obtain ⟨m, hm⟩ := k0; exact DataW.trod_lt m _ _ _ hm
  obtain ⟨a0, n0, cap0, rfl⟩ := okWide_slice Try.underlying46 (hval 0 46 v0 rfl rfl)
  obtain ⟨f0, hr0⟩ : ∃ f : Nat → Bool, RowT W a0 n0 f := by
    obtain ⟨fuel, hf⟩ := h0
    exact opent_fnExactLongestPass (by simpa [Value.cells] using hf)
  clear hA0 hval0
  refine (walk_FnExactLongestPass a0 n0 cap0 f0 W hr0).mono fun e W' ⟨he, bel⟩ => ?_
  subst he
  exact ⟨_, rfl, _, _, _, [], _, [], hW', trodAll_mk1 (shut_bool Try.underlying4 _), (trodAll_cons_mk (Below.trod laidOut_fnExactLongestPass (by kernel_rfl) (of_decide_eq_true (by kernel_rfl)) k0 bel lt0) trodAll_mk0), rfl, bel.frame _, fun h => by cases h⟩

theorem fnExactLongestPass_proved : Rows.FnExactLongestPassSaid :=
  OpenClaim.holds_of_wide 11 Try.f11 rfl rfl rfl rfl rfl rfl rfl ⟨rfl, rfl, rfl, rfl, rfl⟩ rfl rfl rfl rfl rfl (by kernel_rfl) Try.func11 (by kernel_rfl)
    (of_decide_eq_true (by kernel_rfl)) (by unfold Func.isWrapper; rw [if_neg (of_decide_eq_false (by kernel_rfl))]; exact ⟨rfl, rfl⟩)
    (fun os started H enc _ => lifted_fnExactLongestPass os started H enc)
#print axioms fnExactLongestPass_proved
end Go.Proofs.Ythlijhnplalflaa
