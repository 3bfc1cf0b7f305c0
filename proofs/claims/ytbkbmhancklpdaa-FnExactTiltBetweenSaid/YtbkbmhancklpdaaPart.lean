/-
  Numbers that are parts of a turn, Rounds and phases, of the program and of the model. No condition.
-/
import Derived.Test.YtbkbmhancklpdaaFinD
import Derived.Test.YtbkbmhancklpdaaMem
namespace Go.Proofs.Ytbkbmhancklpdaa
open Go.RowKit

theorem sFinite {x : Nat} {v : Option Nat} (ix : Is .f32 x v) (w : World) :
    Calls Try.prog 35 #[.float .f32 x] w (RetV (.bool (finS v)) w) := by
  have h := implFinite_any ix w
  rw [fin_same ix] at h
  exact h

/-- At least 0 and less than 1. -/
def partB (v : Option Nat) : Bool := cmpB .geq .f32 v (some 0) && cmpB .lss .f32 v (some 1065353216)
/-- Greater than 1 and finite. -/
def brR (v : Option Nat) : Bool := cmpB .gtr .f32 v (some 1065353216) && finS v
/-- From -16 to 16. -/
def brP (v : Option Nat) : Bool := cmpB .geq .f32 v (some 3246391296) && cmpB .leq .f32 v (some 1098907648)
theorem iPart {x : Nat} {v : Option Nat} (ix : Is .f32 x v) (w : World) :
    Calls Try.prog 36 #[.float .f32 x] w (RetV (.bool (partB v)) w) := by
  unfold partB
  cases hA : cmpB .geq .f32 v (some 0) <;> (go_enter Try.func36, Try.ntmps36; go_wp2_with (apply wpList_cmp; rfl; simp [Cmp]; rfl; rfl; (first | assumption | exact is_lit64 _ (by decide) | exact is_lit32 _ (by decide)); (first | assumption | exact is_lit64 _ (by decide) | exact is_lit32 _ (by decide)); intro Kq hKq; go_simp); go_ret; first | exact ⟨0, rfl, rfl⟩ | exact RetV.mk _)

theorem sPart {x : Nat} {v : Option Nat} (ix : Is .f32 x v) (w : World) :
    Calls Try.prog 28 #[.float .f32 x] w (RetV (.bool (partB v)) w) := by
  unfold partB
  cases hA : cmpB .geq .f32 v (some 0) <;> (go_enter Try.func28, Try.ntmps28; go_wp2_with (apply wpList_cmp; rfl; simp [Cmp]; rfl; rfl; (first | assumption | exact is_lit64 _ (by decide) | exact is_lit32 _ (by decide)); (first | assumption | exact is_lit64 _ (by decide) | exact is_lit32 _ (by decide)); intro Kq hKq; go_simp); go_ret; first | exact ⟨0, rfl, rfl⟩ | exact RetV.mk _)

theorem iEllR {x : Nat} {v : Option Nat} (ix : Is .f32 x v) (w : World) :
    Calls Try.prog 58 #[.float .f32 x] w (RetV (.bool (partB v)) w) := by
  unfold partB
  cases hA : cmpB .geq .f32 v (some 0) <;> (go_enter Try.func58, Try.ntmps58; go_wp2_with (apply wpList_cmp; rfl; simp [Cmp]; rfl; rfl; (first | assumption | exact is_lit64 _ (by decide) | exact is_lit32 _ (by decide)); (first | assumption | exact is_lit64 _ (by decide) | exact is_lit32 _ (by decide)); intro Kq hKq; go_simp); go_ret; first | exact ⟨0, rfl, rfl⟩ | exact RetV.mk _)

theorem iBraR {x : Nat} {v : Option Nat} (ix : Is .f32 x v) (w : World) :
    Calls Try.prog 59 #[.float .f32 x] w (RetV (.bool (brR v)) w) := by
  unfold brR
  cases hA : cmpB .gtr .f32 v (some 1065353216) <;> (go_enter Try.func59, Try.ntmps59; go_wp2_with (first | (apply wpList_cmp; rfl; simp [Cmp]; rfl; rfl; (first | assumption | exact is_lit64 _ (by decide) | exact is_lit32 _ (by decide)); (first | assumption | exact is_lit64 _ (by decide) | exact is_lit32 _ (by decide)); intro Kq hKq; go_simp) | (go_at_call 35; refine (sFinite (by assumption) _).mono ?_; rintro eq wq ⟨nq, rfl, rfl⟩)); go_ret; first | exact ⟨0, rfl, rfl⟩ | exact RetV.mk _)

theorem iBraP {x : Nat} {v : Option Nat} (ix : Is .f32 x v) (w : World) :
    Calls Try.prog 60 #[.float .f32 x] w (RetV (.bool (brP v)) w) := by
  unfold brP
  cases hA : cmpB .geq .f32 v (some 3246391296) <;> (go_enter Try.func60, Try.ntmps60; go_wp2_with (apply wpList_cmp; rfl; simp [Cmp]; rfl; rfl; (first | assumption | exact is_lit64 _ (by decide) | exact is_lit32 _ (by decide)); (first | assumption | exact is_lit64 _ (by decide) | exact is_lit32 _ (by decide)); intro Kq hKq; go_simp); go_ret; first | exact ⟨0, rfl, rfl⟩ | exact RetV.mk _)

theorem fin_cases {x : Nat} {v : Option Nat} (ix : Is .f32 x v) : finS v = true ∨ v = none ∨ ∃ s, v = some x ∧ FloatKind.f32.decode x = .infinity s := by
  cases v with
  | none => exact .inr (.inl rfl)
  | some z =>
    obtain rfl := ix.notNaN
    rcases single_low ix.dec with ⟨s, hs⟩ | ⟨s, m, e, hd, hm⟩
    · exact .inr (.inr ⟨s, rfl, hs⟩)
    · refine .inl ?_
      have hsub : fo .sub .f32 (some x) (some x) = some 0 := by
        unfold FloatKind.decode at hd
        have h0 : Ieee.signed s m 0 + Ieee.signed (!s) m 0 = 0 := by cases s <;> simp [Ieee.signed] <;> omega
        simp [fo, floatBits, Ieee.Format.sub, hd, Ieee.Datum.opposite, Ieee.Datum.sum, h0]
        cases s <;> rfl
      unfold finS
      rw [hsub]
      decide

/-- A number that is at least 0 and less than 1 is finite. -/
theorem part_fin {x : Nat} {v : Option Nat} (ix : Is .f32 x v) (h : finS v = false) : partB v = false := by
  rcases fin_cases ix with h' | rfl | ⟨s, rfl, hs⟩
  · rw [h'] at h; cases h
  · rfl
  · have r0 : FloatKind.f32.format.read 0 = .number false 0 (-149) := by rfl
    have r1 : FloatKind.f32.format.read 1065353216 = .number false 8388608 (-23) := by rfl
    unfold FloatKind.decode at hs
    have o0 : ordO .f32 (some x) (some 0) = (if s then some .lt else some .gt) := by
      simp only [ordO, Option.bind_some, Ieee.Format.order, hs, r0]
      cases s <;> rfl
    have o1 : ordO .f32 (some x) (some 1065353216) = (if s then some .lt else some .gt) := by
      simp only [ordO, Option.bind_some, Ieee.Format.order, hs, r1]
      cases s <;> rfl
    unfold partB cmpB
    simp only [o0, o1]
    cases s <;> rfl
end Go.Proofs.Ytbkbmhancklpdaa
