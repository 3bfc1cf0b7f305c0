/-
  Opposites of vectors, of the program and of the model, and what they have to do with being finite. No condition.
-/
import Derived.Test.YtkhinppmldodiaaTo
import Derived.Test.YtkhinppmldodiaaNegT
import Derived.Test.YtkhinppmldodiaaAre
namespace Go.Proofs.Ytkhinppmldodiaa
open Go.RowKit

theorem finS_num {x : Nat} {s : Bool} {m : Nat} {e : Int} (hd : FloatKind.f32.decode x = .number s m e) : finS (some x) = true := by
  unfold FloatKind.decode at hd
  have h0 : Ieee.signed s m 0 + Ieee.signed (!s) m 0 = 0 := by cases s <;> simp [Ieee.signed] <;> omega
  have hsub : fo .sub .f32 (some x) (some x) = some 0 := by
    simp [fo, floatBits, Ieee.Format.sub, hd, Ieee.Datum.opposite, Ieee.Datum.sum, h0]
    cases s <;> rfl
  unfold finS
  rw [hsub]
  decide
theorem finS_inf {x : Nat} {s : Bool} (hs : FloatKind.f32.decode x = .infinity s) : finS (some x) = false := by
  have hsub : fo .sub .f32 (some x) (some x) = none := by
    unfold FloatKind.decode at hs
    simp [fo, floatBits, Ieee.Format.sub, hs, Ieee.Datum.opposite, Ieee.Datum.sum]
  unfold finS
  rw [hsub]
  rfl

theorem finS_neg {x : Nat} {v : Option Nat} (ix : Is .f32 x v) : finS (negO .f32 v) = finS v := by
  cases v with
  | none => rfl
  | some z =>
    obtain rfl := ix.notNaN
    have hr := (read_neg .f32 ix.2).1
    show finS (some (Op.negFloat .f32 x)) = finS (some x)
    cases h : FloatKind.f32.decode x with
    | number s m e =>
      rw [finS_num h]
      unfold FloatKind.decode at h
      rw [h] at hr
      exact finS_num hr
    | infinity s =>
      rw [finS_inf h]
      unfold FloatKind.decode at h
      rw [h] at hr
      exact finS_inf hr
    | nan s f =>
      have hd := ix.dec
      rw [h] at hd
      cases hd

theorem implNeg {a0 a1 a2 : Nat} {x0 x1 x2 : Option Nat} (h0 : Is .f32 a0 x0) (h1 : Is .f32 a1 x1) (h2 : Is .f32 a2 x2) (w : World) :
    Calls Try.prog 53 #[vecV a0 a1 a2] w (RetVec 2 (negO .f32 x0) (negO .f32 x1) (negO .f32 x2) w) := by
  have hst := run_store_float Try.prog
  go_enter Try.func53, Try.ntmps53
  go_wp2_with (apply wpList_neg; rfl; rfl; (first | assumption | exact is_lit64 _ (by decide) | exact is_lit32 _ (by decide)); intro Kq hKq rq hq; go_simp)
  refine bodyPost_ret (v := vecV _ _ _) (by simp [results, Try.results53, go_sem]; exact ⟨rfl, rfl, rfl⟩) rfl ⟨_, _, _, rfl, by assumption, by assumption, by assumption, ?_, by simp [*]⟩
  repeat' (first | with_reducible exact Below.refl _ _ | with_reducible assumption | (with_reducible refine Below.setCell ?_ (by first | omega | (simp; done) | (simp; omega)) _) | (with_reducible refine Below.alloc ?_ (by first | omega | (simp; done) | (simp; omega)) _) | (with_reducible refine below_drewN ?_ _) | (with_reducible refine Below.drew ?_) | (with_reducible refine Below.trans ?_ (Below.mono (by first | (with_reducible assumption) | exact Grow.below (by assumption)) (by first | omega | (simp; done) | (simp; omega)))))

theorem sNeg {a0 a1 a2 : Nat} {x0 x1 x2 : Option Nat} (h0 : Is .f32 a0 x0) (h1 : Is .f32 a1 x1) (h2 : Is .f32 a2 x2) (w : World) :
    Calls Try.prog 52 #[vecV a0 a1 a2] w (RetVec 2 (negO .f32 x0) (negO .f32 x1) (negO .f32 x2) w) := by
  have hst := run_store_float Try.prog
  go_enter Try.func52, Try.ntmps52
  go_wp2_with (apply wpList_neg; rfl; rfl; (first | assumption | exact is_lit64 _ (by decide) | exact is_lit32 _ (by decide)); intro Kq hKq rq hq; go_simp)
  refine bodyPost_ret (v := vecV _ _ _) (by simp [results, Try.results52, go_sem]; exact ⟨rfl, rfl, rfl⟩) rfl ⟨_, _, _, rfl, by assumption, by assumption, by assumption, ?_, by simp [*]⟩
  repeat' (first | with_reducible exact Below.refl _ _ | with_reducible assumption | (with_reducible refine Below.setCell ?_ (by first | omega | (simp; done) | (simp; omega)) _) | (with_reducible refine Below.alloc ?_ (by first | omega | (simp; done) | (simp; omega)) _) | (with_reducible refine below_drewN ?_ _) | (with_reducible refine Below.drew ?_) | (with_reducible refine Below.trans ?_ (Below.mono (by first | (with_reducible assumption) | exact Grow.below (by assumption)) (by first | omega | (simp; done) | (simp; omega)))))
end Go.Proofs.Ytkhinppmldodiaa
