/-
  Inner products and lengths of vectors, of the program and of the model. No condition.
-/
import Derived.Test.YtbpgemdchpgjiabVec
import Derived.Test.YtbpgemdchpgjiabRoot
namespace Go.Proofs.Ytbpgemdchpgjiab
open Go.RowKit

/-- A number is handed back, and the world has grown by m blocks. -/
def RetG (m : Nat) (v : Option Nat) (w : World) (e : Ending) (w' : World) : Prop := ∃ r, e = .returned (.float .f32 r) ∧ Is .f32 r v ∧ Grow m w w'

def innerO (x0 x1 x2 y0 y1 y2 : Option Nat) : Option Nat := fo .add .f32 (fo .add .f32 (fo .mul .f32 x0 y0) (fo .mul .f32 x1 y1)) (fo .mul .f32 x2 y2)

theorem implInner {a0 a1 a2 b0 b1 b2 : Nat} {x0 x1 x2 y0 y1 y2 : Option Nat} (h0 : Is .f32 a0 x0) (h1 : Is .f32 a1 x1) (h2 : Is .f32 a2 x2) (g0 : Is .f32 b0 y0) (g1 : Is .f32 b1 y1) (g2 : Is .f32 b2 y2) (w : World) :
    Calls Try.prog 32 #[vecV a0 a1 a2, vecV b0 b1 b2] w (RetG 2 (innerO x0 x1 x2 y0 y1 y2) w) := by
  go_enter Try.func32, Try.ntmps32
  go_wp2_with (apply wpList_arith; rfl; simp [Arith]; rfl; rfl; (first | assumption | exact is_lit64 _ (by decide) | exact is_lit32 _ (by decide)); (first | assumption | exact is_lit64 _ (by decide) | exact is_lit32 _ (by decide)); intro Kq hKq rq nq hq; go_simp)
  go_ret
  refine ⟨_, rfl, by assumption, ?_, by simp [*]⟩
  repeat' (first | exact Below.refl _ _ | refine below_drewN ?_ _ | refine Below.trans ?_ (Below.mono (Grow.below (by assumption)) (by first | (simp; done) | (simp [*]; done) | (simp [*]; omega) | omega)) | refine Below.setCell ?_ (by first | (simp; done) | (simp [*]; done) | (simp [*]; omega) | omega) _ | refine Below.alloc ?_ (by first | (simp; done) | (simp [*]; done) | (simp [*]; omega) | omega) _)

theorem sInner {a0 a1 a2 b0 b1 b2 : Nat} {x0 x1 x2 y0 y1 y2 : Option Nat} (h0 : Is .f32 a0 x0) (h1 : Is .f32 a1 x1) (h2 : Is .f32 a2 x2) (g0 : Is .f32 b0 y0) (g1 : Is .f32 b1 y1) (g2 : Is .f32 b2 y2) (w : World) :
    Calls Try.prog 49 #[vecV a0 a1 a2, vecV b0 b1 b2] w (RetG 2 (innerO x0 x1 x2 y0 y1 y2) w) := by
  go_enter Try.func49, Try.ntmps49
  go_wp2_with (apply wpList_arith; rfl; simp [Arith]; rfl; rfl; (first | assumption | exact is_lit64 _ (by decide) | exact is_lit32 _ (by decide)); (first | assumption | exact is_lit64 _ (by decide) | exact is_lit32 _ (by decide)); intro Kq hKq rq nq hq; go_simp)
  go_ret
  refine ⟨_, rfl, by assumption, ?_, by simp [*]⟩
  repeat' (first | exact Below.refl _ _ | refine below_drewN ?_ _ | refine Below.trans ?_ (Below.mono (Grow.below (by assumption)) (by first | (simp; done) | (simp [*]; done) | (simp [*]; omega) | omega)) | refine Below.setCell ?_ (by first | (simp; done) | (simp [*]; done) | (simp [*]; omega) | omega) _ | refine Below.alloc ?_ (by first | (simp; done) | (simp [*]; done) | (simp [*]; omega) | omega) _)

theorem specInner {a0 a1 a2 b0 b1 b2 : Nat} {x0 x1 x2 y0 y1 y2 : Option Nat} (h0 : Is .f32 a0 x0) (h1 : Is .f32 a1 x1) (h2 : Is .f32 a2 x2) (g0 : Is .f32 b0 y0) (g1 : Is .f32 b1 y1) (g2 : Is .f32 b2 y2) (w : World) :
    Calls Try.prog 31 #[vecV a0 a1 a2, vecV b0 b1 b2] w (RetG 4 (innerO x0 x1 x2 y0 y1 y2) w) := by
  go_enter Try.func31, Try.ntmps31
  go_wp2_with (go_at_call 49; refine (sInner h0 h1 h2 g0 g1 g2 _).mono ?_; rintro eq wq ⟨rq, rfl, hq, hb⟩; obtain ⟨hc, hf⟩ := bcell hb.1; have hz := hb.2; try simp at hz)
  go_ret
  refine ⟨_, rfl, by assumption, ?_, by simp [*]⟩
  repeat' (first | exact Below.refl _ _ | refine below_drewN ?_ _ | refine Below.trans ?_ (Below.mono (Grow.below (by assumption)) (by first | (simp; done) | (simp [*]; done) | (simp [*]; omega) | omega)) | refine Below.setCell ?_ (by first | (simp; done) | (simp [*]; done) | (simp [*]; omega) | omega) _ | refine Below.alloc ?_ (by first | (simp; done) | (simp [*]; done) | (simp [*]; omega) | omega) _)
theorem implSize {a0 a1 a2 : Nat} {x0 x1 x2 : Option Nat} (h0 : Is .f32 a0 x0) (h1 : Is .f32 a1 x1) (h2 : Is .f32 a2 x2) (w : World) :
    Calls Try.prog 36 #[vecV a0 a1 a2] w (RetG 3 (rootO (innerO x0 x1 x2 x0 x1 x2)) w) := by
  go_enter Try.func36, Try.ntmps36
  go_wp2_with (first | (go_at_call 32; refine (implInner h0 h1 h2 h0 h1 h2 _).mono ?_; rintro eq wq ⟨rq, rfl, hq, hb⟩; obtain ⟨hc, hf⟩ := bcell hb.1; have hz := hb.2; try simp at hz) | (go_at_call 15; refine (root_any (by assumption) _).mono ?_; rintro eq wq ⟨rq, nq, rfl, hq, rfl⟩))
  go_ret
  refine ⟨_, rfl, by assumption, ?_, by simp [*]⟩
  repeat' (first | exact Below.refl _ _ | refine below_drewN ?_ _ | refine Below.trans ?_ (Below.mono (Grow.below (by assumption)) (by first | (simp; done) | (simp [*]; done) | (simp [*]; omega) | omega)) | refine Below.setCell ?_ (by first | (simp; done) | (simp [*]; done) | (simp [*]; omega) | omega) _ | refine Below.alloc ?_ (by first | (simp; done) | (simp [*]; done) | (simp [*]; omega) | omega) _)
theorem sLong {a0 a1 a2 : Nat} {x0 x1 x2 : Option Nat} (h0 : Is .f32 a0 x0) (h1 : Is .f32 a1 x1) (h2 : Is .f32 a2 x2) (w : World) :
    Calls Try.prog 51 #[vecV a0 a1 a2] w (RetG 3 (rootO (innerO x0 x1 x2 x0 x1 x2)) w) := by
  go_enter Try.func51, Try.ntmps51
  go_wp2_with (first | (go_at_call 49; refine (sInner h0 h1 h2 h0 h1 h2 _).mono ?_; rintro eq wq ⟨rq, rfl, hq, hb⟩; obtain ⟨hc, hf⟩ := bcell hb.1; have hz := hb.2; try simp at hz) | (go_at_call 39; refine (l01Sqrt_any (by assumption) _).mono ?_; rintro eq wq ⟨rq, nq, rfl, hq, rfl⟩))
  go_ret
  refine ⟨_, rfl, by assumption, ?_, by simp [*]⟩
  repeat' (first | exact Below.refl _ _ | refine below_drewN ?_ _ | refine Below.trans ?_ (Below.mono (Grow.below (by assumption)) (by first | (simp; done) | (simp [*]; done) | (simp [*]; omega) | omega)) | refine Below.setCell ?_ (by first | (simp; done) | (simp [*]; done) | (simp [*]; omega) | omega) _ | refine Below.alloc ?_ (by first | (simp; done) | (simp [*]; done) | (simp [*]; omega) | omega) _)
theorem specSize {a0 a1 a2 : Nat} {x0 x1 x2 : Option Nat} (h0 : Is .f32 a0 x0) (h1 : Is .f32 a1 x1) (h2 : Is .f32 a2 x2) (w : World) :
    Calls Try.prog 35 #[vecV a0 a1 a2] w (RetG 4 (rootO (innerO x0 x1 x2 x0 x1 x2)) w) := by
  go_enter Try.func35, Try.ntmps35
  go_wp2_with (go_at_call 51; refine (sLong h0 h1 h2 _).mono ?_; rintro eq wq ⟨rq, rfl, hq, hb⟩; obtain ⟨hc, hf⟩ := bcell hb.1; have hz := hb.2; try simp at hz)
  go_ret
  refine ⟨_, rfl, by assumption, ?_, by simp [*]⟩
  repeat' (first | exact Below.refl _ _ | refine below_drewN ?_ _ | refine Below.trans ?_ (Below.mono (Grow.below (by assumption)) (by first | (simp; done) | (simp [*]; done) | (simp [*]; omega) | omega)) | refine Below.setCell ?_ (by first | (simp; done) | (simp [*]; done) | (simp [*]; omega) | omega) _ | refine Below.alloc ?_ (by first | (simp; done) | (simp [*]; done) | (simp [*]; omega) | omega) _)
theorem walk_FnExactSizeOfVector (a0 a1 a2 : Nat) (w : World) (k0 : a0 < 2 ^ 32) (k1 : a1 < 2 ^ 32) (k2 : a2 < 2 ^ 32) :
    Calls Try.prog 12 #[vecV a0 a1 a2] w fun e w' => e = .returned (.bool true) ∧ Below w.heap.size w w' := by
  have h0 := Is.self (k := .f32) k0
  have h1 := Is.self (k := .f32) k1
  have h2 := Is.self (k := .f32) k2
  go_enter Try.func12, Try.ntmps12
  go_wp2_with (first | (apply wpList_wide und32 Try.underlying25; rfl; rfl; (first | assumption | exact is_lit64 _ (by decide) | exact is_lit32 _ (by decide)); intro Kq hKq rq nq hq; go_simp) | (go_at_call 24; refine (toVec_any _).mono ?_; rintro eq wq ⟨rfl, hb⟩; obtain ⟨hc, hf⟩ := bcell hb.1; have hz := hb.2; try simp at hz) | (go_at_call 35; refine (specSize h0 h1 h2 _).mono ?_; rintro eq wq ⟨rq, rfl, hq, hb⟩; obtain ⟨hc, hf⟩ := bcell hb.1; have hz := hb.2; try simp at hz) | (go_at_call 36; refine (implSize h0 h1 h2 _).mono ?_; rintro eq wq ⟨rq, rfl, hq, hb⟩; obtain ⟨hc, hf⟩ := bcell hb.1; have hz := hb.2; try simp at hz) | (go_at_call 16; refine (sameFloat_any (by assumption) (by assumption) _).mono ?_; rintro eq wq ⟨nq, rfl, rfl⟩))
  go_ret
  refine ⟨rfl, ?_⟩
  repeat' (first | exact Below.refl _ _ | refine below_drewN ?_ _ | refine Below.trans ?_ (Below.mono (Grow.below (by assumption)) (by first | (simp; done) | (simp [*]; done) | (simp [*]; omega) | omega)) | refine Below.setCell ?_ (by first | (simp; done) | (simp [*]; done) | (simp [*]; omega) | omega) _ | refine Below.alloc ?_ (by first | (simp; done) | (simp [*]; done) | (simp [*]; omega) | omega) _)
end Go.Proofs.Ytbpgemdchpgjiab
