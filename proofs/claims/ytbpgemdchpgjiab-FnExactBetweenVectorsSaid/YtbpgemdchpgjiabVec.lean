/-
  Sums, differences and products of vectors, of the program and of the model. No condition.
-/
import Derived.Test.YtbpgemdchpgjiabSame
import Derived.Deep.RegionHeld3
import Derived.Deep.DeepCutAuto
namespace Go.Proofs.Ytbpgemdchpgjiab
open Go.RowKit

theorem setCell_drewN (w : World) (n : Nat) (a : Addr) (v : Value) : (w.drewN n).setCell a v = (w.setCell a v).drewN n := rfl
theorem alloc_drewN (w : World) (n : Nat) (o : Obj) : (w.drewN n).alloc o = (w.alloc o).drewN n := rfl

/-- A vector of three words, as a value and as a block. -/
abbrev vecV (a b c : Nat) : Value := .agg #[.float .f32 a, .float .f32 b, .float .f32 c]

theorem bcell {W w1 : World} (hb : Below W.heap.size W w1) : (∀ b o, b < W.heap.size → w1.cell? ⟨b, o, none⟩ = W.cell? ⟨b, o, none⟩) ∧ (∀ b o, b < W.heap.size → w1.frozen? ⟨b, o, none⟩ = W.frozen? ⟨b, o, none⟩) :=
  ⟨fun b o h => hb.cell (p := ⟨b, o, none⟩) h, fun b o h => hb.frozen (p := ⟨b, o, none⟩) h⟩

/-- The world has grown by m blocks; what was there is as it was. -/
def Grow (m : Nat) (w w' : World) : Prop := Below w.heap.size w w' ∧ w'.heap.size = w.heap.size + m
theorem Grow.below {m : Nat} {w w' : World} (h : Grow m w w') : Below w.heap.size w w' := h.1

theorem keepT {B m : Nat} {W0 W2 wq : World} (g : Grow m W2 wq) (h : Below B W0 W2) (hB : B ≤ W2.heap.size) : Below B W0 wq := h.trans (g.1.mono hB)

theorem realloc {B : Nat} {W0 X : World} {o o' : Obj} (h : Below B W0 (X.alloc o)) (hB : B ≤ X.heap.size) : Below B W0 (X.alloc o') :=
  ⟨h.os, h.tape, h.output, by have := h.size; simpa using this, fun k hk => by
    have h1 := h.block k hk
    rw [Below.heap_alloc _ _ _ (by omega)] at h1 ⊢
    exact h1⟩

/-- A vector whose words stand for three values is handed back, and the world has grown. -/
def RetVec (m : Nat) (v0 v1 v2 : Option Nat) (w : World) (e : Ending) (w' : World) : Prop := ∃ r0 r1 r2, e = .returned (vecV r0 r1 r2) ∧ Is .f32 r0 v0 ∧ Is .f32 r1 v1 ∧ Is .f32 r2 v2 ∧ Grow m w w'

theorem toVec_any {a0 a1 a2 : Nat} (w : World) :
    Calls Try.prog 24 #[vecV a0 a1 a2] w fun e w' => e = .returned (vecV a0 a1 a2) ∧ Grow 3 w w' := by
  have hst := run_store_float Try.prog
  go_enter Try.func24, Try.ntmps24
  go_wp2
  refine bodyPost_ret (v := vecV a0 a1 a2) (by simp [results, Try.results24, go_sem]) rfl ⟨rfl, ?_, by simp [*]⟩
  repeat' (first | exact Below.refl _ _ | refine below_drewN ?_ _ | refine Below.trans ?_ (Below.mono (Grow.below (by assumption)) (by first | (simp; done) | (simp [*]; done) | (simp [*]; omega) | omega)) | refine Below.setCell ?_ (by first | (simp; done) | (simp [*]; done) | (simp [*]; omega) | omega) _ | refine Below.alloc ?_ (by first | (simp; done) | (simp [*]; done) | (simp [*]; omega) | omega) _)

theorem eqVec_any {a0 a1 a2 b0 b1 b2 : Nat} {x0 x1 x2 : Option Nat} (h0 : Is .f32 a0 x0) (h1 : Is .f32 a1 x1) (h2 : Is .f32 a2 x2) (g0 : Is .f32 b0 x0) (g1 : Is .f32 b1 x1) (g2 : Is .f32 b2 x2) (w : World) :
    Calls Try.prog 26 #[vecV a0 a1 a2, vecV b0 b1 b2] w fun e w' => e = .returned (.bool true) ∧ Grow 2 w w' := by
  go_enter Try.func26, Try.ntmps26
  go_wp2_with (first | (apply wpList_wide und32 Try.underlying25; rfl; rfl; (first | assumption | exact is_lit64 _ (by decide) | exact is_lit32 _ (by decide)); intro Kq hKq rq nq hq; go_simp) | (go_at_call 16; refine (sameFloat_any (by assumption) (by assumption) _).mono ?_; rintro eq wq ⟨nq, rfl, rfl⟩))
  go_ret
  refine ⟨rfl, ?_, by simp [*]⟩
  repeat' (first | exact Below.refl _ _ | refine below_drewN ?_ _ | refine Below.trans ?_ (Below.mono (Grow.below (by assumption)) (by first | (simp; done) | (simp [*]; done) | (simp [*]; omega) | omega)) | refine Below.setCell ?_ (by first | (simp; done) | (simp [*]; done) | (simp [*]; omega) | omega) _ | refine Below.alloc ?_ (by first | (simp; done) | (simp [*]; done) | (simp [*]; omega) | omega) _)

theorem implAdd {a0 a1 a2 b0 b1 b2 : Nat} {x0 x1 x2 y0 y1 y2 : Option Nat} (h0 : Is .f32 a0 x0) (h1 : Is .f32 a1 x1) (h2 : Is .f32 a2 x2) (g0 : Is .f32 b0 y0) (g1 : Is .f32 b1 y1) (g2 : Is .f32 b2 y2) (w : World) :
    Calls Try.prog 25 #[vecV a0 a1 a2, vecV b0 b1 b2] w (RetVec 3 (fo .add .f32 x0 y0) (fo .add .f32 x1 y1) (fo .add .f32 x2 y2) w) := by
  have hst := run_store_float Try.prog
  go_enter Try.func25, Try.ntmps25
  go_wp2_with (apply wpList_arith; rfl; simp [Arith]; rfl; rfl; (first | assumption | exact is_lit64 _ (by decide) | exact is_lit32 _ (by decide)); (first | assumption | exact is_lit64 _ (by decide) | exact is_lit32 _ (by decide)); intro Kq hKq rq nq hq; go_simp)
  refine bodyPost_ret (v := vecV _ _ _) (by simp [results, Try.results25, go_sem]; exact ⟨rfl, rfl, rfl⟩) rfl ⟨_, _, _, rfl, by assumption, by assumption, by assumption, ?_, by simp [*]⟩
  repeat' (first | exact Below.refl _ _ | refine below_drewN ?_ _ | refine Below.trans ?_ (Below.mono (Grow.below (by assumption)) (by first | (simp; done) | (simp [*]; done) | (simp [*]; omega) | omega)) | refine Below.setCell ?_ (by first | (simp; done) | (simp [*]; done) | (simp [*]; omega) | omega) _ | refine Below.alloc ?_ (by first | (simp; done) | (simp [*]; done) | (simp [*]; omega) | omega) _)

theorem sAdd {a0 a1 a2 b0 b1 b2 : Nat} {x0 x1 x2 y0 y1 y2 : Option Nat} (h0 : Is .f32 a0 x0) (h1 : Is .f32 a1 x1) (h2 : Is .f32 a2 x2) (g0 : Is .f32 b0 y0) (g1 : Is .f32 b1 y1) (g2 : Is .f32 b2 y2) (w : World) :
    Calls Try.prog 46 #[vecV a0 a1 a2, vecV b0 b1 b2] w (RetVec 3 (fo .add .f32 x0 y0) (fo .add .f32 x1 y1) (fo .add .f32 x2 y2) w) := by
  have hst := run_store_float Try.prog
  go_enter Try.func46, Try.ntmps46
  go_wp2_with (apply wpList_arith; rfl; simp [Arith]; rfl; rfl; (first | assumption | exact is_lit64 _ (by decide) | exact is_lit32 _ (by decide)); (first | assumption | exact is_lit64 _ (by decide) | exact is_lit32 _ (by decide)); intro Kq hKq rq nq hq; go_simp)
  refine bodyPost_ret (v := vecV _ _ _) (by simp [results, Try.results46, go_sem]; exact ⟨rfl, rfl, rfl⟩) rfl ⟨_, _, _, rfl, by assumption, by assumption, by assumption, ?_, by simp [*]⟩
  repeat' (first | exact Below.refl _ _ | refine below_drewN ?_ _ | refine Below.trans ?_ (Below.mono (Grow.below (by assumption)) (by first | (simp; done) | (simp [*]; done) | (simp [*]; omega) | omega)) | refine Below.setCell ?_ (by first | (simp; done) | (simp [*]; done) | (simp [*]; omega) | omega) _ | refine Below.alloc ?_ (by first | (simp; done) | (simp [*]; done) | (simp [*]; omega) | omega) _)

theorem specAdd {a0 a1 a2 b0 b1 b2 : Nat} {x0 x1 x2 y0 y1 y2 : Option Nat} (h0 : Is .f32 a0 x0) (h1 : Is .f32 a1 x1) (h2 : Is .f32 a2 x2) (g0 : Is .f32 b0 y0) (g1 : Is .f32 b1 y1) (g2 : Is .f32 b2 y2) (w : World) :
    Calls Try.prog 23 #[vecV a0 a1 a2, vecV b0 b1 b2] w (RetVec 6 (fo .add .f32 x0 y0) (fo .add .f32 x1 y1) (fo .add .f32 x2 y2) w) := by
  have hst := run_store_float Try.prog
  go_enter Try.func23, Try.ntmps23
  go_wp2_with (go_at_call 46; refine (sAdd (by assumption) (by assumption) (by assumption) (by assumption) (by assumption) (by assumption) _).mono ?_; rintro eq wq ⟨rq0, rq1, rq2, rfl, hq0, hq1, hq2, hb⟩; obtain ⟨hc, hf⟩ := bcell hb.1; have hz := hb.2; try simp at hz)
  refine bodyPost_ret (v := vecV _ _ _) (by simp [results, Try.results23, go_sem, hc]; exact ⟨rfl, rfl, rfl⟩) rfl ⟨_, _, _, rfl, by assumption, by assumption, by assumption, ?_, by simp [*]⟩
  repeat' (first | exact Below.refl _ _ | refine below_drewN ?_ _ | refine Below.trans ?_ (Below.mono (Grow.below (by assumption)) (by first | (simp; done) | (simp [*]; done) | (simp [*]; omega) | omega)) | refine Below.setCell ?_ (by first | (simp; done) | (simp [*]; done) | (simp [*]; omega) | omega) _ | refine Below.alloc ?_ (by first | (simp; done) | (simp [*]; done) | (simp [*]; omega) | omega) _)

theorem implLess {a0 a1 a2 b0 b1 b2 : Nat} {x0 x1 x2 y0 y1 y2 : Option Nat} (h0 : Is .f32 a0 x0) (h1 : Is .f32 a1 x1) (h2 : Is .f32 a2 x2) (g0 : Is .f32 b0 y0) (g1 : Is .f32 b1 y1) (g2 : Is .f32 b2 y2) (w : World) :
    Calls Try.prog 28 #[vecV a0 a1 a2, vecV b0 b1 b2] w (RetVec 3 (fo .sub .f32 x0 y0) (fo .sub .f32 x1 y1) (fo .sub .f32 x2 y2) w) := by
  have hst := run_store_float Try.prog
  go_enter Try.func28, Try.ntmps28
  go_wp2_with (apply wpList_arith; rfl; simp [Arith]; rfl; rfl; (first | assumption | exact is_lit64 _ (by decide) | exact is_lit32 _ (by decide)); (first | assumption | exact is_lit64 _ (by decide) | exact is_lit32 _ (by decide)); intro Kq hKq rq nq hq; go_simp)
  refine bodyPost_ret (v := vecV _ _ _) (by simp [results, Try.results28, go_sem]; exact ⟨rfl, rfl, rfl⟩) rfl ⟨_, _, _, rfl, by assumption, by assumption, by assumption, ?_, by simp [*]⟩
  repeat' (first | exact Below.refl _ _ | refine below_drewN ?_ _ | refine Below.trans ?_ (Below.mono (Grow.below (by assumption)) (by first | (simp; done) | (simp [*]; done) | (simp [*]; omega) | omega)) | refine Below.setCell ?_ (by first | (simp; done) | (simp [*]; done) | (simp [*]; omega) | omega) _ | refine Below.alloc ?_ (by first | (simp; done) | (simp [*]; done) | (simp [*]; omega) | omega) _)

theorem sLess {a0 a1 a2 b0 b1 b2 : Nat} {x0 x1 x2 y0 y1 y2 : Option Nat} (h0 : Is .f32 a0 x0) (h1 : Is .f32 a1 x1) (h2 : Is .f32 a2 x2) (g0 : Is .f32 b0 y0) (g1 : Is .f32 b1 y1) (g2 : Is .f32 b2 y2) (w : World) :
    Calls Try.prog 47 #[vecV a0 a1 a2, vecV b0 b1 b2] w (RetVec 3 (fo .sub .f32 x0 y0) (fo .sub .f32 x1 y1) (fo .sub .f32 x2 y2) w) := by
  have hst := run_store_float Try.prog
  go_enter Try.func47, Try.ntmps47
  go_wp2_with (apply wpList_arith; rfl; simp [Arith]; rfl; rfl; (first | assumption | exact is_lit64 _ (by decide) | exact is_lit32 _ (by decide)); (first | assumption | exact is_lit64 _ (by decide) | exact is_lit32 _ (by decide)); intro Kq hKq rq nq hq; go_simp)
  refine bodyPost_ret (v := vecV _ _ _) (by simp [results, Try.results47, go_sem]; exact ⟨rfl, rfl, rfl⟩) rfl ⟨_, _, _, rfl, by assumption, by assumption, by assumption, ?_, by simp [*]⟩
  repeat' (first | exact Below.refl _ _ | refine below_drewN ?_ _ | refine Below.trans ?_ (Below.mono (Grow.below (by assumption)) (by first | (simp; done) | (simp [*]; done) | (simp [*]; omega) | omega)) | refine Below.setCell ?_ (by first | (simp; done) | (simp [*]; done) | (simp [*]; omega) | omega) _ | refine Below.alloc ?_ (by first | (simp; done) | (simp [*]; done) | (simp [*]; omega) | omega) _)

theorem specLess {a0 a1 a2 b0 b1 b2 : Nat} {x0 x1 x2 y0 y1 y2 : Option Nat} (h0 : Is .f32 a0 x0) (h1 : Is .f32 a1 x1) (h2 : Is .f32 a2 x2) (g0 : Is .f32 b0 y0) (g1 : Is .f32 b1 y1) (g2 : Is .f32 b2 y2) (w : World) :
    Calls Try.prog 27 #[vecV a0 a1 a2, vecV b0 b1 b2] w (RetVec 6 (fo .sub .f32 x0 y0) (fo .sub .f32 x1 y1) (fo .sub .f32 x2 y2) w) := by
  have hst := run_store_float Try.prog
  go_enter Try.func27, Try.ntmps27
  go_wp2_with (go_at_call 47; refine (sLess (by assumption) (by assumption) (by assumption) (by assumption) (by assumption) (by assumption) _).mono ?_; rintro eq wq ⟨rq0, rq1, rq2, rfl, hq0, hq1, hq2, hb⟩; obtain ⟨hc, hf⟩ := bcell hb.1; have hz := hb.2; try simp at hz)
  refine bodyPost_ret (v := vecV _ _ _) (by simp [results, Try.results27, go_sem, hc]; exact ⟨rfl, rfl, rfl⟩) rfl ⟨_, _, _, rfl, by assumption, by assumption, by assumption, ?_, by simp [*]⟩
  repeat' (first | exact Below.refl _ _ | refine below_drewN ?_ _ | refine Below.trans ?_ (Below.mono (Grow.below (by assumption)) (by first | (simp; done) | (simp [*]; done) | (simp [*]; omega) | omega)) | refine Below.setCell ?_ (by first | (simp; done) | (simp [*]; done) | (simp [*]; omega) | omega) _ | refine Below.alloc ?_ (by first | (simp; done) | (simp [*]; done) | (simp [*]; omega) | omega) _)

theorem implScale {a0 a1 a2 b : Nat} {x0 x1 x2 y : Option Nat} (h0 : Is .f32 a0 x0) (h1 : Is .f32 a1 x1) (h2 : Is .f32 a2 x2) (g : Is .f32 b y) (w : World) :
    Calls Try.prog 30 #[vecV a0 a1 a2, .float .f32 b] w (RetVec 2 (fo .mul .f32 x0 y) (fo .mul .f32 x1 y) (fo .mul .f32 x2 y) w) := by
  have hst := run_store_float Try.prog
  go_enter Try.func30, Try.ntmps30
  go_wp2_with (apply wpList_arith; rfl; simp [Arith]; rfl; rfl; (first | assumption | exact is_lit64 _ (by decide) | exact is_lit32 _ (by decide)); (first | assumption | exact is_lit64 _ (by decide) | exact is_lit32 _ (by decide)); intro Kq hKq rq nq hq; go_simp)
  refine bodyPost_ret (v := vecV _ _ _) (by simp [results, Try.results30, go_sem]; exact ⟨rfl, rfl, rfl⟩) rfl ⟨_, _, _, rfl, by assumption, by assumption, by assumption, ?_, by simp [*]⟩
  repeat' (first | exact Below.refl _ _ | refine below_drewN ?_ _ | refine Below.trans ?_ (Below.mono (Grow.below (by assumption)) (by first | (simp; done) | (simp [*]; done) | (simp [*]; omega) | omega)) | refine Below.setCell ?_ (by first | (simp; done) | (simp [*]; done) | (simp [*]; omega) | omega) _ | refine Below.alloc ?_ (by first | (simp; done) | (simp [*]; done) | (simp [*]; omega) | omega) _)

theorem sScale {a0 a1 a2 b : Nat} {x0 x1 x2 y : Option Nat} (h0 : Is .f32 a0 x0) (h1 : Is .f32 a1 x1) (h2 : Is .f32 a2 x2) (g : Is .f32 b y) (w : World) :
    Calls Try.prog 48 #[vecV a0 a1 a2, .float .f32 b] w (RetVec 2 (fo .mul .f32 x0 y) (fo .mul .f32 x1 y) (fo .mul .f32 x2 y) w) := by
  have hst := run_store_float Try.prog
  go_enter Try.func48, Try.ntmps48
  go_wp2_with (apply wpList_arith; rfl; simp [Arith]; rfl; rfl; (first | assumption | exact is_lit64 _ (by decide) | exact is_lit32 _ (by decide)); (first | assumption | exact is_lit64 _ (by decide) | exact is_lit32 _ (by decide)); intro Kq hKq rq nq hq; go_simp)
  refine bodyPost_ret (v := vecV _ _ _) (by simp [results, Try.results48, go_sem]; exact ⟨rfl, rfl, rfl⟩) rfl ⟨_, _, _, rfl, by assumption, by assumption, by assumption, ?_, by simp [*]⟩
  repeat' (first | exact Below.refl _ _ | refine below_drewN ?_ _ | refine Below.trans ?_ (Below.mono (Grow.below (by assumption)) (by first | (simp; done) | (simp [*]; done) | (simp [*]; omega) | omega)) | refine Below.setCell ?_ (by first | (simp; done) | (simp [*]; done) | (simp [*]; omega) | omega) _ | refine Below.alloc ?_ (by first | (simp; done) | (simp [*]; done) | (simp [*]; omega) | omega) _)

theorem specScale {a0 a1 a2 b : Nat} {x0 x1 x2 y : Option Nat} (h0 : Is .f32 a0 x0) (h1 : Is .f32 a1 x1) (h2 : Is .f32 a2 x2) (g : Is .f32 b y) (w : World) :
    Calls Try.prog 29 #[vecV a0 a1 a2, .float .f32 b] w (RetVec 4 (fo .mul .f32 x0 y) (fo .mul .f32 x1 y) (fo .mul .f32 x2 y) w) := by
  have hst := run_store_float Try.prog
  go_enter Try.func29, Try.ntmps29
  go_wp2_with (go_at_call 48; refine (sScale (by assumption) (by assumption) (by assumption) (by assumption) _).mono ?_; rintro eq wq ⟨rq0, rq1, rq2, rfl, hq0, hq1, hq2, hb⟩; obtain ⟨hc, hf⟩ := bcell hb.1; have hz := hb.2; try simp at hz)
  refine bodyPost_ret (v := vecV _ _ _) (by simp [results, Try.results29, go_sem, hc]; exact ⟨rfl, rfl, rfl⟩) rfl ⟨_, _, _, rfl, by assumption, by assumption, by assumption, ?_, by simp [*]⟩
  repeat' (first | exact Below.refl _ _ | refine below_drewN ?_ _ | refine Below.trans ?_ (Below.mono (Grow.below (by assumption)) (by first | (simp; done) | (simp [*]; done) | (simp [*]; omega) | omega)) | refine Below.setCell ?_ (by first | (simp; done) | (simp [*]; done) | (simp [*]; omega) | omega) _ | refine Below.alloc ?_ (by first | (simp; done) | (simp [*]; done) | (simp [*]; omega) | omega) _)

theorem implCross {a0 a1 a2 b0 b1 b2 : Nat} {x0 x1 x2 y0 y1 y2 : Option Nat} (h0 : Is .f32 a0 x0) (h1 : Is .f32 a1 x1) (h2 : Is .f32 a2 x2) (g0 : Is .f32 b0 y0) (g1 : Is .f32 b1 y1) (g2 : Is .f32 b2 y2) (w : World) :
    Calls Try.prog 34 #[vecV a0 a1 a2, vecV b0 b1 b2] w (RetVec 3 (fo .sub .f32 (fo .mul .f32 x1 y2) (fo .mul .f32 x2 y1)) (fo .sub .f32 (fo .mul .f32 x2 y0) (fo .mul .f32 x0 y2)) (fo .sub .f32 (fo .mul .f32 x0 y1) (fo .mul .f32 x1 y0)) w) := by
  have hst := run_store_float Try.prog
  go_enter Try.func34, Try.ntmps34
  go_wp2_with (apply wpList_arith; rfl; simp [Arith]; rfl; rfl; (first | assumption | exact is_lit64 _ (by decide) | exact is_lit32 _ (by decide)); (first | assumption | exact is_lit64 _ (by decide) | exact is_lit32 _ (by decide)); intro Kq hKq rq nq hq; go_simp)
  refine bodyPost_ret (v := vecV _ _ _) (by simp [results, Try.results34, go_sem]; exact ⟨rfl, rfl, rfl⟩) rfl ⟨_, _, _, rfl, by assumption, by assumption, by assumption, ?_, by simp [*]⟩
  repeat' (first | exact Below.refl _ _ | refine below_drewN ?_ _ | refine Below.trans ?_ (Below.mono (Grow.below (by assumption)) (by first | (simp; done) | (simp [*]; done) | (simp [*]; omega) | omega)) | refine Below.setCell ?_ (by first | (simp; done) | (simp [*]; done) | (simp [*]; omega) | omega) _ | refine Below.alloc ?_ (by first | (simp; done) | (simp [*]; done) | (simp [*]; omega) | omega) _)

theorem sCross {a0 a1 a2 b0 b1 b2 : Nat} {x0 x1 x2 y0 y1 y2 : Option Nat} (h0 : Is .f32 a0 x0) (h1 : Is .f32 a1 x1) (h2 : Is .f32 a2 x2) (g0 : Is .f32 b0 y0) (g1 : Is .f32 b1 y1) (g2 : Is .f32 b2 y2) (w : World) :
    Calls Try.prog 50 #[vecV a0 a1 a2, vecV b0 b1 b2] w (RetVec 3 (fo .sub .f32 (fo .mul .f32 x1 y2) (fo .mul .f32 x2 y1)) (fo .sub .f32 (fo .mul .f32 x2 y0) (fo .mul .f32 x0 y2)) (fo .sub .f32 (fo .mul .f32 x0 y1) (fo .mul .f32 x1 y0)) w) := by
  have hst := run_store_float Try.prog
  go_enter Try.func50, Try.ntmps50
  go_wp2_with (apply wpList_arith; rfl; simp [Arith]; rfl; rfl; (first | assumption | exact is_lit64 _ (by decide) | exact is_lit32 _ (by decide)); (first | assumption | exact is_lit64 _ (by decide) | exact is_lit32 _ (by decide)); intro Kq hKq rq nq hq; go_simp)
  refine bodyPost_ret (v := vecV _ _ _) (by simp [results, Try.results50, go_sem]; exact ⟨rfl, rfl, rfl⟩) rfl ⟨_, _, _, rfl, by assumption, by assumption, by assumption, ?_, by simp [*]⟩
  repeat' (first | exact Below.refl _ _ | refine below_drewN ?_ _ | refine Below.trans ?_ (Below.mono (Grow.below (by assumption)) (by first | (simp; done) | (simp [*]; done) | (simp [*]; omega) | omega)) | refine Below.setCell ?_ (by first | (simp; done) | (simp [*]; done) | (simp [*]; omega) | omega) _ | refine Below.alloc ?_ (by first | (simp; done) | (simp [*]; done) | (simp [*]; omega) | omega) _)

theorem specCross {a0 a1 a2 b0 b1 b2 : Nat} {x0 x1 x2 y0 y1 y2 : Option Nat} (h0 : Is .f32 a0 x0) (h1 : Is .f32 a1 x1) (h2 : Is .f32 a2 x2) (g0 : Is .f32 b0 y0) (g1 : Is .f32 b1 y1) (g2 : Is .f32 b2 y2) (w : World) :
    Calls Try.prog 33 #[vecV a0 a1 a2, vecV b0 b1 b2] w (RetVec 6 (fo .sub .f32 (fo .mul .f32 x1 y2) (fo .mul .f32 x2 y1)) (fo .sub .f32 (fo .mul .f32 x2 y0) (fo .mul .f32 x0 y2)) (fo .sub .f32 (fo .mul .f32 x0 y1) (fo .mul .f32 x1 y0)) w) := by
  have hst := run_store_float Try.prog
  go_enter Try.func33, Try.ntmps33
  go_wp2_with (go_at_call 50; refine (sCross (by assumption) (by assumption) (by assumption) (by assumption) (by assumption) (by assumption) _).mono ?_; rintro eq wq ⟨rq0, rq1, rq2, rfl, hq0, hq1, hq2, hb⟩; obtain ⟨hc, hf⟩ := bcell hb.1; have hz := hb.2; try simp at hz)
  refine bodyPost_ret (v := vecV _ _ _) (by simp [results, Try.results33, go_sem, hc]; exact ⟨rfl, rfl, rfl⟩) rfl ⟨_, _, _, rfl, by assumption, by assumption, by assumption, ?_, by simp [*]⟩
  repeat' (first | exact Below.refl _ _ | refine below_drewN ?_ _ | refine Below.trans ?_ (Below.mono (Grow.below (by assumption)) (by first | (simp; done) | (simp [*]; done) | (simp [*]; omega) | omega)) | refine Below.setCell ?_ (by first | (simp; done) | (simp [*]; done) | (simp [*]; omega) | omega) _ | refine Below.alloc ?_ (by first | (simp; done) | (simp [*]; done) | (simp [*]; omega) | omega) _)
end Go.Proofs.Ytbpgemdchpgjiab
