/-
  For every number the law's text on circles returns true, and writes nothing that was there. No condition.
-/
import Derived.Test.YthajdpfdnihimaaOrbS
namespace Go.Proofs.Ythajdpfdnihimaa
open Go.RowKit

theorem zero32 : Is .f32 0 (some 0) := is_lit32 0 (by decide)

theorem eqOrb_any {a0 a1 a2 a3 a4 a5 : Nat} {x0 x1 x2 x3 x4 x5 : Option Nat} (h0 : Is .f32 a0 x0) (h1 : Is .f32 a1 x1) (h2 : Is .f32 a2 x2) (h3 : Is .f32 a3 x3) (h4 : Is .f32 a4 x4) (h5 : Is .f32 a5 x5) {b0 b1 b2 b3 b4 b5 : Nat} (g0 : Is .f32 b0 x0) (g1 : Is .f32 b1 x1) (g2 : Is .f32 b2 x2) (g3 : Is .f32 b3 x3) (g4 : Is .f32 b4 x4) (g5 : Is .f32 b5 x5) (w : World) :
    Calls Try.prog 16 #[orbV a0 a1 a2 a3 a4 a5, orbV b0 b1 b2 b3 b4 b5] w fun e w' => e = .returned (.bool true) ∧ Below w.heap.size w w' := by
  go_enter Try.func16, Try.ntmps16
  go_wp2_with (first | (apply wpList_wide und32 Try.underlying37; rfl; rfl; (first | assumption | exact is_lit64 _ (by decide) | exact is_lit32 _ (by decide)); intro Kq hKq rq nq hq; go_simp) | (go_at_call 19; refine (sameFloat_any (by assumption) (by assumption) _).mono ?_; rintro eq wq ⟨nq, rfl, rfl⟩))
  go_ret
  refine ⟨rfl, ?_⟩
  repeat' (first | with_reducible exact Below.refl _ _ | with_reducible assumption | (with_reducible refine Below.setCell ?_ (by first | omega | (simp; done) | (simp; omega)) _) | (with_reducible refine Below.alloc ?_ (by first | omega | (simp; done) | (simp; omega)) _) | (with_reducible refine below_drewN ?_ _) | (with_reducible refine Below.drew ?_) | (with_reducible refine Below.trans ?_ (Below.mono (by first | (with_reducible assumption) | exact Grow.below (by assumption)) (by first | omega | (simp; done) | (simp; omega)))))

/-- Whether a number is finite and greater than 0. -/
def aboveB (v : Option Nat) : Bool := finS v && cmpB .gtr .f32 v (some 0)

theorem sAbove {x : Nat} {v : Option Nat} (ix : Is .f32 x v) (w : World) :
    Calls Try.prog 31 #[.float .f32 x] w (RetV (.bool (aboveB v)) w) := by
  unfold aboveB
  cases hA : finS v <;> (go_enter Try.func31, Try.ntmps31; go_wp2_with (first | (apply wpList_cmp; rfl; simp [Cmp]; rfl; rfl; (first | assumption | exact is_lit64 _ (by decide) | exact is_lit32 _ (by decide)); (first | assumption | exact is_lit64 _ (by decide) | exact is_lit32 _ (by decide)); intro Kq hKq; go_simp) | (go_at_call 34; refine (finite_any (by assumption) _).mono ?_; rintro eq wq ⟨nq, rfl, rfl⟩)); go_ret; first | exact ⟨0, rfl, rfl⟩ | exact RetV.mk _)

theorem orb_circle (v : Option Nat) : orbB v (some 0) (some 0) (some 0) (some 0) (some 0) = aboveB v := by
  have e1 : partB (some 0) = true := by decide
  have e2 : tiltB (some 0) = true := by decide
  have e3 : brR (some 0) = false := by decide
  unfold orbB ellB braB aboveB
  simp [e1, e2, e3]

theorem iCheckY {a0 a1 a2 a3 a4 a5 : Nat} {x0 x1 x2 x3 x4 x5 : Option Nat} (h0 : Is .f32 a0 x0) (h1 : Is .f32 a1 x1) (h2 : Is .f32 a2 x2) (h3 : Is .f32 a3 x3) (h4 : Is .f32 a4 x4) (h5 : Is .f32 a5 x5) (hO : orbB x0 x1 x2 x3 x4 x5 = true) (w : World) :
    Calls Try.prog 32 #[orbV a0 a1 a2 a3 a4 a5] w fun e w' => e = .returned (.tuple #[orbV a0 a1 a2 a3 a4 a5, .bool true]) ∧ Below w.heap.size w w' := by
  have hst := run_store_float Try.prog
  go_enter Try.func32, Try.ntmps32
  go_wp2_with (go_at_call 11; refine (iOrb h0 h1 h2 h3 h4 h5 _).mono ?_; rintro eq wq ⟨rfl, hb⟩; obtain ⟨hc, hf⟩ := bcell hb; have hz := hb.size; (try simp at hz); (try have hl : w.heap.size < wq.heap.size := (by omega)))
  refine bodyPost_ret (v := .tuple #[orbV a0 a1 a2 a3 a4 a5, .bool true]) (by simp [results, Try.results32, go_sem, hc]) rfl ⟨rfl, ?_⟩
  repeat' (first | with_reducible exact Below.refl _ _ | with_reducible assumption | (with_reducible refine Below.setCell ?_ (by first | omega | (simp; done) | (simp; omega)) _) | (with_reducible refine Below.alloc ?_ (by first | omega | (simp; done) | (simp; omega)) _) | (with_reducible refine below_drewN ?_ _) | (with_reducible refine Below.drew ?_) | (with_reducible refine Below.trans ?_ (Below.mono (by first | (with_reducible assumption) | exact Grow.below (by assumption)) (by first | omega | (simp; done) | (simp; omega)))))

theorem iCheckN {a0 a1 a2 a3 a4 a5 : Nat} {x0 x1 x2 x3 x4 x5 : Option Nat} (h0 : Is .f32 a0 x0) (h1 : Is .f32 a1 x1) (h2 : Is .f32 a2 x2) (h3 : Is .f32 a3 x3) (h4 : Is .f32 a4 x4) (h5 : Is .f32 a5 x5) (hO : orbB x0 x1 x2 x3 x4 x5 = false) (w : World) :
    Calls Try.prog 32 #[orbV a0 a1 a2 a3 a4 a5] w fun e w' => e = .returned (.tuple #[orbV 0 0 0 0 0 0, .bool false]) ∧ Below w.heap.size w w' := by
  have hst := run_store_float Try.prog
  go_enter Try.func32, Try.ntmps32
  go_wp2_with (go_at_call 11; refine (iOrb h0 h1 h2 h3 h4 h5 _).mono ?_; rintro eq wq ⟨rfl, hb⟩; obtain ⟨hc, hf⟩ := bcell hb; have hz := hb.size; (try simp at hz); (try have hl : w.heap.size < wq.heap.size := (by omega)))
  refine bodyPost_ret (v := .tuple #[orbV 0 0 0 0 0 0, .bool false]) (by simp [results, Try.results32, go_sem, hc]) rfl ⟨rfl, ?_⟩
  repeat' (first | with_reducible exact Below.refl _ _ | with_reducible assumption | (with_reducible refine Below.setCell ?_ (by first | omega | (simp; done) | (simp; omega)) _) | (with_reducible refine Below.alloc ?_ (by first | omega | (simp; done) | (simp; omega)) _) | (with_reducible refine below_drewN ?_ _) | (with_reducible refine Below.drew ?_) | (with_reducible refine Below.trans ?_ (Below.mono (by first | (with_reducible assumption) | exact Grow.below (by assumption)) (by first | omega | (simp; done) | (simp; omega)))))

theorem iCircle {a : Nat} {x : Option Nat} (h : Is .f32 a x) (b : Bool) (hO : aboveB x = b) (w : World) :
    Calls Try.prog 15 #[.float .f32 a] w fun e w' => e = .returned (.tuple #[orbV (if b then a else 0) 0 0 0 0 0, .bool b]) ∧ Below w.heap.size w w' := by
  have hst := run_store_float Try.prog
  rw [← orb_circle] at hO
  cases b with
  | true =>
    go_enter Try.func15, Try.ntmps15
    go_wp2_with (go_at_call 32; refine (iCheckY h zero32 zero32 zero32 zero32 zero32 hO _).mono ?_; rintro eq wq ⟨rfl, hb⟩; obtain ⟨hc, hf⟩ := bcell hb; have hz := hb.size; (try simp at hz); (try have hl : w.heap.size < wq.heap.size := (by omega)))
    refine bodyPost_ret (v := .tuple #[orbV a 0 0 0 0 0, .bool true]) (by simp [results, Try.results15, go_sem, hc, hz]) rfl ⟨rfl, ?_⟩
    repeat' (first | with_reducible exact Below.refl _ _ | with_reducible assumption | (with_reducible refine Below.setCell ?_ (by first | omega | (simp; done) | (simp; omega)) _) | (with_reducible refine Below.alloc ?_ (by first | omega | (simp; done) | (simp; omega)) _) | (with_reducible refine below_drewN ?_ _) | (with_reducible refine Below.drew ?_) | (with_reducible refine Below.trans ?_ (Below.mono (by first | (with_reducible assumption) | exact Grow.below (by assumption)) (by first | omega | (simp; done) | (simp; omega)))))
  | false =>
    go_enter Try.func15, Try.ntmps15
    go_wp2_with (go_at_call 32; refine (iCheckN h zero32 zero32 zero32 zero32 zero32 hO _).mono ?_; rintro eq wq ⟨rfl, hb⟩; obtain ⟨hc, hf⟩ := bcell hb; have hz := hb.size; (try simp at hz); (try have hl : w.heap.size < wq.heap.size := (by omega)))
    refine bodyPost_ret (v := .tuple #[orbV 0 0 0 0 0 0, .bool false]) (by simp [results, Try.results15, go_sem, hc, hz]) rfl ⟨rfl, ?_⟩
    repeat' (first | with_reducible exact Below.refl _ _ | with_reducible assumption | (with_reducible refine Below.setCell ?_ (by first | omega | (simp; done) | (simp; omega)) _) | (with_reducible refine Below.alloc ?_ (by first | omega | (simp; done) | (simp; omega)) _) | (with_reducible refine below_drewN ?_ _) | (with_reducible refine Below.drew ?_) | (with_reducible refine Below.trans ?_ (Below.mono (by first | (with_reducible assumption) | exact Grow.below (by assumption)) (by first | omega | (simp; done) | (simp; omega)))))

theorem sCircle {a : Nat} {x : Option Nat} (h : Is .f32 a x) (b : Bool) (hO : aboveB x = b) (w : World) :
    Calls Try.prog 14 #[.float .f32 a] w fun e w' => e = .returned (.tuple #[orbV (if b then a else 0) 0 0 0 0 0, .bool b]) ∧ Below w.heap.size w w' := by
  have hst := run_store_float Try.prog
  cases b with
  | true =>
    go_enter Try.func14, Try.ntmps14
    go_wp2_with (go_at_call 31; refine (sAbove (by assumption) _).mono ?_; rintro eq wq ⟨nq, rfl, rfl⟩)
    refine bodyPost_ret (v := .tuple #[orbV a 0 0 0 0 0, .bool true]) (by simp [results, Try.results14, go_sem]) rfl ⟨rfl, ?_⟩
    repeat' (first | with_reducible exact Below.refl _ _ | with_reducible assumption | (with_reducible refine Below.setCell ?_ (by first | omega | (simp; done) | (simp; omega)) _) | (with_reducible refine Below.alloc ?_ (by first | omega | (simp; done) | (simp; omega)) _) | (with_reducible refine below_drewN ?_ _) | (with_reducible refine Below.drew ?_) | (with_reducible refine Below.trans ?_ (Below.mono (by first | (with_reducible assumption) | exact Grow.below (by assumption)) (by first | omega | (simp; done) | (simp; omega)))))
  | false =>
    go_enter Try.func14, Try.ntmps14
    go_wp2_with (go_at_call 31; refine (sAbove (by assumption) _).mono ?_; rintro eq wq ⟨nq, rfl, rfl⟩)
    refine bodyPost_ret (v := .tuple #[orbV 0 0 0 0 0 0, .bool false]) (by simp [results, Try.results14, go_sem]) rfl ⟨rfl, ?_⟩
    repeat' (first | with_reducible exact Below.refl _ _ | with_reducible assumption | (with_reducible refine Below.setCell ?_ (by first | omega | (simp; done) | (simp; omega)) _) | (with_reducible refine Below.alloc ?_ (by first | omega | (simp; done) | (simp; omega)) _) | (with_reducible refine below_drewN ?_ _) | (with_reducible refine Below.drew ?_) | (with_reducible refine Below.trans ?_ (Below.mono (by first | (with_reducible assumption) | exact Grow.below (by assumption)) (by first | omega | (simp; done) | (simp; omega)))))

set_option maxHeartbeats 1600000 in
theorem walk_FnExactCircleOrbit (a : Nat) (w : World) (k : a < 2 ^ 32) :
    Calls Try.prog 5 #[.float .f32 a] w fun e w' => e = .returned (.bool true) ∧ Below w.heap.size w w' := by
  have hst := run_store_float Try.prog
  have h := Is.self (k := .f32) k
  cases hO : aboveB (nrm .f32 a) with
  | true =>
    go_enter Try.func5, Try.ntmps5
    go_wp2_with (first | (go_at_call 14; refine (sCircle h true hO _).mono ?_; rintro _ W1 ⟨rfl, b1⟩) | ((go_at_call 15; refine (iCircle h true hO _).mono ?_; rintro _ W2 ⟨rfl, b2⟩); obtain ⟨hc, hf⟩ := bcell b2; have hz := b2.size; (simp at hz); have hl : W1.heap.size < W2.heap.size := (by omega); have hn : ¬ W1.heap.size = W2.heap.size := (by omega)) | (go_at_call 16; refine (eqOrb_any h zero32 zero32 zero32 zero32 zero32 h zero32 zero32 zero32 zero32 zero32 _).mono ?_; rintro eq wq ⟨rfl, hb⟩; obtain ⟨hc, hf⟩ := bcell hb; have hz := hb.size; (try simp at hz); (try have hl : w.heap.size < wq.heap.size := (by omega))))
    go_ret
    refine ⟨rfl, ?_⟩
    have z1 := b1.size
    have z2 := b2.size
    have z3 := hb.size
    simp at z2 z3
    repeat' (first | with_reducible exact Below.refl _ _ | with_reducible assumption | (with_reducible refine Below.setCell ?_ (by first | omega | (simp; done) | (simp; omega)) _) | (with_reducible refine Below.alloc ?_ (by first | omega | (simp; done) | (simp; omega)) _) | (with_reducible refine below_drewN ?_ _) | (with_reducible refine Below.drew ?_) | (with_reducible refine Below.trans ?_ (Below.mono (by first | (with_reducible assumption) | exact Grow.below (by assumption)) (by first | omega | (simp; done) | (simp; omega)))))
  | false =>
    go_enter Try.func5, Try.ntmps5
    go_wp2_with (first | (go_at_call 14; refine (sCircle h false hO _).mono ?_; rintro _ W1 ⟨rfl, b1⟩) | ((go_at_call 15; refine (iCircle h false hO _).mono ?_; rintro _ W2 ⟨rfl, b2⟩); obtain ⟨hc, hf⟩ := bcell b2; have hz := b2.size; (simp at hz); have hl : W1.heap.size < W2.heap.size := (by omega); have hn : ¬ W1.heap.size = W2.heap.size := (by omega)) | (go_at_call 16; refine (eqOrb_any zero32 zero32 zero32 zero32 zero32 zero32 zero32 zero32 zero32 zero32 zero32 zero32 _).mono ?_; rintro eq wq ⟨rfl, hb⟩; obtain ⟨hc, hf⟩ := bcell hb; have hz := hb.size; (try simp at hz); (try have hl : w.heap.size < wq.heap.size := (by omega))))
    go_ret
    refine ⟨rfl, ?_⟩
    have z1 := b1.size
    have z2 := b2.size
    have z3 := hb.size
    simp at z2 z3
    repeat' (first | with_reducible exact Below.refl _ _ | with_reducible assumption | (with_reducible refine Below.setCell ?_ (by first | omega | (simp; done) | (simp; omega)) _) | (with_reducible refine Below.alloc ?_ (by first | omega | (simp; done) | (simp; omega)) _) | (with_reducible refine below_drewN ?_ _) | (with_reducible refine Below.drew ?_) | (with_reducible refine Below.trans ?_ (Below.mono (by first | (with_reducible assumption) | exact Grow.below (by assumption)) (by first | omega | (simp; done) | (simp; omega)))))
end Go.Proofs.Ythajdpfdnihimaa
