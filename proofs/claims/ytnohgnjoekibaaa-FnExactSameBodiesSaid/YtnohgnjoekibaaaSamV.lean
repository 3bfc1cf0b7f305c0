/-
  Whether two vectors are the same: the bits of one, of the program, and the sameness of two, of the model. No condition.
-/
import Derived.Test.YtnohgnjoekibaaaTo
import Derived.Test.YtnohgnjoekibaaaFns1
import Derived.Laws.StructEq
namespace Go.Proofs.Ytnohgnjoekibaaa
open Go.RowKit

/-- Two numbers are the same. -/
def sameV (a b : Option Nat) : Bool := bitsI a == bitsI b

abbrev bitsV (a b c : Int) : Value := .agg #[.int .i64 a, .int .i64 b, .int .i64 c]

theorem eqBits9 (a b c d e f : Int) (w : World) : (Op.equalIn 9999 62 (bitsV a b c) (bitsV d e f)).run Try.prog w = .ok (a == d && b == e && c == f) w := by
  have u2 := Try.underlying2
  have a2 := Try.isAgg2
  have z2 := Try.sizeOf2
  have hS : Try.prog.underlying 62 = some (.struct (Try.prog.fieldsOf 62)) := by kernel_rfl
  rw [show (9999 : Nat) = 9998 + 1 from rfl, run_equalIn_agg w 9998 62 _ _ hS (by kernel_rfl)]
  simp only [Program.fieldsOf, Try.underlying62]
  go_simp
  by_cases h1 : a = d <;> by_cases h2 : b = e <;> by_cases h3 : c = f <;> simp [h1, h2, h3]

abbrev bitsB (a b c d e f g : Int) : Value := .agg #[.int .i64 a, .int .i64 b, .int .i64 c, .int .i64 d, .int .i64 e, .int .i64 f, .int .i64 g]

set_option maxHeartbeats 1600000 in
theorem eqBitsB (a b c d e f g a' b' c' d' e' f' g' : Int) (w : World) : (Op.equalIn 10000 64 (bitsB a b c d e f g) (bitsB a' b' c' d' e' f' g')).run Try.prog w = .ok ((a == a' && b == b' && c == c') && (d == d' && e == e' && f == f') && g == g') w := by
  have u2 := Try.underlying2
  have a2 := Try.isAgg2
  have z2 := Try.sizeOf2
  have a3 := Try.isAgg62
  have z3 := Try.sizeOf62
  have hS : Try.prog.underlying 64 = some (.struct (Try.prog.fieldsOf 64)) := by kernel_rfl
  have h9 := eqBits9
  rw [show (10000 : Nat) = 9999 + 1 from rfl, run_equalIn_agg w 9999 64 _ _ hS (by kernel_rfl)]
  simp only [Program.fieldsOf, Try.underlying64]
  go_simp
  by_cases h1 : a = a' <;> by_cases h2 : b = b' <;> by_cases h3 : c = c' <;> by_cases h4 : d = d' <;> by_cases h5 : e = e' <;> by_cases h6 : f = f' <;> by_cases h7 : g = g' <;> simp [h1, h2, h3, h4, h5, h6, h7]

theorem bitsVec_any {a0 a1 a2 : Nat} {x0 x1 x2 : Option Nat} (h0 : Is .f32 a0 x0) (h1 : Is .f32 a1 x1) (h2 : Is .f32 a2 x2) (w : World) :
    Calls Try.prog 53 #[vecV a0 a1 a2] w fun e w' => e = .returned (bitsV (bitsI x0) (bitsI x1) (bitsI x2)) ∧ Grow 2 w w' := by
  go_enter Try.func53, Try.ntmps53
  go_wp2_with fail
  go_region_held3 (fun w' => w'.cell? ⟨w.heap.size, 0, none⟩ = some (.float .f32 a0) ∧ w'.cell? ⟨w.heap.size, 1, none⟩ = some (.float .f32 a1) ∧ w'.cell? ⟨w.heap.size, 2, none⟩ = some (.float .f32 a2)) (go_keep)
    (first | (go_at_call 54; refine (bitsOf_any (by assumption) _).mono ?_; rintro eq wq ⟨nq, rfl, rfl⟩))
  go_wp2_with fail
  refine bodyPost_ret (v := bitsV (bitsI x0) (bitsI x1) (bitsI x2)) (by simp only [results, Try.results53]; go_simp) rfl ⟨rfl, ?_, by simp [*]⟩
  repeat' (first | with_reducible exact Below.refl _ _ | with_reducible assumption | (with_reducible refine Below.setCell ?_ (by first | omega | (simp; done) | (simp; omega)) _) | (with_reducible refine Below.alloc ?_ (by first | omega | (simp; done) | (simp; omega)) _) | (with_reducible refine below_drewN ?_ _) | (with_reducible refine Below.drew ?_) | (with_reducible refine Below.trans ?_ (Below.mono (by first | (with_reducible assumption) | exact Grow.below (by assumption)) (by first | omega | (simp; done) | (simp; omega)))))

theorem same1_any {x y : Nat} {a b : Option Nat} (ix : Is .f32 x a) (iy : Is .f32 y b) (w : World) :
    Calls Try.prog 36 #[.float .f32 x, .float .f32 y] w (RetV (.bool (sameV a b)) w) := by
  go_enter Try.func36, Try.ntmps36
  go_wp2_with (go_at_call 52; refine (l01Bits_any (by assumption) _).mono ?_; rintro eq wq ⟨nq, rfl, rfl⟩)
  go_ret
  exact RetV.eq _ rfl

def sameV3 (x0 x1 x2 y0 y1 y2 : Option Nat) : Bool := sameV x0 y0 && sameV x1 y1 && sameV x2 y2

theorem sSame {a0 a1 a2 b0 b1 b2 : Nat} {x0 x1 x2 y0 y1 y2 : Option Nat} (h0 : Is .f32 a0 x0) (h1 : Is .f32 a1 x1) (h2 : Is .f32 a2 x2) (g0 : Is .f32 b0 y0) (g1 : Is .f32 b1 y1) (g2 : Is .f32 b2 y2) (w : World) :
    Calls Try.prog 35 #[vecV a0 a1 a2, vecV b0 b1 b2] w fun e w' => e = .returned (.bool (sameV3 x0 x1 x2 y0 y1 y2)) ∧ Grow 2 w w' := by
  cases hA : sameV x0 y0 with
  | false =>
    go_enter Try.func35, Try.ntmps35
    go_wp2_with (go_at_call 36; refine (same1_any (by assumption) (by assumption) _).mono ?_; rintro eq wq ⟨nq, rfl, rfl⟩)
    go_ret
    refine ⟨by simp [sameV3, hA], ?_, by simp [*]⟩
    repeat' (first | with_reducible exact Below.refl _ _ | with_reducible assumption | (with_reducible refine Below.setCell ?_ (by first | omega | (simp; done) | (simp; omega)) _) | (with_reducible refine Below.alloc ?_ (by first | omega | (simp; done) | (simp; omega)) _) | (with_reducible refine below_drewN ?_ _) | (with_reducible refine Below.drew ?_) | (with_reducible refine Below.trans ?_ (Below.mono (by first | (with_reducible assumption) | exact Grow.below (by assumption)) (by first | omega | (simp; done) | (simp; omega)))))
  | true =>
    cases hB : sameV x1 y1 with
    | false =>
      go_enter Try.func35, Try.ntmps35
      go_wp2_with (go_at_call 36; refine (same1_any (by assumption) (by assumption) _).mono ?_; rintro eq wq ⟨nq, rfl, rfl⟩)
      go_ret
      refine ⟨by simp [sameV3, hA, hB], ?_, by simp [*]⟩
      repeat' (first | with_reducible exact Below.refl _ _ | with_reducible assumption | (with_reducible refine Below.setCell ?_ (by first | omega | (simp; done) | (simp; omega)) _) | (with_reducible refine Below.alloc ?_ (by first | omega | (simp; done) | (simp; omega)) _) | (with_reducible refine below_drewN ?_ _) | (with_reducible refine Below.drew ?_) | (with_reducible refine Below.trans ?_ (Below.mono (by first | (with_reducible assumption) | exact Grow.below (by assumption)) (by first | omega | (simp; done) | (simp; omega)))))
    | true =>
      go_enter Try.func35, Try.ntmps35
      go_wp2_with (go_at_call 36; refine (same1_any (by assumption) (by assumption) _).mono ?_; rintro eq wq ⟨nq, rfl, rfl⟩)
      go_ret
      refine ⟨by simp [sameV3, hA, hB], ?_, by simp [*]⟩
      repeat' (first | with_reducible exact Below.refl _ _ | with_reducible assumption | (with_reducible refine Below.setCell ?_ (by first | omega | (simp; done) | (simp; omega)) _) | (with_reducible refine Below.alloc ?_ (by first | omega | (simp; done) | (simp; omega)) _) | (with_reducible refine below_drewN ?_ _) | (with_reducible refine Below.drew ?_) | (with_reducible refine Below.trans ?_ (Below.mono (by first | (with_reducible assumption) | exact Grow.below (by assumption)) (by first | omega | (simp; done) | (simp; omega)))))

end Go.Proofs.Ytnohgnjoekibaaa
