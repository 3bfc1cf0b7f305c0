/-
  Vectors of 64-bit numbers: crosses, inner products, lengths, of the program and of the model. No condition.
-/
import Derived.Test.YtbkbmhancklpdaaMulO
import Derived.Test.YtbkbmhancklpdaaSqrt
namespace Go.Proofs.Ytbkbmhancklpdaa
open Go.RowKit

theorem rootFrom_le (n : Nat) : ∀ todo root, root * root ≤ n → Ieee.Datum.rootFrom n todo root * Ieee.Datum.rootFrom n todo root ≤ n
  | 0, root, h => h
  | todo + 1, root, h => by
    unfold Ieee.Datum.rootFrom
    simp only
    refine rootFrom_le n todo _ ?_
    split
    · assumption
    · exact h

theorem low_sqrt {v : Option Nat} (h : LowO .f64 v 900) : LowO .f64 (sqO .f64 v) 900 := by
  cases v with
  | none => intro q hq; cases hq
  | some y =>
  obtain ⟨s', m', e', hr, hb⟩ := h y rfl
  intro q hq
  unfold sqO at hq
  simp only [Option.bind_some, Ieee.Format.sqrt] at hq
  unfold FloatKind.decode at hr
  rw [hr] at hq
  unfold Ieee.Datum.root at hq
  by_cases hm0 : m' = 0
  · simp only [hm0, if_true, Option.map_some, Option.some.injEq] at hq
    subst hq
    exact (write_low .f64 s' 0 e' 100 (fun h => (h rfl).elim) (by decide) (by decide)).mono (by decide)
  · simp only [hm0, if_false] at hq
    cases s' with
    | true => simp at hq
    | false =>
      simp only [Bool.false_eq_true, if_false, Option.map_some, Option.some.injEq] at hq
      subst hq
      generalize 2 * (FloatKind.f64.format.fractionBits + 2) - m'.log2 + ((e' - ↑(2 * (FloatKind.f64.format.fractionBits + 2) - m'.log2)) % 2).toNat = more
      refine (write_low .f64 _ _ _ 800 (fun h0 => ?_) (by decide) (by decide)).mono (by decide)
      have h1 := rootFrom_le (m' <<< more) ((m' <<< more).log2 / 2 + 1) 0 (Nat.zero_le _)
      generalize Ieee.Datum.rootFrom (m' <<< more) ((m' <<< more).log2 / 2 + 1) 0 = q at h1 h0 ⊢
      have hbit := Bool.toNat_le (q * q != m' <<< more)
      have hlow := hb hm0
      have hlt : m' <<< more < 2 ^ (m'.log2 + 1 + more) := by
        rw [Nat.shiftLeft_eq, Nat.pow_add]; exact Nat.mul_lt_mul_of_pos_right (lt_pow_log2 m') (Nat.two_pow_pos _)
      have hq2 : 2 * q.log2 < m'.log2 + 1 + more ∨ q = 0 := by
        by_cases hq0 : q = 0
        · exact .inr hq0
        · refine .inl ((Nat.pow_lt_pow_iff_right (a := 2) (by decide)).1 ?_)
          refine Nat.lt_of_le_of_lt ?_ hlt
          refine Nat.le_trans ?_ h1
          rw [Nat.two_mul, Nat.pow_add]
          exact Nat.mul_le_mul (Nat.log2_self_le hq0) (Nat.log2_self_le hq0)
      have hq3 : 2 * q + (q * q != m' <<< more).toNat < 2 ^ (q.log2 + 2) := by
        have := lt_pow_log2 q
        rw [Nat.pow_succ]; omega
      have := log2_lt_pow hq3 h0
      rcases hq2 with hq2 | hq2
      · omega
      · subst hq2
        have h00 : (0 : Nat).log2 = 0 := by decide
        rw [h00] at this
        omega

/-- A vector of three 64-bit words, as a value. -/
abbrev vec3 (a b c : Nat) : Value := .agg #[.float .f64 a, .float .f64 b, .float .f64 c]
/-- A vector is handed back. -/
def RetW (v0 v1 v2 : Option Nat) (w : World) (e : Ending) (w' : World) : Prop := (∃ r0 r1 r2, e = .returned (vec3 r0 r1 r2) ∧ Is .f64 r0 v0 ∧ Is .f64 r1 v1 ∧ Is .f64 r2 v2) ∧ Below w.heap.size w w'

def crO (a b c d : Option Nat) : Option Nat := fo .sub .f64 (fo .mul .f64 a b) (fo .mul .f64 c d)
def dtO (x0 x1 x2 y0 y1 y2 : Option Nat) : Option Nat := fo .add .f64 (fo .add .f64 (fo .mul .f64 x0 y0) (fo .mul .f64 x1 y1)) (fo .mul .f64 x2 y2)

theorem iCross3 {a0 a1 a2 b0 b1 b2 : Nat} {x0 x1 x2 y0 y1 y2 : Option Nat} (h0 : Is .f64 a0 x0) (h1 : Is .f64 a1 x1) (h2 : Is .f64 a2 x2) (g0 : Is .f64 b0 y0) (g1 : Is .f64 b1 y1) (g2 : Is .f64 b2 y2) (w : World) :
    Calls Try.prog 22 #[vec3 a0 a1 a2, vec3 b0 b1 b2] w (RetW (crO x1 y2 x2 y1) (crO x2 y0 x0 y2) (crO x0 y1 x1 y0) w) := by
  have hst := run_store_float Try.prog
  unfold crO
  go_enter Try.func22, Try.ntmps22
  go_wp2_with (apply wpList_arith; rfl; simp [Arith]; rfl; rfl; (first | assumption | exact is_lit64 _ (by decide) | exact is_lit32 _ (by decide)); (first | assumption | exact is_lit64 _ (by decide) | exact is_lit32 _ (by decide)); intro Kq hKq rq nq hq; go_simp)
  refine bodyPost_ret (v := vec3 _ _ _) (by simp [results, Try.results22, go_sem]; exact ⟨rfl, rfl, rfl⟩) rfl ⟨⟨_, _, _, rfl, by assumption, by assumption, by assumption⟩, ?_⟩
  repeat' (first | with_reducible exact Below.refl _ _ | with_reducible assumption | (with_reducible refine Below.setCell ?_ (by first | omega | (simp; done) | (simp; omega)) _) | (with_reducible refine Below.alloc ?_ (by first | omega | (simp; done) | (simp; omega)) _) | (with_reducible refine below_drewN ?_ _) | (with_reducible refine Below.drew ?_) | (with_reducible refine Below.trans ?_ (Below.mono (by first | (with_reducible assumption) | exact Grow.below (by assumption)) (by first | omega | (simp; done) | (simp; omega)))))

theorem sCross3 {a0 a1 a2 b0 b1 b2 : Nat} {x0 x1 x2 y0 y1 y2 : Option Nat} (h0 : Is .f64 a0 x0) (h1 : Is .f64 a1 x1) (h2 : Is .f64 a2 x2) (g0 : Is .f64 b0 y0) (g1 : Is .f64 b1 y1) (g2 : Is .f64 b2 y2) (w : World) :
    Calls Try.prog 16 #[vec3 a0 a1 a2, vec3 b0 b1 b2] w (RetW (crO x1 y2 x2 y1) (crO x2 y0 x0 y2) (crO x0 y1 x1 y0) w) := by
  have hst := run_store_float Try.prog
  unfold crO
  go_enter Try.func16, Try.ntmps16
  go_wp2_with (apply wpList_arith; rfl; simp [Arith]; rfl; rfl; (first | assumption | exact is_lit64 _ (by decide) | exact is_lit32 _ (by decide)); (first | assumption | exact is_lit64 _ (by decide) | exact is_lit32 _ (by decide)); intro Kq hKq rq nq hq; go_simp)
  refine bodyPost_ret (v := vec3 _ _ _) (by simp [results, Try.results16, go_sem]; exact ⟨rfl, rfl, rfl⟩) rfl ⟨⟨_, _, _, rfl, by assumption, by assumption, by assumption⟩, ?_⟩
  repeat' (first | with_reducible exact Below.refl _ _ | with_reducible assumption | (with_reducible refine Below.setCell ?_ (by first | omega | (simp; done) | (simp; omega)) _) | (with_reducible refine Below.alloc ?_ (by first | omega | (simp; done) | (simp; omega)) _) | (with_reducible refine below_drewN ?_ _) | (with_reducible refine Below.drew ?_) | (with_reducible refine Below.trans ?_ (Below.mono (by first | (with_reducible assumption) | exact Grow.below (by assumption)) (by first | omega | (simp; done) | (simp; omega)))))

theorem iInner3 {a0 a1 a2 b0 b1 b2 : Nat} {x0 x1 x2 y0 y1 y2 : Option Nat} (h0 : Is .f64 a0 x0) (h1 : Is .f64 a1 x1) (h2 : Is .f64 a2 x2) (g0 : Is .f64 b0 y0) (g1 : Is .f64 b1 y1) (g2 : Is .f64 b2 y2) (w : World) :
    Calls Try.prog 24 #[vec3 a0 a1 a2, vec3 b0 b1 b2] w (RetB .f64 (dtO x0 x1 x2 y0 y1 y2) w) := by
  unfold dtO
  go_enter Try.func24, Try.ntmps24
  go_wp2_with (apply wpList_arith; rfl; simp [Arith]; rfl; rfl; (first | assumption | exact is_lit64 _ (by decide) | exact is_lit32 _ (by decide)); (first | assumption | exact is_lit64 _ (by decide) | exact is_lit32 _ (by decide)); intro Kq hKq rq nq hq; go_simp)
  go_ret
  refine ⟨⟨_, rfl, by assumption⟩, ?_⟩
  repeat' (first | with_reducible exact Below.refl _ _ | with_reducible assumption | (with_reducible refine Below.setCell ?_ (by first | omega | (simp; done) | (simp; omega)) _) | (with_reducible refine Below.alloc ?_ (by first | omega | (simp; done) | (simp; omega)) _) | (with_reducible refine below_drewN ?_ _) | (with_reducible refine Below.drew ?_) | (with_reducible refine Below.trans ?_ (Below.mono (by first | (with_reducible assumption) | exact Grow.below (by assumption)) (by first | omega | (simp; done) | (simp; omega)))))

theorem sInner3 {a0 a1 a2 b0 b1 b2 : Nat} {x0 x1 x2 y0 y1 y2 : Option Nat} (h0 : Is .f64 a0 x0) (h1 : Is .f64 a1 x1) (h2 : Is .f64 a2 x2) (g0 : Is .f64 b0 y0) (g1 : Is .f64 b1 y1) (g2 : Is .f64 b2 y2) (w : World) :
    Calls Try.prog 17 #[vec3 a0 a1 a2, vec3 b0 b1 b2] w (RetB .f64 (dtO x0 x1 x2 y0 y1 y2) w) := by
  unfold dtO
  go_enter Try.func17, Try.ntmps17
  go_wp2_with (apply wpList_arith; rfl; simp [Arith]; rfl; rfl; (first | assumption | exact is_lit64 _ (by decide) | exact is_lit32 _ (by decide)); (first | assumption | exact is_lit64 _ (by decide) | exact is_lit32 _ (by decide)); intro Kq hKq rq nq hq; go_simp)
  go_ret
  refine ⟨⟨_, rfl, by assumption⟩, ?_⟩
  repeat' (first | with_reducible exact Below.refl _ _ | with_reducible assumption | (with_reducible refine Below.setCell ?_ (by first | omega | (simp; done) | (simp; omega)) _) | (with_reducible refine Below.alloc ?_ (by first | omega | (simp; done) | (simp; omega)) _) | (with_reducible refine below_drewN ?_ _) | (with_reducible refine Below.drew ?_) | (with_reducible refine Below.trans ?_ (Below.mono (by first | (with_reducible assumption) | exact Grow.below (by assumption)) (by first | omega | (simp; done) | (simp; omega)))))

theorem iLen3 {a0 a1 a2 : Nat} {x0 x1 x2 : Option Nat} (h0 : Is .f64 a0 x0) (h1 : Is .f64 a1 x1) (h2 : Is .f64 a2 x2) (w : World) :
    Calls Try.prog 23 #[vec3 a0 a1 a2] w (RetB .f64 (sqO .f64 (dtO x0 x1 x2 x0 x1 x2)) w) := by
  go_enter Try.func23, Try.ntmps23
  go_wp2_with (first | (go_at_call 24; refine (iInner3 h0 h1 h2 h0 h1 h2 _).mono ?_; rintro _ W1 ⟨⟨r1, rfl, i1⟩, b1⟩) | (go_at_call 34; refine (sqrt_any i1 _).mono ?_; rintro eq wq ⟨rq, nq, rfl, hq, rfl⟩))
  go_ret
  refine ⟨⟨_, rfl, by assumption⟩, ?_⟩
  have hz := b1.size
  simp at hz
  repeat' (first | with_reducible exact Below.refl _ _ | with_reducible assumption | (with_reducible refine Below.setCell ?_ (by first | omega | (simp; done) | (simp; omega)) _) | (with_reducible refine Below.alloc ?_ (by first | omega | (simp; done) | (simp; omega)) _) | (with_reducible refine below_drewN ?_ _) | (with_reducible refine Below.drew ?_) | (with_reducible refine Below.trans ?_ (Below.mono (by first | (with_reducible assumption) | exact Grow.below (by assumption)) (by first | omega | (simp; done) | (simp; omega)))))

theorem sLen3 {a0 a1 a2 : Nat} {x0 x1 x2 : Option Nat} (h0 : Is .f64 a0 x0) (h1 : Is .f64 a1 x1) (h2 : Is .f64 a2 x2) (w : World) :
    Calls Try.prog 15 #[vec3 a0 a1 a2] w (RetB .f64 (sqO .f64 (dtO x0 x1 x2 x0 x1 x2)) w) := by
  go_enter Try.func15, Try.ntmps15
  go_wp2_with (first | (go_at_call 17; refine (sInner3 h0 h1 h2 h0 h1 h2 _).mono ?_; rintro _ W1 ⟨⟨r1, rfl, i1⟩, b1⟩) | (go_at_call 34; refine (sqrt_any i1 _).mono ?_; rintro eq wq ⟨rq, nq, rfl, hq, rfl⟩))
  go_ret
  refine ⟨⟨_, rfl, by assumption⟩, ?_⟩
  have hz := b1.size
  simp at hz
  repeat' (first | with_reducible exact Below.refl _ _ | with_reducible assumption | (with_reducible refine Below.setCell ?_ (by first | omega | (simp; done) | (simp; omega)) _) | (with_reducible refine Below.alloc ?_ (by first | omega | (simp; done) | (simp; omega)) _) | (with_reducible refine below_drewN ?_ _) | (with_reducible refine Below.drew ?_) | (with_reducible refine Below.trans ?_ (Below.mono (by first | (with_reducible assumption) | exact Grow.below (by assumption)) (by first | omega | (simp; done) | (simp; omega)))))
end Go.Proofs.Ytbkbmhancklpdaa
