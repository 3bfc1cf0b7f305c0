/-
  A power of e of 32-bit numbers, of the program and of the model; of what is not positive it fits. No condition.
-/
import Derived.Test.YtdkjekdokajfgaaExpS
import Derived.Test.YtdkjekdokajfgaaUni
import Derived.Test.YtdkjekdokajfgaaWord
import Derived.Test.YtdkjekdokajfgaaNumS
namespace Go.Proofs.Ytdkjekdokajfgaa
open Go.RowKit

/-- A power of e of a 32-bit number. -/
def expT (v : Option Nat) : Option Nat :=
  if cmpB .gtr .f64 (cv .f32 .f64 v) (some 4641240890982006784) then some 2139095040
  else if cmpB .lss .f64 (cv .f32 .f64 v) (some 13864612927836782592) then some 0
  else cv .f64 .f32 (expE (cv .f32 .f64 v))

/-- What is not positive. -/
def NpO (k : FloatKind) (v : Option Nat) : Prop := ∀ b, v = some b → k.decode b = .infinity true ∨ ∃ s m e, k.decode b = .number s m e ∧ (s = true ∨ m = 0)

theorem nn_if {n : Int} (h : 0 ≤ n) : NnO .f64 (ifO n) := by
  intro b hb
  cases hb
  exact nn_write .f64 _ _ _ (.inl (by simp; omega))

theorem sg_serE {t : Option Nat} (h : SgO .f64 true t 0) : ∀ j, j ≤ 12 → SgO .f64 false (serE t j) 0
  | 0, _ => sg_of (le_lit (by kernel_rfl)) (nn_lit (by kernel_rfl))
  | j + 1, hj => by
    have h1 : SgO .f64 true (fo .mul .f64 t (serE t j)) (0 + 0) := sg_mul h (sg_serE h j (by omega)) (by decide) (by decide)
    have h2 : SgO .f64 true (fo .quo .f64 (fo .mul .f64 t (serE t j)) (ifO (12 - (j : Int)))) (0 + 0 - 0) := sg_div h1 (ge_if (by omega)) (nn_if (by omega)) (by decide) (by decide)
    exact sg_addn (u := 0) (sg_of (le_lit (by kernel_rfl)) (nn_lit (by kernel_rfl))) (ge_lit (by kernel_rfl)) h2 (by decide) (by decide) (by decide)

theorem sg_sqN {p : Option Nat} (h : SgO .f64 false p 0) : ∀ j, SgO .f64 false (sqN p j) 0
  | 0 => h
  | j + 1 => sg_mul (sg_sqN h j) (sg_sqN h j) (by decide) (by decide)

theorem sg_expE {v : Option Nat} (h : SgO .f64 true v 8) : SgO .f64 false (expE v) 0 :=
  sg_sqN (sg_serE (sg_div (tb := 8) h (ge_lit (by kernel_rfl)) (nn_lit (by kernel_rfl)) (by decide) (by decide)) 12 (Nat.le_refl _)) 8

theorem low200 : FloatKind.f64.decode 13864612927836782592 = .number true (200 * 2 ^ 45) (-45) := by rfl

/-- What is not positive, and not below -200, is bounded. -/
theorem sg_low {x : Nat} {v : Option Nat} (ix : Is .f32 x v) (hn : NpO .f32 v) (hc : cmpB .lss .f64 (cv .f32 .f64 v) (some 13864612927836782592) = false) : SgO .f64 true (cv .f32 .f64 v) 8 := by
  intro b hb
  cases v with
  | none => cases hb
  | some z =>
    obtain rfl := ix.notNaN
    have hr : floatToFloatBits .f32 x .f64 = some b := hb
    rcases hn x rfl with hd | ⟨s, m, e, hd, hs⟩
    · exfalso
      unfold floatToFloatBits at hr
      rw [if_neg (by decide), hd] at hr
      simp only [Option.some.injEq] at hr
      have hcv : cv .f32 .f64 (some x) = some b := hb
      rw [hcv, ← hr] at hc
      revert hc
      decide
    · have hL : m ≠ 0 → (m.log2 : Int) + e < 200 := by
        rcases single_low ix.dec with ⟨s', h'⟩ | ⟨s', m', e', h', h2⟩ <;> rw [hd] at h' <;> cases h'
        exact h2
      have hw : b = FloatKind.f64.encode (.number s m e) := by
        unfold floatToFloatBits at hr
        rw [if_neg (by decide), hd] at hr
        simp only at hr
        split at hr
        · cases hr
        · exact (Option.some.inj hr).symm
      have hq := sg_write .f64 true s m e 200 hs (fun h0 => ⟨m.log2 + 1, Nat.le_of_lt (lt_pow_log2 m), by have := hL h0; omega⟩) (by decide) (by decide)
      rw [← hw] at hq
      obtain ⟨s', m', e', h1, h2, h3⟩ := hq
      refine ⟨s', m', e', h1, h2, fun hm => ?_⟩
      have hcv : cv .f32 .f64 (some x) = some b := hb
      rw [hcv] at hc
      have ho := order_num h1 low200
      have hs1 : Ieee.signed s' m' (e' - min e' (-45)).toNat = -((m' * 2 ^ (e' - min e' (-45)).toNat : Nat) : Int) := by
        rw [signed_np h2, Nat.shiftLeft_eq]
      have hs2 : Ieee.signed true (200 * 2 ^ 45) ((-45) - min e' (-45)).toNat = -(((200 * 2 ^ 45) * 2 ^ ((-45) - min e' (-45)).toNat : Nat) : Int) := by
        rw [signed_np (.inl rfl), Nat.shiftLeft_eq]
      rw [hs1, hs2] at ho
      have hle : m' * 2 ^ (e' - min e' (-45)).toNat ≤ (200 * 2 ^ 45) * 2 ^ ((-45) - min e' (-45)).toNat := by
        refine Nat.not_lt.1 fun hlt => ?_
        have hcmp : compare (-((m' * 2 ^ (e' - min e' (-45)).toNat : Nat) : Int)) (-(((200 * 2 ^ 45) * 2 ^ ((-45) - min e' (-45)).toNat : Nat) : Int)) = .lt := by
          rw [Int.compare_eq_lt]; omega
        rw [hcmp] at ho
        unfold cmpB at hc
        rw [ord_some ho] at hc
        simp at hc
      refine ⟨m'.log2 + 1, Nat.le_of_lt (lt_pow_log2 m'), ?_⟩
      have hA : 2 ^ (m'.log2 + (e' - min e' (-45)).toNat) < 2 ^ (53 + ((-45) - min e' (-45)).toNat) := by
        calc 2 ^ (m'.log2 + (e' - min e' (-45)).toNat) = 2 ^ m'.log2 * 2 ^ (e' - min e' (-45)).toNat := Nat.pow_add ..
          _ ≤ m' * 2 ^ (e' - min e' (-45)).toNat := Nat.mul_le_mul_right _ (Nat.log2_self_le hm)
          _ ≤ (200 * 2 ^ 45) * 2 ^ ((-45) - min e' (-45)).toNat := hle
          _ < 2 ^ 53 * 2 ^ ((-45) - min e' (-45)).toNat := Nat.mul_lt_mul_of_pos_right (by decide) (Nat.two_pow_pos _)
          _ = 2 ^ (53 + ((-45) - min e' (-45)).toNat) := (Nat.pow_add ..).symm
      have := (Nat.pow_lt_pow_iff_right (a := 2) (by decide)).1 hA
      omega

theorem fit_exp {x : Nat} {v : Option Nat} (ix : Is .f32 x v) (hn : NpO .f32 v) (hc : cmpB .lss .f64 (cv .f32 .f64 v) (some 13864612927836782592) = false) : Fit .f64 .f32 (expE (cv .f32 .f64 v)) :=
  fit_le (sg_expE (sg_low ix hn hc)).le (by decide)

/-! ### The contracts -/
theorem pinf_is (w : World) : Calls Try.prog 43 #[.int .i64 1] w (RetF .f64 (some 9218868437227405312) w) := by
  have hf := f64from
  go_enter Try.func43, Try.ntmps43
  go_wp2
  go_ret
  exact ⟨_, 0, rfl, is_lit64 _ (by decide), rfl⟩

theorem fit_inf : Fit .f64 .f32 (some 9218868437227405312) := fun x h => by cases h; decide
theorem fit_nil : Fit .f64 .f32 (some 0) := fun x h => by cases h; decide
theorem cv_inf : cv .f64 .f32 (some 9218868437227405312) = some 2139095040 := by decide
theorem cv_nil : cv .f64 .f32 (some 0) = some 0 := by decide

/-- A power of e, in 64 bits. -/
def expW (v : Option Nat) : Option Nat :=
  if cmpB .gtr .f64 v (some 4641240890982006784) then some 9218868437227405312
  else if cmpB .lss .f64 v (some 13864612927836782592) then some 0
  else expE v

theorem expW_cv (v : Option Nat) : cv .f64 .f32 (expW (cv .f32 .f64 v)) = expT v := by
  unfold expW expT
  split
  · exact cv_inf
  · split
    · exact cv_nil
    · rfl

theorem iExpW {x : Nat} {v : Option Nat} (ix : Is .f64 x v) (w : World) : Calls Try.prog 42 #[.float .f64 x] w (RetF .f64 (expW v) w) := by
  unfold expW
  cases h1 : cmpB .gtr .f64 v (some 4641240890982006784) with
  | true =>
    rw [if_pos rfl]
    go_enter Try.func42, Try.ntmps42
    go_wp2_with (first | (apply wpList_cmp; rfl; simp [Cmp]; rfl; rfl; (first | assumption | exact is_lit64 _ (by decide) | exact is_lit32 _ (by decide)); (first | assumption | exact is_lit64 _ (by decide) | exact is_lit32 _ (by decide)); intro Kq hKq; go_simp) | (go_at_call 43; refine (pinf_is _).mono ?_; rintro eq wq ⟨rq, nq, rfl, hq, rfl⟩))
    go_ret
    exact ⟨_, _, rfl, by assumption, rfl⟩
  | false =>
    rw [if_neg (by decide)]
    cases h2 : cmpB .lss .f64 v (some 13864612927836782592) with
    | true =>
      rw [if_pos rfl]
      go_enter Try.func42, Try.ntmps42
      go_wp2_with (first | (apply wpList_cmp; rfl; simp [Cmp]; rfl; rfl; (first | assumption | exact is_lit64 _ (by decide) | exact is_lit32 _ (by decide)); (first | assumption | exact is_lit64 _ (by decide) | exact is_lit32 _ (by decide)); intro Kq hKq; go_simp))
      go_ret
      exact ⟨_, 0, rfl, is_lit64 _ (by decide), rfl⟩
    | false =>
      rw [if_neg (by decide)]
      exact exp_any ix h1 h2 w

theorem expE_none : expE none = none := by rfl

theorem sExpW {x : Nat} {v : Option Nat} (ix : Is .f64 x v) (w : World) : Calls Try.prog 38 #[.float .f64 x] w (RetF .f64 (expW v) w) := by
  by_cases h0 : v = none
  · subst h0
    have h1 : cmpB .neq .f64 none none = true := by decide
    have h2 : expW none = none := by unfold expW; rw [if_neg (by decide), if_neg (by decide)]; rfl
    rw [h2]
    go_enter Try.func38, Try.ntmps38
    go_wp2_with (first | (apply wpList_cmp; rfl; simp [Cmp]; rfl; rfl; (first | assumption | exact is_lit64 _ (by decide) | exact is_lit32 _ (by decide)); (first | assumption | exact is_lit64 _ (by decide) | exact is_lit32 _ (by decide)); intro Kq hKq; go_simp))
    go_ret
    exact ⟨_, 0, rfl, ix, rfl⟩
  have hq : cmpB .neq .f64 v v = false := by
    cases v with
    | none => exact absurd rfl h0
    | some z =>
      have hd := ix.dec
      obtain rfl := ix.notNaN
      unfold cmpB ordO
      unfold FloatKind.decode at hd
      simp only [Option.bind_some, Ieee.Format.order]
      cases hr : FloatKind.f64.format.read x with
      | number s m e => simp [Ieee.Datum.order]
      | infinity s => simp [Ieee.Datum.order]
      | nan s f => rw [hr] at hd; cases hd
  unfold expW
  cases h1 : cmpB .gtr .f64 v (some 4641240890982006784) with
  | true =>
    rw [if_pos rfl]
    go_enter Try.func38, Try.ntmps38
    go_wp2_with (first | (apply wpList_cmp; rfl; simp [Cmp]; rfl; rfl; (first | assumption | exact is_lit64 _ (by decide) | exact is_lit32 _ (by decide)); (first | assumption | exact is_lit64 _ (by decide) | exact is_lit32 _ (by decide)); intro Kq hKq; go_simp) | (go_at_call 43; refine (pinf_is _).mono ?_; rintro eq wq ⟨rq, nq, rfl, hq, rfl⟩))
    go_ret
    exact ⟨_, _, rfl, by assumption, rfl⟩
  | false =>
    rw [if_neg (by decide)]
    cases h2 : cmpB .lss .f64 v (some 13864612927836782592) with
    | true =>
      rw [if_pos rfl]
      go_enter Try.func38, Try.ntmps38
      go_wp2_with (first | (apply wpList_cmp; rfl; simp [Cmp]; rfl; rfl; (first | assumption | exact is_lit64 _ (by decide) | exact is_lit32 _ (by decide)); (first | assumption | exact is_lit64 _ (by decide) | exact is_lit32 _ (by decide)); intro Kq hKq; go_simp))
      go_ret
      exact ⟨_, 0, rfl, is_lit64 _ (by decide), rfl⟩
    | false =>
      rw [if_neg (by decide)]
      exact sExp_any ix hq h1 h2 w

theorem fit_expW {x : Nat} {v : Option Nat} (ix : Is .f32 x v) (hn : NpO .f32 v) : Fit .f64 .f32 (expW (cv .f32 .f64 v)) := by
  unfold expW
  split
  · exact fit_inf
  · split
    · exact fit_nil
    · rename_i h; exact fit_exp ix hn (by simpa using h)

theorem iExpT {x : Nat} {v : Option Nat} (ix : Is .f32 x v) (hn : NpO .f32 v) (w : World) : Calls Try.prog 37 #[.float .f32 x] w (RetF .f32 (expT v) w) := by
  have hf := fit_expW ix hn
  rw [← expW_cv]
  go_enter Try.func37, Try.ntmps37
  go_wp2_with (first | (apply wpList_wide und32 Try.underlying42; rfl; rfl; (first | assumption | exact is_lit64 _ (by decide) | exact is_lit32 _ (by decide)); intro Kq hKq rq nq hq; go_simp) | (apply wpList_cv .f64 .f32 (by decide) und64 Try.underlying22; rfl; rfl; (first | assumption | exact is_lit64 _ (by decide) | exact is_lit32 _ (by decide)); exact hf; intro Kq hKq rq nq hq; go_simp) | (go_at_call 42; refine (iExpW (by assumption) _).mono ?_; rintro eq wq ⟨rq, nq, rfl, hq, rfl⟩))
  go_ret
  exact ⟨_, _, rfl, by assumption, rfl⟩

theorem sExpT {x : Nat} {v : Option Nat} (ix : Is .f32 x v) (hn : NpO .f32 v) (w : World) : Calls Try.prog 31 #[.float .f32 x] w (RetF .f32 (expT v) w) := by
  have hf := fit_expW ix hn
  rw [← expW_cv]
  go_enter Try.func31, Try.ntmps31
  go_wp2_with (first | (apply wpList_wide und32 Try.underlying42; rfl; rfl; (first | assumption | exact is_lit64 _ (by decide) | exact is_lit32 _ (by decide)); intro Kq hKq rq nq hq; go_simp) | (go_at_call 38; refine (sExpW (by assumption) _).mono ?_; rintro eq wq ⟨rq, nq, rfl, hq, rfl⟩) | (go_at_call 32; refine (narrow_any (by assumption) hf _).mono ?_; rintro eq wq ⟨rq, nq, rfl, hq, rfl⟩))
  go_ret
  exact ⟨_, _, rfl, by assumption, rfl⟩

/-- The step of a walk at a conversion that may not fit: some word. -/
theorem wpList_cvAny {P : Program} {w : World} {ops : Array Oper} {rest : List Oper} {dt ty ps af gd} {a : Act} {Q : Exit → Act → World → Prop}
    {src dst : TypeId} {xo : Operand} {x : Nat} {va : Option Nat}
    (hs : (P.underlying src).isSome = true) (hd : P.underlying dst = some (.float .f32))
    (hw : Region.wanted { dst := dt, op := .convert src dst xo, type := ty, pos := ps, after := af, guard := gd } (yielded ops a.tmps) = true)
    (hx : a.eval xo = .float .f64 x) (ix : Is .f64 x va)
    (h : ∀ K : Act → World → Prop, (∀ a w, wpList P ops Q rest a w → K a w) → ∀ r n, r < 2 ^ 32 → K (a.put dt (.float .f32 r)) (w.drewN n)) : wpList P ops Q ({ dst := dt, op := .convert src dst xo, type := ty, pos := ps, after := af, guard := gd } :: rest) a w := by
  by_cases hf : Fit .f64 .f32 va
  · exact wpList_cv .f64 .f32 (by decide) hs hd hw hx ix hf fun K hK r n hr => h K hK r n hr.2
  · refine wpList_wanted hw fun K hK => ?_
    unfold Oper.wp
    cases va with
    | none => exact absurd (fun x h => by cases h) hf
    | some y =>
      obtain rfl := ix.notNaN
      have hno : floatToFloatBits .f64 x .f32 = none := by
        cases hc : floatToFloatBits .f64 x .f32 with
        | none => rfl
        | some r => exact absurd (fun z hz => by cases hz; rw [hc]; rfl) hf
      obtain ⟨s, m, e, hdd, hii⟩ : ∃ s m e, FloatKind.f64.decode x = .number s m e ∧ (FloatKind.f32.decode (FloatKind.f32.encode (.number s m e))).isInfinity = true := by
        have hn := ix.dec
        unfold floatToFloatBits at hno
        rw [if_neg (by decide)] at hno
        cases hr : FloatKind.f64.decode x with
        | nan s f => rw [hr] at hn; cases hn
        | infinity s => rw [hr] at hno; cases hno
        | number s m e =>
          rw [hr] at hno
          simp only at hno
          split at hno
          · exact ⟨s, m, e, rfl, by assumption⟩
          · cases hno
      have hrun : (convert src dst (.float .f64 x)).run P w = .ok (.float .f32 ((Question.floatToFloat x).cut (w.tape w.drawn (.floatToFloat x)))) (w.drewN 1) := by
        obtain ⟨u, hs'⟩ := Option.isSome_iff_exists.1 hs
        cases u <;> simp [convert, run_underlying hs', run_underlying hd, Conv.floatToFloat, hdd, hii, Question.forced, World.drew_is_drewN]
      simp [execOp, hx, hrun, Result.andThen, Oper.upon]
      exact h K hK _ 1 (Nat.mod_lt _ (by decide))

theorem iExpAny {x : Nat} {v : Option Nat} (ix : Is .f32 x v) (w : World) : Calls Try.prog 37 #[.float .f32 x] w fun e w' => (∃ r, e = .returned (.float .f32 r) ∧ r < 2 ^ 32) ∧ Below w.heap.size w w' := by
  go_enter Try.func37, Try.ntmps37
  go_wp2_with (first | (apply wpList_wide und32 Try.underlying42; rfl; rfl; (first | assumption | exact is_lit64 _ (by decide) | exact is_lit32 _ (by decide)); intro Kq hKq rq nq hq; go_simp) | (apply wpList_cvAny und64 Try.underlying22; rfl; rfl; (first | assumption | exact is_lit64 _ (by decide) | exact is_lit32 _ (by decide)); intro Kq hKq rq nq hq; go_simp) | (go_at_call 42; refine (iExpW (by assumption) _).mono ?_; rintro eq wq ⟨rq, nq, rfl, hq, rfl⟩))
  go_ret
  exact ⟨⟨_, rfl, by assumption⟩, by repeat' (first | with_reducible exact Below.refl _ _ | with_reducible assumption | (with_reducible refine Below.setCell ?_ (by first | omega | (simp; done) | (simp; omega)) _) | (with_reducible refine Below.alloc ?_ (by first | omega | (simp; done) | (simp; omega)) _) | (with_reducible refine below_drewN ?_ _) | (with_reducible refine Below.drew ?_) | (with_reducible refine Below.trans ?_ (Below.mono (by first | (with_reducible assumption) | exact Grow.below (by assumption)) (by first | omega | (simp; done) | (simp; omega)))))⟩

/-! ### Signs -/
theorem np_neg {v : Option Nat} (hv : ∀ b, v = some b → b < 2 ^ 32) (h : NnO .f32 v) : NpO .f32 (negO .f32 v) := by
  intro b hb
  cases v with
  | none => cases hb
  | some x =>
    have hb' : Op.negFloat .f32 x = b := Option.some.inj hb
    have hr := (read_neg .f32 (hv x rfl)).1
    rw [hb'] at hr
    unfold FloatKind.decode
    rw [hr]
    rcases h x rfl with hd | ⟨s, m, e, hd, hs⟩ <;> unfold FloatKind.decode at hd <;> rw [hd]
    · exact .inl rfl
    · refine .inr ⟨!s, m, e, rfl, ?_⟩
      rcases hs with hs | hs
      · left; rw [hs]; rfl
      · exact .inr hs

/-- What is greater, less the other: not negative. -/
theorem nn_subgt {k : FloatKind} {a b : Option Nat} (h : cmpB .gtr k a b = true) : NnO k (fo .sub k a b) := by
  intro r hr
  obtain ⟨x, y, rfl, rfl, hf⟩ := fo_some hr
  unfold floatBits Ieee.Format.sub at hf
  have hi := inf_write k false
  unfold FloatKind.encode at hi
  have ho : k.format.order x y = some .gt := by
    unfold cmpB ordO at h
    simp only [Option.bind_some] at h
    cases hc : k.format.order x y with
    | none => rw [hc] at h; simp at h
    | some o => rw [hc] at h; cases o <;> simp at h ⊢
  unfold Ieee.Format.order at ho
  cases hx : k.format.read x with
  | nan s f => rw [hx] at ho; cases ho
  | infinity s =>
    cases hy : k.format.read y with
    | nan s f => rw [hx, hy] at ho; cases ho
    | infinity t =>
      rw [hx, hy] at ho hf
      simp only [Ieee.Datum.order, Option.some.injEq] at ho
      obtain ⟨rfl, rfl⟩ : s = false ∧ t = true := by
        revert ho; cases s <;> cases t <;> decide
      simp only [Ieee.Datum.opposite, Ieee.Datum.sum, Bool.not_true, if_true, Option.map_some, Option.some.injEq] at hf
      subst hf; exact .inl hi
    | number t n j =>
      rw [hx, hy] at ho hf
      cases s <;> simp [Ieee.Datum.order] at ho
      simp only [Ieee.Datum.opposite, Ieee.Datum.sum, Option.map_some, Option.some.injEq] at hf
      subst hf; exact .inl hi
  | number s m i =>
    cases hy : k.format.read y with
    | nan s f => rw [hx, hy] at ho; cases ho
    | infinity t =>
      rw [hx, hy] at ho hf
      cases t <;> simp [Ieee.Datum.order] at ho
      simp only [Ieee.Datum.opposite, Ieee.Datum.sum, Bool.not_true, Option.map_some, Option.some.injEq] at hf
      subst hf; exact .inl hi
    | number t n j =>
      rw [hx, hy] at ho hf
      simp only [Ieee.Datum.order, Option.some.injEq, Int.compare_eq_gt] at ho
      simp only [Ieee.Datum.opposite, Ieee.Datum.sum, Option.map_some, Option.some.injEq] at hf
      subst hf
      have hopp : Ieee.signed (!t) n (j - min i j).toNat = -Ieee.signed t n (j - min i j).toNat := by unfold Ieee.signed; cases t <;> simp
      rw [hopp]
      refine nn_write k _ _ _ (.inl ?_)
      rw [if_neg (by omega)]
      simp; omega

theorem nn_div {k : FloatKind} {a b : Option Nat} (ha : NnO k a) (hb : cmpB .gtr k b (some 0) = true) : NnO k (fo .quo k a b) := by
  intro r hr
  obtain ⟨x, y, rfl, rfl, hf⟩ := fo_some hr
  unfold floatBits Ieee.Format.div at hf
  have hi := inf_write k false
  unfold FloatKind.encode at hi
  have ho : k.format.order y 0 = some .gt := by
    unfold cmpB ordO at hb
    simp only [Option.bind_some] at hb
    cases hc : k.format.order y 0 with
    | none => rw [hc] at hb; simp at hb
    | some o => rw [hc] at hb; cases o <;> simp at hb ⊢
  unfold Ieee.Format.order at ho
  have h0 : ∃ j, k.format.read 0 = .number false 0 j := by cases k <;> exact ⟨_, rfl⟩
  obtain ⟨j0, h0⟩ := h0
  have hx' := ha x rfl
  unfold FloatKind.decode at hx'
  cases hy : k.format.read y with
  | nan s f => rw [hy] at ho; cases ho
  | infinity t =>
    rw [hy, h0] at ho
    cases t <;> simp [Ieee.Datum.order] at ho
    rcases hx' with hx | ⟨s, m, i, hx, hs⟩
    · simp only [hx, hy, Ieee.Datum.quotient, Option.map_none] at hf; cases hf
    · simp only [hx, hy, Ieee.Datum.quotient, Option.map_some, Option.some.injEq] at hf
      subst hf
      exact nn_write k _ 0 _ (.inr rfl)
  | number t n j =>
    rw [hy, h0] at ho
    simp only [Ieee.Datum.order, Option.some.injEq, Int.compare_eq_gt] at ho
    have htn : t = false ∧ n ≠ 0 := by
      cases t with
      | true =>
        exfalso
        rw [signed_np (.inl rfl), signed_nn (.inl rfl), Nat.zero_shiftLeft] at ho
        generalize n <<< (j - min j j0).toNat = X at ho
        omega
      | false =>
        refine ⟨rfl, fun h => ?_⟩
        subst h
        rw [signed_nn (.inl rfl), signed_nn (.inl rfl), Nat.zero_shiftLeft, Nat.zero_shiftLeft] at ho
        omega
    obtain ⟨rfl, hn⟩ := htn
    rcases hx' with hx | ⟨s, m, i, hx, hs⟩
    · simp only [hx, hy, Ieee.Datum.quotient, Option.map_some, Option.some.injEq] at hf
      subst hf; exact .inl hi
    · simp only [hx, hy, Ieee.Datum.quotient, if_neg hn, Option.map_some, Option.some.injEq] at hf
      subst hf
      refine nn_write k _ _ _ ?_
      rcases hs with hs | hs
      · left; rw [hs]; rfl
      · right; subst hs; simp
end Go.Proofs.Ytdkjekdokajfgaa
