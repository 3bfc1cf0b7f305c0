/-
  The swing of a phase: for every two numbers the law's text returns true, and writes nothing that was there. No condition.
-/
import Derived.Test.YtoomfcdaojmakaaSwg
namespace Go.Proofs.Ytoomfcdaojmakaa
open Go.RowKit

/-- What is halved for a swing. -/
def swH (u p : Option Nat) : Option Nat := (halN (fun c => cmpB .gtr .f64 (swP u c) (wrapS p)) (some 0) (some 4607182418800017408) 50).1

theorem sm_swH (u p : Option Nat) : SmO .f64 (swH u p) 0 :=
  (sm_halN (sm_lit (by kernel_rfl)) (sm_lit (by kernel_rfl)) (by decide) (by decide) 50).1

/-- The swing, and whether it is one. -/
def swN (e v : Option Nat) : Option Nat := if partB e && finS v then cv .f64 .f32 (swH (cv .f32 .f64 e) (cv .f32 .f64 v)) else some 0

theorem wide_num {x : Nat} {v : Option Nat} (ix : Is .f32 x v) (hf : finS v = true) : ∃ y s m e, cv .f32 .f64 v = some y ∧ Is .f64 y (some y) ∧ FloatKind.f64.decode y = .number s m e := by
  obtain ⟨y, s, m, e, h⟩ := fin_num ix (by rw [fin_same ix]; exact hf)
  exact ⟨y, s, m, e, h.1, h.2.1, h.2.2⟩

theorem sSwO {r x : Nat} {e v : Option Nat} (ie : Is .f32 r e) (ix : Is .f32 x v) (w : World) : Calls Try.prog 15 #[.float .f32 r, .float .f32 x] w (RetNum (swN e v) (partB e && finS v) w) := by
  unfold swN
  cases hp : partB e with
  | false =>
    go_enter Try.func15, Try.ntmps15
    go_wp2_with (go_at_call 29; refine (sPart (by assumption) _).mono ?_; rintro eq wq ⟨nq, rfl, rfl⟩)
    go_ret2
    exact ⟨⟨_, rfl, zero32⟩, by repeat' (first | with_reducible exact Below.refl _ _ | with_reducible assumption | (with_reducible refine Below.setCell ?_ (by first | omega | (simp; done) | (simp; omega)) _) | (with_reducible refine Below.alloc ?_ (by first | omega | (simp; done) | (simp; omega)) _) | (with_reducible refine below_drewN ?_ _) | (with_reducible refine Below.drew ?_) | (with_reducible refine Below.trans ?_ (Below.mono (by first | (with_reducible assumption) | exact Grow.below (by assumption)) (by first | omega | (simp; done) | (simp; omega)))))⟩
  | true =>
    cases hf : finS v with
    | false =>
      go_enter Try.func15, Try.ntmps15
      go_wp2_with (first | (go_at_call 29; refine (sPart (by assumption) _).mono ?_; rintro eq wq ⟨nq, rfl, rfl⟩) | (go_at_call 30; refine (finite_any (by assumption) _).mono ?_; rintro eq wq ⟨nq, rfl, rfl⟩))
      go_ret2
      exact ⟨⟨_, rfl, zero32⟩, by repeat' (first | with_reducible exact Below.refl _ _ | with_reducible assumption | (with_reducible refine Below.setCell ?_ (by first | omega | (simp; done) | (simp; omega)) _) | (with_reducible refine Below.alloc ?_ (by first | omega | (simp; done) | (simp; omega)) _) | (with_reducible refine below_drewN ?_ _) | (with_reducible refine Below.drew ?_) | (with_reducible refine Below.trans ?_ (Below.mono (by first | (with_reducible assumption) | exact Grow.below (by assumption)) (by first | omega | (simp; done) | (simp; omega)))))⟩
    | true =>
      obtain ⟨y, s, m, i, hc, iy, hd⟩ := wide_num ix hf
      have hs := sm_swH (cv .f32 .f64 e) (some y)
      rw [hc]
      have hF := fit_le hs.2 (by decide)
      go_enter Try.func15, Try.ntmps15
      go_wp2_with (first | (apply wpList_wide und32 Try.underlying32; rfl; rfl; (first | assumption | exact is_lit64 _ (by decide) | exact is_lit32 _ (by decide)); intro Kq hKq rq nq hq; go_simp) | (go_at_call 29; refine (sPart (by assumption) _).mono ?_; rintro eq wq ⟨nq, rfl, rfl⟩) | (go_at_call 30; refine (finite_any (by assumption) _).mono ?_; rintro eq wq ⟨nq, rfl, rfl⟩) | (go_at_call 32; rw [hc] at hq; obtain rfl := hq.notNaN; refine (sSwing (by assumption) iy hd _).mono ?_; rintro _ _ ⟨r2, n2, rfl, i2, rfl⟩) | (go_at_call 31; refine (narrow_any i2 hF _).mono ?_; rintro _ _ ⟨r1, n1, rfl, i1, rfl⟩))
      go_ret2
      exact ⟨⟨_, rfl, i1⟩, by repeat' (first | with_reducible exact Below.refl _ _ | with_reducible assumption | (with_reducible refine Below.setCell ?_ (by first | omega | (simp; done) | (simp; omega)) _) | (with_reducible refine Below.alloc ?_ (by first | omega | (simp; done) | (simp; omega)) _) | (with_reducible refine below_drewN ?_ _) | (with_reducible refine Below.drew ?_) | (with_reducible refine Below.trans ?_ (Below.mono (by first | (with_reducible assumption) | exact Grow.below (by assumption)) (by first | omega | (simp; done) | (simp; omega)))))⟩

theorem iSwO {r x : Nat} {e v : Option Nat} (ie : Is .f32 r e) (ix : Is .f32 x v) (w : World) : Calls Try.prog 16 #[.float .f32 r, .float .f32 x] w (RetNum (swN e v) (partB e && finS v) w) := by
  unfold swN
  cases hp : partB e with
  | false =>
    go_enter Try.func16, Try.ntmps16
    go_wp2_with (go_at_call 33; refine (iEllR (by assumption) _).mono ?_; rintro eq wq ⟨nq, rfl, rfl⟩)
    go_ret2
    exact ⟨⟨_, rfl, zero32⟩, by repeat' (first | with_reducible exact Below.refl _ _ | with_reducible assumption | (with_reducible refine Below.setCell ?_ (by first | omega | (simp; done) | (simp; omega)) _) | (with_reducible refine Below.alloc ?_ (by first | omega | (simp; done) | (simp; omega)) _) | (with_reducible refine below_drewN ?_ _) | (with_reducible refine Below.drew ?_) | (with_reducible refine Below.trans ?_ (Below.mono (by first | (with_reducible assumption) | exact Grow.below (by assumption)) (by first | omega | (simp; done) | (simp; omega)))))⟩
  | true =>
    cases hf : finS v with
    | false =>
      go_enter Try.func16, Try.ntmps16
      go_wp2_with (first | (go_at_call 33; refine (iEllR (by assumption) _).mono ?_; rintro eq wq ⟨nq, rfl, rfl⟩) | (go_at_call 19; refine (sFinite (by assumption) _).mono ?_; rintro eq wq ⟨nq, rfl, rfl⟩))
      go_ret2
      exact ⟨⟨_, rfl, zero32⟩, by repeat' (first | with_reducible exact Below.refl _ _ | with_reducible assumption | (with_reducible refine Below.setCell ?_ (by first | omega | (simp; done) | (simp; omega)) _) | (with_reducible refine Below.alloc ?_ (by first | omega | (simp; done) | (simp; omega)) _) | (with_reducible refine below_drewN ?_ _) | (with_reducible refine Below.drew ?_) | (with_reducible refine Below.trans ?_ (Below.mono (by first | (with_reducible assumption) | exact Grow.below (by assumption)) (by first | omega | (simp; done) | (simp; omega)))))⟩
    | true =>
      obtain ⟨y, s, m, i, hc, iy, hd⟩ := wide_num ix hf
      have hs := sm_swH (cv .f32 .f64 e) (some y)
      rw [hc]
      have hF := fit_le hs.2 (by decide)
      have hok := fin_cv hs (by decide)
      have hfn : finN (cv .f64 .f32 (swH (cv .f32 .f64 e) (some y))) = cv .f64 .f32 (swH (cv .f32 .f64 e) (some y)) := by unfold finN; rw [hok]; rfl
      have HN := fun {z : Nat} (iz : Is .f64 z (swH (cv .f32 .f64 e) (some y))) w => hfn ▸ hok ▸ iNarF iz hF w
      clear hfn hok
      go_enter Try.func16, Try.ntmps16
      go_wp2_with (first | (apply wpList_wide und32 Try.underlying32; rfl; rfl; (first | assumption | exact is_lit64 _ (by decide) | exact is_lit32 _ (by decide)); intro Kq hKq rq nq hq; go_simp) | (apply wpList_wide und32 Try.underlying48; rfl; rfl; assumption; intro Kq hKq rq nq hq; go_simp) | (go_at_call 33; refine (iEllR (by assumption) _).mono ?_; rintro eq wq ⟨nq, rfl, rfl⟩) | (go_at_call 19; refine (sFinite (by assumption) _).mono ?_; rintro eq wq ⟨nq, rfl, rfl⟩) | (go_at_call 34; rw [hc] at hq; obtain rfl := hq.notNaN; refine (iSwing (by assumption) iy hd _).mono ?_; rintro _ W2 ⟨⟨r2, rfl, i2⟩, b2⟩) | (go_at_call 25; refine (HN i2 _).mono ?_; rintro _ W1 ⟨⟨r1, rfl, i1⟩, b1⟩))
      go_ret2
      have hz : w.heap.size ≤ W2.heap.size := b2.size
      exact ⟨⟨_, rfl, i1⟩, by repeat' (first | with_reducible exact Below.refl _ _ | with_reducible assumption | (with_reducible refine Below.setCell ?_ (by first | omega | (simp; done) | (simp; omega)) _) | (with_reducible refine Below.alloc ?_ (by first | omega | (simp; done) | (simp; omega)) _) | (with_reducible refine below_drewN ?_ _) | (with_reducible refine Below.drew ?_) | (with_reducible refine Below.trans ?_ (Below.mono (by first | (with_reducible assumption) | exact Grow.below (by assumption)) (by first | omega | (simp; done) | (simp; omega)))))⟩

theorem walk_FnExactSwingOf (a b : Nat) (w : World) (ka : a < 2 ^ 32) (kb : b < 2 ^ 32) :
    Calls Try.prog 6 #[.float .f32 a, .float .f32 b] w fun e w' => e = .returned (.bool true) ∧ Below w.heap.size w w' := by
  have ia := Is.self (k := .f32) ka
  have ib := Is.self (k := .f32) kb
  go_enter Try.func6, Try.ntmps6
  go_wp2_with (first | (apply wpList_wide und32 Try.underlying32; rfl; rfl; (first | assumption | exact is_lit64 _ (by decide) | exact is_lit32 _ (by decide)); intro Kq hKq rq nq hq; go_simp) | (go_at_call 15; refine (sSwO ia ib _).mono ?_; rintro _ W1 ⟨⟨r1, rfl, i1⟩, b1⟩) | (go_at_call 16; refine (iSwO ia ib _).mono ?_; rintro _ W2 ⟨⟨r2, rfl, i2⟩, b2⟩) | (go_at_call 12; refine (sameFloat_any (by assumption) (by assumption) _).mono ?_; rintro eq wq ⟨nq, rfl, rfl⟩))
  go_ret
  refine ⟨rfl, ?_⟩
  have hz := b1.size
  repeat' (first | with_reducible exact Below.refl _ _ | with_reducible assumption | (with_reducible refine Below.setCell ?_ (by first | omega | (simp; done) | (simp; omega)) _) | (with_reducible refine Below.alloc ?_ (by first | omega | (simp; done) | (simp; omega)) _) | (with_reducible refine below_drewN ?_ _) | (with_reducible refine Below.drew ?_) | (with_reducible refine Below.trans ?_ (Below.mono (by first | (with_reducible assumption) | exact Grow.below (by assumption)) (by first | omega | (simp; done) | (simp; omega)))))
end Go.Proofs.Ytoomfcdaojmakaa
