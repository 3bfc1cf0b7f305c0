/-
  A turn without whole ones: for every number the law's text returns true, and writes nothing that was there. No condition.
-/
import Derived.Test.YtngjpbfiijkibaaVx
import Derived.Test.YtngjpbfiijkibaaNumF
import Derived.Test.YtngjpbfiijkibaaNumS
import Derived.Test.YtngjpbfiijkibaaSame
namespace Go.Proofs.Ytngjpbfiijkibaa
open Go.RowKit

/-- A turn, ahead of the one that is put back; and behind it. -/
def wrapA (v : Option Nat) : Option Nat := fo .sub .f32 v (cv .f64 .f32 (floorO (cv .f32 .f64 (fo .add .f32 v (some 1056964608)))))
def wrapV (v : Option Nat) : Option Nat := if cmpB .lss .f32 (wrapA v) (some 3204448256) then fo .add .f32 (wrapA v) (some 1065353216) else wrapA v

theorem fin_word {x : Nat} {v : Option Nat} (ix : Is .f32 x v) (h : finS v = true) : v = some x ∧ ∃ s m e, FloatKind.f32.decode x = .number s m e := by
  cases v with
  | none => cases h
  | some z =>
    obtain rfl := ix.notNaN
    refine ⟨rfl, ?_⟩
    rcases single_low ix.dec with ⟨s, hs⟩ | ⟨s, m, e, hd, hm⟩
    · exfalso
      have hw := write_read32 ix
      unfold FloatKind.decode at hs
      rw [hs] at hw
      subst hw
      revert h
      cases s <;> decide
    · exact ⟨s, m, e, hd⟩

theorem wrap_facts {x : Nat} {v : Option Nat} (ix : Is .f32 x v) (h : finS v = true) :
    Fit .f64 .f32 (floorO (cv .f32 .f64 (fo .add .f32 v (some 1056964608)))) ∧ finS (wrapV v) = true ∧ cmpB .lss .f32 (wrapV v) (some 1056964608) = true := by
  obtain ⟨rfl, s, m, e, hd⟩ := fin_word ix h
  obtain ⟨z, neg, r, hz, hf, rfl, hr, hs⟩ := wrap_turn ix.2 hd
  refine ⟨hf, ?_⟩
  unfold wrapV wrapA
  rw [hz]
  cases hc : cmpB .lss .f32 (some (FloatKind.f32.format.word neg r)) (some 3204448256) with
  | false =>
    simp only [Bool.false_eq_true, if_false]
    exact ⟨word_fin neg hr, lss_half neg hr hs⟩
  | true =>
    obtain ⟨y, neg', r', hy, rfl, hr', hs'⟩ := plus_one hr hc
    rw [if_pos rfl, hy]
    exact ⟨word_fin neg' hr', lss_half neg' hr' hs'⟩

/-- What becomes of a number. -/
def wrpR (v : Option Nat) : Option Nat := if finS v then wrapV v else some 0

section
variable {x : Nat} {v : Option Nat} (ix : Is .f32 x v)
include ix

theorem iWrp (w : World) : Calls Try.prog 13 #[.float .f32 x] w (RetNum (wrpR v) (finS v) w) := by
  unfold wrpR
  cases hF : finS v with
  | false =>
    go_enter Try.func13, Try.ntmps13
    go_wp2_with (go_at_call 27; refine (sFinite ix _).mono ?_; rintro eq wq ⟨nq, rfl, rfl⟩)
    go_ret2
    exact ⟨⟨_, rfl, zero32⟩, by repeat' (first | with_reducible exact Below.refl _ _ | with_reducible assumption | (with_reducible refine Below.setCell ?_ (by first | omega | (simp; done) | (simp; omega)) _) | (with_reducible refine Below.alloc ?_ (by first | omega | (simp; done) | (simp; omega)) _) | (with_reducible refine below_drewN ?_ _) | (with_reducible refine Below.drew ?_) | (with_reducible refine Below.trans ?_ (Below.mono (by first | (with_reducible assumption) | exact Grow.below (by assumption)) (by first | omega | (simp; done) | (simp; omega)))))⟩
  | true =>
    obtain ⟨hf, -, -⟩ := wrap_facts ix hF
    rw [if_pos rfl]
    unfold wrapV wrapA
    cases hc : cmpB .lss .f32 (fo .sub .f32 v (cv .f64 .f32 (floorO (cv .f32 .f64 (fo .add .f32 v (some 1056964608)))))) (some 3204448256) with
    | false =>
      simp only [Bool.false_eq_true, if_false]
      go_enter Try.func13, Try.ntmps13
      go_wp2_with (first | (apply wpList_cmp; rfl; simp [Cmp]; rfl; rfl; (first | assumption | exact is_lit64 _ (by decide) | exact is_lit32 _ (by decide)); (first | assumption | exact is_lit64 _ (by decide) | exact is_lit32 _ (by decide)); intro Kq hKq; go_simp) | (apply wpList_arith; rfl; simp [Arith]; rfl; rfl; (first | assumption | exact is_lit64 _ (by decide) | exact is_lit32 _ (by decide)); (first | assumption | exact is_lit64 _ (by decide) | exact is_lit32 _ (by decide)); intro Kq hKq rq nq hq; go_simp) | (apply wpList_wide und32 Try.underlying40; rfl; rfl; (first | assumption | exact is_lit64 _ (by decide) | exact is_lit32 _ (by decide)); intro Kq hKq rq nq hq; go_simp) | (apply wpList_cv .f64 .f32 (by decide) und64 Try.underlying22; rfl; rfl; (first | assumption | exact is_lit64 _ (by decide) | exact is_lit32 _ (by decide)); assumption; intro Kq hKq rq nq hq; go_simp) | (go_at_call 35; refine (floor_any (by assumption) _).mono ?_; rintro eq wq ⟨rq, nq, rfl, hq, rfl⟩) | (go_at_call 27; refine (sFinite ix _).mono ?_; rintro eq wq ⟨nq, rfl, rfl⟩))
      go_ret2
      exact ⟨⟨_, rfl, by assumption⟩, by repeat' (first | with_reducible exact Below.refl _ _ | with_reducible assumption | (with_reducible refine Below.setCell ?_ (by first | omega | (simp; done) | (simp; omega)) _) | (with_reducible refine Below.alloc ?_ (by first | omega | (simp; done) | (simp; omega)) _) | (with_reducible refine below_drewN ?_ _) | (with_reducible refine Below.drew ?_) | (with_reducible refine Below.trans ?_ (Below.mono (by first | (with_reducible assumption) | exact Grow.below (by assumption)) (by first | omega | (simp; done) | (simp; omega)))))⟩
    | true =>
      rw [if_pos rfl]
      go_enter Try.func13, Try.ntmps13
      go_wp2_with (first | (apply wpList_cmp; rfl; simp [Cmp]; rfl; rfl; (first | assumption | exact is_lit64 _ (by decide) | exact is_lit32 _ (by decide)); (first | assumption | exact is_lit64 _ (by decide) | exact is_lit32 _ (by decide)); intro Kq hKq; go_simp) | (apply wpList_arith; rfl; simp [Arith]; rfl; rfl; (first | assumption | exact is_lit64 _ (by decide) | exact is_lit32 _ (by decide)); (first | assumption | exact is_lit64 _ (by decide) | exact is_lit32 _ (by decide)); intro Kq hKq rq nq hq; go_simp) | (apply wpList_wide und32 Try.underlying40; rfl; rfl; (first | assumption | exact is_lit64 _ (by decide) | exact is_lit32 _ (by decide)); intro Kq hKq rq nq hq; go_simp) | (apply wpList_cv .f64 .f32 (by decide) und64 Try.underlying22; rfl; rfl; (first | assumption | exact is_lit64 _ (by decide) | exact is_lit32 _ (by decide)); assumption; intro Kq hKq rq nq hq; go_simp) | (go_at_call 35; refine (floor_any (by assumption) _).mono ?_; rintro eq wq ⟨rq, nq, rfl, hq, rfl⟩) | (go_at_call 27; refine (sFinite ix _).mono ?_; rintro eq wq ⟨nq, rfl, rfl⟩))
      go_ret2
      exact ⟨⟨_, rfl, by assumption⟩, by repeat' (first | with_reducible exact Below.refl _ _ | with_reducible assumption | (with_reducible refine Below.setCell ?_ (by first | omega | (simp; done) | (simp; omega)) _) | (with_reducible refine Below.alloc ?_ (by first | omega | (simp; done) | (simp; omega)) _) | (with_reducible refine below_drewN ?_ _) | (with_reducible refine Below.drew ?_) | (with_reducible refine Below.trans ?_ (Below.mono (by first | (with_reducible assumption) | exact Grow.below (by assumption)) (by first | omega | (simp; done) | (simp; omega)))))⟩

theorem sFlr (hf : Fit .f64 .f32 (floorO (cv .f32 .f64 v))) (w : World) : Calls Try.prog 56 #[.float .f32 x] w (RetF .f32 (cv .f64 .f32 (floorO (cv .f32 .f64 v))) w) := by
  go_enter Try.func56, Try.ntmps56
  go_wp2_with (first | (apply wpList_wide und32 Try.underlying40; rfl; rfl; (first | assumption | exact is_lit64 _ (by decide) | exact is_lit32 _ (by decide)); intro Kq hKq rq nq hq; go_simp) | (apply wpList_cv .f64 .f32 (by decide) und64 Try.underlying22; rfl; rfl; (first | assumption | exact is_lit64 _ (by decide) | exact is_lit32 _ (by decide)); assumption; intro Kq hKq rq nq hq; go_simp) | (go_at_call 35; refine (floor_any (by assumption) _).mono ?_; rintro eq wq ⟨rq, nq, rfl, hq, rfl⟩))
  go_ret
  exact ⟨_, _, rfl, by assumption, rfl⟩

theorem sWrap (hF : finS v = true) (w : World) : Calls Try.prog 34 #[.float .f32 x] w (RetF .f32 (wrapV v) w) := by
  obtain ⟨hf, -, hl⟩ := wrap_facts ix hF
  have SF := fun {a : Nat} (ia : Is .f32 a (fo .add .f32 v (some 1056964608))) (w : World) => sFlr ia hf w
  clear hF hf
  unfold wrapV wrapA at *
  cases hc : cmpB .lss .f32 (fo .sub .f32 v (cv .f64 .f32 (floorO (cv .f32 .f64 (fo .add .f32 v (some 1056964608)))))) (some 3204448256) with
  | false =>
    rw [hc] at hl
    simp only [Bool.false_eq_true, if_false] at hl ⊢
    go_enter Try.func34, Try.ntmps34
    go_wp2_with (first | (apply wpList_cmp; rfl; simp [Cmp]; rfl; rfl; (first | assumption | exact is_lit64 _ (by decide) | exact is_lit32 _ (by decide)); (first | assumption | exact is_lit64 _ (by decide) | exact is_lit32 _ (by decide)); intro Kq hKq; go_simp) | (apply wpList_arith; rfl; simp [Arith]; rfl; rfl; (first | assumption | exact is_lit64 _ (by decide) | exact is_lit32 _ (by decide)); (first | assumption | exact is_lit64 _ (by decide) | exact is_lit32 _ (by decide)); intro Kq hKq rq nq hq; go_simp) | (go_at_call 56; refine (SF (by assumption) _).mono ?_; rintro eq wq ⟨rq, nq, rfl, hq, rfl⟩))
    go_ret
    exact ⟨_, _, rfl, by assumption, rfl⟩
  | true =>
    rw [hc, if_pos rfl] at hl
    rw [if_pos rfl]
    go_enter Try.func34, Try.ntmps34
    go_wp2_with (first | (apply wpList_cmp; rfl; simp [Cmp]; rfl; rfl; (first | assumption | exact is_lit64 _ (by decide) | exact is_lit32 _ (by decide)); (first | assumption | exact is_lit64 _ (by decide) | exact is_lit32 _ (by decide)); intro Kq hKq; go_simp) | (apply wpList_arith; rfl; simp [Arith]; rfl; rfl; (first | assumption | exact is_lit64 _ (by decide) | exact is_lit32 _ (by decide)); (first | assumption | exact is_lit64 _ (by decide) | exact is_lit32 _ (by decide)); intro Kq hKq rq nq hq; go_simp) | (go_at_call 56; refine (SF (by assumption) _).mono ?_; rintro eq wq ⟨rq, nq, rfl, hq, rfl⟩))
    go_ret
    exact ⟨_, _, rfl, by assumption, rfl⟩

theorem sWrp (w : World) : Calls Try.prog 12 #[.float .f32 x] w (RetNum (wrpR v) (finS v) w) := by
  unfold wrpR
  cases hF : finS v with
  | false =>
    go_enter Try.func12, Try.ntmps12
    go_wp2_with (go_at_call 23; refine (finite_any ix _).mono ?_; rintro eq wq ⟨nq, rfl, rfl⟩)
    go_ret2
    exact ⟨⟨_, rfl, zero32⟩, by repeat' (first | with_reducible exact Below.refl _ _ | with_reducible assumption | (with_reducible refine Below.setCell ?_ (by first | omega | (simp; done) | (simp; omega)) _) | (with_reducible refine Below.alloc ?_ (by first | omega | (simp; done) | (simp; omega)) _) | (with_reducible refine below_drewN ?_ _) | (with_reducible refine Below.drew ?_) | (with_reducible refine Below.trans ?_ (Below.mono (by first | (with_reducible assumption) | exact Grow.below (by assumption)) (by first | omega | (simp; done) | (simp; omega)))))⟩
  | true =>
    obtain ⟨-, hy, -⟩ := wrap_facts ix hF
    have SN := fun {a : Nat} (ia : Is .f32 a (wrapV v)) (w : World) => sFinN ia w
    unfold finN at SN
    rw [hy] at SN
    rw [if_pos rfl]
    simp only [if_true] at SN
    have SW := fun w => sWrap ix hF w
    generalize wrapV v = V at *
    go_enter Try.func12, Try.ntmps12
    go_wp2_with (first | (go_at_call 23; refine (finite_any ix _).mono ?_; rintro eq wq ⟨nq, rfl, rfl⟩) | (go_at_call 34; refine (SW _).mono ?_; rintro eq wq ⟨rq, nq, rfl, hq, rfl⟩) | (go_at_call 33; refine (SN (by assumption) _).mono ?_; rintro _ W1 ⟨⟨r1, rfl, i1⟩, b1⟩))
    go_ret2
    refine ⟨⟨_, rfl, i1⟩, ?_⟩
    repeat' (first | with_reducible exact Below.refl _ _ | with_reducible assumption | (with_reducible refine Below.setCell ?_ (by first | omega | (simp; done) | (simp; omega)) _) | (with_reducible refine Below.alloc ?_ (by first | omega | (simp; done) | (simp; omega)) _) | (with_reducible refine below_drewN ?_ _) | (with_reducible refine Below.drew ?_) | (with_reducible refine Below.trans ?_ (Below.mono (by first | (with_reducible assumption) | exact Grow.below (by assumption)) (by first | omega | (simp; done) | (simp; omega)))))
end

theorem walk_FnExactWrapTurn (x : Nat) (w : World) (hx : x < 2 ^ 32) :
    Calls Try.prog 4 #[.float .f32 x] w fun e w' => e = .returned (.bool true) ∧ Below w.heap.size w w' := by
  have ix := Is.self (k := .f32) hx
  go_enter Try.func4, Try.ntmps4
  go_wp2_with (first | (apply wpList_wide und32 Try.underlying40; rfl; rfl; (first | assumption | exact is_lit64 _ (by decide) | exact is_lit32 _ (by decide)); intro Kq hKq rq nq hq; go_simp) | (go_at_call 12; refine (sWrp ix _).mono ?_; rintro eq wq ⟨⟨r1, rfl, i1⟩, hb⟩; obtain ⟨hc, hf⟩ := bcell hb; have hz := hb.size; (try simp at hz); (try have hl : w.heap.size < wq.heap.size := (by omega))) | (go_at_call 13; refine (iWrp ix _).mono ?_; rintro eq wq ⟨⟨r2, rfl, i2⟩, hb⟩; obtain ⟨hc, hf⟩ := bcell hb; have hz := hb.size; (try simp at hz); (try have hl : w.heap.size < wq.heap.size := (by omega))) | (go_at_call 14; refine (sameFloat_any (by assumption) (by assumption) _).mono ?_; rintro eq wq ⟨nq, rfl, rfl⟩))
  go_ret
  refine ⟨rfl, ?_⟩
  repeat' (first | with_reducible exact Below.refl _ _ | with_reducible assumption | (with_reducible refine Below.setCell ?_ (by first | omega | (simp; done) | (simp; omega)) _) | (with_reducible refine Below.alloc ?_ (by first | omega | (simp; done) | (simp; omega)) _) | (with_reducible refine below_drewN ?_ _) | (with_reducible refine Below.drew ?_) | (with_reducible refine Below.trans ?_ (Below.mono (by first | (with_reducible assumption) | exact Grow.below (by assumption)) (by first | omega | (simp; done) | (simp; omega)))))
end Go.Proofs.Ytngjpbfiijkibaa
