/-
  How far one can see: for every ball and every high the law's text returns true, and writes nothing that was there. No condition.
-/
import Derived.Test.YthlijhnplalflaaBal
import Derived.Test.YthlijhnplalflaaZer
import Derived.Test.YthlijhnplalflaaRooS
import Derived.Test.YthlijhnplalflaaAngT
import Derived.Test.YthlijhnplalflaaNumF
import Derived.Test.YthlijhnplalflaaSame
namespace Go.Proofs.Ythlijhnplalflaa
open Go.RowKit

/-- How far one can see from a high. -/
def horN (r h : Option Nat) : Option Nat := angT (rootO (fo .mul .f32 h (fo .add .f32 (fo .mul .f32 (some 1073741824) r) h))) r
def horOk (m r s t h : Option Nat) : Bool := balB m r s t && zerB h
def horV (m r s t h : Option Nat) : Option Nat := if horOk m r s t h then finN (horN r h) else some 0

section
variable {a0 a1 a2 a3 h : Nat} {x0 x1 x2 x3 v : Option Nat} (h0 : Is .f32 a0 x0) (h1 : Is .f32 a1 x1) (h2 : Is .f32 a2 x2) (h3 : Is .f32 a3 x3) (ih : Is .f32 h v)
include h0 h1 h2 h3 ih

theorem iHor (w : World) : Calls Try.prog 26 #[balV a0 a1 a2 a3, .float .f32 h] w (RetNum (horV x0 x1 x2 x3 v) (horOk x0 x1 x2 x3 v && finS (horN x1 v)) w) := by
  have HB := fun w => iBal h0 h1 h2 h3 w
  unfold horV horOk
  cases hA : balB x0 x1 x2 x3 <;> cases hZ : zerB v <;> rw [hA] at HB
  case true.true =>
    go_enter Try.func26, Try.ntmps26
    go_wp2_with (first | (apply wpList_arith; rfl; simp [Arith]; rfl; rfl; (first | assumption | exact is_lit64 _ (by decide) | exact is_lit32 _ (by decide)); (first | assumption | exact is_lit64 _ (by decide) | exact is_lit32 _ (by decide)); intro Kq hKq rq nq hq; go_simp) | (go_at_call 14; refine (HB _).mono ?_; rintro eq wq ⟨rfl, hb⟩; obtain ⟨hc, hf⟩ := bcell hb; have hz := hb.size; (try simp at hz); (try have hl : w.heap.size < wq.heap.size := (by omega))) | (go_at_call 55; refine (iZer (by assumption) _).mono ?_; rintro eq wq ⟨nq, rfl, rfl⟩) | (go_at_call 56; refine (root_any (by assumption) _).mono ?_; rintro eq wq ⟨rq, nq, rfl, hq, rfl⟩) | (go_at_call 58; refine (iAngT (by assumption) (by assumption) _).mono ?_; rintro eq wq ⟨rq, nq, rfl, hq, rfl⟩) | (go_at_call 57; refine (iFinN (v := horN x1 v) (by assumption) _).mono ?_; rintro _ W1 ⟨⟨r1, rfl, i1⟩, b1⟩))
    go_ret2
    refine ⟨⟨_, rfl, i1⟩, ?_⟩
    repeat' (first | with_reducible exact Below.refl _ _ | with_reducible assumption | (with_reducible refine Below.setCell ?_ (by first | omega | (simp; done) | (simp; omega)) _) | (with_reducible refine Below.alloc ?_ (by first | omega | (simp; done) | (simp; omega)) _) | (with_reducible refine below_drewN ?_ _) | (with_reducible refine Below.drew ?_) | (with_reducible refine Below.trans ?_ (Below.mono (by first | (with_reducible assumption) | exact Grow.below (by assumption)) (by first | omega | (simp; done) | (simp; omega)))))
  all_goals
    go_enter Try.func26, Try.ntmps26
    go_wp2_with (first | (go_at_call 14; refine (HB _).mono ?_; rintro eq wq ⟨rfl, hb⟩; obtain ⟨hc, hf⟩ := bcell hb; have hz := hb.size; (try simp at hz); (try have hl : w.heap.size < wq.heap.size := (by omega))) | (go_at_call 55; refine (iZer (by assumption) _).mono ?_; rintro eq wq ⟨nq, rfl, rfl⟩))
    go_ret2
    refine ⟨⟨_, rfl, zero32⟩, ?_⟩
    repeat' (first | with_reducible exact Below.refl _ _ | with_reducible assumption | (with_reducible refine Below.setCell ?_ (by first | omega | (simp; done) | (simp; omega)) _) | (with_reducible refine Below.alloc ?_ (by first | omega | (simp; done) | (simp; omega)) _) | (with_reducible refine below_drewN ?_ _) | (with_reducible refine Below.drew ?_) | (with_reducible refine Below.trans ?_ (Below.mono (by first | (with_reducible assumption) | exact Grow.below (by assumption)) (by first | omega | (simp; done) | (simp; omega)))))

theorem sHor (w : World) : Calls Try.prog 25 #[balV a0 a1 a2 a3, .float .f32 h] w (RetNum (horV x0 x1 x2 x3 v) (horOk x0 x1 x2 x3 v && finS (horN x1 v)) w) := by
  have HB := fun (w : World) => sBalP h0 h1 h2 h3 w.heap.size 0 (w.alloc (.cells #[.float .f32 a0, .float .f32 a1, .float .f32 a2, .float .f32 a3] 26)) (by simp) (by simp) (by simp) (by simp) (by simp)
  unfold horV horOk
  cases hA : balB x0 x1 x2 x3 <;> cases hZ : zerB v <;> rw [hA] at HB
  case true.true =>
    go_enter Try.func25, Try.ntmps25
    go_wp2_with (first | (apply wpList_arith; rfl; simp [Arith]; rfl; rfl; (first | assumption | exact is_lit64 _ (by decide) | exact is_lit32 _ (by decide)); (first | assumption | exact is_lit64 _ (by decide) | exact is_lit32 _ (by decide)); intro Kq hKq rq nq hq; go_simp) | (go_at_call 39; refine (HB _).mono ?_; rintro eq wq ⟨rfl, hb⟩; obtain ⟨hc, hf⟩ := bcell hb; have hz := hb.size; (try simp at hz); (try have hl : w.heap.size < wq.heap.size := (by omega))) | (go_at_call 52; refine (sZer (by assumption) _).mono ?_; rintro eq wq ⟨nq, rfl, rfl⟩) | (go_at_call 53; refine (l01Sqrt_any (by assumption) _).mono ?_; rintro eq wq ⟨rq, nq, rfl, hq, rfl⟩) | (go_at_call 54; refine (sAngT (by assumption) (by assumption) _).mono ?_; rintro eq wq ⟨rq, nq, rfl, hq, rfl⟩) | (go_at_call 49; refine (sFinN (v := horN x1 v) (by assumption) _).mono ?_; rintro _ W1 ⟨⟨r1, rfl, i1⟩, b1⟩))
    go_ret2
    refine ⟨⟨_, rfl, i1⟩, ?_⟩
    repeat' (first | with_reducible exact Below.refl _ _ | with_reducible assumption | (with_reducible refine Below.setCell ?_ (by first | omega | (simp; done) | (simp; omega)) _) | (with_reducible refine Below.alloc ?_ (by first | omega | (simp; done) | (simp; omega)) _) | (with_reducible refine below_drewN ?_ _) | (with_reducible refine Below.drew ?_) | (with_reducible refine Below.trans ?_ (Below.mono (by first | (with_reducible assumption) | exact Grow.below (by assumption)) (by first | omega | (simp; done) | (simp; omega)))))
  all_goals
    go_enter Try.func25, Try.ntmps25
    go_wp2_with (first | (go_at_call 39; refine (HB _).mono ?_; rintro eq wq ⟨rfl, hb⟩; obtain ⟨hc, hf⟩ := bcell hb; have hz := hb.size; (try simp at hz); (try have hl : w.heap.size < wq.heap.size := (by omega))) | (go_at_call 52; refine (sZer (by assumption) _).mono ?_; rintro eq wq ⟨nq, rfl, rfl⟩))
    go_ret2
    refine ⟨⟨_, rfl, zero32⟩, ?_⟩
    repeat' (first | with_reducible exact Below.refl _ _ | with_reducible assumption | (with_reducible refine Below.setCell ?_ (by first | omega | (simp; done) | (simp; omega)) _) | (with_reducible refine Below.alloc ?_ (by first | omega | (simp; done) | (simp; omega)) _) | (with_reducible refine below_drewN ?_ _) | (with_reducible refine Below.drew ?_) | (with_reducible refine Below.trans ?_ (Below.mono (by first | (with_reducible assumption) | exact Grow.below (by assumption)) (by first | omega | (simp; done) | (simp; omega)))))
end

theorem walk_FnExactHorizonOf (a0 a1 a2 a3 h : Nat) (w : World) (k0 : a0 < 2 ^ 32) (k1 : a1 < 2 ^ 32) (k2 : a2 < 2 ^ 32) (k3 : a3 < 2 ^ 32) (kh : h < 2 ^ 32) :
    Calls Try.prog 8 #[balV a0 a1 a2 a3, .float .f32 h] w fun e w' => e = .returned (.bool true) ∧ Below w.heap.size w w' := by
  have h0 := Is.self (k := .f32) k0
  have h1 := Is.self (k := .f32) k1
  have h2 := Is.self (k := .f32) k2
  have h3 := Is.self (k := .f32) k3
  have ih := Is.self (k := .f32) kh
  go_enter Try.func8, Try.ntmps8
  go_wp2_with (first | (apply wpList_wide und32 Try.underlying42; rfl; rfl; (first | assumption | exact is_lit64 _ (by decide) | exact is_lit32 _ (by decide)); intro Kq hKq rq nq hq; go_simp) | (go_at_call 13; refine (toBal _).mono ?_; rintro eq wq ⟨rfl, hb⟩; obtain ⟨hc, hf⟩ := bcell hb; have hz := hb.size; (try simp at hz); (try have hl : w.heap.size < wq.heap.size := (by omega))) | (go_at_call 25; refine (sHor h0 h1 h2 h3 ih _).mono ?_; rintro eq wq ⟨⟨r1, rfl, i1⟩, hb⟩; obtain ⟨hc, hf⟩ := bcell hb; have hz := hb.size; (try simp at hz); (try have hl : w.heap.size < wq.heap.size := (by omega))) | (go_at_call 26; refine (iHor h0 h1 h2 h3 ih _).mono ?_; rintro eq wq ⟨⟨r2, rfl, i2⟩, hb⟩; obtain ⟨hc, hf⟩ := bcell hb; have hz := hb.size; (try simp at hz); (try have hl : w.heap.size < wq.heap.size := (by omega))) | (go_at_call 24; refine (sameFloat_any (by assumption) (by assumption) _).mono ?_; rintro eq wq ⟨nq, rfl, rfl⟩))
  go_ret
  refine ⟨rfl, ?_⟩
  repeat' (first | with_reducible exact Below.refl _ _ | with_reducible assumption | (with_reducible refine Below.setCell ?_ (by first | omega | (simp; done) | (simp; omega)) _) | (with_reducible refine Below.alloc ?_ (by first | omega | (simp; done) | (simp; omega)) _) | (with_reducible refine below_drewN ?_ _) | (with_reducible refine Below.drew ?_) | (with_reducible refine Below.trans ?_ (Below.mono (by first | (with_reducible assumption) | exact Grow.below (by assumption)) (by first | omega | (simp; done) | (simp; omega)))))
end Go.Proofs.Ythlijhnplalflaa
