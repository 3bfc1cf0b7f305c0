/-
  What becomes of the Long of a circle in air, of the model. No condition.
-/
import Derived.Test.YtdkjekdokajfgaaSnkL
namespace Go.Proofs.Ytdkjekdokajfgaa
open Go.RowKit

theorem sThin {sw cw g : Nat} {s c vg : Option Nat} (is : Is .f32 sw s) (ic : Is .f32 cw c) (ig : Is .f32 g vg) (hn : NpO .f32 (negO .f32 (fo .quo .f32 vg c))) (w : World) :
    Calls Try.prog 20 #[.float .f32 sw, .float .f32 cw, .float .f32 g] w (RetF .f32 (fo .mul .f32 s (expT (negO .f32 (fo .quo .f32 vg c)))) w) := by
  have EX := fun {x : Nat} (ix : Is .f32 x (negO .f32 (fo .quo .f32 vg c))) (W : World) => sExpT ix hn W
  generalize expT (negO .f32 (fo .quo .f32 vg c)) = ev at EX ⊢
  go_enter Try.func20, Try.ntmps20
  go_wp2_with (first | (apply wpList_arith; rfl; simp [Arith]; rfl; rfl; (first | assumption | exact is_lit64 _ (by decide) | exact is_lit32 _ (by decide)); (first | assumption | exact is_lit64 _ (by decide) | exact is_lit32 _ (by decide)); intro Kq hKq rq nq hq; go_simp) | (apply wpList_neg; rfl; rfl; (first | assumption | exact is_lit64 _ (by decide) | exact is_lit32 _ (by decide)); intro Kq hKq rq hq; go_simp) | (go_at_call 31; refine (EX (by assumption) _).mono ?_; rintro eq wq ⟨rq, nq, rfl, hq, rfl⟩))
  go_ret
  exact ⟨_, _, rfl, by assumption, rfl⟩

section
variable {a0 a1 a2 a3 lw dw sw cw tw : Nat} {x0 x1 x2 x3 l d s c t : Option Nat} (h0 : Is .f32 a0 x0) (h1 : Is .f32 a1 x1) (h2 : Is .f32 a2 x2) (h3 : Is .f32 a3 x3) (il : Is .f32 lw l) (id : Is .f32 dw d) (is : Is .f32 sw s) (ic : Is .f32 cw c) (it : Is .f32 tw t)

set_option maxHeartbeats 1600000 in
include h0 h1 il id is ic it in
theorem sSnkP (bb : Nat) (w : World) (hb : bb < w.heap.size) (c0 : w.cell? ⟨bb, 0, none⟩ = some (.float .f32 a0)) (c1 : w.cell? ⟨bb, 1, none⟩ = some (.float .f32 a1)) (oG : cmpB .gtr .f32 l x1 = true) (oC : posB c = true) :
    Calls Try.prog 13 #[.pointer (some ⟨bb, 0, none⟩), .float .f32 lw, .float .f32 dw, .float .f32 sw, .float .f32 cw, .float .f32 tw] w (RetNum (finN (snkX x0 x1 l d s c t)) (snkOk x0 x1 l d s c t) w) := by
  have TA := fun {g : Nat} (ig : Is .f32 g (snkH x1 l)) (W : World) => sThin is ic ig (snk_np oG oC) W
  have eT : fo .mul .f32 s (expT (negO .f32 (fo .quo .f32 (snkH x1 l) c))) = snkT x1 l s c := rfl
  simp only [eT] at TA
  have hX : fo .sub .f32 l (fo .mul .f32 (fo .mul .f32 (fo .mul .f32 t d) (snkT x1 l s c)) (rootO (fo .mul .f32 x0 l))) = snkX x0 x1 l d s c t := rfl
  have hH : fo .sub .f32 l x1 = snkH x1 l := rfl
  unfold snkOk
  rw [← hX]
  clear hX eT oG oC
  generalize snkT x1 l s c = tv at TA ⊢
  rw [← hH] at TA ⊢
  clear hH
  have FN := fun {x : Nat} (ix : Is .f32 x (fo .sub .f32 l (fo .mul .f32 (fo .mul .f32 (fo .mul .f32 t d) tv) (rootO (fo .mul .f32 x0 l))))) (W : World) => sFinN ix W
  generalize finN (fo .sub .f32 l (fo .mul .f32 (fo .mul .f32 (fo .mul .f32 t d) tv) (rootO (fo .mul .f32 x0 l)))) = vv at FN ⊢
  generalize finS (fo .sub .f32 l (fo .mul .f32 (fo .mul .f32 (fo .mul .f32 t d) tv) (rootO (fo .mul .f32 x0 l)))) = ff at FN ⊢
  have FT := fun {x : Nat} (ix : Is .f32 x tv) (W : World) => finite_any ix W
  have FH := fun {x : Nat} (ix : Is .f32 x (fo .sub .f32 l x1)) (W : World) => finite_any ix W
  cases ff with
  | false =>
    simp only [Bool.false_and]
    go_enter Try.func13, Try.ntmps13
    go_wp2_with (first | (apply wpList_arith; rfl; simp [Arith]; rfl; rfl; (first | assumption | exact is_lit64 _ (by decide) | exact is_lit32 _ (by decide)); (first | assumption | exact is_lit64 _ (by decide) | exact is_lit32 _ (by decide)); intro Kq hKq rq nq hq; go_simp) | (go_at_call 20; refine (TA (by assumption) _).mono ?_; rintro eq wq ⟨rq, nq, rfl, hq, rfl⟩) | (go_at_call 21; refine (l01Sqrt_any (by assumption) _).mono ?_; rintro eq wq ⟨rq, nq, rfl, hq, rfl⟩) | (go_at_call 22; refine (FN (by assumption) _).mono ?_; rintro _ W3 ⟨⟨r3, rfl, i3⟩, b3⟩; have hz3 := b3.size; (try simp at hz3)))
    go_ret2
    refine ⟨⟨_, rfl, i3⟩, ?_⟩
    repeat' (first | with_reducible exact Below.refl _ _ | with_reducible assumption | (with_reducible refine Below.setCell ?_ (by first | omega | (simp; done) | (simp; omega)) _) | (with_reducible refine Below.alloc ?_ (by first | omega | (simp; done) | (simp; omega)) _) | (with_reducible refine below_drewN ?_ _) | (with_reducible refine Below.drew ?_) | (with_reducible refine Below.trans ?_ (Below.mono (by first | (with_reducible assumption) | exact Grow.below (by assumption)) (by first | omega | (simp; done) | (simp; omega)))))
  | true =>
    rw [Bool.true_and]
    cases hT : finS tv with
    | false =>
      rw [Bool.false_and]
      rw [hT] at FT
      go_enter Try.func13, Try.ntmps13
      go_wp2_with (first | (apply wpList_arith; rfl; simp [Arith]; rfl; rfl; (first | assumption | exact is_lit64 _ (by decide) | exact is_lit32 _ (by decide)); (first | assumption | exact is_lit64 _ (by decide) | exact is_lit32 _ (by decide)); intro Kq hKq rq nq hq; go_simp) | (go_at_call 20; refine (TA (by assumption) _).mono ?_; rintro eq wq ⟨rT, nq, rfl, iT, rfl⟩) | (go_at_call 21; refine (l01Sqrt_any (by assumption) _).mono ?_; rintro eq wq ⟨rq, nq, rfl, hq, rfl⟩) | (go_at_call 22; refine (FN (by assumption) _).mono ?_; rintro _ W3 ⟨⟨r3, rfl, i3⟩, b3⟩; have hz3 := b3.size; (try simp at hz3)) | (go_at_call 11; (with_reducible refine (FT iT _).mono ?_); rintro eq wq ⟨nq, rfl, rfl⟩))
      go_ret2
      refine ⟨⟨_, rfl, i3⟩, ?_⟩
      repeat' (first | with_reducible exact Below.refl _ _ | with_reducible assumption | (with_reducible refine Below.setCell ?_ (by first | omega | (simp; done) | (simp; omega)) _) | (with_reducible refine Below.alloc ?_ (by first | omega | (simp; done) | (simp; omega)) _) | (with_reducible refine below_drewN ?_ _) | (with_reducible refine Below.drew ?_) | (with_reducible refine Below.trans ?_ (Below.mono (by first | (with_reducible assumption) | exact Grow.below (by assumption)) (by first | omega | (simp; done) | (simp; omega)))))
    | true =>
      rw [Bool.true_and]
      rw [hT] at FT
      generalize finS (fo .sub .f32 l x1) = fh at FH ⊢
      go_enter Try.func13, Try.ntmps13
      go_wp2_with (apply wpList_arith; rfl; simp [Arith]; rfl; rfl; (first | assumption | exact is_lit64 _ (by decide) | exact is_lit32 _ (by decide)); (first | assumption | exact is_lit64 _ (by decide) | exact is_lit32 _ (by decide)); intro Kq hKq rq nq hq; go_simp)
      have iH := hq
      go_wp2_with (first | (apply wpList_arith; rfl; simp [Arith]; rfl; rfl; (first | assumption | exact is_lit64 _ (by decide) | exact is_lit32 _ (by decide)); (first | assumption | exact is_lit64 _ (by decide) | exact is_lit32 _ (by decide)); intro Kq hKq rq nq hq; go_simp) | (go_at_call 20; refine (TA iH _).mono ?_; rintro eq wq ⟨rT, nq, rfl, iT, rfl⟩) | (go_at_call 21; refine (l01Sqrt_any (by assumption) _).mono ?_; rintro eq wq ⟨rq, nq, rfl, hq, rfl⟩) | (go_at_call 22; refine (FN (by assumption) _).mono ?_; rintro _ W3 ⟨⟨r3, rfl, i3⟩, b3⟩; have hz3 := b3.size; (try simp at hz3)) | (go_at_call 11; (with_reducible refine (FT iT _).mono ?_); rintro eq wq ⟨nq, rfl, rfl⟩) | (go_at_call 11; (with_reducible refine (FH iH _).mono ?_); rintro eq wq ⟨nq, rfl, rfl⟩))
      go_ret2
      refine ⟨⟨_, rfl, i3⟩, ?_⟩
      repeat' (first | with_reducible exact Below.refl _ _ | with_reducible assumption | (with_reducible refine Below.setCell ?_ (by first | omega | (simp; done) | (simp; omega)) _) | (with_reducible refine Below.alloc ?_ (by first | omega | (simp; done) | (simp; omega)) _) | (with_reducible refine below_drewN ?_ _) | (with_reducible refine Below.drew ?_) | (with_reducible refine Below.trans ?_ (Below.mono (by first | (with_reducible assumption) | exact Grow.below (by assumption)) (by first | omega | (simp; done) | (simp; omega)))))

end
end Go.Proofs.Ytdkjekdokajfgaa
