/-
  What becomes of the Long of a circle in air, of the model. No condition.
-/
import Derived.Test.YtohfhlbkfnndfaaSnkL
namespace Go.Proofs.Ytohfhlbkfnndfaa
open Go.RowKit

theorem sThin {sw cw g : Nat} {s c vg : Option Nat} (is : Is .f32 sw s) (ic : Is .f32 cw c) (ig : Is .f32 g vg) (hn : NpO .f32 (negO .f32 (fo .quo .f32 vg c))) (w : World) :
    Calls Try.prog 77 #[.float .f32 sw, .float .f32 cw, .float .f32 g] w (RetF .f32 (fo .mul .f32 s (expT (negO .f32 (fo .quo .f32 vg c)))) w) := by
  have EX := fun {x : Nat} (ix : Is .f32 x (negO .f32 (fo .quo .f32 vg c))) (W : World) => sExpT ix hn W
  generalize expT (negO .f32 (fo .quo .f32 vg c)) = ev at EX ⊢
  go_enter Try.func77, Try.ntmps77
  go_wp2_with (first | (apply wpList_arith; rfl; simp [Arith]; rfl; rfl; (first | assumption | exact is_lit64 _ (by decide) | exact is_lit32 _ (by decide)); (first | assumption | exact is_lit64 _ (by decide) | exact is_lit32 _ (by decide)); intro Kq hKq rq nq hq; go_simp) | (apply wpList_neg; rfl; rfl; (first | assumption | exact is_lit64 _ (by decide) | exact is_lit32 _ (by decide)); intro Kq hKq rq hq; go_simp) | (go_at_call 93; refine (EX (by assumption) _).mono ?_; rintro eq wq ⟨rq, nq, rfl, hq, rfl⟩))
  go_ret
  exact ⟨_, _, rfl, by assumption, rfl⟩

section
variable {a0 a1 a2 a3 lw dw sw cw tw : Nat} {x0 x1 x2 x3 l d s c t : Option Nat} (h0 : Is .f32 a0 x0) (h1 : Is .f32 a1 x1) (h2 : Is .f32 a2 x2) (h3 : Is .f32 a3 x3) (il : Is .f32 lw l) (id : Is .f32 dw d) (is : Is .f32 sw s) (ic : Is .f32 cw c) (it : Is .f32 tw t)

set_option maxHeartbeats 1600000 in
include h0 h1 il id is ic it in
theorem sSnkP (bb : Nat) (w : World) (hb : bb < w.heap.size) (c0 : w.cell? ⟨bb, 0, none⟩ = some (.float .f32 a0)) (c1 : w.cell? ⟨bb, 1, none⟩ = some (.float .f32 a1)) (oG : cmpB .gtr .f32 l x1 = true) (oC : posB c = true) :
    Calls Try.prog 51 #[.pointer (some ⟨bb, 0, none⟩), .float .f32 lw, .float .f32 dw, .float .f32 sw, .float .f32 cw, .float .f32 tw] w (RetNum (finN (snkX x0 x1 l d s c t)) (snkOk x0 x1 l d s c t) w) := by
  have TA := fun {g : Nat} (ig : Is .f32 g (snkH x1 l)) (W : World) => sThin is ic ig (snk_np oG oC) W
  have eT : fo .mul .f32 s (expT (negO .f32 (fo .quo .f32 (snkH x1 l) c))) = snkT x1 l s c := rfl
  simp only [eT] at TA
  have hX : fo .sub .f32 l (fo .mul .f32 (fo .mul .f32 (fo .mul .f32 t d) (snkT x1 l s c)) (rootO (fo .mul .f32 x0 l))) = snkX x0 x1 l d s c t := rfl
  have hH : fo .sub .f32 l x1 = snkH x1 l := rfl
  unfold snkOk
  rw [← hX]
  clear hX eT oG oC
  generalize snkT x1 l s c = tv at TA ⊢
  rw [← hH] at TA ⊢
  clear hH
  have FN := fun {x : Nat} (ix : Is .f32 x (fo .sub .f32 l (fo .mul .f32 (fo .mul .f32 (fo .mul .f32 t d) tv) (rootO (fo .mul .f32 x0 l))))) (W : World) => sFinN ix W
  generalize finN (fo .sub .f32 l (fo .mul .f32 (fo .mul .f32 (fo .mul .f32 t d) tv) (rootO (fo .mul .f32 x0 l)))) = vv at FN ⊢
  generalize finS (fo .sub .f32 l (fo .mul .f32 (fo .mul .f32 (fo .mul .f32 t d) tv) (rootO (fo .mul .f32 x0 l)))) = ff at FN ⊢
  have FT := fun {x : Nat} (ix : Is .f32 x tv) (W : World) => finite_any ix W
  have FH := fun {x : Nat} (ix : Is .f32 x (fo .sub .f32 l x1)) (W : World) => finite_any ix W
  cases ff with
  | false =>
    simp only [Bool.false_and]
    go_enter Try.func51, Try.ntmps51
    go_wp2_with (first | (apply wpList_arith; rfl; simp [Arith]; rfl; rfl; (first | assumption | exact is_lit64 _ (by decide) | exact is_lit32 _ (by decide)); (first | assumption | exact is_lit64 _ (by decide) | exact is_lit32 _ (by decide)); intro Kq hKq rq nq hq; go_simp) | (go_at_call 77; refine (TA (by assumption) _).mono ?_; rintro eq wq ⟨rq, nq, rfl, hq, rfl⟩) | (go_at_call 56; refine (l01Sqrt_any (by assumption) _).mono ?_; rintro eq wq ⟨rq, nq, rfl, hq, rfl⟩) | (go_at_call 47; refine (FN (by assumption) _).mono ?_; rintro _ W3 ⟨⟨r3, rfl, i3⟩, b3⟩; have hz3 := b3.size; (try simp at hz3)))
    go_ret2
    refine ⟨⟨_, rfl, i3⟩, ?_⟩
    repeat' (first | with_reducible exact Below.refl _ _ | with_reducible assumption | (with_reducible refine Below.setCell ?_ (by first | omega | (simp; done) | (simp; omega)) _) | (with_reducible refine Below.alloc ?_ (by first | omega | (simp; done) | (simp; omega)) _) | (with_reducible refine below_drewN ?_ _) | (with_reducible refine Below.drew ?_) | (with_reducible refine Below.trans ?_ (Below.mono (by first | (with_reducible assumption) | exact Grow.below (by assumption)) (by first | omega | (simp; done) | (simp; omega)))))
  | true =>
    rw [Bool.true_and]
    cases hT : finS tv with
    | false =>
      rw [Bool.false_and]
      rw [hT] at FT
      go_enter Try.func51, Try.ntmps51
      go_wp2_with (first | (apply wpList_arith; rfl; simp [Arith]; rfl; rfl; (first | assumption | exact is_lit64 _ (by decide) | exact is_lit32 _ (by decide)); (first | assumption | exact is_lit64 _ (by decide) | exact is_lit32 _ (by decide)); intro Kq hKq rq nq hq; go_simp) | (go_at_call 77; refine (TA (by assumption) _).mono ?_; rintro eq wq ⟨rT, nq, rfl, iT, rfl⟩) | (go_at_call 56; refine (l01Sqrt_any (by assumption) _).mono ?_; rintro eq wq ⟨rq, nq, rfl, hq, rfl⟩) | (go_at_call 47; refine (FN (by assumption) _).mono ?_; rintro _ W3 ⟨⟨r3, rfl, i3⟩, b3⟩; have hz3 := b3.size; (try simp at hz3)) | (go_at_call 37; (with_reducible refine (FT iT _).mono ?_); rintro eq wq ⟨nq, rfl, rfl⟩))
      go_ret2
      refine ⟨⟨_, rfl, i3⟩, ?_⟩
      repeat' (first | with_reducible exact Below.refl _ _ | with_reducible assumption | (with_reducible refine Below.setCell ?_ (by first | omega | (simp; done) | (simp; omega)) _) | (with_reducible refine Below.alloc ?_ (by first | omega | (simp; done) | (simp; omega)) _) | (with_reducible refine below_drewN ?_ _) | (with_reducible refine Below.drew ?_) | (with_reducible refine Below.trans ?_ (Below.mono (by first | (with_reducible assumption) | exact Grow.below (by assumption)) (by first | omega | (simp; done) | (simp; omega)))))
    | true =>
      rw [Bool.true_and]
      rw [hT] at FT
      generalize finS (fo .sub .f32 l x1) = fh at FH ⊢
      go_enter Try.func51, Try.ntmps51
      go_wp2_with (apply wpList_arith; rfl; simp [Arith]; rfl; rfl; (first | assumption | exact is_lit64 _ (by decide) | exact is_lit32 _ (by decide)); (first | assumption | exact is_lit64 _ (by decide) | exact is_lit32 _ (by decide)); intro Kq hKq rq nq hq; go_simp)
      have iH := hq
      go_wp2_with (first | (apply wpList_arith; rfl; simp [Arith]; rfl; rfl; (first | assumption | exact is_lit64 _ (by decide) | exact is_lit32 _ (by decide)); (first | assumption | exact is_lit64 _ (by decide) | exact is_lit32 _ (by decide)); intro Kq hKq rq nq hq; go_simp) | (go_at_call 77; refine (TA iH _).mono ?_; rintro eq wq ⟨rT, nq, rfl, iT, rfl⟩) | (go_at_call 56; refine (l01Sqrt_any (by assumption) _).mono ?_; rintro eq wq ⟨rq, nq, rfl, hq, rfl⟩) | (go_at_call 47; refine (FN (by assumption) _).mono ?_; rintro _ W3 ⟨⟨r3, rfl, i3⟩, b3⟩; have hz3 := b3.size; (try simp at hz3)) | (go_at_call 37; (with_reducible refine (FT iT _).mono ?_); rintro eq wq ⟨nq, rfl, rfl⟩) | (go_at_call 37; (with_reducible refine (FH iH _).mono ?_); rintro eq wq ⟨nq, rfl, rfl⟩))
      go_ret2
      refine ⟨⟨_, rfl, i3⟩, ?_⟩
      repeat' (first | with_reducible exact Below.refl _ _ | with_reducible assumption | (with_reducible refine Below.setCell ?_ (by first | omega | (simp; done) | (simp; omega)) _) | (with_reducible refine Below.alloc ?_ (by first | omega | (simp; done) | (simp; omega)) _) | (with_reducible refine below_drewN ?_ _) | (with_reducible refine Below.drew ?_) | (with_reducible refine Below.trans ?_ (Below.mono (by first | (with_reducible assumption) | exact Grow.below (by assumption)) (by first | omega | (simp; done) | (simp; omega)))))

include h0 h1 h2 h3 il id is ic it
set_option maxHeartbeats 1600000 in
theorem sSnk (w : World) : Calls Try.prog 22 #[balV a0 a1 a2 a3, .float .f32 lw, .float .f32 dw, .float .f32 sw, .float .f32 cw, .float .f32 tw] w
    (RetNum (snkV x0 x1 x2 x3 l d s c t) (snkB x0 x1 x2 x3 l d s c t) w) := by
  have HA := sAirP h0 h1 h2 h3 id is ic it w.heap.size (w.alloc (.cells #[.float .f32 a0, .float .f32 a1, .float .f32 a2, .float .f32 a3] 29)) (by simp) (by simp) (by simp) (by simp) (by simp)
  unfold snkV snkB canB
  cases oA : airB x0 x1 x2 x3 d s c t <;> rw [oA] at HA
  case false =>
    go_enter Try.func22, Try.ntmps22
    go_wp2_with fail
    (go_at_call 50; refine HA.mono ?_; rintro _ W1 ⟨rfl, b1⟩)
    clear HA
    have bw : Below w.heap.size w W1 := ((Below.refl w.heap.size w).alloc (Nat.le_refl _) _).trans (b1.mono (by simp))
    go_wp2_with fail
    go_ret2
    exact ⟨⟨_, rfl, zero32⟩, bw⟩
  have oC : posB c = true := by
    unfold airB at oA
    simp only [Bool.and_eq_true] at oA
    exact oA.2.2.2.1
  cases oL : finS l
  case false =>
    go_enter Try.func22, Try.ntmps22
    go_wp2_with fail
    (go_at_call 50; refine HA.mono ?_; rintro _ W1 ⟨rfl, b1⟩)
    clear HA
    have bw : Below w.heap.size w W1 := ((Below.refl w.heap.size w).alloc (Nat.le_refl _) _).trans (b1.mono (by simp))
    go_wp2_with (go_at_call 37; refine (finite_any il _).mono ?_; rintro eq wq ⟨nq, rfl, rfl⟩)
    go_ret2
    exact ⟨⟨_, rfl, zero32⟩, below_drewN bw _⟩
  have k : ∀ W1, Below (w.alloc (.cells #[.float .f32 a0, .float .f32 a1, .float .f32 a2, .float .f32 a3] 29)).heap.size (w.alloc (.cells #[.float .f32 a0, .float .f32 a1, .float .f32 a2, .float .f32 a3] 29)) W1 → W1.cell? ⟨w.heap.size, 0, none⟩ = some (.float .f32 a0) ∧ W1.cell? ⟨w.heap.size, 1, none⟩ = some (.float .f32 a1) := fun W1 b1 =>
    ⟨by rw [b1.cell (p := ⟨w.heap.size, 0, none⟩) (by simp)]; simp, by rw [b1.cell (p := ⟨w.heap.size, 1, none⟩) (by simp)]; simp⟩
  cases oG : cmpB .gtr .f32 l x1
  case false =>
    go_enter Try.func22, Try.ntmps22
    go_wp2_with fail
    (go_at_call 50; refine HA.mono ?_; rintro _ W1 ⟨rfl, b1⟩)
    clear HA
    have bw : Below w.heap.size w W1 := ((Below.refl w.heap.size w).alloc (Nat.le_refl _) _).trans (b1.mono (by simp))
    have k1 := (k W1 b1).2
    clear k
    go_wp2_with (first | (apply wpList_cmp; rfl; simp [Cmp]; rfl; rfl; (first | assumption | exact is_lit64 _ (by decide) | exact is_lit32 _ (by decide)); (first | assumption | exact is_lit64 _ (by decide) | exact is_lit32 _ (by decide)); intro Kq hKq; go_simp) | (go_at_call 37; refine (finite_any il _).mono ?_; rintro eq wq ⟨nq, rfl, rfl⟩))
    go_ret2
    exact ⟨⟨_, rfl, zero32⟩, below_drewN bw _⟩
  simp only [Bool.and_true, Bool.true_and]
  have SP := fun (W : World) hb c0 c1 => sSnkP h0 h1 il id is ic it w.heap.size W hb c0 c1 oG oC
  have eN : finN (snkX x0 x1 l d s c t) = if finS (snkX x0 x1 l d s c t) then snkX x0 x1 l d s c t else some 0 := rfl
  have hok : snkOk x0 x1 l d s c t = true → finN (snkX x0 x1 l d s c t) = snkX x0 x1 l d s c t := fun h => by
    unfold snkOk at h
    simp only [Bool.and_eq_true] at h
    rw [eN, h.1, if_pos rfl]
  generalize finN (snkX x0 x1 l d s c t) = vv at SP hok
  clear eN
  cases hO : snkOk x0 x1 l d s c t <;> rw [hO] at SP hok
  case false =>
    simp only [Bool.false_eq_true, if_false]
    go_enter Try.func22, Try.ntmps22
    go_wp2_with fail
    (go_at_call 50; refine HA.mono ?_; rintro _ W1 ⟨rfl, b1⟩)
    clear HA hok
    have bw : Below w.heap.size w W1 := ((Below.refl w.heap.size w).alloc (Nat.le_refl _) _).trans (b1.mono (by simp))
    have hz1 := b1.size
    simp at hz1
    obtain ⟨k0, k1⟩ := k W1 b1
    clear k b1
    go_wp2_with (first | (apply wpList_cmp; rfl; simp [Cmp]; rfl; rfl; (first | assumption | exact is_lit64 _ (by decide) | exact is_lit32 _ (by decide)); (first | assumption | exact is_lit64 _ (by decide) | exact is_lit32 _ (by decide)); intro Kq hKq; go_simp) | (go_at_call 37; refine (finite_any il _).mono ?_; rintro eq wq ⟨nq, rfl, rfl⟩) | (go_at_call 51; refine (SP _ (by simp; omega) (by simpa using k0) (by simpa using k1)).mono ?_; rintro _ W2 ⟨⟨r2, rfl, i2⟩, b2⟩))
    go_ret2
    exact ⟨⟨_, rfl, zero32⟩, (below_drewN bw _).trans (b2.mono (below_drewN bw _).size)⟩
  simp only [if_true]
  obtain rfl := hok rfl
  go_enter Try.func22, Try.ntmps22
  go_wp2_with fail
  (go_at_call 50; refine HA.mono ?_; rintro _ W1 ⟨rfl, b1⟩)
  clear HA hok
  have bw : Below w.heap.size w W1 := ((Below.refl w.heap.size w).alloc (Nat.le_refl _) _).trans (b1.mono (by simp))
  have hz1 := b1.size
  simp at hz1
  obtain ⟨k0, k1⟩ := k W1 b1
  clear k b1
  go_wp2_with (first | (apply wpList_cmp; rfl; simp [Cmp]; rfl; rfl; (first | assumption | exact is_lit64 _ (by decide) | exact is_lit32 _ (by decide)); (first | assumption | exact is_lit64 _ (by decide) | exact is_lit32 _ (by decide)); intro Kq hKq; go_simp) | (go_at_call 37; refine (finite_any il _).mono ?_; rintro eq wq ⟨nq, rfl, rfl⟩) | (go_at_call 51; refine (SP _ (by simp; omega) (by simpa using k0) (by simpa using k1)).mono ?_; rintro _ W2 ⟨⟨r2, rfl, i2⟩, b2⟩))
  go_ret2
  exact ⟨⟨_, rfl, i2⟩, (below_drewN bw _).trans (b2.mono (below_drewN bw _).size)⟩
end

theorem walk_FnExactSinkLong (a0 a1 a2 a3 lw dw sw cw tw : Nat) (w : World) (k0 : a0 < 2 ^ 32) (k1 : a1 < 2 ^ 32) (k2 : a2 < 2 ^ 32) (k3 : a3 < 2 ^ 32) (kl : lw < 2 ^ 32) (kd : dw < 2 ^ 32) (ks : sw < 2 ^ 32) (kc : cw < 2 ^ 32) (kt : tw < 2 ^ 32) :
    Calls Try.prog 7 #[balV a0 a1 a2 a3, .float .f32 lw, .float .f32 dw, .float .f32 sw, .float .f32 cw, .float .f32 tw] w fun e w' => e = .returned (.bool true) ∧ Below w.heap.size w w' := by
  have h0 := Is.self (k := .f32) k0
  have h1 := Is.self (k := .f32) k1
  have h2 := Is.self (k := .f32) k2
  have h3 := Is.self (k := .f32) k3
  have il := Is.self (k := .f32) kl
  have id := Is.self (k := .f32) kd
  have is := Is.self (k := .f32) ks
  have ic := Is.self (k := .f32) kc
  have it := Is.self (k := .f32) kt
  go_enter Try.func7, Try.ntmps7
  go_wp2_with (first | (apply wpList_wide und32 Try.underlying41; rfl; rfl; (first | assumption | exact is_lit64 _ (by decide) | exact is_lit32 _ (by decide)); intro Kq hKq rq nq hq; go_simp) | (go_at_call 10; refine (toBal _).mono ?_; rintro eq wq ⟨rfl, hb⟩; obtain ⟨hc, hf⟩ := bcell hb; have hz := hb.size; (try simp at hz); (try have hl : w.heap.size < wq.heap.size := (by omega))) | (go_at_call 22; refine (sSnk h0 h1 h2 h3 il id is ic it _).mono ?_; rintro eq wq ⟨⟨r1, rfl, i1⟩, hb⟩; obtain ⟨hc, hf⟩ := bcell hb; have hz := hb.size; (try simp at hz); (try have hl : w.heap.size < wq.heap.size := (by omega))) | (go_at_call 23; refine (iSnk h0 h1 h2 h3 il id is ic it _).mono ?_; rintro eq wq ⟨⟨r2, rfl, i2⟩, hb⟩; obtain ⟨hc, hf⟩ := bcell hb; have hz := hb.size; (try simp at hz); (try have hl : w.heap.size < wq.heap.size := (by omega))) | (go_at_call 16; refine (sameFloat_any (by assumption) (by assumption) _).mono ?_; rintro eq wq ⟨nq, rfl, rfl⟩))
  go_ret
  refine ⟨rfl, ?_⟩
  repeat' (first | with_reducible exact Below.refl _ _ | with_reducible assumption | (with_reducible refine Below.setCell ?_ (by first | omega | (simp; done) | (simp; omega)) _) | (with_reducible refine Below.alloc ?_ (by first | omega | (simp; done) | (simp; omega)) _) | (with_reducible refine below_drewN ?_ _) | (with_reducible refine Below.drew ?_) | (with_reducible refine Below.trans ?_ (Below.mono (by first | (with_reducible assumption) | exact Grow.below (by assumption)) (by first | omega | (simp; done) | (simp; omega)))))
end Go.Proofs.Ytohfhlbkfnndfaa
