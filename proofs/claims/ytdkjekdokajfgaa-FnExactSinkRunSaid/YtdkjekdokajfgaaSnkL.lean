/-
  What becomes of the Long of a circle in air: for every input the law's text returns true, and writes nothing that was there. No condition.
-/
import Derived.Test.YtdkjekdokajfgaaSnk
namespace Go.Proofs.Ytdkjekdokajfgaa
open Go.RowKit

theorem snk_np {l x1 c : Option Nat} (hg : cmpB .gtr .f32 l x1 = true) (hc : posB c = true) : NpO .f32 (negO .f32 (fo .quo .f32 (snkH x1 l) c)) := by
  refine np_neg (fun b hb => fo_lt hb) (nn_div (nn_subgt hg) ?_)
  unfold posB at hc
  rw [Bool.and_eq_true] at hc
  exact hc.2

section
variable {a0 a1 a2 a3 lw dw sw cw tw : Nat} {x0 x1 x2 x3 l d s c t : Option Nat} (h0 : Is .f32 a0 x0) (h1 : Is .f32 a1 x1) (h2 : Is .f32 a2 x2) (h3 : Is .f32 a3 x3) (il : Is .f32 lw l) (id : Is .f32 dw d) (is : Is .f32 sw s) (ic : Is .f32 cw c) (it : Is .f32 tw t)
include h0 h1 h2 h3 il id is ic it

set_option maxHeartbeats 1600000 in
theorem iSnkF (w : World) (hC : canB x0 x1 x2 x3 l d s c t = false) : Calls Try.prog 15 #[balV a0 a1 a2 a3, .float .f32 lw, .float .f32 dw, .float .f32 sw, .float .f32 cw, .float .f32 tw] w (RetNum (some 0) false w) := by
  have TA := fun {g : Nat} {vg : Option Nat} (ig : Is .f32 g vg) (W : World) => iThinAny h0 h1 h2 h3 is ic ig W
  have CA := fun (W : World) => iCan h0 h1 h2 h3 il id is ic it W
  rw [hC] at CA
  clear hC
  go_enter Try.func15, Try.ntmps15
  go_wp2_with (apply wpList_arith; rfl; simp [Arith]; rfl; rfl; (first | assumption | exact is_lit64 _ (by decide) | exact is_lit32 _ (by decide)); (first | assumption | exact is_lit64 _ (by decide) | exact is_lit32 _ (by decide)); intro Kq hKq rq nq hq; go_simp)
  (go_at_call 27; refine (TA hq _).mono ?_; rintro _ W1 ⟨⟨r1, ok, rfl⟩, b1⟩)
  have hz1 := b1.size
  simp at hz1
  have bw : Below w.heap.size w W1 := (below_drewN ((Below.refl w.heap.size w).alloc (Nat.le_refl _) _) _).trans (b1.mono (by simp))
  have k : ∀ o v, o < 4 → #[Value.float .f32 a0, .float .f32 a1, .float .f32 a2, .float .f32 a3][o]? = some v → W1.cell? ⟨w.heap.size, o, none⟩ = some v := fun o v ho hv => by
    rw [b1.cell (p := ⟨w.heap.size, o, none⟩) (by simp)]
    match o, ho with
    | 0, _ => simpa using hv
    | 1, _ => simpa using hv
    | 2, _ => simpa using hv
    | 3, _ => simpa using hv
  have k0 := k 0 (.float .f32 a0) (by decide) rfl
  have k1 := k 1 (.float .f32 a1) (by decide) rfl
  have k2 := k 2 (.float .f32 a2) (by decide) rfl
  have k3 := k 3 (.float .f32 a3) (by decide) rfl
  clear k b1
  cases ok with
  | false =>
    go_wp2_with fail
    go_ret2
    exact ⟨⟨_, rfl, zero32⟩, bw⟩
  | true =>
    go_wp2_with (go_at_call 14; refine (CA _).mono ?_; rintro _ W2 ⟨rfl, b2⟩)
    go_ret2
    exact ⟨⟨_, rfl, zero32⟩, bw.trans (b2.mono bw.size)⟩

set_option maxHeartbeats 3200000 in
theorem iSnkT (w : World) (hC : canB x0 x1 x2 x3 l d s c t = true) : Calls Try.prog 15 #[balV a0 a1 a2 a3, .float .f32 lw, .float .f32 dw, .float .f32 sw, .float .f32 cw, .float .f32 tw] w
    (RetNum (if snkOk x0 x1 l d s c t then snkX x0 x1 l d s c t else some 0) (snkOk x0 x1 l d s c t) w) := by
  have CA := fun (W : World) => iCan h0 h1 h2 h3 il id is ic it W
  rw [hC] at CA
  have hC' := hC
  unfold canB airB at hC'
  simp only [Bool.and_eq_true] at hC'
  obtain ⟨⟨oB, oD, oS, oC, oT⟩, oL, oG⟩ := hC'
  have TA := fun {g : Nat} (ig : Is .f32 g (snkH x1 l)) (W : World) => iThinT h0 h1 h2 h3 is ic ig oB oS oC (snk_np oG oC) W
  have eT : fo .mul .f32 s (expT (negO .f32 (fo .quo .f32 (snkH x1 l) c))) = snkT x1 l s c := rfl
  simp only [eT] at TA
  have hX : fo .sub .f32 l (fo .mul .f32 (fo .mul .f32 (fo .mul .f32 t d) (snkT x1 l s c)) (rootO (fo .mul .f32 x0 l))) = snkX x0 x1 l d s c t := rfl
  have HX := Lib.hid hX
  clear hX eT oB oD oS oC oT oL oG hC
  unfold snkOk
  have fN : finN (snkT x1 l s c) = if finS (snkT x1 l s c) then snkT x1 l s c else some 0 := rfl
  rw [fN] at TA
  clear fN
  generalize snkT x1 l s c = tv at TA HX ⊢
  cases hH : finS (snkH x1 l) <;> rw [hH] at TA
  case false =>
    simp only [Bool.false_eq_true, if_false, Bool.false_and, Bool.and_false] at TA ⊢
    go_enter Try.func15, Try.ntmps15
    go_wp2_with (apply wpList_arith; rfl; simp [Arith]; rfl; rfl; (first | assumption | exact is_lit64 _ (by decide) | exact is_lit32 _ (by decide)); (first | assumption | exact is_lit64 _ (by decide) | exact is_lit32 _ (by decide)); intro Kq hKq rq nq hq; go_simp)
    (go_at_call 27; refine (TA hq _).mono ?_; rintro _ W1 ⟨⟨r1, rfl, -⟩, b1⟩)
    have bw : Below w.heap.size w W1 := (below_drewN ((Below.refl w.heap.size w).alloc (Nat.le_refl _) _) _).trans (b1.mono (by simp))
    go_wp2_with fail
    go_ret2
    exact ⟨⟨_, rfl, zero32⟩, bw⟩
  cases hT : finS tv <;> rw [hT] at TA
  case false =>
    simp only [Bool.false_eq_true, if_false, Bool.false_and, Bool.and_false] at TA ⊢
    go_enter Try.func15, Try.ntmps15
    go_wp2_with (apply wpList_arith; rfl; simp [Arith]; rfl; rfl; (first | assumption | exact is_lit64 _ (by decide) | exact is_lit32 _ (by decide)); (first | assumption | exact is_lit64 _ (by decide) | exact is_lit32 _ (by decide)); intro Kq hKq rq nq hq; go_simp)
    (go_at_call 27; refine (TA hq _).mono ?_; rintro _ W1 ⟨⟨r1, rfl, -⟩, b1⟩)
    have bw : Below w.heap.size w W1 := (below_drewN ((Below.refl w.heap.size w).alloc (Nat.le_refl _) _) _).trans (b1.mono (by simp))
    go_wp2_with fail
    go_ret2
    exact ⟨⟨_, rfl, zero32⟩, bw⟩
  simp only [if_true, Bool.and_true] at TA ⊢
  have FN := fun {x : Nat} (ix : Is .f32 x (snkX x0 x1 l d s c t)) (W : World) => iFinN ix W
  unfold finN at FN
  rw [← HX.out] at FN ⊢
  clear HX
  generalize (if finS (fo .sub .f32 l (fo .mul .f32 (fo .mul .f32 (fo .mul .f32 t d) tv) (rootO (fo .mul .f32 x0 l)))) = true then fo .sub .f32 l (fo .mul .f32 (fo .mul .f32 (fo .mul .f32 t d) tv) (rootO (fo .mul .f32 x0 l))) else some 0) = vv at FN ⊢
  generalize finS (fo .sub .f32 l (fo .mul .f32 (fo .mul .f32 (fo .mul .f32 t d) tv) (rootO (fo .mul .f32 x0 l)))) = ff at FN ⊢
  go_enter Try.func15, Try.ntmps15
  go_wp2_with (apply wpList_arith; rfl; simp [Arith]; rfl; rfl; (first | assumption | exact is_lit64 _ (by decide) | exact is_lit32 _ (by decide)); (first | assumption | exact is_lit64 _ (by decide) | exact is_lit32 _ (by decide)); intro Kq hKq rq nq hq; go_simp)
  (go_at_call 27; refine (TA hq _).mono ?_; rintro _ W1 ⟨⟨r1, rfl, iT⟩, b1⟩)
  have hz1 := b1.size
  simp at hz1
  have bw : Below w.heap.size w W1 := (below_drewN ((Below.refl w.heap.size w).alloc (Nat.le_refl _) _) _).trans (b1.mono (by simp))
  have k : ∀ o v, o < 4 → #[Value.float .f32 a0, .float .f32 a1, .float .f32 a2, .float .f32 a3][o]? = some v → W1.cell? ⟨w.heap.size, o, none⟩ = some v := fun o v ho hv => by
    rw [b1.cell (p := ⟨w.heap.size, o, none⟩) (by simp)]
    match o, ho with
    | 0, _ => simpa using hv
    | 1, _ => simpa using hv
    | 2, _ => simpa using hv
    | 3, _ => simpa using hv
  have k0 := k 0 (.float .f32 a0) (by decide) rfl
  have k1 := k 1 (.float .f32 a1) (by decide) rfl
  have k2 := k 2 (.float .f32 a2) (by decide) rfl
  have k3 := k 3 (.float .f32 a3) (by decide) rfl
  clear k b1 hq
  go_wp2_with fail
  (go_at_call 14; refine (CA _).mono ?_; rintro _ W2 ⟨rfl, b2⟩)
  replace bw := bw.trans (b2.mono bw.size)
  replace k0 := (b2.cell (p := ⟨w.heap.size, 0, none⟩) (by dsimp only; omega)).trans k0
  have hz2 := b2.size
  clear b2 k1 k2 k3
  go_wp2_with (first | (apply wpList_arith; rfl; simp [Arith]; rfl; rfl; (first | assumption | exact is_lit64 _ (by decide) | exact is_lit32 _ (by decide)); (first | assumption | exact is_lit64 _ (by decide) | exact is_lit32 _ (by decide)); intro Kq hKq rq nq hq; go_simp) | (go_at_call 30; refine (root_any (by assumption) _).mono ?_; rintro eq wq ⟨rq, nq, rfl, hq, rfl⟩) | (go_at_call 29; refine (iPrd4 _ it id iT hq (by first | (simp; done) | (rw [alloc_drewN]; simp; done) | (simp [alloc_drewN]; done) | (simp [alloc_drewN, World.cell?_alloc_at]; done)) (by first | (simp; done) | (rw [alloc_drewN]; simp; done) | (simp [alloc_drewN]; done) | (simp [alloc_drewN, World.cell?_alloc_at]; done)) (by first | (simp; done) | (rw [alloc_drewN]; simp; done) | (simp [alloc_drewN]; done) | (simp [alloc_drewN, World.cell?_alloc_at]; done)) (by first | (simp; done) | (rw [alloc_drewN]; simp; done) | (simp [alloc_drewN]; done) | (simp [alloc_drewN, World.cell?_alloc_at]; done))).mono ?_; rintro eq wq ⟨rq, nq, rfl, hq, rfl⟩) | (go_at_call 28; refine (FN (by assumption) _).mono ?_; rintro _ W3 ⟨⟨r3, rfl, i3⟩, b3⟩))
  go_ret2
  refine ⟨⟨_, rfl, i3⟩, ?_⟩
  have hz3 := b3.size
  simp at hz3
  repeat' (first | with_reducible exact Below.refl _ _ | with_reducible assumption | (with_reducible refine Below.setCell ?_ (by first | omega | (simp; done) | (simp; omega)) _) | (with_reducible refine Below.alloc ?_ (by first | omega | (simp; done) | (simp; omega)) _) | (with_reducible refine below_drewN ?_ _) | (with_reducible refine Below.drew ?_) | (with_reducible refine Below.trans ?_ (Below.mono (by first | (with_reducible assumption) | exact Grow.below (by assumption)) (by first | omega | (simp; done) | (simp; omega)))))

theorem iSnk (w : World) : Calls Try.prog 15 #[balV a0 a1 a2 a3, .float .f32 lw, .float .f32 dw, .float .f32 sw, .float .f32 cw, .float .f32 tw] w
    (RetNum (snkV x0 x1 x2 x3 l d s c t) (snkB x0 x1 x2 x3 l d s c t) w) := by
  unfold snkV snkB
  cases hC : canB x0 x1 x2 x3 l d s c t with
  | false => exact iSnkF h0 h1 h2 h3 il id is ic it w hC
  | true => exact iSnkT h0 h1 h2 h3 il id is ic it w hC
end
end Go.Proofs.Ytdkjekdokajfgaa
