/-
  For every list the law's text on moved bodies returns true, and writes nothing that was there. No condition.
-/
import Derived.Test.YtkhinppmldodiaaMov3
import Derived.Test.YtkhinppmldodiaaMov2
import Derived.Test.YtkhinppmldodiaaHas
import Derived.Test.YtkhinppmldodiaaGood
namespace Go.Proofs.Ytkhinppmldodiaa
open Go.RowKit

theorem RowOk.stepD {lo hi m : Nat} {w X W : World} {v : Value} {u : Nat → Option Nat} (h : RowOk lo hi w v m u) (hb : Below X.heap.size X W) (e : X.heap = w.heap) : RowOk lo hi W v m u := (h.heap e).step hb
theorem Marked.stepD {lo hi m : Nat} {w X W : World} {v : Value} (h : Marked lo hi w v m) (hb : Below X.heap.size X W) (e : X.heap = w.heap) : Marked lo hi W v m := (h.heap e).step hb

set_option maxHeartbeats 6400000 in
theorem walk_FnExactMoveBodies (a : Option Addr) (n cap : Nat) (f : Nat → Nat) (p0 p1 p2 q0 q1 q2 : Nat) (w : World) (hg : GoodBd w a n f) (lp0 : p0 < 2 ^ 32) (lp1 : p1 < 2 ^ 32) (lp2 : p2 < 2 ^ 32) (lq0 : q0 < 2 ^ 32) (lq1 : q1 < 2 ^ 32) (lq2 : q2 < 2 ^ 32) :
    Calls Try.prog 4 #[.slice a n cap, vecV p0 p1 p2, vecV q0 q1 q2] w fun e w' => e = .returned (.bool true) ∧ Below w.heap.size w w' := by
  obtain ⟨hw, hm, h⟩ := hg
  by_cases hn : n ≤ 1048576
  · have hl : decide (1048576 - (n : Int) < 0) = false := by simp; omega
    have hl1 : decide (1 + 7 * (n : Int) < 0) = false := by simp; omega
    have hi : ∀ i, i < 7 * n → Is .f32 (f i) (nrm .f32 (f i)) := fun i h => Is.self (hw i h)
    have H := Lib.hid h
    have HI := Lib.hid hi
    clear h hi hw
    go_enter Try.func4, Try.ntmps4
    go_wp2_with fail
    have HS0 : RowBd ((w.alloc (.cells #[.float .f32 p0, .float .f32 p1, .float .f32 p2] 30)).alloc (.cells #[.float .f32 q0, .float .f32 q1, .float .f32 q2] 30)) a n f := H.out.below (((Below.refl _ _).alloc (Nat.le_refl _) _).alloc (by simp) _)
    have BW : Below w.heap.size w ((w.alloc (.cells #[.float .f32 p0, .float .f32 p1, .float .f32 p2] 30)).alloc (.cells #[.float .f32 q0, .float .f32 q1, .float .f32 q2] 30)) := ((Below.refl _ _).alloc (Nat.le_refl _) _).alloc (by simp) _
    have SW : ((w.alloc (.cells #[.float .f32 p0, .float .f32 p1, .float .f32 p2] 30)).alloc (.cells #[.float .f32 q0, .float .f32 q1, .float .f32 q2] 30)).heap.size = w.heap.size + 2 := by simp
    have cp0 : ((w.alloc (.cells #[.float .f32 p0, .float .f32 p1, .float .f32 p2] 30)).alloc (.cells #[.float .f32 q0, .float .f32 q1, .float .f32 q2] 30)).cell? ⟨w.heap.size, 0, none⟩ = some (.float .f32 p0) := by simp
    have cp1 : ((w.alloc (.cells #[.float .f32 p0, .float .f32 p1, .float .f32 p2] 30)).alloc (.cells #[.float .f32 q0, .float .f32 q1, .float .f32 q2] 30)).cell? ⟨w.heap.size, 1, none⟩ = some (.float .f32 p1) := by simp
    have cp2 : ((w.alloc (.cells #[.float .f32 p0, .float .f32 p1, .float .f32 p2] 30)).alloc (.cells #[.float .f32 q0, .float .f32 q1, .float .f32 q2] 30)).cell? ⟨w.heap.size, 2, none⟩ = some (.float .f32 p2) := by simp
    have cq0 : ((w.alloc (.cells #[.float .f32 p0, .float .f32 p1, .float .f32 p2] 30)).alloc (.cells #[.float .f32 q0, .float .f32 q1, .float .f32 q2] 30)).cell? ⟨w.heap.size + 1, 0, none⟩ = some (.float .f32 q0) := by simp
    have cq1 : ((w.alloc (.cells #[.float .f32 p0, .float .f32 p1, .float .f32 p2] 30)).alloc (.cells #[.float .f32 q0, .float .f32 q1, .float .f32 q2] 30)).cell? ⟨w.heap.size + 1, 1, none⟩ = some (.float .f32 q1) := by simp
    have cq2 : ((w.alloc (.cells #[.float .f32 p0, .float .f32 p1, .float .f32 p2] 30)).alloc (.cells #[.float .f32 q0, .float .f32 q1, .float .f32 q2] 30)).cell? ⟨w.heap.size + 1, 2, none⟩ = some (.float .f32 q2) := by simp
    generalize ((w.alloc (.cells #[.float .f32 p0, .float .f32 p1, .float .f32 p2] 30)).alloc (.cells #[.float .f32 q0, .float .f32 q1, .float .f32 q2] 30)) = wz at HS0 BW SW cp0 cp1 cp2 cq0 cq1 cq2 ⊢
    clear H
    have H := Lib.hid HS0
    clear HS0
    have kp0 : ∀ w', Below wz.heap.size wz w' → w'.cell? ⟨w.heap.size, 0, none⟩ = some (.float .f32 p0) := fun w' h => by rw [h.cell (by simp; omega), cp0]
    have kp1 : ∀ w', Below wz.heap.size wz w' → w'.cell? ⟨w.heap.size, 1, none⟩ = some (.float .f32 p1) := fun w' h => by rw [h.cell (by simp; omega), cp1]
    have kp2 : ∀ w', Below wz.heap.size wz w' → w'.cell? ⟨w.heap.size, 2, none⟩ = some (.float .f32 p2) := fun w' h => by rw [h.cell (by simp; omega), cp2]
    have kq0 : ∀ w', Below wz.heap.size wz w' → w'.cell? ⟨w.heap.size + 1, 0, none⟩ = some (.float .f32 q0) := fun w' h => by rw [h.cell (by simp; omega), cq0]
    have kq1 : ∀ w', Below wz.heap.size wz w' → w'.cell? ⟨w.heap.size + 1, 1, none⟩ = some (.float .f32 q1) := fun w' h => by rw [h.cell (by simp; omega), cq1]
    have kq2 : ∀ w', Below wz.heap.size wz w' → w'.cell? ⟨w.heap.size + 1, 2, none⟩ = some (.float .f32 q2) := fun w' h => by rw [h.cell (by simp; omega), cq2]
    clear cp0 cp1 cp2 cq0 cq1 cq2 SW
    have TP := fun w => toVec_any (a0 := p0) (a1 := p1) (a2 := p2) w
    have TQ := fun w => toVec_any (a0 := q0) (a1 := q1) (a2 := q2) w
    have hY : ∃ Y : Nat → Option Nat, Is .f32 p0 (Y 0) ∧ Is .f32 p1 (Y 1) ∧ Is .f32 p2 (Y 2) := ⟨fun i => nrm .f32 (if i = 0 then p0 else if i = 1 then p1 else p2), Is.self lp0, Is.self lp1, Is.self lp2⟩
    obtain ⟨Y, y0, y1, y2⟩ := hY
    have hZ : ∃ Z : Nat → Option Nat, Is .f32 q0 (Z 0) ∧ Is .f32 q1 (Z 1) ∧ Is .f32 q2 (Z 2) := ⟨fun i => nrm .f32 (if i = 0 then q0 else if i = 1 then q1 else q2), Is.self lq0, Is.self lq1, Is.self lq2⟩
    obtain ⟨Z, z0, z1, z2⟩ := hZ
    refine (szB _ _ _ _ hn).mono ?_
    rintro _ wq ⟨rfl, rfl⟩
    have b0 := Below.refl wq.heap.size wq
    go_wp2_with fail
    go_region_held3 (fun w' => Below wq.heap.size wq w') ((repeat' (first | with_reducible assumption | with_reducible exact Below.refl _ _ | with_reducible exact keepW (by with_reducible assumption) (by with_reducible assumption) (by first | exact Nat.le_refl _ | assumption | omega | (simp; done) | (simp; omega)) | with_reducible exact keepS (by with_reducible assumption) (by with_reducible assumption) (by first | exact Nat.le_refl _ | assumption | omega | (simp; done) | (simp; omega)) | (with_reducible refine Below.setCell ?_ (by first | omega | (simp; done) | (simp; omega)) _) | (with_reducible refine below_drewN ?_ _) | (with_reducible refine Below.drew ?_) | (with_reducible refine Below.trans ?_ (Below.mono (by with_reducible assumption) (by first | omega | (simp; done) | (simp; omega)))) | (with_reducible refine Below.trans ?_ (Below.mono (Grow.below (by with_reducible assumption)) (by first | omega | (simp; done) | (simp; omega)))) | (with_reducible refine Below.alloc ?_ (by first | omega | (simp; done) | (simp; omega)) _)))) (first | (go_at_call 10; refine Calls.mono (toB_any _ hn (H.out.below (by first | with_reducible assumption | (repeat' (first | with_reducible assumption | with_reducible exact Below.refl _ _ | with_reducible exact keepW (by with_reducible assumption) (by with_reducible assumption) (by first | exact Nat.le_refl _ | assumption | omega | (simp; done) | (simp; omega)) | with_reducible exact keepS (by with_reducible assumption) (by with_reducible assumption) (by first | exact Nat.le_refl _ | assumption | omega | (simp; done) | (simp; omega)) | (with_reducible refine Below.setCell ?_ (by first | omega | (simp; done) | (simp; omega)) _) | (with_reducible refine below_drewN ?_ _) | (with_reducible refine Below.drew ?_) | (with_reducible refine Below.trans ?_ (Below.mono (by with_reducible assumption) (by first | omega | (simp; done) | (simp; omega)))) | (with_reducible refine Below.trans ?_ (Below.mono (Grow.below (by with_reducible assumption)) (by first | omega | (simp; done) | (simp; omega)))) | (with_reducible refine Below.alloc ?_ (by first | omega | (simp; done) | (simp; omega)) _)))))) ?_; rintro _ W1 ⟨rfl, b1, r1⟩) | (go_at_call 14; (with_reducible refine (TP _).mono ?_); rintro _ Wp ⟨rfl, hbp⟩) | (go_at_call 14; (with_reducible refine (TQ _).mono ?_); rintro _ Wq ⟨rfl, hbq⟩) | (go_at_call 13; have r2 := rt (rt r1 hbp.1) hbq.1; refine (specMov _ 0 n n f (fun i => nrm .f32 (f i)) Y Z y0 y1 y2 z0 z1 z2 _ hn r2.lt (rowCells r2) HI.out).mono ?_; rintro _ W2 ⟨⟨vw, rfl, hw⟩, b2⟩))
    replace b2 : Below wq.heap.size wq W2 := by with_reducible assumption
    clear r1 r2 b1 hbp hbq
    have hS2 := b2.size
    go_wp2_with fail
    (go_at_call 10; refine Calls.mono (toB_any _ hn (H.out.below b2)) ?_; rintro _ W3 ⟨rfl, b3, r3⟩)
    replace hw := hw.step b3
    replace b3 := bt b2 b3
    have hl3 := r3.lt
    go_wp2_with fail
    go_region_held3 (fun w' => Below wq.heap.size wq w') ((repeat' (first | with_reducible assumption | with_reducible exact Below.refl _ _ | with_reducible exact keepW (by with_reducible assumption) (by with_reducible assumption) (by first | exact Nat.le_refl _ | assumption | omega | (simp; done) | (simp; omega)) | with_reducible exact keepS (by with_reducible assumption) (by with_reducible assumption) (by first | exact Nat.le_refl _ | assumption | omega | (simp; done) | (simp; omega)) | (with_reducible refine Below.setCell ?_ (by first | omega | (simp; done) | (simp; omega)) _) | (with_reducible refine below_drewN ?_ _) | (with_reducible refine Below.drew ?_) | (with_reducible refine Below.trans ?_ (Below.mono (by with_reducible assumption) (by first | omega | (simp; done) | (simp; omega)))) | (with_reducible refine Below.trans ?_ (Below.mono (Grow.below (by with_reducible assumption)) (by first | omega | (simp; done) | (simp; omega)))) | (with_reducible refine Below.alloc ?_ (by first | omega | (simp; done) | (simp; omega)) _)))) (first | (go_at_call 14; (with_reducible refine (TP _).mono ?_); rintro _ Wp ⟨rfl, hbp⟩) | (go_at_call 14; (with_reducible refine (TQ _).mono ?_); rintro _ Wq ⟨rfl, hbq⟩) | (go_at_call 15; have r4 := rt (rth hbp.1 r3 rfl) hbq.1; refine (iMove _ 0 n n f (fun i => nrm .f32 (f i)) Y Z y0 y1 y2 z0 z1 z2 _ hn r4.lt (rowCells r4) HI.out).mono ?_; rintro _ W4 ⟨⟨vg, rfl, hg⟩, b4⟩))
    replace hw := ((hw.stepD hbp.1 rfl).step hbq.1).step b4
    replace r3 := rt r4 b4
    have hl4 := r4.lt
    have hS4 := b4.size
    replace b4 : Below wq.heap.size wq W4 := by with_reducible assumption
    clear hbp hbq r4 hl3
    have hl3 := hl4
    clear hl4
    have hM : (if movOk (fun i => nrm FloatKind.f32 (f i)) Y Z n then n else 0) ≤ 1048576 := by split <;> omega
    generalize hMe : (if movOk (fun i => nrm FloatKind.f32 (f i)) Y Z n then n else 0) = M at hw hg hM
    have hl2 : decide (1 + 7 * (M : Int) < 0) = false := by simp; omega
    go_wp2_with fail
    (go_at_call 12; refine (eqOk hM hg hw).mono ?_; rintro _ W5 ⟨rfl, b5⟩)
    replace hw := hw.step b5
    replace hg := hg.step b5
    replace r3 := rt r3 b5
    replace b5 := bt b4 b5
    go_wp2_with fail
    (go_at_call 10; refine Calls.mono (toB_any _ hn (H.out.below b5)) ?_; rintro _ W6 ⟨rfl, b6, r6⟩)
    replace hw := hw.step b6
    replace hg := hg.step b6
    replace r3 := rt r3 b6
    replace b6 := bt b5 b6
    go_wp2_with fail
    (go_at_call 12; refine (eqRow hn r3 r6 HI.out HI.out).mono ?_; rintro _ W7 ⟨rfl, b7⟩)
    replace hw := hw.step b7
    replace hg := hg.step b7
    replace r3 := rt r3 b7
    replace b7 := bt b6 b7
    go_wp2_with fail
    (go_at_call 16; refine (markB _ n n _ W7 hn (Own.of_row r3)).mono ?_; rintro _ W8 ⟨rfl, ho8, ht8⟩)
    replace hw := hw.touch ht8 (.inr (Nat.le_refl _))
    replace hg := hg.touch ht8 (.inl hl3)
    have b8 : Below wq.heap.size wq W8 := b7.trans (ht8.below hS2)
    clear r3 r6 ho8 ht8
    go_wp2_with fail
    (go_at_call 12; refine (eqOk hM hg hw).mono ?_; rintro _ W9 ⟨rfl, b9⟩)
    replace hw := hw.step b9
    replace hg := hg.step b9
    replace b9 := bt b8 b9
    go_wp2_with fail
    (go_at_call 16; refine (markOk hM hS4 hg).mono ?_; rintro _ W10 ⟨rfl, hk, bb, hbb, ht⟩)
    replace hw := hw.touch ht (.inr (by omega))
    have b10 : Below wq.heap.size wq W10 := b9.trans (ht.below (by omega))
    clear ht
    go_wp2_with (go_at_call 17; refine (heldOk hM hk).mono ?_; rintro _ _ ⟨n1, rfl, rfl⟩)
    replace hw := hw.heap (W := W10.drewN n1) rfl
    replace hk := hk.heap (W := W10.drewN n1) rfl
    have hz10 := b10.size
    go_region_held3 (fun w' => Below wq.heap.size wq w') ((repeat' (first | with_reducible assumption | with_reducible exact Below.refl _ _ | with_reducible exact keepW (by with_reducible assumption) (by with_reducible assumption) (by first | exact Nat.le_refl _ | assumption | omega | (simp; done) | (simp; omega)) | with_reducible exact keepS (by with_reducible assumption) (by with_reducible assumption) (by first | exact Nat.le_refl _ | assumption | omega | (simp; done) | (simp; omega)) | (with_reducible refine Below.setCell ?_ (by first | omega | (simp; done) | (simp; omega)) _) | (with_reducible refine below_drewN ?_ _) | (with_reducible refine Below.drew ?_) | (with_reducible refine Below.trans ?_ (Below.mono (by with_reducible assumption) (by first | omega | (simp; done) | (simp; omega)))) | (with_reducible refine Below.trans ?_ (Below.mono (Grow.below (by with_reducible assumption)) (by first | omega | (simp; done) | (simp; omega)))) | (with_reducible refine Below.alloc ?_ (by first | omega | (simp; done) | (simp; omega)) _)))) (first | (go_at_call 10; refine Calls.mono (toB_any _ hn (H.out.below (by first | with_reducible assumption | (repeat' (first | with_reducible assumption | with_reducible exact Below.refl _ _ | with_reducible exact keepW (by with_reducible assumption) (by with_reducible assumption) (by first | exact Nat.le_refl _ | assumption | omega | (simp; done) | (simp; omega)) | with_reducible exact keepS (by with_reducible assumption) (by with_reducible assumption) (by first | exact Nat.le_refl _ | assumption | omega | (simp; done) | (simp; omega)) | (with_reducible refine Below.setCell ?_ (by first | omega | (simp; done) | (simp; omega)) _) | (with_reducible refine below_drewN ?_ _) | (with_reducible refine Below.drew ?_) | (with_reducible refine Below.trans ?_ (Below.mono (by with_reducible assumption) (by first | omega | (simp; done) | (simp; omega)))) | (with_reducible refine Below.trans ?_ (Below.mono (Grow.below (by with_reducible assumption)) (by first | omega | (simp; done) | (simp; omega)))) | (with_reducible refine Below.alloc ?_ (by first | omega | (simp; done) | (simp; omega)) _)))))) ?_; rintro _ W11 ⟨rfl, b11, r11⟩) | (go_at_call 14; (with_reducible refine (TP _).mono ?_); rintro _ Wp ⟨rfl, hbp⟩) | (go_at_call 14; (with_reducible refine (TQ _).mono ?_); rintro _ Wq ⟨rfl, hbq⟩) | (go_at_call 15; have r12 := rt (rt r11 hbp.1) hbq.1; refine (iMove _ 0 n n f (fun i => nrm .f32 (f i)) Y Z y0 y1 y2 z0 z1 z2 _ hn r12.lt (rowCells r12) HI.out).mono ?_; rintro _ W12 ⟨⟨vh, rfl, hh⟩, b12⟩))
    replace hw := (((hw.stepD b11 rfl).step hbp.1).step hbq.1).step b12
    replace hk := (((hk.stepD b11 rfl).step hbp.1).step hbq.1).step b12
    replace b12 : Below wq.heap.size wq W12 := by with_reducible assumption
    clear b11 hbp hbq r11 r12
    rw [hMe] at hh
    go_wp2_with fail
    (go_at_call 12; refine (eqOk hM hh hw).mono ?_; rintro _ W13 ⟨rfl, b13⟩)
    replace hk := hk.step b13
    replace b13 := bt b12 b13
    go_wp2_with (go_at_call 17; refine (heldOk hM hk).mono ?_; rintro _ _ ⟨n2, rfl, rfl⟩)
    go_ret
    exact ⟨rfl, BW.trans ((below_drewN b13 n2).mono BW.size)⟩
  · have hl : 1048576 < n := by omega
    clear h hw
    go_enter Try.func4, Try.ntmps4
    go_wp2_with (go_at_call 8; refine (szB_out _ _ _ _ hl hm).mono ?_; rintro eq wq ⟨rfl, rfl⟩)
    go_ret
    exact ⟨rfl, by repeat' (first | with_reducible exact Below.refl _ _ | with_reducible assumption | (with_reducible refine Below.setCell ?_ (by first | omega | (simp; done) | (simp; omega)) _) | (with_reducible refine Below.alloc ?_ (by first | omega | (simp; done) | (simp; omega)) _) | (with_reducible refine below_drewN ?_ _) | (with_reducible refine Below.drew ?_) | (with_reducible refine Below.trans ?_ (Below.mono (by first | (with_reducible assumption) | exact Grow.below (by assumption)) (by first | omega | (simp; done) | (simp; omega)))))⟩
end Go.Proofs.Ytkhinppmldodiaa

