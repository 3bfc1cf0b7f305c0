/-
  Powers and logarithms: for every two rows of bytes the law's text returns true, and writes nothing that was there. No condition.
-/
import Derived.Test.YtjgdjhokkgandaaPowU
import Derived.Test.YtjgdjhokkgandaaByt
import Derived.Deep.RegionWith
namespace Go.Proofs.Ytjgdjhokkgandaa
open Go.RowKit

theorem fit_of_cv {s k : FloatKind} {a : Option Nat} {r : Nat} (h : cv s k a = some r) : Fit s k a := by
  intro x hx
  subst hx
  unfold cv at h
  simp only [Option.bind_some] at h
  rw [h]; rfl

theorem expM {m x : Nat} (hm : m < 129) (ix : Is .f32 x (some (wX m))) (w : World) : Calls Try.prog 6 #[.float .f32 x] w (RetF .f32 (some (wE m)) w) := by
  have h := chkE_ok m hm
  unfold chkE at h
  simp only [Bool.and_eq_true, Bool.not_eq_true', beq_iff_eq] at h
  obtain ⟨⟨⟨⟨⟨h1, h2⟩, h3⟩, h4⟩, h5⟩, h6⟩ := h
  have := expN_any ix h2 h3 (fit_of_cv h4) w
  rw [h4] at this
  exact this

theorem logM {t x : Nat} (ht : t < 65) (ix : Is .f32 x (some (wE (t + 32)))) (w : World) : Calls Try.prog 8 #[.float .f32 x] w (RetF .f32 (some (wL t)) w) := by
  have h := chkE_ok (t + 32) (by omega)
  unfold chkE at h
  simp only [Bool.and_eq_true, Bool.not_eq_true', beq_iff_eq] at h
  obtain ⟨⟨⟨⟨⟨h1, h2⟩, h3⟩, h4⟩, hW⟩, h6⟩ := h
  have h := chkL_ok t ht
  unfold chkL at h
  simp only [Bool.and_eq_true, Bool.not_eq_true', beq_iff_eq, decide_eq_true_eq, List.all_eq_true, List.mem_range] at h
  obtain ⟨⟨⟨⟨⟨⟨⟨⟨⟨⟨⟨n1, n2⟩, n3⟩, n4⟩, l1⟩, l2⟩, a1⟩, b1⟩, a2⟩, b2⟩, hL⟩, hG⟩ := h
  have E : Ends (some (wW (t + 32))) (k1 t) (k2 t) := ⟨l1, l2, a1, b1, a2, b2⟩
  have HC := fun {y : Nat} (iy : Is .f64 y (cv .f32 .f64 (some (wE (t + 32))))) (w : World) => logOf_main E (hW ▸ iy) n1 n2 n3 n4 w
  have hf := fit_of_cv hL
  rw [← hL]
  clear h1 h2 h3 h4 h6 n1 n2 n3 n4 l1 l2 a1 b1 a2 b2 hL hG E hW
  generalize logN (dbN (hlN (some (wW (t + 32))) (k1 t)) (k2 t)) ((k1 t : Int) - k2 t) = L at HC hf ⊢
  go_enter Try.func8, Try.ntmps8
  go_wp2_with (first | (apply wpList_wide und32 Try.underlying27; rfl; rfl; (first | assumption | exact is_lit64 _ (by decide) | exact is_lit32 _ (by decide)); intro Kq hKq rq nq hq; go_simp) | (apply wpList_cv .f64 .f32 (by decide) und64 Try.underlying24; rfl; rfl; (first | assumption | exact is_lit64 _ (by decide) | exact is_lit32 _ (by decide)); exact hf; intro Kq hKq rq nq hq; go_simp) | (go_at_call 10; refine (HC (by assumption) _).mono ?_; rintro eq wq ⟨rq, nq, rfl, hq, rfl⟩))
  go_ret
  exact ⟨_, _, rfl, by assumption, rfl⟩

theorem long_any {a b : Option Addr} {n m : Nat} (cap cap' : Nat) (w : World) :
    Calls Try.prog 4 #[.slice a n cap, .slice b m cap'] w (RetV (.bool (decide (1048576 < n) || decide (1048576 < m))) w) := by
  cases h1 : decide (1048576 < n) with
  | true =>
    have h1' : decide (1048576 < (n : Int)) = true := by simp at h1 ⊢; omega
    go_enter Try.func4, Try.ntmps4
    go_wp2
    go_ret
    exact RetV.eq 0 rfl
  | false =>
    have h1' : decide (1048576 < (n : Int)) = false := by simp at h1 ⊢; omega
    have e : decide (1048576 < (m : Int)) = decide (1048576 < m) := by simp; omega
    go_enter Try.func4, Try.ntmps4
    go_wp2
    go_ret
    exact RetV.eq 0 (by simp)

set_option maxHeartbeats 1600000 in
theorem walk_FnPowers (a : Option Addr) (n cap : Nat) (f : Nat → Nat) (b : Option Addr) (m cap' : Nat) (g : Nat → Nat) (w : World)
    (hf : ∀ i, i < n → f i < 256) (hr : RowB w a n f) (hg : ∀ i, i < m → g i < 256) (hs : RowB w b m g) :
    Calls Try.prog 3 #[.slice a n cap, .slice b m cap'] w fun e w' => e = .returned (.bool true) ∧ Below w.heap.size w w' := by
  have HL := fun w => long_any (a := a) (b := b) (n := n) (m := m) cap cap' w
  cases hlong : decide (1048576 < n) || decide (1048576 < m) with
  | true =>
    rw [hlong] at HL
    go_enter Try.func3, Try.ntmps3
    go_wp2_with (go_at_call 4; refine (HL _).mono ?_; rintro eq wq ⟨nq, rfl, rfl⟩)
    go_ret
    exact ⟨rfl, below_drewN (Below.refl _ _) _⟩
  | false =>
    rw [hlong] at HL
    simp only [Bool.or_eq_false_iff, decide_eq_false_iff_not] at hlong
    have HA := fun (w' : World) (hb : Below w.heap.size w w') => at_any (a := a) cap 0 65 (by omega) (by decide) (by decide) (by decide) hf (hr.below hb)
    have HB := fun (w' : World) (hb : Below w.heap.size w w') => at_any (a := b) cap' 0 65 (by omega) (by decide) (by decide) (by decide) hg (hs.below hb)
    have hs' : atF n f 0 65 < 65 := atF_lt (by decide)
    have ht' : atF m g 0 65 < 65 := atF_lt (by decide)
    generalize atF n f 0 65 = s at HA hs'
    generalize atF m g 0 65 = t at HB ht'
    clear hf hr hg hs
    have hE1 := chkE_ok (s + 32) (by omega)
    have hE2 := chkE_ok (t + 32) (by omega)
    have hE3 := chkE_ok (s + t) (by omega)
    have hL1 := chkL_ok s hs'
    have hP := chkP_ok s t hs' ht'
    unfold chkE at hE1 hE2 hE3
    unfold chkL at hL1
    unfold chkP at hP
    simp only [Bool.and_eq_true, Bool.not_eq_true', beq_iff_eq] at hE1 hE2 hE3 hL1 hP
    obtain ⟨⟨⟨⟨⟨x1, -⟩, -⟩, -⟩, W1⟩, g1⟩ := hE1
    obtain ⟨⟨⟨⟨⟨x2, -⟩, -⟩, -⟩, W2⟩, -⟩ := hE2
    obtain ⟨⟨⟨⟨⟨-, -⟩, -⟩, -⟩, W3⟩, -⟩ := hE3
    obtain ⟨-, L1⟩ := hL1
    obtain ⟨P1, P2⟩ := hP
    rw [show (((s + 32 : Nat) : Int) - 64) = (s : Int) - 32 from by omega] at x1
    rw [show (((t + 32 : Nat) : Int) - 64) = (t : Int) - 32 from by omega] at x2
    have X1 := Lib.hid x1
    have X2 := Lib.hid x2
    have XP := Lib.hid P1
    have z0 : Is .f32 0 (some (wX 64)) := is_lit32 _ (by decide)
    have z1 : Is .f32 1065353216 (some (wE (32 + 32))) := is_lit32 _ (by decide)
    have EM := fun {m x : Nat} (hm : m < 129) (ix : Is .f32 x (some (wX m))) (w : World) => expM hm ix w
    have i1 : Is .f32 (floatOfInt .f32 ((s : Int) - 32)) (ifS ((s : Int) - 32)) := is_ifS _
    have i2 : Is .f32 (floatOfInt .f32 ((t : Int) - 32)) (ifS ((t : Int) - 32)) := is_ifS _
    have q1 : cmpB .eql .f32 (some (wE 64)) (some 1065353216) = true := by decide
    have q2 : cmpB .eql .f32 (some (wL 32)) (some 0) = true := by decide
    clear x1 x2 P1
    go_enter Try.func3, Try.ntmps3
    go_wp2_with (first | (go_at_call 4; refine (HL _).mono ?_; rintro eq wq ⟨nq, rfl, rfl⟩) | (go_at_call_of 5 a; refine (HA _ (by first | exact Below.refl _ _ | exact below_drewN (Below.refl _ _) _)).mono ?_; rintro eq wq ⟨nq, rfl, rfl⟩) | (go_at_call_of 5 b; refine (HB _ (by first | exact Below.refl _ _ | exact below_drewN (Below.refl _ _) _)).mono ?_; rintro eq wq ⟨nq, rfl, rfl⟩) | (apply wpList_cmp; rfl; simp [Cmp]; rfl; rfl; (first | assumption | exact is_lit64 _ (by decide) | exact is_lit32 _ (by decide)); (first | assumption | exact is_lit64 _ (by decide) | exact is_lit32 _ (by decide)); intro Kq hKq; go_simp) | (apply wpList_arith; rfl; simp [Arith]; rfl; rfl; (first | assumption | exact is_lit64 _ (by decide) | exact is_lit32 _ (by decide)); (first | assumption | exact is_lit64 _ (by decide) | exact is_lit32 _ (by decide)); intro Kq hKq rq nq hq; (first | rw [X1.out] at hq | rw [X2.out] at hq | rw [XP.out] at hq | skip); go_simp) | (apply wpList_wide und32 Try.underlying27; rfl; rfl; (first | assumption | exact is_lit64 _ (by decide) | exact is_lit32 _ (by decide)); intro Kq hKq rq nq hq; (first | rw [W1] at hq | rw [W2] at hq | rw [W3] at hq | skip); go_simp) | (go_at_call 6; refine Calls.mono (EM ?_ (by assumption) _) ?_; (· omega); rintro eq wq ⟨rq, nq, rfl, hq, rfl⟩) | (go_at_call 8; refine Calls.mono (logM ?_ (by assumption) _) ?_; (· omega); rintro eq wq ⟨rq, nq, rfl, hq, rfl⟩) | (go_at_call 7; refine (gap_any (by assumption) (by assumption) _).mono ?_; rintro eq wq ⟨rq, nq, rfl, hq, rfl⟩))
    go_ret
    exact ⟨rfl, below_drewN (Below.refl _ _) _⟩
end Go.Proofs.Ytjgdjhokkgandaa
