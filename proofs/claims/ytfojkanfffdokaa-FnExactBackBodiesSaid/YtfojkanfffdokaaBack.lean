/-
  Bodies that go back, of the program and of the model. No condition.
-/
import Derived.Test.YtfojkanfffdokaaChg
import Derived.Test.YtfojkanfffdokaaNegV
import Derived.Test.YtfojkanfffdokaaOwnC
namespace Go.Proofs.Ytfojkanfffdokaa
open Go.RowKit

/-- The values of bodies that go back. -/
def backV (v : Nat → Option Nat) (j : Nat) : Option Nat := if 3 ≤ j % 7 ∧ j % 7 < 6 then negO .f32 (v j) else v j
theorem backV_0 (v : Nat → Option Nat) (k : Nat) : backV v (7 * k) = v (7 * k) := by unfold backV; rw [if_neg (by omega)]
theorem backV_1 (v : Nat → Option Nat) (k : Nat) : backV v (7 * k + 1) = v (7 * k + 1) := by unfold backV; rw [if_neg (by omega)]
theorem backV_2 (v : Nat → Option Nat) (k : Nat) : backV v (7 * k + 2) = v (7 * k + 2) := by unfold backV; rw [if_neg (by omega)]
theorem backV_3 (v : Nat → Option Nat) (k : Nat) : backV v (7 * k + 3) = negO .f32 (v (7 * k + 3)) := by unfold backV; rw [if_pos (by omega)]
theorem backV_4 (v : Nat → Option Nat) (k : Nat) : backV v (7 * k + 4) = negO .f32 (v (7 * k + 4)) := by unfold backV; rw [if_pos (by omega)]
theorem backV_5 (v : Nat → Option Nat) (k : Nat) : backV v (7 * k + 5) = negO .f32 (v (7 * k + 5)) := by unfold backV; rw [if_pos (by omega)]
theorem backV_6 (v : Nat → Option Nat) (k : Nat) : backV v (7 * k + 6) = v (7 * k + 6) := by unfold backV; rw [if_neg (by omega)]

theorem back_ok {f : Nat → Nat} {v : Nat → Option Nat} {n k : Nat} (hv : ∀ i, i < 7 * n → Is .f32 (f i) (v i)) (hk : k < n) : okB (backV v) k = okB v k := by
  unfold okB ok7 finV
  rw [backV_0, backV_1, backV_2, backV_3, backV_4, backV_5, backV_6, finS_neg (hv (7 * k + 3) (by omega)), finS_neg (hv (7 * k + 4) (by omega)), finS_neg (hv (7 * k + 5) (by omega))]

theorem back_all {f : Nat → Nat} {v : Nat → Option Nat} {n : Nat} (hv : ∀ i, i < 7 * n → Is .f32 (f i) (v i)) : ∀ k, k ≤ n → allB (backV v) k = allB v k
  | 0, _ => rfl
  | k + 1, hk => by
    show (allB (backV v) k && okB (backV v) k) = (allB v k && okB v k)
    rw [back_all hv k (by omega), back_ok hv (by omega)]

theorem back_are {f : Nat → Nat} {v : Nat → Option Nat} {n : Nat} (hv : ∀ i, i < 7 * n → Is .f32 (f i) (v i)) : areB (backV v) n = areB v n := by
  unfold areB
  rw [back_all hv n (Nat.le_refl _)]

set_option maxHeartbeats 1600000 in
theorem iBackF {a0 a1 a2 a3 a4 a5 a6 : Nat} {x3 x4 x5 : Option Nat} (h3 : Is .f32 a3 x3) (h4 : Is .f32 a4 x4) (h5 : Is .f32 a5 x5) (w : World) :
    Calls Try.prog 26 #[bodV a0 a1 a2 a3 a4 a5 a6] w fun e w' => (∃ r3 r4 r5, e = .returned (bodV a0 a1 a2 r3 r4 r5 a6) ∧ Is .f32 r3 (negO .f32 x3) ∧ Is .f32 r4 (negO .f32 x4) ∧ Is .f32 r5 (negO .f32 x5)) ∧ Below w.heap.size w w' := by
  have hst := run_store_float Try.prog
  go_enter Try.func26, Try.ntmps26
  go_wp2_with fail
  go_region_with (go_at_call 27; refine (implNeg h3 h4 h5 _).mono ?_; rintro eq wq ⟨rq0, rq1, rq2, rfl, hq0, hq1, hq2, hb⟩; obtain ⟨hc, hf⟩ := bcell hb.1; have hz := hb.2; try simp at hz)
  all_goals
    go_wp2
    refine bodyPost_ret (v := bodV a0 a1 a2 rq0 rq1 rq2 a6) (by simp [results, Try.results26, go_sem, hc, hz]) rfl ⟨⟨_, _, _, rfl, hq0, hq1, hq2⟩, ?_⟩
    repeat' (first | with_reducible exact Below.refl _ _ | with_reducible assumption | (with_reducible refine Below.setCell ?_ (by first | omega | (simp; done) | (simp; omega)) _) | (with_reducible refine Below.alloc ?_ (by first | omega | (simp; done) | (simp; omega)) _) | (with_reducible refine below_drewN ?_ _) | (with_reducible refine Below.drew ?_) | (with_reducible refine Below.trans ?_ (Below.mono (by first | (with_reducible assumption) | exact Grow.below (by assumption)) (by first | omega | (simp; done) | (simp; omega)))))

theorem iBack (b off n cap : Nat) (f : Nat → Nat) (v : Nat → Option Nat) (w : World) (hn : n ≤ 1048576) (hb : b < w.heap.size) (hr : ∀ i, i < 7 * n → w.cell? ⟨b, off + i, none⟩ = some (.float .f32 (f i))) (hv : ∀ i, i < 7 * n → Is .f32 (f i) (v i)) :
    Calls Try.prog 10 #[.slice (some ⟨b, off, none⟩) n cap] w (RetList (backV v) n (areB v n) w) := by
  have HC := iChanged 26 #[] b off n cap f v (backV v) w hn hb hr hv (enters_of Try.func26 (by kernel_rfl) rfl) (fun k hk W _ => (iBackF (hv (7 * k + 3) (by omega)) (hv (7 * k + 4) (by omega)) (hv (7 * k + 5) (by omega)) W).mono fun e w' ⟨⟨r3, r4, r5, he, i3, i4, i5⟩, hb⟩ => ⟨⟨_, _, _, _, _, _, _, he, by rw [backV_0]; exact hv _ (by omega), by rw [backV_1]; exact hv _ (by omega), by rw [backV_2]; exact hv _ (by omega), by rw [backV_3]; exact i3, by rw [backV_4]; exact i4, by rw [backV_5]; exact i5, by rw [backV_6]; exact hv _ (by omega)⟩, hb⟩)
  rw [back_are hv, Bool.and_self] at HC
  clear hr hv
  go_enter Try.func10, Try.ntmps10
  go_wp2_with (go_at_call 25; refine HC.mono ?_; rintro _ W1 ⟨⟨v1, rfl, h1⟩, b1⟩)
  go_ret2
  exact ⟨⟨_, rfl, h1⟩, b1⟩

end Go.Proofs.Ytfojkanfffdokaa
