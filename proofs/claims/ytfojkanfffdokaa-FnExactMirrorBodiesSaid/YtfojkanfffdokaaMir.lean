/-
  Mirrored bodies, of the program. No condition.
-/
import Derived.Test.YtfojkanfffdokaaChg
import Derived.Test.YtfojkanfffdokaaNegV
namespace Go.Proofs.Ytfojkanfffdokaa
open Go.RowKit

/-- The values of mirrored bodies. -/
def mirV (v : Nat → Option Nat) (j : Nat) : Option Nat := if j % 7 = 2 ∨ j % 7 = 5 then negO .f32 (v j) else v j
theorem mirV_0 (v : Nat → Option Nat) (k : Nat) : mirV v (7 * k) = v (7 * k) := by unfold mirV; rw [if_neg (by omega)]
theorem mirV_1 (v : Nat → Option Nat) (k : Nat) : mirV v (7 * k + 1) = v (7 * k + 1) := by unfold mirV; rw [if_neg (by omega)]
theorem mirV_2 (v : Nat → Option Nat) (k : Nat) : mirV v (7 * k + 2) = negO .f32 (v (7 * k + 2)) := by unfold mirV; rw [if_pos (by omega)]
theorem mirV_3 (v : Nat → Option Nat) (k : Nat) : mirV v (7 * k + 3) = v (7 * k + 3) := by unfold mirV; rw [if_neg (by omega)]
theorem mirV_4 (v : Nat → Option Nat) (k : Nat) : mirV v (7 * k + 4) = v (7 * k + 4) := by unfold mirV; rw [if_neg (by omega)]
theorem mirV_5 (v : Nat → Option Nat) (k : Nat) : mirV v (7 * k + 5) = negO .f32 (v (7 * k + 5)) := by unfold mirV; rw [if_pos (by omega)]
theorem mirV_6 (v : Nat → Option Nat) (k : Nat) : mirV v (7 * k + 6) = v (7 * k + 6) := by unfold mirV; rw [if_neg (by omega)]

theorem mir_ok {f : Nat → Nat} {v : Nat → Option Nat} {n k : Nat} (hv : ∀ i, i < 7 * n → Is .f32 (f i) (v i)) (hk : k < n) : okB (mirV v) k = okB v k := by
  unfold okB ok7 finV
  rw [mirV_0, mirV_1, mirV_2, mirV_3, mirV_4, mirV_5, mirV_6, finS_neg (hv (7 * k + 2) (by omega)), finS_neg (hv (7 * k + 5) (by omega))]

theorem mir_all {f : Nat → Nat} {v : Nat → Option Nat} {n : Nat} (hv : ∀ i, i < 7 * n → Is .f32 (f i) (v i)) : ∀ k, k ≤ n → allB (mirV v) k = allB v k
  | 0, _ => rfl
  | k + 1, hk => by
    show (allB (mirV v) k && okB (mirV v) k) = (allB v k && okB v k)
    rw [mir_all hv k (by omega), mir_ok hv (by omega)]

theorem mir_are {f : Nat → Nat} {v : Nat → Option Nat} {n : Nat} (hv : ∀ i, i < 7 * n → Is .f32 (f i) (v i)) : areB (mirV v) n = areB v n := by
  unfold areB
  rw [mir_all hv n (Nat.le_refl _)]

set_option maxHeartbeats 1600000 in
theorem iMirF {a0 a1 a2 a3 a4 a5 a6 : Nat} {x2 x5 : Option Nat} (h2 : Is .f32 a2 x2) (h5 : Is .f32 a5 x5) (w : World) :
    Calls Try.prog 29 #[bodV a0 a1 a2 a3 a4 a5 a6] w fun e w' => (∃ r2 r5, e = .returned (bodV a0 a1 r2 a3 a4 r5 a6) ∧ Is .f32 r2 (negO .f32 x2) ∧ Is .f32 r5 (negO .f32 x5)) ∧ Below w.heap.size w w' := by
  have hst := run_store_float Try.prog
  go_enter Try.func29, Try.ntmps29
  go_wp2_with (apply wpList_neg; rfl; rfl; (first | assumption | exact is_lit64 _ (by decide) | exact is_lit32 _ (by decide)); intro Kq hKq rq hq; go_simp)
  refine bodyPost_ret (v := bodV a0 a1 _ a3 a4 _ a6) (by simp [results, Try.results29, go_sem]; exact ⟨rfl, rfl⟩) rfl ⟨⟨_, _, rfl, by assumption, by assumption⟩, ?_⟩
  repeat' (first | with_reducible exact Below.refl _ _ | with_reducible assumption | (with_reducible refine Below.setCell ?_ (by first | omega | (simp; done) | (simp; omega)) _) | (with_reducible refine Below.alloc ?_ (by first | omega | (simp; done) | (simp; omega)) _) | (with_reducible refine below_drewN ?_ _) | (with_reducible refine Below.drew ?_) | (with_reducible refine Below.trans ?_ (Below.mono (by first | (with_reducible assumption) | exact Grow.below (by assumption)) (by first | omega | (simp; done) | (simp; omega)))))

theorem iMir (b off n cap : Nat) (f : Nat → Nat) (v : Nat → Option Nat) (w : World) (hn : n ≤ 1048576) (hb : b < w.heap.size) (hr : ∀ i, i < 7 * n → w.cell? ⟨b, off + i, none⟩ = some (.float .f32 (f i))) (hv : ∀ i, i < 7 * n → Is .f32 (f i) (v i)) :
    Calls Try.prog 15 #[.slice (some ⟨b, off, none⟩) n cap] w (RetList (mirV v) n (areB v n) w) := by
  have HC := iChanged 29 #[] b off n cap f v (mirV v) w hn hb hr hv (enters_of Try.func29 (by kernel_rfl) rfl) (fun k hk W _ => (iMirF (hv (7 * k + 2) (by omega)) (hv (7 * k + 5) (by omega)) W).mono fun e w' ⟨⟨r2, r5, he, i2, i5⟩, hb⟩ => ⟨⟨_, _, _, _, _, _, _, he, by rw [mirV_0]; exact hv _ (by omega), by rw [mirV_1]; exact hv _ (by omega), by rw [mirV_2]; exact i2, by rw [mirV_3]; exact hv _ (by omega), by rw [mirV_4]; exact hv _ (by omega), by rw [mirV_5]; exact i5, by rw [mirV_6]; exact hv _ (by omega)⟩, hb⟩)
  rw [mir_are hv, Bool.and_self] at HC
  clear hr hv
  go_enter Try.func15, Try.ntmps15
  go_wp2_with (go_at_call 25; refine HC.mono ?_; rintro _ W1 ⟨⟨v1, rfl, h1⟩, b1⟩)
  go_ret2
  exact ⟨⟨_, rfl, h1⟩, b1⟩
end Go.Proofs.Ytfojkanfffdokaa
