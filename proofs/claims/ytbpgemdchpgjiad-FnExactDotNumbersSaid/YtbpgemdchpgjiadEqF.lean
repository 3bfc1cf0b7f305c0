/-
  The comparison of two lists of numbers says yes where both hold the same words. No condition.
-/
import Derived.Test.YtbpgemdchpgjiadSum
import Derived.Deep.RegionWith
namespace Go.Proofs.Ytbpgemdchpgjiad
open Go.RowKit

/-- The word that the conversion of a NaN draws. -/
def nw (x : Nat) (w : World) : Nat := (Question.nanConv .f64 x).cut (w.tape w.drawn (.nanConv .f64 x))
theorem is_nw (x : Nat) (w : World) : Is .f64 (nw x w) none := is_nanConv ..

theorem conv_nan {x : Nat} (h : nrm .f32 x = none) (w : World) : (convert 23 28 (.float .f32 x)).run Try.prog w = .ok (.float .f64 (nw x w)) (w.drewN 1) := by
  have hn : (FloatKind.f32.decode x).isNaN = true := by
    unfold nrm at h; split at h
    · assumption
    · cases h
  obtain ⟨sg, f, hd'⟩ := nan_cases hn
  have hs' := Try.underlying23
  have hd := Try.underlying28
  simp [convert, run_underlying hs', run_underlying hd, Conv.floatToFloat, hd', Question.forced, World.drew_is_drewN, nw]

theorem conv_num {x y : Nat} (hx : x < 2 ^ 32) (h : nrm .f32 x = some y) : ∃ z, (∀ w : World, (convert 23 28 (.float .f32 x)).run Try.prog w = .ok (.float .f64 z) w) ∧ Is .f64 z (cv .f32 .f64 (nrm .f32 x)) := by
  have ix : Is .f32 x (some y) := ⟨h, hx⟩
  have hf := fit_widen ix
  obtain rfl := ix.notNaN
  obtain ⟨r, hr⟩ := Option.isSome_iff_exists.1 (hf x rfl)
  exact ⟨r, fun w => run_convert_float_float w 23 28 .f32 .f64 x r und32 Try.underlying28 hr, by rw [h]; unfold cv; simp only [Option.bind_some, hr]; exact cv_notNaN (by decide) hr⟩

set_option maxHeartbeats 1600000 in
theorem eqF (b1 o1 c1 b2 o2 c2 n : Nat) (f : Nat → Nat) (w : World) (hn : n ≤ 1048576) (hw : ∀ i, i < n → f i < 2 ^ 32)
    (hr1 : ∀ i, i < n → w.cell? ⟨b1, o1 + i, none⟩ = some (.float .f32 (f i))) (hr2 : ∀ i, i < n → w.cell? ⟨b2, o2 + i, none⟩ = some (.float .f32 (f i))) :
    Calls Try.prog 9 #[.slice (some ⟨b1, o1, none⟩) n c1, .slice (some ⟨b2, o2, none⟩) n c2] w (RetV (.bool true) w) := by
  have HR1 := Lib.hid hr1
  have HR2 := Lib.hid hr2
  have HW := Lib.hid hw
  clear hr1 hr2 hw
  go_enter Try.func9, Try.ntmps9
  go_wp2
  go_loopw [5] (fun i wr => ∃ k m : Nat, k ≤ n ∧ i = .int .i64 k ∧ wr = w.drewN m) (fun i _ => n - (intOf i).toNat)
  case atStart => exact ⟨0, 0, Nat.zero_le _, rfl, rfl⟩
  case round =>
    obtain ⟨k, m, hk, rfl, rfl⟩ := hrel
    by_cases hlt : k < n
    · have hc1 := HR1.out k hlt
      have hc2 := HR2.out k hlt
      have hi : Is .f32 (f k) (nrm .f32 (f k)) := Is.self (HW.out k hlt)
      have hlt' : ((k : Nat) : Int) < (n : Int) := by omega
      have hk0 : (0 : Int) ≤ (k : Int) := by omega
      cases hv : nrm .f32 (f k) with
      | some y =>
        obtain ⟨z, hcv, hz⟩ := conv_num (HW.out k hlt) hv
        clear hv hi
        go_wp2_with fail
        go_region_with (go_at_call 8; refine (sameFloat_any hz hz _).mono ?_; rintro eq wq ⟨nq, rfl, rfl⟩)
        all_goals
          go_wp2
          go_roundw
          case rel => exact ⟨k + 1, _, by omega, by go_num, rfl⟩
          case measure => simp [intOf]; omega
      | none =>
        have hcv := conv_nan hv
        clear hv hi
        go_wp2_with fail
        go_region_with (go_at_call 8; refine (sameFloat_any (is_nw _ _) (is_nw _ _) _).mono ?_; rintro eq wq ⟨nq, rfl, rfl⟩)
        all_goals
          go_wp2
          go_roundw
          case rel => exact ⟨k + 1, _, by omega, by go_num, rfl⟩
          case measure => simp [intOf]; omega
    · go_wp2
      go_ret
      exact RetV.mk _
end Go.Proofs.Ytbpgemdchpgjiad
