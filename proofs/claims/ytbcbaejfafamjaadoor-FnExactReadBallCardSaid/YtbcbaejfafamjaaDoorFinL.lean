/-
  Whether all numbers of a list are finite, of the program. No condition.
-/
import Derived.Test.YtbcbaejfafamjaaDoorAbvI
namespace Go.Proofs.YtbcbaejfafamjaaDoor
open Go.RowKit

/-- Whether the first k of some numbers are finite. -/
def finL (f : Nat → Option Nat) : Nat → Bool
  | 0 => true
  | k + 1 => finL f k && finS (f k)

theorem finL_false {f : Nat → Option Nat} {k : Nat} (h : finS (f k) = false) : ∀ {n}, k < n → finL f n = false
  | n + 1, hk => by
    by_cases h1 : k = n
    · subst h1; simp [finL, h]
    · simp [finL, finL_false h (show k < n by omega)]

theorem iFinL (b n cap : Nat) (g : Nat → Nat) (f : Nat → Option Nat) (w : World) (hn : n ≤ 16) (hw : ∀ i, i < n → Is .f32 (g i) (f i)) (hr : ∀ i, i < n → w.cell? ⟨b, i, none⟩ = some (.float .f32 (g i))) :
    Calls Tryd.prog 53 #[.slice (some ⟨b, 0, none⟩) n cap] w (RetV (.bool (finL f n)) w) := by
  have HR := Lib.hid hr
  have HW := Lib.hid hw
  clear hr hw
  go_enter Tryd.func53, Tryd.ntmps53
  go_wp2
  go_loopw [7] (fun i wr => ∃ k m : Nat, k ≤ n ∧ i = .int .i64 k ∧ finL f k = true ∧ wr = w.drewN m) (fun i _ => n - (intOf i).toNat)
  case atStart => exact ⟨0, 0, Nat.zero_le _, rfl, rfl, rfl⟩
  case round =>
    obtain ⟨k, m, hk, rfl, ha, rfl⟩ := hrel
    by_cases hlt : k < n
    · have hc := HR.out k hlt
      have hi : Is .f32 (g k) (f k) := HW.out k hlt
      cases hp : finS (f k) with
      | false =>
        have hf := finL_false hp hlt
        go_wp2_with (go_at_call 73; refine (sFinite hi _).mono ?_; rintro eq wq ⟨nq, rfl, rfl⟩)
        go_ret
        exact RetV.eq _ (by rw [hf]; rfl)
      | true =>
        go_wp2_with (go_at_call 73; refine (sFinite hi _).mono ?_; rintro eq wq ⟨nq, rfl, rfl⟩)
        go_roundw
        case rel => exact ⟨k + 1, _, by omega, by go_num, by simp [finL, ha, hp], rfl⟩
        case measure => simp [intOf]; omega
    · have hkn : k = n := by omega
      subst hkn
      go_wp2
      go_ret
      exact RetV.eq _ (by rw [ha]; rfl)


theorem finL3 (u v t : Option Nat) : finL (three u v t) 3 = (finS u && finS v && finS t) := by
  simp [finL, three]

theorem iFin3 {b x y z cap : Nat} {u v t : Option Nat} (w : World) (ix : Is .f32 x u) (iy : Is .f32 y v) (iz : Is .f32 z t) (c0 : w.cell? ⟨b, 0, none⟩ = some (.float .f32 x)) (c1 : w.cell? ⟨b, 1, none⟩ = some (.float .f32 y)) (c2 : w.cell? ⟨b, 2, none⟩ = some (.float .f32 z)) :
    Calls Tryd.prog 53 #[.slice (some ⟨b, 0, none⟩) 3 cap] w (RetV (.bool (finS u && finS v && finS t)) w) := by
  have h := iFinL b 3 cap (three x y z) (three u v t) w (by decide) (fun i hi => by match i, hi with | 0, _ => exact ix | 1, _ => exact iy | 2, _ => exact iz) (fun i hi => by match i, hi with | 0, _ => exact c0 | 1, _ => exact c1 | 2, _ => exact c2)
  rw [finL3] at h
  exact h

theorem finL2 (u v : Option Nat) : finL (two u v) 2 = (finS u && finS v) := by
  simp [finL, two]

theorem iFin2 {b x y cap : Nat} {u v : Option Nat} (w : World) (ix : Is .f32 x u) (iy : Is .f32 y v) (c0 : w.cell? ⟨b, 0, none⟩ = some (.float .f32 x)) (c1 : w.cell? ⟨b, 1, none⟩ = some (.float .f32 y)) :
    Calls Tryd.prog 53 #[.slice (some ⟨b, 0, none⟩) 2 cap] w (RetV (.bool (finS u && finS v)) w) := by
  have h := iFinL b 2 cap (two x y) (two u v) w (by decide) (fun i hi => by match i, hi with | 0, _ => exact ix | 1, _ => exact iy) (fun i hi => by match i, hi with | 0, _ => exact c0 | 1, _ => exact c1)
  rw [finL2] at h
  exact h
end Go.Proofs.YtbcbaejfafamjaaDoor
