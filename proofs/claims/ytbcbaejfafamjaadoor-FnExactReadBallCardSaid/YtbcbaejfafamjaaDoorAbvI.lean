/-
  Whether all numbers of a list are finite and greater than 0, of the program. No condition.
-/
import Derived.Test.YtbcbaejfafamjaaDoorPos
import Derived.Lib.Hide
namespace Go.Proofs.YtbcbaejfafamjaaDoor
open Go.RowKit

/-- Whether the first k of some numbers are finite and greater than 0. -/
def posL (f : Nat → Option Nat) : Nat → Bool
  | 0 => true
  | k + 1 => posL f k && posB (f k)

theorem posL_false {f : Nat → Option Nat} {k : Nat} (h : posB (f k) = false) : ∀ {n}, k < n → posL f n = false
  | n + 1, hk => by
    by_cases h1 : k = n
    · subst h1; simp [posL, h]
    · simp [posL, posL_false h (show k < n by omega)]

theorem iPosL (b n cap : Nat) (g : Nat → Nat) (f : Nat → Option Nat) (w : World) (hn : n ≤ 16) (hw : ∀ i, i < n → Is .f32 (g i) (f i)) (hr : ∀ i, i < n → w.cell? ⟨b, i, none⟩ = some (.float .f32 (g i))) :
    Calls Tryd.prog 52 #[.slice (some ⟨b, 0, none⟩) n cap] w (RetV (.bool (posL f n)) w) := by
  have HR := Lib.hid hr
  have HW := Lib.hid hw
  clear hr hw
  go_enter Tryd.func52, Tryd.ntmps52
  go_wp2
  go_loopw [7] (fun i wr => ∃ k m : Nat, k ≤ n ∧ i = .int .i64 k ∧ posL f k = true ∧ wr = w.drewN m) (fun i _ => n - (intOf i).toNat)
  case atStart => exact ⟨0, 0, Nat.zero_le _, rfl, rfl, rfl⟩
  case round =>
    obtain ⟨k, m, hk, rfl, ha, rfl⟩ := hrel
    by_cases hlt : k < n
    · have hc := HR.out k hlt
      have hi : Is .f32 (g k) (f k) := HW.out k hlt
      cases hp : posB (f k) with
      | false =>
        have hf := posL_false hp hlt
        go_wp2_with (go_at_call 72; refine (iPos hi _).mono ?_; rintro eq wq ⟨nq, rfl, rfl⟩)
        go_ret
        exact RetV.eq _ (by rw [hf]; rfl)
      | true =>
        go_wp2_with (go_at_call 72; refine (iPos hi _).mono ?_; rintro eq wq ⟨nq, rfl, rfl⟩)
        go_roundw
        case rel => exact ⟨k + 1, _, by omega, by go_num, by simp [posL, ha, hp], rfl⟩
        case measure => simp [intOf]; omega
    · have hkn : k = n := by omega
      subst hkn
      go_wp2
      go_ret
      exact RetV.eq _ (by rw [ha]; rfl)

def two {α : Type} (a b : α) (i : Nat) : α := if i = 0 then a else b
def three {α : Type} (a b c : α) (i : Nat) : α := if i = 0 then a else if i = 1 then b else c

theorem posL3 (u v t : Option Nat) : posL (three u v t) 3 = (posB u && posB v && posB t) := by
  simp [posL, three]

theorem iPos3 {b x y z cap : Nat} {u v t : Option Nat} (w : World) (ix : Is .f32 x u) (iy : Is .f32 y v) (iz : Is .f32 z t) (c0 : w.cell? ⟨b, 0, none⟩ = some (.float .f32 x)) (c1 : w.cell? ⟨b, 1, none⟩ = some (.float .f32 y)) (c2 : w.cell? ⟨b, 2, none⟩ = some (.float .f32 z)) :
    Calls Tryd.prog 52 #[.slice (some ⟨b, 0, none⟩) 3 cap] w (RetV (.bool (posB u && posB v && posB t)) w) := by
  have h := iPosL b 3 cap (three x y z) (three u v t) w (by decide) (fun i hi => by match i, hi with | 0, _ => exact ix | 1, _ => exact iy | 2, _ => exact iz) (fun i hi => by match i, hi with | 0, _ => exact c0 | 1, _ => exact c1 | 2, _ => exact c2)
  rw [posL3] at h
  exact h

theorem posL2 (u v : Option Nat) : posL (two u v) 2 = (posB u && posB v) := by
  simp [posL, two]

theorem iPos2 {b x y cap : Nat} {u v : Option Nat} (w : World) (ix : Is .f32 x u) (iy : Is .f32 y v) (c0 : w.cell? ⟨b, 0, none⟩ = some (.float .f32 x)) (c1 : w.cell? ⟨b, 1, none⟩ = some (.float .f32 y)) :
    Calls Tryd.prog 52 #[.slice (some ⟨b, 0, none⟩) 2 cap] w (RetV (.bool (posB u && posB v)) w) := by
  have h := iPosL b 2 cap (two x y) (two u v) w (by decide) (fun i hi => by match i, hi with | 0, _ => exact ix | 1, _ => exact iy) (fun i hi => by match i, hi with | 0, _ => exact c0 | 1, _ => exact c1)
  rw [posL2] at h
  exact h
end Go.Proofs.YtbcbaejfafamjaaDoor
