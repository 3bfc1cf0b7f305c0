/-
  The logarithm of a number: the program and the model have one result, for every number; it is small where the number is finite and greater than 0; and the law: for every number its text returns true, and writes nothing that was there. No condition.
-/
import Derived.Test.YtocomofgobaonaaLogX
import Derived.Test.YtocomofgobaonaaFloor
namespace Go.Proofs.Ytocomofgobaonaa
open Go.RowKit

/-- What both tell. -/
def LogSame (u v L : Option Nat) : Prop :=
  Fit .f64 .f32 L ∧ (∀ y w, Is .f64 y v → Calls Try.prog 25 #[.float .f64 y] w (RetF .f64 L w)) ∧ (∀ y w, Is .f64 y v → Calls Try.prog 33 #[.float .f64 y] w (RetF .f64 L w)) ∧
    (finW v = true → cmpB .leq .f32 u (some 0) = false → SmO .f64 L 42)

theorem fit_inf (s : Bool) : Fit .f64 .f32 (some (FloatKind.f64.encode (.infinity s))) := by
  intro x hx
  cases hx
  cases s <;> rfl
theorem fit_nan : Fit .f64 .f32 none := fun _ h => by cases h

theorem log_nan {u v : Option Nat} (h : cmpB .neq .f64 v v = true ∨ (cmpB .neq .f64 v v = false ∧ cmpB .lss .f64 v (some 0) = true)) (hg : finW v = true → cmpB .leq .f32 u (some 0) = true) : LogSame u v none := by
  refine ⟨fit_nan, fun y w iy => ?_, fun y w iy => ?_, fun h1 h2 => by rw [hg h1] at h2; cases h2⟩
  · rcases h with h | ⟨h, h'⟩
    · go_enter Try.func25, Try.ntmps25
      go_wp2_with (first | (apply wpList_cmp; rfl; simp [Cmp]; rfl; rfl; (first | assumption | exact is_lit64 _ (by decide) | exact is_lit32 _ (by decide)); (first | assumption | exact is_lit64 _ (by decide) | exact is_lit32 _ (by decide)); intro Kq hKq; go_simp) | (go_at_call 35; refine (isNaN_any iy _).mono ?_; rintro eq wq ⟨nq, rfl, rfl⟩) | (go_at_call 36; refine (nanL_is _).mono ?_; rintro eq wq ⟨rq, nq, rfl, hq, rfl⟩))
      go_ret
      exact ⟨_, _, rfl, by assumption, rfl⟩
    · go_enter Try.func25, Try.ntmps25
      go_wp2_with (first | (apply wpList_cmp; rfl; simp [Cmp]; rfl; rfl; (first | assumption | exact is_lit64 _ (by decide) | exact is_lit32 _ (by decide)); (first | assumption | exact is_lit64 _ (by decide) | exact is_lit32 _ (by decide)); intro Kq hKq; go_simp) | (go_at_call 35; refine (isNaN_any iy _).mono ?_; rintro eq wq ⟨nq, rfl, rfl⟩) | (go_at_call 36; refine (nanL_is _).mono ?_; rintro eq wq ⟨rq, nq, rfl, hq, rfl⟩))
      go_ret
      exact ⟨_, _, rfl, by assumption, rfl⟩
  · rcases h with h | ⟨h, h'⟩
    · go_enter Try.func33, Try.ntmps33
      go_wp2_with (first | (apply wpList_cmp; rfl; simp [Cmp]; rfl; rfl; (first | assumption | exact is_lit64 _ (by decide) | exact is_lit32 _ (by decide)); (first | assumption | exact is_lit64 _ (by decide) | exact is_lit32 _ (by decide)); intro Kq hKq; go_simp) | (go_at_call 36; refine (nanL_is _).mono ?_; rintro eq wq ⟨rq, nq, rfl, hq, rfl⟩))
      go_ret
      exact ⟨_, _, rfl, by assumption, rfl⟩
    · go_enter Try.func33, Try.ntmps33
      go_wp2_with (first | (apply wpList_cmp; rfl; simp [Cmp]; rfl; rfl; (first | assumption | exact is_lit64 _ (by decide) | exact is_lit32 _ (by decide)); (first | assumption | exact is_lit64 _ (by decide) | exact is_lit32 _ (by decide)); intro Kq hKq; go_simp) | (go_at_call 36; refine (nanL_is _).mono ?_; rintro eq wq ⟨rq, nq, rfl, hq, rfl⟩))
      go_ret
      exact ⟨_, _, rfl, by assumption, rfl⟩

theorem log_zero {u v : Option Nat} (n1 : cmpB .neq .f64 v v = false) (n2 : cmpB .lss .f64 v (some 0) = false) (n3 : cmpB .eql .f64 v (some 0) = true) (hg : cmpB .leq .f32 u (some 0) = true) : LogSame u v (some negInf) := by
  refine ⟨fun x hx => by cases hx; rfl, fun y w iy => ?_, fun y w iy => ?_, fun _ h => by rw [hg] at h; cases h⟩
  · go_enter Try.func25, Try.ntmps25
    go_wp2_with (first | (apply wpList_cmp; rfl; simp [Cmp]; rfl; rfl; (first | assumption | exact is_lit64 _ (by decide) | exact is_lit32 _ (by decide)); (first | assumption | exact is_lit64 _ (by decide) | exact is_lit32 _ (by decide)); intro Kq hKq; go_simp) | (go_at_call 35; refine (isNaN_any iy _).mono ?_; rintro eq wq ⟨nq, rfl, rfl⟩) | (go_at_call 37; refine (ninf_is _).mono ?_; rintro eq wq ⟨rq, nq, rfl, hq, rfl⟩))
    go_ret
    exact ⟨_, _, rfl, by assumption, rfl⟩
  · go_enter Try.func33, Try.ntmps33
    go_wp2_with (first | (apply wpList_cmp; rfl; simp [Cmp]; rfl; rfl; (first | assumption | exact is_lit64 _ (by decide) | exact is_lit32 _ (by decide)); (first | assumption | exact is_lit64 _ (by decide) | exact is_lit32 _ (by decide)); intro Kq hKq; go_simp) | (go_at_call 37; refine (ninf_is _).mono ?_; rintro eq wq ⟨rq, nq, rfl, hq, rfl⟩))
    go_ret
    exact ⟨_, _, rfl, by assumption, rfl⟩

theorem log_inf {u v : Option Nat} (hf : Fit .f64 .f32 v) (n1 : cmpB .neq .f64 v v = false) (n2 : cmpB .lss .f64 v (some 0) = false) (n3 : cmpB .eql .f64 v (some 0) = false)
    (n4 : cmpB .gtr .f64 v (some 9218868437227405311) = true) (hg : finW v = false) : LogSame u v v := by
  refine ⟨hf, fun y w iy => ?_, fun y w iy => ?_, fun h => by rw [hg] at h; cases h⟩
  · go_enter Try.func25, Try.ntmps25
    go_wp2_with (first | (apply wpList_cmp; rfl; simp [Cmp]; rfl; rfl; (first | assumption | exact is_lit64 _ (by decide) | exact is_lit32 _ (by decide)); (first | assumption | exact is_lit64 _ (by decide) | exact is_lit32 _ (by decide)); intro Kq hKq; go_simp) | (go_at_call 35; refine (isNaN_any iy _).mono ?_; rintro eq wq ⟨nq, rfl, rfl⟩) | (go_at_call 38; refine (isInf1_any iy _).mono ?_; rintro eq wq ⟨nq, rfl, rfl⟩))
    go_ret
    exact ⟨_, _, rfl, by assumption, rfl⟩
  · go_enter Try.func33, Try.ntmps33
    go_wp2_with (first | (apply wpList_cmp; rfl; simp [Cmp]; rfl; rfl; (first | assumption | exact is_lit64 _ (by decide) | exact is_lit32 _ (by decide)); (first | assumption | exact is_lit64 _ (by decide) | exact is_lit32 _ (by decide)); intro Kq hKq; go_simp) | (go_at_call 38; refine (isInf1_any iy _).mono ?_; rintro eq wq ⟨nq, rfl, rfl⟩))
    go_ret
    exact ⟨_, _, rfl, by assumption, rfl⟩

theorem log_both {x : Nat} {v : Option Nat} (ix : Is .f32 x v) : ∃ L, LogSame v (cv .f32 .f64 v) L := by
  have hfit : ∀ y, cv .f32 .f64 v = some y → cmpB .neq .f64 (some y) (some y) = false := fun y hy => by
    have := cv_neq ix
    rw [hy] at this
    rw [this]
    cases v with
    | none => cases hy
    | some z => rfl
  rcases kind64 ix with h | ⟨s, h⟩ | ⟨y, s, e, h, hd, g⟩ | ⟨y, m, e, h, hd, hm, g⟩ | ⟨m, e, h, l, r⟩
  · rw [h]; exact ⟨_, log_nan (.inl rfl) (fun h => by cases h)⟩
  · have hn := hfit _ h
    rw [h]
    cases s with
    | true => exact ⟨_, log_nan (.inr ⟨hn, by decide⟩) (fun h => absurd h (by decide))⟩
    | false => exact ⟨_, log_inf (fit_inf false) hn (by decide) (by decide) (by decide) (by decide)⟩
  · have hn := hfit _ h
    rw [h]
    exact ⟨_, log_zero hn (by rw [lss_zero hd]; simp) (by rw [eql_zero hd]; rfl) g⟩
  · have hn := hfit _ h
    rw [h]
    exact ⟨_, log_nan (.inr ⟨hn, by rw [lss_zero hd]; simp [hm]⟩) (fun _ => g)⟩
  · have h' := h
    obtain ⟨b, hb, hlt, hd, hM⟩ := h'
    have hn := hfit _ hb
    rw [← hb] at hn
    obtain ⟨k1, l1, a1, b1, e1, hN1, hu1⟩ := hl_ends 400 h (by omega)
    have hlo : ∃ t : Nat, t ≤ 1500 ∧ -52 ≤ e1 + t := by
      obtain ⟨c, hc, hclt, hcd, _⟩ := hN1
      obtain ⟨_, f2, _⟩ := read_facts hclt hcd
      exact ⟨1500, Nat.le_refl _, by omega⟩
    obtain ⟨t, ht, ht'⟩ := hlo
    obtain ⟨k2, l2, a2, b2, e2, hN2, hl2, hu2⟩ := db_ends t hN1 ht' hu1
    have E : Ends (cv .f32 .f64 v) k1 k2 := ⟨by omega, by omega, a1, b1, a2, b2⟩
    have hle := sm_logN (h := (k1 : Int) - k2) hN2 hu2 (by omega)
    have n2 : cmpB .lss .f64 (cv .f32 .f64 v) (some 0) = false := by rw [hb, lss_zero hd]; rfl
    have n3 : cmpB .eql .f64 (cv .f32 .f64 v) (some 0) = false := by rw [hb, eql_zero hd]; simp; omega
    have n4 := gtr_most h r
    exact ⟨_, fit_le hle.2 (by decide), fun y w iy => logOf_main E iy hn n2 n3 n4 w, fun y w iy => specLog_main E iy hn n2 n3 n4 w, fun _ _ => hle⟩

theorem implLog_any {x : Nat} {v L : Option Nat} (ix : Is .f32 x v) (H : LogSame v (cv .f32 .f64 v) L) (w : World) :
    Calls Try.prog 16 #[.float .f32 x] w (RetF .f32 (cv .f64 .f32 L) w) := by
  obtain ⟨hf, hi, hs, -⟩ := H
  go_enter Try.func16, Try.ntmps16
  go_wp2_with (first | (apply wpList_wide und32 Try.underlying25; rfl; rfl; (first | assumption | exact is_lit64 _ (by decide) | exact is_lit32 _ (by decide)); intro Kq hKq rq nq hq; go_simp) | (apply wpList_cv .f64 .f32 (by decide) und64 Try.underlying22; rfl; rfl; (first | assumption | exact is_lit64 _ (by decide) | exact is_lit32 _ (by decide)); exact hf; intro Kq hKq rq nq hq; go_simp) | (go_at_call 25; refine (hi _ _ (by assumption)).mono ?_; rintro eq wq ⟨rq, nq, rfl, hq, rfl⟩))
  go_ret
  exact ⟨_, _, rfl, by assumption, rfl⟩

theorem specLog_any {x : Nat} {v L : Option Nat} (ix : Is .f32 x v) (H : LogSame v (cv .f32 .f64 v) L) (w : World) :
    Calls Try.prog 15 #[.float .f32 x] w (RetF .f32 (cv .f64 .f32 L) w) := by
  obtain ⟨hf, hi, hs, -⟩ := H
  go_enter Try.func15, Try.ntmps15
  go_wp2_with (first | (apply wpList_wide und32 Try.underlying25; rfl; rfl; (first | assumption | exact is_lit64 _ (by decide) | exact is_lit32 _ (by decide)); intro Kq hKq rq nq hq; go_simp) | (go_at_call 28; refine (narrow_any (by assumption) hf _).mono ?_; rintro eq wq ⟨rq, nq, rfl, hq, rfl⟩) | (go_at_call 33; refine (hs _ _ (by assumption)).mono ?_; rintro eq wq ⟨rq, nq, rfl, hq, rfl⟩) | go_in)
  go_ret
  exact ⟨_, _, rfl, by assumption, rfl⟩

theorem walk_FnExactLogNumber (x : Nat) (w : World) (hx : x < 2 ^ 32) :
    Calls Try.prog 6 #[.float .f32 x] w fun e w' => e = .returned (.bool true) ∧ Below w.heap.size w w' := by
  have ix : Is .f32 x (nrm .f32 x) := Is.self hx
  obtain ⟨L, H⟩ := log_both ix
  go_enter Try.func6, Try.ntmps6
  go_wp2_with (first | (apply wpList_wide und32 Try.underlying25; rfl; rfl; (first | assumption | exact is_lit64 _ (by decide) | exact is_lit32 _ (by decide)); intro Kq hKq rq nq hq; go_simp) | (go_at_call 15; refine (specLog_any ix H _).mono ?_; rintro eq wq ⟨rq, nq, rfl, hq, rfl⟩) | (go_at_call 16; refine (implLog_any ix H _).mono ?_; rintro eq wq ⟨rq, nq, rfl, hq, rfl⟩) | (go_at_call 9; refine (sameFloat_any (by assumption) (by assumption) _).mono ?_; rintro eq wq ⟨nq, rfl, rfl⟩))
  go_ret
  exact ⟨rfl, below_drewN (Below.refl _ _) _⟩
end Go.Proofs.Ytocomofgobaonaa
