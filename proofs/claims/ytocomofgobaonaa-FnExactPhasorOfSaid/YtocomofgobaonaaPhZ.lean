/-
  A point of the unit circle: for every number of turns the law's text returns true, and writes nothing that was there. No condition.
-/
import Derived.Test.YtocomofgobaonaaPhY
namespace Go.Proofs.Ytocomofgobaonaa
open Go.RowKit

theorem f32fromP (n : Int) (w : World) : (callFunc 42 #[.int .u32 n]).run Try.prog w = .ok (.value (.float .f32 n.toNat)) w := by
  rw [run_callFunc_extern Try.func42 (by kernel_rfl) (by kernel_rfl) (by kernel_rfl) (e := Extern.MathFloatBits.float32frombits) (by kernel_rfl)]; rfl

theorem fromNan (w : World) : Calls Try.prog 31 #[.int .i64 2143289344] w (RetF .f32 none w) := by
  have hf := f32fromP
  go_enter Try.func31, Try.ntmps31
  go_wp2
  go_ret
  exact ⟨_, 0, rfl, ⟨by decide, by decide⟩, rfl⟩

theorem part_none {y : Nat} {v : Option Nat} (iy : Is .f64 y v) (h : cmpB .neq .f64 (fo .sub .f64 v v) (some 0) = true) : partO v = none := by
  cases v with
  | none => rfl
  | some z =>
    obtain rfl := iy.notNaN
    cases hd : FloatKind.f64.decode y with
    | nan s f => have := iy.dec; rw [hd] at this; cases this
    | infinity s =>
      have ht : truncO (some y) = some (FloatKind.f64.encode (.infinity s)) := by
        unfold truncO
        simp only [Option.bind_some, hd]
        rfl
      unfold partO
      have hn : cmpB .neq .f64 (truncO (some y)) (some 0) = true := by rw [ht]; cases s <;> decide +kernel
      rw [hn, ht]
      simp only [if_true]
      unfold FloatKind.decode at hd
      have hi := inf_write .f64 s
      unfold FloatKind.decode at hi
      simp [fo, floatBits, Ieee.Format.sub, hd, hi, Ieee.Datum.opposite, Ieee.Datum.sum]
    | number s m e =>
      rw [self_sub hd] at h
      exact absurd h (by decide)

theorem phOne : cv .f64 .f32 (sinP (fo .sub .f64 qr64 (some 0))) = some 1065353216 := by decide +kernel
theorem phB0 : cmpB .geq .f64 (qN (some 0) 0) qr64 = false := by decide +kernel
theorem phZero : cv .f64 .f32 (sinP (some 0)) = some 0 := by decide +kernel

theorem ph_both {x : Nat} {v : Option Nat} (ix : Is .f64 x v) : ∃ a b, (∀ w, Calls Try.prog 11 #[.float .f64 x] w (RetC .f32 a b w)) ∧ (∀ w, Calls Try.prog 19 #[.float .f64 x] w (RetC .f32 a b w)) := by
  cases hn : cmpB .neq .f64 (fo .sub .f64 v v) (some 0) with
  | true =>
    have hp := part_none ix hn
    refine ⟨none, none, fun w => ?_, fun w => ?_⟩
    · have h := implPh_any (k := 0) ix (by decide) (fun j hj => absurd hj (Nat.not_lt_zero _)) (by rw [hp]; rfl) w
      rw [hp] at h
      have e1 : sinP (fo .sub .f64 qr64 (qN (up1 none) 0)) = none := sinF_none
      have e2 : sinP (qN (up1 none) 0) = none := sinF_none
      rw [e1, e2] at h
      exact h
    · clear hp
      go_enter Try.func19, Try.ntmps19
      go_wp2_with (first | (apply wpList_cmp; rfl; simp [Cmp]; rfl; rfl; (first | assumption | exact is_lit64 _ (by decide) | exact is_lit32 _ (by decide)); (first | assumption | exact is_lit64 _ (by decide) | exact is_lit32 _ (by decide)); intro Kq hKq; go_simp) | (apply wpList_arith; rfl; simp [Arith]; rfl; rfl; (first | assumption | exact is_lit64 _ (by decide) | exact is_lit32 _ (by decide)); (first | assumption | exact is_lit64 _ (by decide) | exact is_lit32 _ (by decide)); intro Kq hKq rq nq hq; go_simp) | (go_at_call 31; refine (fromNan _).mono ?_; rintro eq wq ⟨rq, nq, rfl, hq, rfl⟩))
      go_ret
      exact ⟨_, _, _, rfl, by assumption, by assumption, rfl⟩
  | false =>
    cases v with
    | none => exact absurd hn (by decide)
    | some z =>
      obtain rfl := ix.notNaN
      cases hd : FloatKind.f64.decode x with
      | nan s f => have := ix.dec; rw [hd] at this; cases this
      | infinity s =>
        exfalso
        have h1 : fo .sub .f64 (some x) (some x) = none := by
          unfold FloatKind.decode at hd
          simp [fo, floatBits, Ieee.Format.sub, hd, Ieee.Datum.opposite, Ieee.Datum.sum]
        rw [h1] at hn
        cases hn
      | number s m e =>
        have hc := great_cmp ix.2 hd
        by_cases he : 0 ≤ e
        · have hp := part_great ix.2 hd he
          rw [decide_eq_true he] at hc
          refine ⟨some 1065353216, some 0, fun w => ?_, fun w => ?_⟩
          · have hu : up1 (some 0) = some 0 := by decide
            have h := implPh_any (k := 0) ix (by decide) (fun j hj => absurd hj (Nat.not_lt_zero _)) (by simpa only [hp, hu] using phB0) w
            rw [hp, hu] at h
            have e1 : cv .f64 .f32 (phA 0 (sinP (fo .sub .f64 qr64 (qN (some 0) 0))) (sinP (qN (some 0) 0))) = some 1065353216 := by simp only [phA, qN, Nat.reduceEqDiff, reduceIte]; exact phOne
            have e2 : cv .f64 .f32 (phB 0 (sinP (fo .sub .f64 qr64 (qN (some 0) 0))) (sinP (qN (some 0) 0))) = some 0 := by simp only [phB, qN, Nat.reduceEqDiff, reduceIte]; exact phZero
            rw [e1, e2] at h
            exact h
          · clear hp
            cases hg : cmpB .geq .f64 (some x) (some 4841369599423283200) with
            | true =>
              go_enter Try.func19, Try.ntmps19
              go_wp2_with (first | (apply wpList_cmp; rfl; simp [Cmp]; rfl; rfl; (first | assumption | exact is_lit64 _ (by decide) | exact is_lit32 _ (by decide)); (first | assumption | exact is_lit64 _ (by decide) | exact is_lit32 _ (by decide)); intro Kq hKq; go_simp) | (apply wpList_arith; rfl; simp [Arith]; rfl; rfl; (first | assumption | exact is_lit64 _ (by decide) | exact is_lit32 _ (by decide)); (first | assumption | exact is_lit64 _ (by decide) | exact is_lit32 _ (by decide)); intro Kq hKq rq nq hq; go_simp))
              go_ret
              exact ⟨_, _, _, rfl, is_lit32 _ (by decide), is_lit32 _ (by decide), rfl⟩
            | false =>
              rw [hg, Bool.false_or] at hc
              go_enter Try.func19, Try.ntmps19
              go_wp2_with (first | (apply wpList_cmp; rfl; simp [Cmp]; rfl; rfl; (first | assumption | exact is_lit64 _ (by decide) | exact is_lit32 _ (by decide)); (first | assumption | exact is_lit64 _ (by decide) | exact is_lit32 _ (by decide)); intro Kq hKq; go_simp) | (apply wpList_arith; rfl; simp [Arith]; rfl; rfl; (first | assumption | exact is_lit64 _ (by decide) | exact is_lit32 _ (by decide)); (first | assumption | exact is_lit64 _ (by decide) | exact is_lit32 _ (by decide)); intro Kq hKq rq nq hq; go_simp))
              go_ret
              exact ⟨_, _, _, rfl, is_lit32 _ (by decide), is_lit32 _ (by decide), rfl⟩
        · have he' : e < 0 := by omega
          rw [decide_eq_false he, Bool.or_eq_false_iff] at hc
          obtain ⟨hP, hL, hb⟩ := part_small ix.2 hd he'
          have hi := int_num hd
          have hI : intN (some x) = Ieee.signed s (m <<< e.toNat / 2 ^ (-e).toNat) 0 := by
            show ((FloatKind.f64.decode x).toInt .zero).getD 0 = _
            rw [hi]; rfl
          rw [← hI] at hi
          have hv : ∀ b, partO (some x) = some b → b < 2 ^ 64 := fun b h => by
            rw [hP] at h; exact fo_lt h
          obtain ⟨u1, u2, u3⟩ := up1_unit hv hL
          obtain ⟨k, hk, ha, hb'⟩ := q_ends u3 u1 u2
          exact ⟨_, _, fun w => implPh_any ix hk ha hb' w, fun w => specPh_main ix hi (Nat.lt_of_lt_of_le hb (by decide)) hn hc.1 hc.2 (by rw [hP]) hk ha hb' w⟩

theorem walk_FnExactPhasorOf (x : Nat) (w : World) (hx : x < 2 ^ 64) :
    Calls Try.prog 4 #[.float .f64 x] w fun e w' => e = .returned (.bool true) ∧ Below w.heap.size w w' := by
  have ix : Is .f64 x (nrm .f64 x) := Is.self hx
  obtain ⟨a, b, hi, hs⟩ := ph_both ix
  go_enter Try.func4, Try.ntmps4
  go_wp2_with (first | (go_at_call 11; refine (hi _).mono ?_; rintro eq wq ⟨r1, r2, nq, rfl, ha1, hb1, rfl⟩) | (go_at_call 19; refine (hs _).mono ?_; rintro eq wq ⟨r1, r2, nq, rfl, ha2, hb2, rfl⟩) | (go_at_call 10; go_in) | (apply wpList_cvC; exact Try.underlying27; exact Try.underlying30; rfl; rfl; (first | exact ha1 | exact ha2); (first | exact hb1 | exact hb2); intro Kq hKq rq sq nq hq1 hq2; go_simp) | (go_at_call 12; refine (sameComplex_any (by assumption) (by assumption) (by assumption) (by assumption) _).mono ?_; rintro eq wq ⟨nq, rfl, rfl⟩))
  go_ret
  exact ⟨rfl, below_drewN (Below.refl _ _) _⟩
end Go.Proofs.Ytocomofgobaonaa
