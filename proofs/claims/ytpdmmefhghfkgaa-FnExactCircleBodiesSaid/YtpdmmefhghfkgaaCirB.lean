/-
  Two bodies that go in circles, of the program and of the model. No condition.
-/
import Derived.Test.YtpdmmefhghfkgaaGive
import Derived.Test.YtpdmmefhghfkgaaAbove
import Derived.Test.YtpdmmefhghfkgaaRootO
import Derived.Test.YtpdmmefhghfkgaaSing
import Derived.Test.YtpdmmefhghfkgaaHas
namespace Go.Proofs.Ytpdmmefhghfkgaa
open Go.RowKit

def cbX (m o p : Option Nat) : Option Nat := negO .f32 (fo .quo .f32 (fo .mul .f32 p o) (fo .add .f32 m o))
def cbY (m o p : Option Nat) : Option Nat := fo .quo .f32 (fo .mul .f32 p m) (fo .add .f32 m o)
def cbW (m o p : Option Nat) : Option Nat := rootO (fo .quo .f32 (fo .add .f32 m o) (fo .mul .f32 (fo .mul .f32 p p) p))
/-- The values of both bodies. -/
def cbV (m o p : Option Nat) (j : Nat) : Option Nat := if j = 0 then cbX m o p else if j = 4 then fo .mul .f32 (cbW m o p) (cbX m o p) else if j = 6 then m else if j = 7 then cbY m o p else if j = 11 then fo .mul .f32 (cbW m o p) (cbY m o p) else if j = 13 then o else some 0
/-- Whether they are handed back. -/
def cbOk (m o p : Option Nat) : Bool := leastB m && leastB o && aboveB (fo .add .f32 m o) && aboveB p && areB (cbV m o p) 2

theorem iTC {x : Nat} {p : Option Nat} (ix : Is .f32 x p) (w : World) :
    Calls Try.prog 21 #[.float .f32 1065353216, .float .f32 x] w (RetF .f32 (fo .mul .f32 (fo .mul .f32 p p) p) w) := by
  have h1 : Is .f32 1065353216 (some 1065353216) := is_lit32 _ (by decide)
  have e := one_mul32 ix
  go_enter Try.func21, Try.ntmps21
  go_wp2_with (apply wpList_arith; rfl; simp [Arith]; rfl; rfl; (first | assumption | exact is_lit64 _ (by decide) | exact is_lit32 _ (by decide)); (first | assumption | exact is_lit64 _ (by decide) | exact is_lit32 _ (by decide)); intro Kq hKq rq nq hq; go_simp)
  go_ret
  refine ⟨_, _, rfl, ?_, rfl⟩
  rename_i hq
  rw [e] at hq
  exact hq

def cbR (q0 q4 a q7 q11 b : Nat) (j : Nat) : Nat := if j = 0 then q0 else if j = 4 then q4 else if j = 6 then a else if j = 7 then q7 else if j = 11 then q11 else if j = 13 then b else 0
theorem zeroS : Is .f32 0 (some 0) := is_lit32 0 (by decide)

theorem cbIs {q0 q4 a q7 q11 b : Nat} {m o p : Option Nat} (i0 : Is .f32 q0 (cbX m o p)) (i4 : Is .f32 q4 (fo .mul .f32 (cbW m o p) (cbX m o p))) (i6 : Is .f32 a m) (i7 : Is .f32 q7 (cbY m o p)) (i11 : Is .f32 q11 (fo .mul .f32 (cbW m o p) (cbY m o p))) (i13 : Is .f32 b o) :
    ∀ i, i < 7 * 2 → Is .f32 (cbR q0 q4 a q7 q11 b i) (cbV m o p i) := by
  intro i _
  by_cases e0 : i = 0
  · subst e0; exact i0
  by_cases e4 : i = 4
  · subst e4; exact i4
  by_cases e6 : i = 6
  · subst e6; exact i6
  by_cases e7 : i = 7
  · subst e7; exact i7
  by_cases e11 : i = 11
  · subst e11; exact i11
  by_cases e13 : i = 13
  · subst e13; exact i13
  simp only [cbR, cbV, e0, e4, e6, e7, e11, e13, if_false]
  exact zeroS

theorem cbOwn (q0 q4 a q7 q11 b : Nat) (X : World) (T : TypeId) : Own (X.alloc (.cells #[.float .f32 q0, .float .f32 0, .float .f32 0, .float .f32 0, .float .f32 q4, .float .f32 0, .float .f32 a, .float .f32 q7, .float .f32 0, .float .f32 0, .float .f32 0, .float .f32 q11, .float .f32 0, .float .f32 b] T)) X.heap.size (7 * 2) (wordV (cbR q0 q4 a q7 q11 b)) := by
  refine Own.of_row (World.rowIs_alloc X _ T _ (fun i hi => ?_))
  have hi' : i < 14 := hi
  match i, hi' with
  | 0, _ => rfl
  | 1, _ => rfl
  | 2, _ => rfl
  | 3, _ => rfl
  | 4, _ => rfl
  | 5, _ => rfl
  | 6, _ => rfl
  | 7, _ => rfl
  | 8, _ => rfl
  | 9, _ => rfl
  | 10, _ => rfl
  | 11, _ => rfl
  | 12, _ => rfl
  | 13, _ => rfl

theorem cbOwn' (q0 q4 a q7 q11 b : Nat) (X : World) (T : TypeId) {k : Nat} (h : k = X.heap.size) : Own (X.alloc (.cells #[.float .f32 q0, .float .f32 0, .float .f32 0, .float .f32 0, .float .f32 q4, .float .f32 0, .float .f32 a, .float .f32 q7, .float .f32 0, .float .f32 0, .float .f32 0, .float .f32 q11, .float .f32 0, .float .f32 b] T)) k (7 * 2) (wordV (cbR q0 q4 a q7 q11 b)) := by
  subst h; exact cbOwn ..
theorem cells7z (w : World) (T : TypeId) : ∀ i, i < 7 → (w.alloc (.cells #[.float .f32 0, .float .f32 0, .float .f32 0, .float .f32 0, .float .f32 0, .float .f32 0, .float .f32 0] T)).cell? ⟨w.heap.size, i, none⟩ = some (.float .f32 0) := by
  intro i hi
  match i, hi with
  | 0, _ => simp
  | 1, _ => simp
  | 2, _ => simp
  | 3, _ => simp
  | 4, _ => simp
  | 5, _ => simp
  | 6, _ => simp
theorem has_drewN7 (w : World) (N : Nat) (a0 a1 a2 a3 a4 a5 a6 : Value) (T : TypeId) : Has w.heap.size 7 ((w.drewN N).alloc (.cells #[a0, a1, a2, a3, a4, a5, a6] T)) := has_alloc7 (w.drewN N) a0 a1 a2 a3 a4 a5 a6 T
theorem has_drewN7b (w : World) (N : Nat) (c : Array Value) (a0 a1 a2 a3 a4 a5 a6 : Value) (T S : TypeId) : Has (w.heap.size + 1) 7 (((w.drewN N).alloc (.cells c S)).alloc (.cells #[a0, a1, a2, a3, a4, a5, a6] T)) := by
  have h := has_alloc7 ((w.drewN N).alloc (.cells c S)) a0 a1 a2 a3 a4 a5 a6 T
  simpa using h

set_option maxHeartbeats 1600000 in
theorem iCirB {a b c : Nat} {m o p : Option Nat} (ia : Is .f32 a m) (ib : Is .f32 b o) (ic : Is .f32 c p) (w : World) :
    Calls Try.prog 6 #[.float .f32 a, .float .f32 b, .float .f32 c] w (RetList (cbV m o p) 2 (cbOk m o p) w) := by
  have hst := run_store_float Try.prog
  have IT := fun {x : Nat} (ix : Is .f32 x (fo .add .f32 m o)) w => iAbove ix w
  have IL := fun w => iLeast ia w
  have IM := fun w => iLeast ib w
  have IP := fun w => iAbove ic w
  unfold cbOk
  cases h1 : leastB m with
  | false =>
    rw [h1] at IL
    go_enter Try.func6, Try.ntmps6
    go_wp2_with (first | (apply wpList_arith; rfl; simp [Arith]; rfl; rfl; (first | assumption | exact is_lit64 _ (by decide) | exact is_lit32 _ (by decide)); (first | assumption | exact is_lit64 _ (by decide) | exact is_lit32 _ (by decide)); intro Kq hKq rq nq hq; go_simp) | (go_at_call 18; (with_reducible refine (IL _).mono ?_); rintro eq wq ⟨nq, rfl, rfl⟩))
    go_ret2
    exact RetList.no (by repeat' (first | with_reducible exact Below.refl _ _ | with_reducible assumption | (with_reducible refine Below.setCell ?_ (by first | omega | (simp; done) | (simp; omega)) _) | (with_reducible refine Below.alloc ?_ (by first | omega | (simp; done) | (simp; omega)) _) | (with_reducible refine below_drewN ?_ _) | (with_reducible refine Below.drew ?_) | (with_reducible refine Below.trans ?_ (Below.mono (by first | (with_reducible assumption) | exact Grow.below (by assumption)) (by first | omega | (simp; done) | (simp; omega))))))
  | true =>
    rw [h1] at IL
    cases h2 : leastB o with
    | false =>
      rw [h2] at IM
      go_enter Try.func6, Try.ntmps6
      go_wp2_with (first | (apply wpList_arith; rfl; simp [Arith]; rfl; rfl; (first | assumption | exact is_lit64 _ (by decide) | exact is_lit32 _ (by decide)); (first | assumption | exact is_lit64 _ (by decide) | exact is_lit32 _ (by decide)); intro Kq hKq rq nq hq; go_simp) | (go_at_call 18; (with_reducible refine (IL _).mono ?_); rintro eq wq ⟨nq, rfl, rfl⟩) | (go_at_call 18; (with_reducible refine (IM _).mono ?_); rintro eq wq ⟨nq, rfl, rfl⟩))
      go_ret2
      exact RetList.no (by repeat' (first | with_reducible exact Below.refl _ _ | with_reducible assumption | (with_reducible refine Below.setCell ?_ (by first | omega | (simp; done) | (simp; omega)) _) | (with_reducible refine Below.alloc ?_ (by first | omega | (simp; done) | (simp; omega)) _) | (with_reducible refine below_drewN ?_ _) | (with_reducible refine Below.drew ?_) | (with_reducible refine Below.trans ?_ (Below.mono (by first | (with_reducible assumption) | exact Grow.below (by assumption)) (by first | omega | (simp; done) | (simp; omega))))))
    | true =>
      rw [h2] at IM
      cases h3 : aboveB (fo .add .f32 m o) with
      | false =>
        rw [h3] at IT
        go_enter Try.func6, Try.ntmps6
        go_wp2_with (first | (apply wpList_arith; rfl; simp [Arith]; rfl; rfl; (first | assumption | exact is_lit64 _ (by decide) | exact is_lit32 _ (by decide)); (first | assumption | exact is_lit64 _ (by decide) | exact is_lit32 _ (by decide)); intro Kq hKq rq nq hq; go_simp) | (go_at_call 18; (with_reducible refine (IL _).mono ?_); rintro eq wq ⟨nq, rfl, rfl⟩) | (go_at_call 18; (with_reducible refine (IM _).mono ?_); rintro eq wq ⟨nq, rfl, rfl⟩) | (go_at_call 19; (with_reducible refine (IT (by with_reducible assumption) _).mono ?_); rintro eq wq ⟨nq, rfl, rfl⟩))
        go_ret2
        exact RetList.no (by repeat' (first | with_reducible exact Below.refl _ _ | with_reducible assumption | (with_reducible refine Below.setCell ?_ (by first | omega | (simp; done) | (simp; omega)) _) | (with_reducible refine Below.alloc ?_ (by first | omega | (simp; done) | (simp; omega)) _) | (with_reducible refine below_drewN ?_ _) | (with_reducible refine Below.drew ?_) | (with_reducible refine Below.trans ?_ (Below.mono (by first | (with_reducible assumption) | exact Grow.below (by assumption)) (by first | omega | (simp; done) | (simp; omega))))))
      | true =>
        rw [h3] at IT
        cases h4 : aboveB p with
        | false =>
          rw [h4] at IP
          go_enter Try.func6, Try.ntmps6
          go_wp2_with (first | (apply wpList_arith; rfl; simp [Arith]; rfl; rfl; (first | assumption | exact is_lit64 _ (by decide) | exact is_lit32 _ (by decide)); (first | assumption | exact is_lit64 _ (by decide) | exact is_lit32 _ (by decide)); intro Kq hKq rq nq hq; go_simp) | (go_at_call 18; (with_reducible refine (IL _).mono ?_); rintro eq wq ⟨nq, rfl, rfl⟩) | (go_at_call 18; (with_reducible refine (IM _).mono ?_); rintro eq wq ⟨nq, rfl, rfl⟩) | (go_at_call 19; (with_reducible refine (IT (by with_reducible assumption) _).mono ?_); rintro eq wq ⟨nq, rfl, rfl⟩) | (go_at_call 19; (with_reducible refine (IP _).mono ?_); rintro eq wq ⟨nq, rfl, rfl⟩))
          go_ret2
          exact RetList.no (by repeat' (first | with_reducible exact Below.refl _ _ | with_reducible assumption | (with_reducible refine Below.setCell ?_ (by first | omega | (simp; done) | (simp; omega)) _) | (with_reducible refine Below.alloc ?_ (by first | omega | (simp; done) | (simp; omega)) _) | (with_reducible refine below_drewN ?_ _) | (with_reducible refine Below.drew ?_) | (with_reducible refine Below.trans ?_ (Below.mono (by first | (with_reducible assumption) | exact Grow.below (by assumption)) (by first | omega | (simp; done) | (simp; omega))))))
        | true =>
          rw [h4] at IP
          rw [show (true && true && true && true && areB (cbV m o p) 2) = areB (cbV m o p) 2 from rfl]
          generalize hR : RetList (cbV m o p) 2 (areB (cbV m o p) 2) w = R
          have HR := Lib.hid hR
          clear hR h1 h2 h3 h4
          go_enter Try.func6, Try.ntmps6
          go_wp2_with (first | (apply wpList_arith; rfl; simp [Arith]; rfl; rfl; (first | assumption | exact is_lit64 _ (by decide) | exact is_lit32 _ (by decide)); (first | assumption | exact is_lit64 _ (by decide) | exact is_lit32 _ (by decide)); intro Kq hKq rq nq hq; go_simp) | (apply wpList_neg; rfl; rfl; (first | assumption | exact is_lit64 _ (by decide) | exact is_lit32 _ (by decide)); intro Kq hKq rq hq; go_simp) | (go_at_call 18; (with_reducible refine (IL _).mono ?_); rintro eq wq ⟨nq, rfl, rfl⟩) | (go_at_call 18; (with_reducible refine (IM _).mono ?_); rintro eq wq ⟨nq, rfl, rfl⟩) | (go_at_call 19; (with_reducible refine (IT (by with_reducible assumption) _).mono ?_); rintro eq wq ⟨nq, rfl, rfl⟩) | (go_at_call 19; (with_reducible refine (IP _).mono ?_); rintro eq wq ⟨nq, rfl, rfl⟩) | (go_at_call 21; refine (iTC ic _).mono ?_; rintro eq wq ⟨rq, nq, rfl, hq, rfl⟩) | (go_at_call 20; refine (root_any (by assumption) _).mono ?_; rintro eq wq ⟨rq, nq, rfl, hq, rfl⟩))
          have E := quo_neg (k := .f32) (u := fo .mul .f32 p o) (v := fo .add .f32 m o) (by assumption)
          simp only [E] at *
          have HU := cbIs (m := m) (o := o) (p := p) (by assumption) (by assumption) ia (by assumption) (by assumption) ib
          refine (iCheckedG w.heap.size 2 2 _ (cbV m o p) _ (by decide) (cbOwn _ _ _ _ _ _ (w.drewN _) _) HU).mono ?_
          rintro _ W ⟨⟨vv, rfl, ht, hf⟩, hb⟩
          go_wp2_with fail
          show R (.returned (.tuple #[vv, .bool (areB (cbV m o p) 2)])) W
          rw [← HR.out]
          exact retGive ht hf (Nat.le_refl _) (by repeat' (first | with_reducible exact Below.refl _ _ | with_reducible assumption | (with_reducible refine Below.setCell ?_ (by first | omega | (simp; done) | (simp; omega)) _) | (with_reducible refine Below.alloc ?_ (by first | omega | (simp; done) | (simp; omega)) _) | (with_reducible refine below_drewN ?_ _) | (with_reducible refine Below.drew ?_) | (with_reducible refine Below.trans ?_ (Below.mono (by first | (with_reducible assumption) | exact Grow.below (by assumption)) (by first | omega | (simp; done) | (simp; omega)))))) (cbOwn _ _ _ _ _ _ (w.drewN _) _) HU hb
set_option maxHeartbeats 1600000 in
theorem sCirB {a b c : Nat} {m o p : Option Nat} (ia : Is .f32 a m) (ib : Is .f32 b o) (ic : Is .f32 c p) (w : World) :
    Calls Try.prog 5 #[.float .f32 a, .float .f32 b, .float .f32 c] w (RetList (cbV m o p) 2 (cbOk m o p) w) := by
  have hst := run_store_float Try.prog
  have IT := fun {x : Nat} (ix : Is .f32 x (fo .add .f32 m o)) w => sAbove ix w
  have IL := fun w => sLeast ia w
  have IM := fun w => sLeast ib w
  have IP := fun w => sAbove ic w
  unfold cbOk
  cases h1 : leastB m with
  | false =>
    rw [h1] at IL
    go_enter Try.func5, Try.ntmps5
    go_wp2_with (first | (apply wpList_arith; rfl; simp [Arith]; rfl; rfl; (first | assumption | exact is_lit64 _ (by decide) | exact is_lit32 _ (by decide)); (first | assumption | exact is_lit64 _ (by decide) | exact is_lit32 _ (by decide)); intro Kq hKq rq nq hq; go_simp) | (go_at_call 14; (with_reducible refine (IL _).mono ?_); rintro eq wq ⟨nq, rfl, rfl⟩))
    go_ret2
    exact RetList.no (by repeat' (first | with_reducible exact Below.refl _ _ | with_reducible assumption | (with_reducible refine Below.setCell ?_ (by first | omega | (simp; done) | (simp; omega)) _) | (with_reducible refine Below.alloc ?_ (by first | omega | (simp; done) | (simp; omega)) _) | (with_reducible refine below_drewN ?_ _) | (with_reducible refine Below.drew ?_) | (with_reducible refine Below.trans ?_ (Below.mono (by first | (with_reducible assumption) | exact Grow.below (by assumption)) (by first | omega | (simp; done) | (simp; omega))))))
  | true =>
    rw [h1] at IL
    cases h2 : leastB o with
    | false =>
      rw [h2] at IM
      go_enter Try.func5, Try.ntmps5
      go_wp2_with (first | (apply wpList_arith; rfl; simp [Arith]; rfl; rfl; (first | assumption | exact is_lit64 _ (by decide) | exact is_lit32 _ (by decide)); (first | assumption | exact is_lit64 _ (by decide) | exact is_lit32 _ (by decide)); intro Kq hKq rq nq hq; go_simp) | (go_at_call 14; (with_reducible refine (IL _).mono ?_); rintro eq wq ⟨nq, rfl, rfl⟩) | (go_at_call 14; (with_reducible refine (IM _).mono ?_); rintro eq wq ⟨nq, rfl, rfl⟩))
      go_ret2
      exact RetList.no (by repeat' (first | with_reducible exact Below.refl _ _ | with_reducible assumption | (with_reducible refine Below.setCell ?_ (by first | omega | (simp; done) | (simp; omega)) _) | (with_reducible refine Below.alloc ?_ (by first | omega | (simp; done) | (simp; omega)) _) | (with_reducible refine below_drewN ?_ _) | (with_reducible refine Below.drew ?_) | (with_reducible refine Below.trans ?_ (Below.mono (by first | (with_reducible assumption) | exact Grow.below (by assumption)) (by first | omega | (simp; done) | (simp; omega))))))
    | true =>
      rw [h2] at IM
      cases h3 : aboveB (fo .add .f32 m o) with
      | false =>
        rw [h3] at IT
        go_enter Try.func5, Try.ntmps5
        go_wp2_with (first | (apply wpList_arith; rfl; simp [Arith]; rfl; rfl; (first | assumption | exact is_lit64 _ (by decide) | exact is_lit32 _ (by decide)); (first | assumption | exact is_lit64 _ (by decide) | exact is_lit32 _ (by decide)); intro Kq hKq rq nq hq; go_simp) | (go_at_call 14; (with_reducible refine (IL _).mono ?_); rintro eq wq ⟨nq, rfl, rfl⟩) | (go_at_call 14; (with_reducible refine (IM _).mono ?_); rintro eq wq ⟨nq, rfl, rfl⟩) | (go_at_call 15; (with_reducible refine (IT (by with_reducible assumption) _).mono ?_); rintro eq wq ⟨nq, rfl, rfl⟩))
        go_ret2
        exact RetList.no (by repeat' (first | with_reducible exact Below.refl _ _ | with_reducible assumption | (with_reducible refine Below.setCell ?_ (by first | omega | (simp; done) | (simp; omega)) _) | (with_reducible refine Below.alloc ?_ (by first | omega | (simp; done) | (simp; omega)) _) | (with_reducible refine below_drewN ?_ _) | (with_reducible refine Below.drew ?_) | (with_reducible refine Below.trans ?_ (Below.mono (by first | (with_reducible assumption) | exact Grow.below (by assumption)) (by first | omega | (simp; done) | (simp; omega))))))
      | true =>
        rw [h3] at IT
        cases h4 : aboveB p with
        | false =>
          rw [h4] at IP
          go_enter Try.func5, Try.ntmps5
          go_wp2_with (first | (apply wpList_arith; rfl; simp [Arith]; rfl; rfl; (first | assumption | exact is_lit64 _ (by decide) | exact is_lit32 _ (by decide)); (first | assumption | exact is_lit64 _ (by decide) | exact is_lit32 _ (by decide)); intro Kq hKq rq nq hq; go_simp) | (go_at_call 14; (with_reducible refine (IL _).mono ?_); rintro eq wq ⟨nq, rfl, rfl⟩) | (go_at_call 14; (with_reducible refine (IM _).mono ?_); rintro eq wq ⟨nq, rfl, rfl⟩) | (go_at_call 15; (with_reducible refine (IT (by with_reducible assumption) _).mono ?_); rintro eq wq ⟨nq, rfl, rfl⟩) | (go_at_call 15; (with_reducible refine (IP _).mono ?_); rintro eq wq ⟨nq, rfl, rfl⟩))
          go_ret2
          exact RetList.no (by repeat' (first | with_reducible exact Below.refl _ _ | with_reducible assumption | (with_reducible refine Below.setCell ?_ (by first | omega | (simp; done) | (simp; omega)) _) | (with_reducible refine Below.alloc ?_ (by first | omega | (simp; done) | (simp; omega)) _) | (with_reducible refine below_drewN ?_ _) | (with_reducible refine Below.drew ?_) | (with_reducible refine Below.trans ?_ (Below.mono (by first | (with_reducible assumption) | exact Grow.below (by assumption)) (by first | omega | (simp; done) | (simp; omega))))))
        | true =>
          rw [h4] at IP
          rw [show (true && true && true && true && areB (cbV m o p) 2) = areB (cbV m o p) 2 from rfl]
          have fA : ∀ N o, ((w.drewN N).alloc (.cells #[.float .f32 0, .float .f32 0, .float .f32 0, .float .f32 0, .float .f32 0, .float .f32 0, .float .f32 0] 39)).frozen? ⟨w.heap.size, o, none⟩ = false := fun N o => (has_drewN7 w N _ _ _ _ _ _ _ _).frz o
          have cA0 : ∀ N, ((w.drewN N).alloc (.cells #[.float .f32 0, .float .f32 0, .float .f32 0, .float .f32 0, .float .f32 0, .float .f32 0, .float .f32 0] 39)).cell? ⟨w.heap.size, 0, none⟩ = some (.float .f32 0) := fun N => cells7z (w.drewN N) _ 0 (by decide)
          have cA1 : ∀ N, ((w.drewN N).alloc (.cells #[.float .f32 0, .float .f32 0, .float .f32 0, .float .f32 0, .float .f32 0, .float .f32 0, .float .f32 0] 39)).cell? ⟨w.heap.size, 1, none⟩ = some (.float .f32 0) := fun N => cells7z (w.drewN N) _ 1 (by decide)
          have cA2 : ∀ N, ((w.drewN N).alloc (.cells #[.float .f32 0, .float .f32 0, .float .f32 0, .float .f32 0, .float .f32 0, .float .f32 0, .float .f32 0] 39)).cell? ⟨w.heap.size, 2, none⟩ = some (.float .f32 0) := fun N => cells7z (w.drewN N) _ 2 (by decide)
          have cA3 : ∀ N, ((w.drewN N).alloc (.cells #[.float .f32 0, .float .f32 0, .float .f32 0, .float .f32 0, .float .f32 0, .float .f32 0, .float .f32 0] 39)).cell? ⟨w.heap.size, 3, none⟩ = some (.float .f32 0) := fun N => cells7z (w.drewN N) _ 3 (by decide)
          have cA4 : ∀ N, ((w.drewN N).alloc (.cells #[.float .f32 0, .float .f32 0, .float .f32 0, .float .f32 0, .float .f32 0, .float .f32 0, .float .f32 0] 39)).cell? ⟨w.heap.size, 4, none⟩ = some (.float .f32 0) := fun N => cells7z (w.drewN N) _ 4 (by decide)
          have cA5 : ∀ N, ((w.drewN N).alloc (.cells #[.float .f32 0, .float .f32 0, .float .f32 0, .float .f32 0, .float .f32 0, .float .f32 0, .float .f32 0] 39)).cell? ⟨w.heap.size, 5, none⟩ = some (.float .f32 0) := fun N => cells7z (w.drewN N) _ 5 (by decide)
          have cA6 : ∀ N, ((w.drewN N).alloc (.cells #[.float .f32 0, .float .f32 0, .float .f32 0, .float .f32 0, .float .f32 0, .float .f32 0, .float .f32 0] 39)).cell? ⟨w.heap.size, 6, none⟩ = some (.float .f32 0) := fun N => cells7z (w.drewN N) _ 6 (by decide)
          generalize hR : RetList (cbV m o p) 2 (areB (cbV m o p) 2) w = R
          have HR := Lib.hid hR
          clear hR h1 h2 h3 h4
          go_enter Try.func5, Try.ntmps5
          go_wp2_with (first | (apply wpList_arith; rfl; simp [Arith]; rfl; rfl; (first | assumption | exact is_lit64 _ (by decide) | exact is_lit32 _ (by decide)); (first | assumption | exact is_lit64 _ (by decide) | exact is_lit32 _ (by decide)); intro Kq hKq rq nq hq; go_simp) | (apply wpList_neg; rfl; rfl; (first | assumption | exact is_lit64 _ (by decide) | exact is_lit32 _ (by decide)); intro Kq hKq rq hq; go_simp) | (go_at_call 14; (with_reducible refine (IL _).mono ?_); rintro eq wq ⟨nq, rfl, rfl⟩) | (go_at_call 14; (with_reducible refine (IM _).mono ?_); rintro eq wq ⟨nq, rfl, rfl⟩) | (go_at_call 15; (with_reducible refine (IT (by with_reducible assumption) _).mono ?_); rintro eq wq ⟨nq, rfl, rfl⟩) | (go_at_call 15; (with_reducible refine (IP _).mono ?_); rintro eq wq ⟨nq, rfl, rfl⟩) | (go_at_call 16; refine (l01Sqrt_any (by assumption) _).mono ?_; rintro eq wq ⟨rq, nq, rfl, hq, rfl⟩))
          have HU := cbIs (m := m) (o := o) (p := p) (by assumption) (by assumption) ia (by assumption) (by assumption) ib
          have bA : ∀ (X : World) (c : Array Value) (T : TypeId), Below w.heap.size w X → Below w.heap.size w (X.alloc (.cells c T)) := fun X c T h => h.alloc h.size _
          refine (sGiveG (w.heap.size + 1 + 1) 2 2 _ (cbV m o p) _ (by decide) (cbOwn' _ _ _ _ _ _ _ _ (by simp)) HU).mono ?_
          rintro _ W ⟨⟨vv, rfl, ht, hf⟩, hb⟩
          go_wp2_with fail
          show R (.returned (.tuple #[vv, .bool (areB (cbV m o p) 2)])) W
          rw [← HR.out]
          exact retGive ht hf (by omega) (by repeat' (first | with_reducible exact Below.refl _ _ | with_reducible assumption | (with_reducible refine Below.setCell ?_ (by first | omega | (simp; done) | (simp; omega)) _) | (with_reducible refine Below.alloc ?_ (by first | omega | (simp; done) | (simp; omega)) _) | (with_reducible refine below_drewN ?_ _) | (with_reducible refine Below.drew ?_) | (with_reducible refine Below.trans ?_ (Below.mono (by first | (with_reducible assumption) | exact Grow.below (by assumption)) (by first | omega | (simp; done) | (simp; omega)))))) (cbOwn' _ _ _ _ _ _ _ _ (by simp)) HU hb
end Go.Proofs.Ytpdmmefhghfkgaa
