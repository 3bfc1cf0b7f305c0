/-
  How much a flyby turns: for every three numbers the law's text returns true, and writes nothing that was there. No condition.
-/
import Derived.Test.YtoomfcdaojmakaaAbvL
import Derived.Test.YtoomfcdaojmakaaMulO
import Derived.Test.YtoomfcdaojmakaaAngS
import Derived.Test.YtoomfcdaojmakaaAngleX
import Derived.Test.YtoomfcdaojmakaaFinG
import Derived.Test.YtoomfcdaojmakaaNarF
import Derived.Test.YtoomfcdaojmakaaSame
namespace Go.Proofs.Ytoomfcdaojmakaa
open Go.RowKit

theorem iMul3 {b x y z cap : Nat} {u v t : Option Nat} (w : World) (ix : Is .f64 x u) (iy : Is .f64 y v) (iz : Is .f64 z t) (c0 : w.cell? ⟨b, 0, none⟩ = some (.float .f64 x)) (c1 : w.cell? ⟨b, 1, none⟩ = some (.float .f64 y)) (c2 : w.cell? ⟨b, 2, none⟩ = some (.float .f64 z)) :
    Calls Try.prog 41 #[.slice (some ⟨b, 0, none⟩) 3 cap] w (RetF .f64 (fo .mul .f64 (fo .mul .f64 u v) t) w) := by
  have h := iMulN b 3 cap (three x y z) (three u v t) w (by decide) (fun i hi => by match i, hi with | 0, _ => exact ix | 1, _ => exact iy | 2, _ => exact iz) (fun i hi => by match i, hi with | 0, _ => exact c0 | 1, _ => exact c1 | 2, _ => exact c2)
  have e : prodO (three u v t) 3 = fo .mul .f64 (fo .mul .f64 u v) t := by
    simp only [prodO, three, if_true, Nat.succ_ne_zero, if_false, one_mul ix]
    rfl
  rw [e] at h
  exact h

/-- How hard a flyby bends a way. -/
def flyE (m s n : Option Nat) : Option Nat := fo .add .f64 (some 4607182418800017408) (fo .quo .f64 (fo .mul .f64 (fo .mul .f64 n s) s) m)
def flyR (e : Option Nat) : Option Nat := sqO .f64 (fo .sub .f64 (fo .mul .f64 e e) (some 4607182418800017408))
def flyO (m s n : Option Nat) : Option Nat := fo .mul .f64 (some 4611686018427387904) (angO (some 4607182418800017408) (flyR (flyE m s n)))

theorem is_sqO (v : Option Nat) : ∃ y, Is .f64 y (sqO .f64 v) := by
  cases h : sqO .f64 v with
  | none => exact ⟨9221120237041090561, by decide, by decide⟩
  | some r =>
    cases v with
    | none => cases h
    | some x =>
      unfold sqO at h
      simp only [Option.bind_some, Ieee.Format.sqrt, Option.map_eq_some_iff] at h
      obtain ⟨d, hd, rfl⟩ := h
      refine ⟨_, ?_, (show FloatKind.f64.format.write d < _ from Ieee.Format.write_lt _ _)⟩
      unfold nrm
      rw [if_neg]
      rw [show FloatKind.f64.format.write d = FloatKind.f64.encode d from rfl, write_notNaN .f64 d (root_notNaN hd)]
      decide

theorem fit_fly (m s n : Option Nat) : Fit .f64 .f32 (flyO m s n) := by
  obtain ⟨x, ix⟩ := is_sqO (fo .sub .f64 (fo .mul .f64 (flyE m s n) (flyE m s n)) (some 4607182418800017408))
  have la := le_ang (fin_gen is_one).2 (fin_gen ix).2
  exact fit_le (le_mul (le_lit (b := 4611686018427387904) (t := 1) (by kernel_rfl)) la (by decide) (by decide)) (by decide)

theorem iAngG {y x : Nat} {vy vx : Option Nat} (iy : Is .f64 y vy) (ix : Is .f64 x vx) (w : World) : Calls Try.prog 42 #[.float .f64 y, .float .f64 x] w (RetF .f64 (angO vy vx) w) :=
  implAng iy ix (fin_gen iy).2 (fin_gen ix).2 w
theorem sAngG {y x : Nat} {vy vx : Option Nat} (iy : Is .f64 y vy) (ix : Is .f64 x vx) (w : World) : Calls Try.prog 38 #[.float .f64 y, .float .f64 x] w (RetF .f64 (angO vy vx) w) :=
  specAng iy ix (fin_gen iy).2 (fin_gen ix).2 (fin_gen iy).1 (fin_gen ix).1 w

theorem two_is : Is .f64 4611686018427387904 (some 4611686018427387904) := is_lit64 _ (by decide)

set_option maxHeartbeats 1600000 in
theorem iFly {a b c : Nat} {m s n : Option Nat} (ia : Is .f64 a m) (ib : Is .f64 b s) (ic : Is .f64 c n) (w : World) :
    Calls Try.prog 26 #[.float .f64 a, .float .f64 b, .float .f64 c] w (RetB .f64 (flyO m s n) w) := by
  unfold flyO flyR
  generalize hE : flyE m s n = E
  have HE := Lib.hid hE
  clear hE
  unfold flyE at HE
  have hst := run_store_float Try.prog
  have h1 := is_one
  have h2 := two_is
  go_enter Try.func26, Try.ntmps26
  go_wp2_with fail
  refine (iMul3 _ ic ib ib (by simp) (by simp) (by simp)).mono ?_
  rintro _ _ ⟨r1, n1, rfl, i1, rfl⟩
  go_wp2_with (apply wpList_arith; rfl; simp [Arith]; rfl; rfl; (first | assumption | exact is_lit64 _ (by decide) | exact is_lit32 _ (by decide)); (first | assumption | exact is_lit64 _ (by decide) | exact is_lit32 _ (by decide)); intro Kq hKq rq nq hq; go_simp)
  refine (iMul2 _ hq hq (by first | (simp; done) | (rw [alloc_drewN]; simp; done) | (simp [alloc_drewN]; done) | (simp [alloc_drewN, World.cell?_alloc_at]; done)) (by first | (simp; done) | (rw [alloc_drewN]; simp; done) | (simp [alloc_drewN]; done) | (simp [alloc_drewN, World.cell?_alloc_at]; done))).mono ?_
  rintro _ _ ⟨r2, n2, rfl, i2, rfl⟩
  go_wp2_with (first | (apply wpList_arith; rfl; simp [Arith]; rfl; rfl; (first | assumption | exact is_lit64 _ (by decide) | exact is_lit32 _ (by decide)); (first | assumption | exact is_lit64 _ (by decide) | exact is_lit32 _ (by decide)); intro Kq hKq rq nq hq; go_simp) | (go_at_call 39; refine (sqrt_any (by assumption) _).mono ?_; rintro eq wq ⟨rq, nq, rfl, hq, rfl⟩) | (go_at_call 42; refine (iAngG h1 hq _).mono ?_; rintro eq wq ⟨rq, nq, rfl, hq, rfl⟩))
  refine (iMul2 _ h2 hq (by first | (simp; done) | (rw [alloc_drewN]; simp; done) | (simp [alloc_drewN]; done) | (simp [alloc_drewN, World.cell?_alloc_at]; done)) (by first | (simp; done) | (rw [alloc_drewN]; simp; done) | (simp [alloc_drewN]; done) | (simp [alloc_drewN, World.cell?_alloc_at]; done))).mono ?_
  rintro _ _ ⟨r3, n3, rfl, i3, rfl⟩
  go_wp2_with fail
  go_ret
  refine ⟨⟨_, rfl, by rw [← HE.out]; assumption⟩, ?_⟩
  repeat' (first | with_reducible exact Below.refl _ _ | with_reducible assumption | (with_reducible refine Below.setCell ?_ (by first | omega | (simp; done) | (simp; omega)) _) | (with_reducible refine Below.alloc ?_ (by first | omega | (simp; done) | (simp; omega)) _) | (with_reducible refine below_drewN ?_ _) | (with_reducible refine Below.drew ?_) | (with_reducible refine Below.trans ?_ (Below.mono (by first | (with_reducible assumption) | exact Grow.below (by assumption)) (by first | omega | (simp; done) | (simp; omega)))))

theorem sFly {a b c : Nat} {m s n : Option Nat} (ia : Is .f32 a m) (ib : Is .f32 b s) (ic : Is .f32 c n) (w : World) :
    Calls Try.prog 23 #[.float .f32 a, .float .f32 b, .float .f32 c] w (RetF .f64 (flyO (cv .f32 .f64 m) (cv .f32 .f64 s) (cv .f32 .f64 n)) w) := by
  have h1 := is_one
  have h2 := two_is
  go_enter Try.func23, Try.ntmps23
  go_wp2_with (first | (apply wpList_wide und32 Try.underlying32; rfl; rfl; (first | assumption | exact is_lit64 _ (by decide) | exact is_lit32 _ (by decide)); intro Kq hKq rq nq hq; go_simp) | (apply wpList_arith; rfl; simp [Arith]; rfl; rfl; (first | assumption | exact is_lit64 _ (by decide) | exact is_lit32 _ (by decide)); (first | assumption | exact is_lit64 _ (by decide) | exact is_lit32 _ (by decide)); intro Kq hKq rq nq hq; go_simp) | (go_at_call 39; refine (sqrt_any (by assumption) _).mono ?_; rintro eq wq ⟨rq, nq, rfl, hq, rfl⟩) | (go_at_call 38; refine (sAngG h1 hq _).mono ?_; rintro eq wq ⟨rq, nq, rfl, hq, rfl⟩))
  go_ret
  exact ⟨_, _, rfl, by assumption, rfl⟩

/-- How much a flyby turns, if it does. -/
def flyN (m s n : Option Nat) : Option Nat := cv .f64 .f32 (flyO (cv .f32 .f64 m) (cv .f32 .f64 s) (cv .f32 .f64 n))
def flyOk (m s n : Option Nat) : Bool := posB m && posB s && posB n
def flyV (m s n : Option Nat) : Option Nat := if flyOk m s n then finN (flyN m s n) else some 0

section
variable {a b c : Nat} {m s n : Option Nat} (ia : Is .f32 a m) (ib : Is .f32 b s) (ic : Is .f32 c n)
include ia ib ic
theorem iFlyT (w : World) : Calls Try.prog 11 #[.float .f32 a, .float .f32 b, .float .f32 c] w (RetNum (flyV m s n) (flyOk m s n && finS (flyN m s n)) w) := by
  have hst := run_store_float Try.prog
  unfold flyV
  cases hp : flyOk m s n with
  | false =>
    unfold flyOk at hp
    go_enter Try.func11, Try.ntmps11
    go_wp2_with (go_at_call 24; refine (iPos3 _ ia ib ic (by simp) (by simp) (by simp)).mono ?_; rintro eq wq ⟨nq, rfl, rfl⟩)
    go_ret2
    exact ⟨⟨_, rfl, zero32⟩, by repeat' (first | with_reducible exact Below.refl _ _ | with_reducible assumption | (with_reducible refine Below.setCell ?_ (by first | omega | (simp; done) | (simp; omega)) _) | (with_reducible refine Below.alloc ?_ (by first | omega | (simp; done) | (simp; omega)) _) | (with_reducible refine below_drewN ?_ _) | (with_reducible refine Below.drew ?_) | (with_reducible refine Below.trans ?_ (Below.mono (by first | (with_reducible assumption) | exact Grow.below (by assumption)) (by first | omega | (simp; done) | (simp; omega)))))⟩
  | true =>
    unfold flyOk at hp
    have hF := fit_fly (cv .f32 .f64 m) (cv .f32 .f64 s) (cv .f32 .f64 n)
    have HN := fun {z : Nat} (iz : Is .f64 z (flyO (cv .f32 .f64 m) (cv .f32 .f64 s) (cv .f32 .f64 n))) w => iNarF iz hF w
    clear hF
    go_enter Try.func11, Try.ntmps11
    go_wp2_with (first | (apply wpList_wide und32 Try.underlying32; rfl; rfl; (first | assumption | exact is_lit64 _ (by decide) | exact is_lit32 _ (by decide)); intro Kq hKq rq nq hq; go_simp) | (apply wpList_wide und32 Try.underlying44; rfl; rfl; assumption; intro Kq hKq rq nq hq; go_simp) | (go_at_call 24; refine (iPos3 _ ia ib ic (by simp) (by simp) (by simp)).mono ?_; rintro eq wq ⟨nq, rfl, rfl⟩) | (go_at_call 26; refine (iFly (by assumption) (by assumption) (by assumption) _).mono ?_; rintro _ W2 ⟨⟨r2, rfl, i2⟩, b2⟩) | (go_at_call 25; refine (HN i2 _).mono ?_; rintro _ W1 ⟨⟨r1, rfl, i1⟩, b1⟩))
    have hz := b2.size
    simp at hz
    refine bodyPost_ret (v := .tuple #[.float .f32 r1, .bool (finS (flyN m s n))]) (by simp [results, Try.results11, go_sem, flyN]) rfl ⟨⟨_, rfl, i1⟩, ?_⟩
    repeat' (first | with_reducible exact Below.refl _ _ | with_reducible assumption | (with_reducible refine Below.setCell ?_ (by first | omega | (simp; done) | (simp; omega)) _) | (with_reducible refine Below.alloc ?_ (by first | omega | (simp; done) | (simp; omega)) _) | (with_reducible refine below_drewN ?_ _) | (with_reducible refine Below.drew ?_) | (with_reducible refine Below.trans ?_ (Below.mono (by first | (with_reducible assumption) | exact Grow.below (by assumption)) (by first | omega | (simp; done) | (simp; omega)))))

theorem sFlyT (w : World) : Calls Try.prog 10 #[.float .f32 a, .float .f32 b, .float .f32 c] w (RetNum (flyV m s n) (flyOk m s n && finS (flyN m s n)) w) := by
  have hst := run_store_float Try.prog
  unfold flyV
  cases hp : flyOk m s n with
  | false =>
    unfold flyOk at hp
    go_enter Try.func10, Try.ntmps10
    go_wp2_with (go_at_call 21; refine (sPos3 _ ia ib ic (by simp) (by simp) (by simp)).mono ?_; rintro eq wq ⟨nq, rfl, rfl⟩)
    go_ret2
    exact ⟨⟨_, rfl, zero32⟩, by repeat' (first | with_reducible exact Below.refl _ _ | with_reducible assumption | (with_reducible refine Below.setCell ?_ (by first | omega | (simp; done) | (simp; omega)) _) | (with_reducible refine Below.alloc ?_ (by first | omega | (simp; done) | (simp; omega)) _) | (with_reducible refine below_drewN ?_ _) | (with_reducible refine Below.drew ?_) | (with_reducible refine Below.trans ?_ (Below.mono (by first | (with_reducible assumption) | exact Grow.below (by assumption)) (by first | omega | (simp; done) | (simp; omega)))))⟩
  | true =>
    unfold flyOk at hp
    have hF := fit_fly (cv .f32 .f64 m) (cv .f32 .f64 s) (cv .f32 .f64 n)
    have HN := fun {z : Nat} (iz : Is .f64 z (flyO (cv .f32 .f64 m) (cv .f32 .f64 s) (cv .f32 .f64 n))) w => sNarF iz hF w
    clear hF
    go_enter Try.func10, Try.ntmps10
    go_wp2_with (first | (go_at_call 21; refine (sPos3 _ ia ib ic (by simp) (by simp) (by simp)).mono ?_; rintro eq wq ⟨nq, rfl, rfl⟩) | (go_at_call 23; refine (sFly ia ib ic _).mono ?_; rintro _ _ ⟨r2, n2, rfl, i2, rfl⟩) | (go_at_call 22; refine (HN i2 _).mono ?_; rintro _ W1 ⟨⟨r1, rfl, i1⟩, b1⟩))
    go_ret2
    exact ⟨⟨_, rfl, i1⟩, by repeat' (first | with_reducible exact Below.refl _ _ | with_reducible assumption | (with_reducible refine Below.setCell ?_ (by first | omega | (simp; done) | (simp; omega)) _) | (with_reducible refine Below.alloc ?_ (by first | omega | (simp; done) | (simp; omega)) _) | (with_reducible refine below_drewN ?_ _) | (with_reducible refine Below.drew ?_) | (with_reducible refine Below.trans ?_ (Below.mono (by first | (with_reducible assumption) | exact Grow.below (by assumption)) (by first | omega | (simp; done) | (simp; omega)))))⟩
end

theorem walk_FnExactFlybyTurn (a b c : Nat) (w : World) (ka : a < 2 ^ 32) (kb : b < 2 ^ 32) (kc : c < 2 ^ 32) :
    Calls Try.prog 4 #[.float .f32 a, .float .f32 b, .float .f32 c] w fun e w' => e = .returned (.bool true) ∧ Below w.heap.size w w' := by
  have ia := Is.self (k := .f32) ka
  have ib := Is.self (k := .f32) kb
  have ic := Is.self (k := .f32) kc
  go_enter Try.func4, Try.ntmps4
  go_wp2_with (first | (apply wpList_wide und32 Try.underlying32; rfl; rfl; (first | assumption | exact is_lit64 _ (by decide) | exact is_lit32 _ (by decide)); intro Kq hKq rq nq hq; go_simp) | (go_at_call 10; refine (sFlyT ia ib ic _).mono ?_; rintro _ W1 ⟨⟨r1, rfl, i1⟩, b1⟩) | (go_at_call 11; refine (iFlyT ia ib ic _).mono ?_; rintro _ W2 ⟨⟨r2, rfl, i2⟩, b2⟩) | (go_at_call 12; refine (sameFloat_any (by assumption) (by assumption) _).mono ?_; rintro eq wq ⟨nq, rfl, rfl⟩))
  go_ret
  refine ⟨rfl, ?_⟩
  have hz := b1.size
  repeat' (first | with_reducible exact Below.refl _ _ | with_reducible assumption | (with_reducible refine Below.setCell ?_ (by first | omega | (simp; done) | (simp; omega)) _) | (with_reducible refine Below.alloc ?_ (by first | omega | (simp; done) | (simp; omega)) _) | (with_reducible refine below_drewN ?_ _) | (with_reducible refine Below.drew ?_) | (with_reducible refine Below.trans ?_ (Below.mono (by first | (with_reducible assumption) | exact Grow.below (by assumption)) (by first | omega | (simp; done) | (simp; omega)))))
end Go.Proofs.Ytoomfcdaojmakaa
