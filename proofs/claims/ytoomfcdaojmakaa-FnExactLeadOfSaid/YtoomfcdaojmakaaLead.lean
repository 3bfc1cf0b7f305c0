/-
  How much a goal must be ahead: for every three numbers the law's text returns true, and writes nothing that was there. No condition.
-/
import Derived.Test.YtoomfcdaojmakaaFlo
import Derived.Test.YtoomfcdaojmakaaFly
namespace Go.Proofs.Ytoomfcdaojmakaa
open Go.RowKit

/-- The root of a cube divided by a mass. -/
def slowO (m a : Option Nat) : Option Nat := sqO .f64 (fo .quo .f64 (fo .mul .f64 (fo .mul .f64 a a) a) m)
def perO (m a : Option Nat) : Option Nat := fo .mul .f64 (some 4618760256179416344) (slowO m a)
def hperO (m a : Option Nat) : Option Nat := fo .mul .f64 (some 4614256656552045848) (slowO m a)
def hosO (f t : Option Nat) : Option Nat := fo .quo .f64 (fo .add .f64 f t) (some 4611686018427387904)
def leadD (m f t : Option Nat) : Option Nat := fo .sub .f64 (some 4602678819172646912) (fo .quo .f64 (hperO m (hosO f t)) (perO m t))

theorem pi_is : Is .f64 4614256656552045848 (some 4614256656552045848) := is_lit64 _ (by decide)
theorem half_pi : fo .quo .f64 (some 4618760256179416344) (some 4611686018427387904) = some 4614256656552045848 := by kernel_rfl

section
variable {a b c : Nat} {m f t : Option Nat} (ia : Is .f64 a m) (ib : Is .f64 b f) (ic : Is .f64 c t)
include ia ib
theorem iSlow (w : World) : Calls Try.prog 66 #[.float .f64 a, .float .f64 b] w (RetB .f64 (slowO m f) w) := by
  have hst := run_store_float Try.prog
  go_enter Try.func66, Try.ntmps66
  go_wp2_with (first | (apply wpList_arith; rfl; simp [Arith]; rfl; rfl; (first | assumption | exact is_lit64 _ (by decide) | exact is_lit32 _ (by decide)); (first | assumption | exact is_lit64 _ (by decide) | exact is_lit32 _ (by decide)); intro Kq hKq rq nq hq; go_simp) | (go_at_call 39; refine (sqrt_any (by assumption) _).mono ?_; rintro eq wq ⟨rq, nq, rfl, hq, rfl⟩) | (go_at_call 41; refine (iMul3 _ ib ib ib (by simp) (by simp) (by simp)).mono ?_; rintro _ _ ⟨rq, nq, rfl, hq, rfl⟩))
  go_ret
  refine ⟨⟨_, rfl, by assumption⟩, ?_⟩
  repeat' (first | with_reducible exact Below.refl _ _ | with_reducible assumption | (with_reducible refine Below.setCell ?_ (by first | omega | (simp; done) | (simp; omega)) _) | (with_reducible refine Below.alloc ?_ (by first | omega | (simp; done) | (simp; omega)) _) | (with_reducible refine below_drewN ?_ _) | (with_reducible refine Below.drew ?_) | (with_reducible refine Below.trans ?_ (Below.mono (by first | (with_reducible assumption) | exact Grow.below (by assumption)) (by first | omega | (simp; done) | (simp; omega)))))

theorem iPer (w : World) : Calls Try.prog 48 #[.float .f64 a, .float .f64 b] w (RetB .f64 (perO m f) w) := by
  have hst := run_store_float Try.prog
  have hP : Is .f64 4618760256179416344 (some 4618760256179416344) := is_lit64 _ (by decide)
  go_enter Try.func48, Try.ntmps48
  go_wp2_with (first | (go_at_call 65; refine (full_any _).mono ?_; rintro eq wq ⟨nq, rfl, rfl⟩) | (go_at_call 66; refine (iSlow ia ib _).mono ?_; rintro _ W2 ⟨⟨r2, rfl, i2⟩, b2⟩) | (go_at_call 41; refine (iMul2 _ hP i2 (by simp) (by simp)).mono ?_; rintro _ _ ⟨rq, nq, rfl, hq, rfl⟩))
  go_ret
  have hz := b2.size
  try simp at hz
  refine ⟨⟨_, rfl, by assumption⟩, ?_⟩
  repeat' (first | with_reducible exact Below.refl _ _ | with_reducible assumption | (with_reducible refine Below.setCell ?_ (by first | omega | (simp; done) | (simp; omega)) _) | (with_reducible refine Below.alloc ?_ (by first | omega | (simp; done) | (simp; omega)) _) | (with_reducible refine below_drewN ?_ _) | (with_reducible refine Below.drew ?_) | (with_reducible refine Below.trans ?_ (Below.mono (by first | (with_reducible assumption) | exact Grow.below (by assumption)) (by first | omega | (simp; done) | (simp; omega)))))

theorem iHper (w : World) : Calls Try.prog 46 #[.float .f64 a, .float .f64 b] w (RetB .f64 (hperO m f) w) := by
  have hst := run_store_float Try.prog
  have hP : Is .f64 4618760256179416344 (some 4618760256179416344) := is_lit64 _ (by decide)
  have h2 := two_is
  go_enter Try.func46, Try.ntmps46
  go_wp2_with (first | (apply wpList_arith; rfl; simp [Arith]; rfl; rfl; (first | assumption | exact is_lit64 _ (by decide) | exact is_lit32 _ (by decide)); (first | assumption | exact is_lit64 _ (by decide) | exact is_lit32 _ (by decide)); intro Kq hKq rq nq hq; go_simp) | (go_at_call 65; refine (full_any _).mono ?_; rintro eq wq ⟨nq, rfl, rfl⟩) | (go_at_call 66; refine (iSlow ia ib _).mono ?_; rintro _ W2 ⟨⟨r2, rfl, i2⟩, b2⟩) | (go_at_call 41; refine (iMul2 _ hq i2 (by simp) (by simp)).mono ?_; rintro _ _ ⟨rq', nq', rfl, hq', rfl⟩))
  go_ret
  have hz := b2.size
  try simp at hz
  refine ⟨⟨_, rfl, by unfold hperO; rw [← half_pi]; assumption⟩, ?_⟩
  repeat' (first | with_reducible exact Below.refl _ _ | with_reducible assumption | (with_reducible refine Below.setCell ?_ (by first | omega | (simp; done) | (simp; omega)) _) | (with_reducible refine Below.alloc ?_ (by first | omega | (simp; done) | (simp; omega)) _) | (with_reducible refine below_drewN ?_ _) | (with_reducible refine Below.drew ?_) | (with_reducible refine Below.trans ?_ (Below.mono (by first | (with_reducible assumption) | exact Grow.below (by assumption)) (by first | omega | (simp; done) | (simp; omega)))))

omit ia in
include ic in
theorem iHos (w : World) : Calls Try.prog 47 #[.float .f64 b, .float .f64 c] w (RetF .f64 (hosO f t) w) := by
  have h2 := two_is
  go_enter Try.func47, Try.ntmps47
  go_wp2_with (apply wpList_arith; rfl; simp [Arith]; rfl; rfl; (first | assumption | exact is_lit64 _ (by decide) | exact is_lit32 _ (by decide)); (first | assumption | exact is_lit64 _ (by decide) | exact is_lit32 _ (by decide)); intro Kq hKq rq nq hq; go_simp)
  go_ret
  exact ⟨_, _, rfl, by assumption, rfl⟩

include ic
theorem iLead (w : World) : Calls Try.prog 28 #[.float .f64 a, .float .f64 b, .float .f64 c] w (RetB .f64 (fracO (leadD m f t)) w) := by
  have h2 := half_is
  unfold fracO
  generalize hE : leadD m f t = E
  have HE := Lib.hid hE
  clear hE
  unfold leadD at HE
  go_enter Try.func28, Try.ntmps28
  go_wp2_with (first | (apply wpList_arith; rfl; simp [Arith]; rfl; rfl; (first | assumption | exact is_lit64 _ (by decide) | exact is_lit32 _ (by decide)); (first | assumption | exact is_lit64 _ (by decide) | exact is_lit32 _ (by decide)); intro Kq hKq rq nq hq; go_simp) | (go_at_call 45; refine (floor_any (by assumption) _).mono ?_; rintro eq wq ⟨rq, nq, rfl, hq, rfl⟩) | (go_at_call 47; refine (iHos ib ic _).mono ?_; rintro eq wq ⟨rq, nq, rfl, hq, rfl⟩) | (go_at_call 46; refine (iHper ia hq _).mono ?_; rintro _ W2 ⟨⟨r2, rfl, i2⟩, b2⟩) | (go_at_call 48; refine (iPer ia ic _).mono ?_; rintro _ W3 ⟨⟨r3, rfl, i3⟩, b3⟩))
  go_ret
  have hz := b2.size
  try simp at hz
  refine ⟨⟨_, rfl, by rw [← HE.out]; assumption⟩, ?_⟩
  repeat' (first | with_reducible exact Below.refl _ _ | with_reducible assumption | (with_reducible refine Below.setCell ?_ (by first | omega | (simp; done) | (simp; omega)) _) | (with_reducible refine Below.alloc ?_ (by first | omega | (simp; done) | (simp; omega)) _) | (with_reducible refine below_drewN ?_ _) | (with_reducible refine Below.drew ?_) | (with_reducible refine Below.trans ?_ (Below.mono (by first | (with_reducible assumption) | exact Grow.below (by assumption)) (by first | omega | (simp; done) | (simp; omega)))))
end

section
variable {a b c : Nat} {m f t : Option Nat} (ia : Is .f64 a m) (ib : Is .f64 b f) (ic : Is .f64 c t)
include ia ib
theorem sRoot (w : World) : Calls Try.prog 44 #[.float .f64 a, .float .f64 b] w (RetF .f64 (slowO m f) w) := by
  go_enter Try.func44, Try.ntmps44
  go_wp2_with (first | (apply wpList_arith; rfl; simp [Arith]; rfl; rfl; (first | assumption | exact is_lit64 _ (by decide) | exact is_lit32 _ (by decide)); (first | assumption | exact is_lit64 _ (by decide) | exact is_lit32 _ (by decide)); intro Kq hKq rq nq hq; go_simp) | (go_at_call 39; refine (sqrt_any (by assumption) _).mono ?_; rintro eq wq ⟨rq, nq, rfl, hq, rfl⟩))
  go_ret
  exact ⟨_, _, rfl, by assumption, rfl⟩

theorem sCircle (w : World) : Calls Try.prog 62 #[.float .f64 a, .float .f64 b] w (RetF .f64 (sqO .f64 (fo .quo .f64 m f)) w) := by
  go_enter Try.func62, Try.ntmps62
  go_wp2_with (first | (apply wpList_arith; rfl; simp [Arith]; rfl; rfl; (first | assumption | exact is_lit64 _ (by decide) | exact is_lit32 _ (by decide)); (first | assumption | exact is_lit64 _ (by decide) | exact is_lit32 _ (by decide)); intro Kq hKq rq nq hq; go_simp) | (go_at_call 39; refine (sqrt_any (by assumption) _).mono ?_; rintro eq wq ⟨rq, nq, rfl, hq, rfl⟩))
  go_ret
  exact ⟨_, _, rfl, by assumption, rfl⟩

include ic
theorem sSpeed (w : World) : Calls Try.prog 61 #[.float .f64 a, .float .f64 b, .float .f64 c] w (RetF .f64 (sqO .f64 (fo .mul .f64 m (fo .sub .f64 (fo .quo .f64 (some 4611686018427387904) f) (fo .quo .f64 (some 4607182418800017408) t)))) w) := by
  have h1 := is_one
  have h2 := two_is
  go_enter Try.func61, Try.ntmps61
  go_wp2_with (first | (apply wpList_arith; rfl; simp [Arith]; rfl; rfl; (first | assumption | exact is_lit64 _ (by decide) | exact is_lit32 _ (by decide)); (first | assumption | exact is_lit64 _ (by decide) | exact is_lit32 _ (by decide)); intro Kq hKq rq nq hq; go_simp) | (go_at_call 39; refine (sqrt_any (by assumption) _).mono ?_; rintro eq wq ⟨rq, nq, rfl, hq, rfl⟩))
  go_ret
  exact ⟨_, _, rfl, by assumption, rfl⟩

theorem sTwo (w : World) : Calls Try.prog 43 #[.float .f64 a, .float .f64 b, .float .f64 c] w fun e w' => ∃ x y z n, e = .returned (.tuple #[.float .f64 x, .float .f64 y, .float .f64 z]) ∧ Is .f64 z (hperO m (hosO f t)) ∧ w' = w.drewN n := by
  have hP := pi_is
  have h2 := two_is
  unfold hosO
  go_enter Try.func43, Try.ntmps43
  go_wp2_with (first | (apply wpList_arith; rfl; simp [Arith]; rfl; rfl; (first | assumption | exact is_lit64 _ (by decide) | exact is_lit32 _ (by decide)); (first | assumption | exact is_lit64 _ (by decide) | exact is_lit32 _ (by decide)); intro Kq hKq rq nq hq; go_simp) | (go_at_call 61; refine (sSpeed (by assumption) (by assumption) (by assumption) _).mono ?_; rintro eq wq ⟨rq, nq, rfl, hq, rfl⟩) | (go_at_call 62; refine (sCircle (by assumption) (by assumption) _).mono ?_; rintro eq wq ⟨rq, nq, rfl, hq, rfl⟩) | (go_at_call 44; refine (sRoot (by assumption) (by assumption) _).mono ?_; rintro eq wq ⟨rq, nq, rfl, hq, rfl⟩))
  go_ret3
  exact ⟨_, _, _, _, rfl, by assumption, rfl⟩

theorem sLead (w : World) : Calls Try.prog 27 #[.float .f64 a, .float .f64 b, .float .f64 c] w (RetF .f64 (fracO (leadD m f t)) w) := by
  have h2 := half_is
  have hP : Is .f64 4618760256179416344 (some 4618760256179416344) := is_lit64 _ (by decide)
  unfold fracO
  generalize hE : leadD m f t = E
  have HE := Lib.hid hE
  clear hE
  unfold leadD perO at HE
  go_enter Try.func27, Try.ntmps27
  go_wp2_with (first | (apply wpList_arith; rfl; simp [Arith]; rfl; rfl; (first | assumption | exact is_lit64 _ (by decide) | exact is_lit32 _ (by decide)); (first | assumption | exact is_lit64 _ (by decide) | exact is_lit32 _ (by decide)); intro Kq hKq rq nq hq; go_simp) | (go_at_call 45; refine (floor_any (by assumption) _).mono ?_; rintro eq wq ⟨rq, nq, rfl, hq, rfl⟩) | (go_at_call 43; refine (sTwo ia ib ic _).mono ?_; rintro _ _ ⟨x1, y1, z1, n1, rfl, i1, rfl⟩) | (go_at_call 44; refine (sRoot ia ic _).mono ?_; rintro eq wq ⟨rq, nq, rfl, hq, rfl⟩))
  go_ret
  exact ⟨_, _, rfl, by rw [← HE.out]; assumption, rfl⟩
end

/-- How much a goal must be ahead, if it is told. -/
def leadN (m f t : Option Nat) : Option Nat := cv .f64 .f32 (fracO (leadD (cv .f32 .f64 m) (cv .f32 .f64 f) (cv .f32 .f64 t)))
def leadV (m f t : Option Nat) : Option Nat := if flyOk m f t then finN (leadN m f t) else some 0

theorem is_foA {op : BinOp} {a b : Option Nat} : ∃ y, Is .f64 y (fo op .f64 a b) := is_fo

section
variable {a b c : Nat} {m f t : Option Nat} (ia : Is .f32 a m) (ib : Is .f32 b f) (ic : Is .f32 c t)
include ia ib ic
theorem iLeadT (w : World) : Calls Try.prog 14 #[.float .f32 a, .float .f32 b, .float .f32 c] w (RetNum (leadV m f t) (flyOk m f t && finS (leadN m f t)) w) := by
  have hst := run_store_float Try.prog
  unfold leadV
  cases hp : flyOk m f t with
  | false =>
    unfold flyOk at hp
    go_enter Try.func14, Try.ntmps14
    go_wp2_with (go_at_call 24; refine (iPos3 _ ia ib ic (by simp) (by simp) (by simp)).mono ?_; rintro eq wq ⟨nq, rfl, rfl⟩)
    go_ret2
    exact ⟨⟨_, rfl, zero32⟩, by repeat' (first | with_reducible exact Below.refl _ _ | with_reducible assumption | (with_reducible refine Below.setCell ?_ (by first | omega | (simp; done) | (simp; omega)) _) | (with_reducible refine Below.alloc ?_ (by first | omega | (simp; done) | (simp; omega)) _) | (with_reducible refine below_drewN ?_ _) | (with_reducible refine Below.drew ?_) | (with_reducible refine Below.trans ?_ (Below.mono (by first | (with_reducible assumption) | exact Grow.below (by assumption)) (by first | omega | (simp; done) | (simp; omega)))))⟩
  | true =>
    unfold flyOk at hp
    obtain ⟨x, ix⟩ : ∃ y, Is .f64 y (leadD (cv .f32 .f64 m) (cv .f32 .f64 f) (cv .f32 .f64 t)) := is_fo
    have hF := fit_frac ix
    have HN := fun {z : Nat} (iz : Is .f64 z (fracO (leadD (cv .f32 .f64 m) (cv .f32 .f64 f) (cv .f32 .f64 t)))) w => iNarF iz hF w
    clear hF ix
    go_enter Try.func14, Try.ntmps14
    go_wp2_with (first | (apply wpList_wide und32 Try.underlying32; rfl; rfl; (first | assumption | exact is_lit64 _ (by decide) | exact is_lit32 _ (by decide)); intro Kq hKq rq nq hq; go_simp) | (apply wpList_wide und32 Try.underlying44; rfl; rfl; assumption; intro Kq hKq rq nq hq; go_simp) | (go_at_call 24; refine (iPos3 _ ia ib ic (by simp) (by simp) (by simp)).mono ?_; rintro eq wq ⟨nq, rfl, rfl⟩) | (go_at_call 28; refine (iLead (by assumption) (by assumption) (by assumption) _).mono ?_; rintro _ W2 ⟨⟨r2, rfl, i2⟩, b2⟩) | (go_at_call 25; refine (HN i2 _).mono ?_; rintro _ W1 ⟨⟨r1, rfl, i1⟩, b1⟩))
    go_ret2
    have hz := b2.size
    simp at hz
    exact ⟨⟨_, rfl, i1⟩, by repeat' (first | with_reducible exact Below.refl _ _ | with_reducible assumption | (with_reducible refine Below.setCell ?_ (by first | omega | (simp; done) | (simp; omega)) _) | (with_reducible refine Below.alloc ?_ (by first | omega | (simp; done) | (simp; omega)) _) | (with_reducible refine below_drewN ?_ _) | (with_reducible refine Below.drew ?_) | (with_reducible refine Below.trans ?_ (Below.mono (by first | (with_reducible assumption) | exact Grow.below (by assumption)) (by first | omega | (simp; done) | (simp; omega)))))⟩

theorem sLeadT (w : World) : Calls Try.prog 13 #[.float .f32 a, .float .f32 b, .float .f32 c] w (RetNum (leadV m f t) (flyOk m f t && finS (leadN m f t)) w) := by
  have hst := run_store_float Try.prog
  unfold leadV
  cases hp : flyOk m f t with
  | false =>
    unfold flyOk at hp
    go_enter Try.func13, Try.ntmps13
    go_wp2_with (go_at_call 21; refine (sPos3 _ ia ib ic (by simp) (by simp) (by simp)).mono ?_; rintro eq wq ⟨nq, rfl, rfl⟩)
    go_ret2
    exact ⟨⟨_, rfl, zero32⟩, by repeat' (first | with_reducible exact Below.refl _ _ | with_reducible assumption | (with_reducible refine Below.setCell ?_ (by first | omega | (simp; done) | (simp; omega)) _) | (with_reducible refine Below.alloc ?_ (by first | omega | (simp; done) | (simp; omega)) _) | (with_reducible refine below_drewN ?_ _) | (with_reducible refine Below.drew ?_) | (with_reducible refine Below.trans ?_ (Below.mono (by first | (with_reducible assumption) | exact Grow.below (by assumption)) (by first | omega | (simp; done) | (simp; omega)))))⟩
  | true =>
    unfold flyOk at hp
    obtain ⟨x, ix⟩ : ∃ y, Is .f64 y (leadD (cv .f32 .f64 m) (cv .f32 .f64 f) (cv .f32 .f64 t)) := is_fo
    have hF := fit_frac ix
    have HN := fun {z : Nat} (iz : Is .f64 z (fracO (leadD (cv .f32 .f64 m) (cv .f32 .f64 f) (cv .f32 .f64 t)))) w => sNarF iz hF w
    clear hF ix
    go_enter Try.func13, Try.ntmps13
    go_wp2_with (first | (apply wpList_wide und32 Try.underlying32; rfl; rfl; (first | assumption | exact is_lit64 _ (by decide) | exact is_lit32 _ (by decide)); intro Kq hKq rq nq hq; go_simp) | (go_at_call 21; refine (sPos3 _ ia ib ic (by simp) (by simp) (by simp)).mono ?_; rintro eq wq ⟨nq, rfl, rfl⟩) | (go_at_call 27; refine (sLead (by assumption) (by assumption) (by assumption) _).mono ?_; rintro _ _ ⟨r2, n2, rfl, i2, rfl⟩) | (go_at_call 22; refine (HN i2 _).mono ?_; rintro _ W1 ⟨⟨r1, rfl, i1⟩, b1⟩))
    go_ret2
    exact ⟨⟨_, rfl, i1⟩, by repeat' (first | with_reducible exact Below.refl _ _ | with_reducible assumption | (with_reducible refine Below.setCell ?_ (by first | omega | (simp; done) | (simp; omega)) _) | (with_reducible refine Below.alloc ?_ (by first | omega | (simp; done) | (simp; omega)) _) | (with_reducible refine below_drewN ?_ _) | (with_reducible refine Below.drew ?_) | (with_reducible refine Below.trans ?_ (Below.mono (by first | (with_reducible assumption) | exact Grow.below (by assumption)) (by first | omega | (simp; done) | (simp; omega)))))⟩
end

theorem walk_FnExactLeadOf (a b c : Nat) (w : World) (ka : a < 2 ^ 32) (kb : b < 2 ^ 32) (kc : c < 2 ^ 32) :
    Calls Try.prog 5 #[.float .f32 a, .float .f32 b, .float .f32 c] w fun e w' => e = .returned (.bool true) ∧ Below w.heap.size w w' := by
  have ia := Is.self (k := .f32) ka
  have ib := Is.self (k := .f32) kb
  have ic := Is.self (k := .f32) kc
  go_enter Try.func5, Try.ntmps5
  go_wp2_with (first | (apply wpList_wide und32 Try.underlying32; rfl; rfl; (first | assumption | exact is_lit64 _ (by decide) | exact is_lit32 _ (by decide)); intro Kq hKq rq nq hq; go_simp) | (go_at_call 13; refine (sLeadT ia ib ic _).mono ?_; rintro _ W1 ⟨⟨r1, rfl, i1⟩, b1⟩) | (go_at_call 14; refine (iLeadT ia ib ic _).mono ?_; rintro _ W2 ⟨⟨r2, rfl, i2⟩, b2⟩) | (go_at_call 12; refine (sameFloat_any (by assumption) (by assumption) _).mono ?_; rintro eq wq ⟨nq, rfl, rfl⟩))
  go_ret
  refine ⟨rfl, ?_⟩
  have hz := b1.size
  repeat' (first | with_reducible exact Below.refl _ _ | with_reducible assumption | (with_reducible refine Below.setCell ?_ (by first | omega | (simp; done) | (simp; omega)) _) | (with_reducible refine Below.alloc ?_ (by first | omega | (simp; done) | (simp; omega)) _) | (with_reducible refine below_drewN ?_ _) | (with_reducible refine Below.drew ?_) | (with_reducible refine Below.trans ?_ (Below.mono (by first | (with_reducible assumption) | exact Grow.below (by assumption)) (by first | omega | (simp; done) | (simp; omega)))))
end Go.Proofs.Ytoomfcdaojmakaa
