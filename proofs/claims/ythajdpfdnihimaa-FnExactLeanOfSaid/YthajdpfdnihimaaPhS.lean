/-
  The phase of a swing: for every two numbers the law's text returns true, and writes nothing that was there. No condition.
-/
import Derived.Test.YthajdpfdnihimaaWid
import Derived.Test.YthajdpfdnihimaaMulO
import Derived.Test.YthajdpfdnihimaaPart
namespace Go.Proofs.Ythajdpfdnihimaa
open Go.RowKit

/-- What is finite is a number. -/
theorem fin_numS {x : Nat} {v : Option Nat} (ix : Is .f32 x v) (h : finS v = true) : ∃ s m e, v = some x ∧ FloatKind.f32.decode x = .number s m e := by
  cases v with
  | none => exact absurd h (by decide)
  | some z =>
    obtain rfl := ix.notNaN
    rcases single_low ix.dec with ⟨s, hs⟩ | ⟨s, m, e, hd, -⟩
    · exfalso
      have hsub : fo .sub .f32 (some x) (some x) = none := by
        unfold FloatKind.decode at hs
        simp [fo, floatBits, Ieee.Format.sub, hs, Ieee.Datum.opposite, Ieee.Datum.sum]
      unfold finS at h
      rw [hsub] at h
      exact absurd h (by decide)
    · exact ⟨s, m, e, rfl, hd⟩

theorem le_cv {v : Option Nat} {t : Int} (h : LeO .f32 v t) (h1 : tLeast .f64 ≤ t) (h2 : t ≤ tMost .f64) : LeO .f64 (cv .f32 .f64 v) t := by
  intro y hy
  unfold cv at hy
  cases v with
  | none => cases hy
  | some x =>
    simp only [Option.bind_some] at hy
    obtain ⟨s, m, e, hd, hm⟩ := h x rfl
    unfold floatToFloatBits at hy
    rw [if_neg (by decide), hd] at hy
    obtain ⟨s', m', e', hr, hb⟩ := write_le .f64 s m e t hm h1 h2
    simp only [hr] at hy
    have hne : (Ieee.Datum.number s' m' e').isInfinity = false := rfl
    rw [if_neg (by rw [hne]; decide)] at hy
    cases hy
    exact ⟨s', m', e', hr, hb⟩

/-- A number that is at least 0 and less than 1 is not greater than 1. -/
theorem part_le {r : Nat} {e : Option Nat} (ie : Is .f32 r e) (h : partB e = true) : LeO .f32 e 0 := by
  have hf : finS e = true := by
    cases hh : finS e with
    | true => rfl
    | false => rw [part_fin ie hh] at h; cases h
  obtain ⟨s, m, i, rfl, hd⟩ := fin_numS ie hf
  intro b hb
  cases hb
  refine ⟨s, m, i, hd, fun hm => ?_⟩
  have r0 : FloatKind.f32.format.read 0 = .number false 0 (-149) := by rfl
  have r1 : FloatKind.f32.format.read 1065353216 = .number false 8388608 (-23) := by rfl
  have hd' := hd
  unfold FloatKind.decode at hd'
  unfold partB cmpB at h
  simp only [ordO, Option.bind_some, Ieee.Format.order, hd', r0, r1, Ieee.Datum.order] at h
  obtain ⟨f1, f2, -, -, f5⟩ := read_facts32 ie.2 hd
  have e0 : (i - min i (-149)).toNat = (i + 149).toNat := by omega
  rw [e0] at h
  have hz : ∀ up, Ieee.signed false 0 up = 0 := fun up => by simp [Ieee.signed]
  rw [hz] at h
  have hpos : 0 < m <<< (i + 149).toNat := by rw [Nat.shiftLeft_eq]; exact Nat.mul_pos (Nat.pos_of_ne_zero hm) (Nat.two_pow_pos _)
  have hpos1 : 0 < m <<< (i - min i (-23)).toNat := by rw [Nat.shiftLeft_eq]; exact Nat.mul_pos (Nat.pos_of_ne_zero hm) (Nat.two_pow_pos _)
  obtain ⟨hg, hl⟩ := (Bool.and_eq_true_iff).1 h
  have hs : s = false := by
    cases s with
    | false => rfl
    | true =>
      exfalso
      have hneg : Ieee.signed true m (i + 149).toNat < 0 := by
        unfold Ieee.signed
        simp only [if_true]
        omega
      rw [Int.compare_eq_lt.2 hneg] at hg
      simp at hg
  subst hs
  have hlt : Ieee.signed false m (i - min i (-23)).toNat < Ieee.signed false 8388608 (-23 - min i (-23)).toNat := by
    cases hcmp : compare (Ieee.signed false m (i - min i (-23)).toNat) (Ieee.signed false 8388608 (-23 - min i (-23)).toNat) with
    | lt => exact Int.compare_eq_lt.1 hcmp
    | eq => rw [hcmp] at hl; simp at hl
    | gt => rw [hcmp] at hl; simp at hl
  have hsf : ∀ q up, Ieee.signed false q up = ((q <<< up : Nat) : Int) := fun q up => by simp [Ieee.signed]
  rw [hsf, hsf, Nat.shiftLeft_eq, Nat.shiftLeft_eq] at hlt
  have hlt' : m * 2 ^ (i - min i (-23)).toNat < 2 ^ 23 * 2 ^ (-23 - min i (-23)).toNat := by exact_mod_cast hlt
  rw [← Nat.pow_add] at hlt'
  by_cases hi : i ≤ -23
  · refine ⟨(-i).toNat, ?_, by omega⟩
    have h1 : (i - min i (-23)).toNat = 0 := by omega
    have h2 : 23 + (-23 - min i (-23)).toNat = (-i).toNat := by omega
    rw [h1, h2, Nat.pow_zero, Nat.mul_one] at hlt'
    exact Nat.le_of_lt hlt'
  · have h1 : (i - min i (-23)).toNat = (i + 23).toNat := by omega
    have h2 : 23 + (-23 - min i (-23)).toNat = 23 := by omega
    rw [h1, h2] at hlt'
    have hle : 2 ^ (i + 23).toNat ≤ m * 2 ^ (i + 23).toNat := Nat.le_mul_of_pos_left _ (Nat.pos_of_ne_zero hm)
    have h3 : (i + 23).toNat < 23 := (Nat.pow_lt_pow_iff_right (by decide : 1 < 2)).1 (Nat.lt_of_le_of_lt hle hlt')
    refine ⟨(-i).toNat, ?_, by omega⟩
    have h4 : 2 ^ 23 = 2 ^ (-i).toNat * 2 ^ (i + 23).toNat := by rw [← Nat.pow_add]; congr 1; omega
    rw [h4] at hlt'
    exact Nat.le_of_lt (Nat.lt_of_mul_lt_mul_right hlt')

theorem part_fin' {r : Nat} {e : Option Nat} (ie : Is .f32 r e) (h : partB e = true) : finS e = true := by
  cases hh : finS e with
  | true => rfl
  | false => rw [part_fin ie hh] at h; cases h

theorem quo_z0 : fo .quo .f64 (some 0) (some 4618760256179416344) = some 0 := by decide +kernel
theorem quo_z1 : fo .quo .f64 (some 9223372036854775808) (some 4618760256179416344) = some 9223372036854775808 := by decide +kernel
theorem word_z (s : Bool) : FloatKind.f64.format.word s 0 = if s then 9223372036854775808 else 0 := by cases s <;> decide
theorem write_z (s : Bool) (j : Int) : FloatKind.f64.format.write (.number s 0 j) = if s then 9223372036854775808 else 0 := by
  rw [← word_z]
  show FloatKind.f64.format.nearest s 0 j = _
  unfold Ieee.Format.nearest
  exact if_pos rfl
theorem mul_z {q : Nat} {s : Bool} {m : Nat} {i : Int} (hd : FloatKind.f64.decode q = .number s m i) : fo .mul .f64 (some q) (some 0) = some (if s then 9223372036854775808 else 0) := by
  have h0 : FloatKind.f64.format.read 0 = .number false 0 (-1074) := by rfl
  unfold FloatKind.decode at hd
  rw [← write_z s (i + (-1074))]
  simp only [fo, Option.bind_some, floatBits, Ieee.Format.mul, hd, h0, Ieee.Datum.product, Option.map_some, Nat.mul_zero, Bool.bne_false]
theorem swP_big {y : Nat} {e v : Option Nat} (iy : Is .f64 y v) (le1 : LeO .f64 e 0) (h : LeO .f64 v 53) : Fit .f64 .f32 (swP e v) := by
  have h1 : LeO .f64 (fo .quo .f64 (fo .mul .f64 e (sinP v)) (some 4618760256179416344)) (0 + 110 - 2) := le_div (le_mul le1 (le_sinP iy) (by decide) (by decide)) (ge_lit (k := .f64) (b := 4618760256179416344) (t := 2) (by kernel_rfl)) (by decide) (by decide)
  have h2 : LeO .f64 (swP e v) (108 + 1) := by unfold swP; exact le_sub (u := 108) (h.mono (by decide)) (h1.mono (by decide)) (by decide) (by decide)
  exact fit_le h2 (by decide)

theorem fit_swP {r x : Nat} {e v : Option Nat} (ie : Is .f32 r e) (ix : Is .f32 x v) (hp : partB e = true) (hf : finS v = true) : Fit .f64 .f32 (swP (cv .f32 .f64 e) (cv .f32 .f64 v)) := by
  obtain ⟨s, m, i, rfl, hd⟩ := fin_numS ix hf
  have le1 := le_cv (part_le ie hp) (by decide) (by decide)
  by_cases hm : m = 0
  · subst hm
    obtain ⟨-, hc⟩ | ⟨y, -, hc, iy⟩ := cv_is ix
    · intro z hz
      unfold swP at hz
      rw [hc] at hz
      cases hz
    · exact swP_big (hc ▸ iy) le1 (le_cv (fun b hb => by cases hb; exact ⟨s, 0, i, hd, fun h => absurd rfl h⟩) (by decide) (by decide))
  · obtain ⟨y, hy, iy, hdy⟩ := wide_dec ix.2 hd hm
    by_cases hE : i - ((52 - m.log2 : Nat) : Int) < 0
    · refine swP_big (hy ▸ iy) le1 ?_
      rw [hy]
      intro b hb
      cases hb
      have := (read_facts iy.2 hdy).1
      exact ⟨s, _, _, hdy, fun _ => ⟨53, by omega, by omega⟩⟩
    · have hpart := part_great iy.2 hdy (by omega)
      have hs : sinP (some y) = some 0 := by unfold sinP; rw [hpart]; exact sinF_zero
      have hz : fo .quo .f64 (fo .mul .f64 (cv .f32 .f64 e) (some 0)) (some 4618760256179416344) = some 0 ∨ fo .quo .f64 (fo .mul .f64 (cv .f32 .f64 e) (some 0)) (some 4618760256179416344) = some 9223372036854775808 := by
        obtain ⟨s1, m1, i1, rfl, hd1⟩ := fin_numS ie (part_fin' ie hp)
        obtain ⟨h0, -⟩ | ⟨q, -, hc, iq⟩ := cv_is ie
        · cases h0
        · obtain ⟨s2, m2, i2, hd2, -⟩ := le1 q hc
          rw [hc, mul_z hd2]
          cases s2
          · exact .inl quo_z0
          · exact .inr quo_z1
      have hsw : swP (cv .f32 .f64 e) (cv .f32 .f64 (some x)) = some y := by
        unfold swP
        rw [hy, hs]
        rcases hz with hz | hz
        · rw [hz]; exact sub_zero iy.2 hdy
        · rw [hz]; exact sub_negzero iy.2 hdy (by rw [Nat.shiftLeft_eq]; exact Nat.mul_ne_zero hm (Nat.pos_iff_ne_zero.1 (Nat.two_pow_pos _)))
      rw [hsw]
      intro z hzz
      cases hzz
      rw [narrow_wide ix.2 hd hm hy]
      rfl

/-- A number is handed back, and whether it is good. -/
def RetNum (v : Option Nat) (ok : Bool) (w : World) (e : Ending) (w' : World) : Prop := (∃ r, e = .returned (.tuple #[.float .f32 r, .bool ok]) ∧ Is .f32 r v) ∧ Below w.heap.size w w'
/-- A number if it is finite. -/
def finN (v : Option Nat) : Option Nat := if finS v then v else some 0
theorem zero32 : Is .f32 0 (some 0) := is_lit32 0 (by decide)

theorem iFinN {x : Nat} {v : Option Nat} (ix : Is .f32 x v) (w : World) : Calls Try.prog 51 #[.float .f32 x] w (RetNum (finN v) (finS v) w) := by
  unfold finN
  cases h : finS v with
  | false =>
    go_enter Try.func51, Try.ntmps51
    go_wp2_with (go_at_call 25; refine (sFinite (by assumption) _).mono ?_; rintro eq wq ⟨nq, rfl, rfl⟩)
    go_ret2
    exact ⟨⟨_, rfl, zero32⟩, by repeat' (first | with_reducible exact Below.refl _ _ | with_reducible assumption | (with_reducible refine Below.setCell ?_ (by first | omega | (simp; done) | (simp; omega)) _) | (with_reducible refine Below.alloc ?_ (by first | omega | (simp; done) | (simp; omega)) _) | (with_reducible refine below_drewN ?_ _) | (with_reducible refine Below.drew ?_) | (with_reducible refine Below.trans ?_ (Below.mono (by first | (with_reducible assumption) | exact Grow.below (by assumption)) (by first | omega | (simp; done) | (simp; omega)))))⟩
  | true =>
    go_enter Try.func51, Try.ntmps51
    go_wp2_with (go_at_call 25; refine (sFinite (by assumption) _).mono ?_; rintro eq wq ⟨nq, rfl, rfl⟩)
    go_ret2
    exact ⟨⟨_, rfl, ix⟩, by repeat' (first | with_reducible exact Below.refl _ _ | with_reducible assumption | (with_reducible refine Below.setCell ?_ (by first | omega | (simp; done) | (simp; omega)) _) | (with_reducible refine Below.alloc ?_ (by first | omega | (simp; done) | (simp; omega)) _) | (with_reducible refine below_drewN ?_ _) | (with_reducible refine Below.drew ?_) | (with_reducible refine Below.trans ?_ (Below.mono (by first | (with_reducible assumption) | exact Grow.below (by assumption)) (by first | omega | (simp; done) | (simp; omega)))))⟩

theorem iNarF {x : Nat} {v : Option Nat} (ix : Is .f64 x v) (hf : Fit .f64 .f32 v) (w : World) : Calls Try.prog 38 #[.float .f64 x] w (RetNum (finN (cv .f64 .f32 v)) (finS (cv .f64 .f32 v)) w) := by
  go_enter Try.func38, Try.ntmps38
  go_wp2_with (first | (apply wpList_cv .f64 .f32 (by decide) und64 Try.underlying22; rfl; rfl; assumption; assumption; intro Kq hKq rq nq hq; go_simp) | (go_at_call 51; refine (iFinN hq _).mono ?_; rintro _ W1 ⟨⟨r1, rfl, i1⟩, b1⟩))
  refine bodyPost_ret (v := .tuple #[.float .f32 r1, .bool (finS (cv .f64 .f32 v))]) (by simp [results, Try.results38, go_sem]) rfl ⟨⟨_, rfl, i1⟩, ?_⟩
  repeat' (first | with_reducible exact Below.refl _ _ | with_reducible assumption | (with_reducible refine Below.setCell ?_ (by first | omega | (simp; done) | (simp; omega)) _) | (with_reducible refine Below.alloc ?_ (by first | omega | (simp; done) | (simp; omega)) _) | (with_reducible refine below_drewN ?_ _) | (with_reducible refine Below.drew ?_) | (with_reducible refine Below.trans ?_ (Below.mono (by first | (with_reducible assumption) | exact Grow.below (by assumption)) (by first | omega | (simp; done) | (simp; omega)))))

theorem sNarF {x : Nat} {v : Option Nat} (ix : Is .f64 x v) (hf : Fit .f64 .f32 v) (w : World) : Calls Try.prog 35 #[.float .f64 x] w (RetNum (finN (cv .f64 .f32 v)) (finS (cv .f64 .f32 v)) w) := by
  unfold finN
  cases h : finS (cv .f64 .f32 v) with
  | false =>
    go_enter Try.func35, Try.ntmps35
    go_wp2_with (first | (go_at_call 40; refine (narrow_any (by assumption) hf _).mono ?_; rintro eq wq ⟨rq, nq, rfl, hq, rfl⟩) | (go_at_call 34; refine (finite_any (by assumption) _).mono ?_; rintro eq wq ⟨nq, rfl, rfl⟩))
    go_ret2
    exact ⟨⟨_, rfl, zero32⟩, by repeat' (first | with_reducible exact Below.refl _ _ | with_reducible assumption | (with_reducible refine Below.setCell ?_ (by first | omega | (simp; done) | (simp; omega)) _) | (with_reducible refine Below.alloc ?_ (by first | omega | (simp; done) | (simp; omega)) _) | (with_reducible refine below_drewN ?_ _) | (with_reducible refine Below.drew ?_) | (with_reducible refine Below.trans ?_ (Below.mono (by first | (with_reducible assumption) | exact Grow.below (by assumption)) (by first | omega | (simp; done) | (simp; omega)))))⟩
  | true =>
    go_enter Try.func35, Try.ntmps35
    go_wp2_with (first | (go_at_call 40; refine (narrow_any (by assumption) hf _).mono ?_; rintro eq wq ⟨rq, nq, rfl, hq, rfl⟩) | (go_at_call 34; refine (finite_any (by assumption) _).mono ?_; rintro eq wq ⟨nq, rfl, rfl⟩))
    go_ret2
    exact ⟨⟨_, rfl, by assumption⟩, by repeat' (first | with_reducible exact Below.refl _ _ | with_reducible assumption | (with_reducible refine Below.setCell ?_ (by first | omega | (simp; done) | (simp; omega)) _) | (with_reducible refine Below.alloc ?_ (by first | omega | (simp; done) | (simp; omega)) _) | (with_reducible refine below_drewN ?_ _) | (with_reducible refine Below.drew ?_) | (with_reducible refine Below.trans ?_ (Below.mono (by first | (with_reducible assumption) | exact Grow.below (by assumption)) (by first | omega | (simp; done) | (simp; omega)))))⟩

/-- The phase of a swing, and whether it is one. -/
def phN (e v : Option Nat) : Option Nat := if partB e && finS v then finN (cv .f64 .f32 (swP (cv .f32 .f64 e) (cv .f32 .f64 v))) else some 0
def phB (e v : Option Nat) : Bool := partB e && finS v && finS (cv .f64 .f32 (swP (cv .f32 .f64 e) (cv .f32 .f64 v)))

theorem sPhS {r x : Nat} {e v : Option Nat} (ie : Is .f32 r e) (ix : Is .f32 x v) (w : World) : Calls Try.prog 17 #[.float .f32 r, .float .f32 x] w (RetNum (phN e v) (phB e v) w) := by
  unfold phN phB
  cases hp : partB e with
  | false =>
    go_enter Try.func17, Try.ntmps17
    go_wp2_with (go_at_call 33; refine (sPart (by assumption) _).mono ?_; rintro eq wq ⟨nq, rfl, rfl⟩)
    go_ret2
    exact ⟨⟨_, rfl, zero32⟩, by repeat' (first | with_reducible exact Below.refl _ _ | with_reducible assumption | (with_reducible refine Below.setCell ?_ (by first | omega | (simp; done) | (simp; omega)) _) | (with_reducible refine Below.alloc ?_ (by first | omega | (simp; done) | (simp; omega)) _) | (with_reducible refine below_drewN ?_ _) | (with_reducible refine Below.drew ?_) | (with_reducible refine Below.trans ?_ (Below.mono (by first | (with_reducible assumption) | exact Grow.below (by assumption)) (by first | omega | (simp; done) | (simp; omega)))))⟩
  | true =>
    cases hf : finS v with
    | false =>
      go_enter Try.func17, Try.ntmps17
      go_wp2_with (first | (go_at_call 33; refine (sPart (by assumption) _).mono ?_; rintro eq wq ⟨nq, rfl, rfl⟩) | (go_at_call 34; refine (finite_any (by assumption) _).mono ?_; rintro eq wq ⟨nq, rfl, rfl⟩))
      go_ret2
      exact ⟨⟨_, rfl, zero32⟩, by repeat' (first | with_reducible exact Below.refl _ _ | with_reducible assumption | (with_reducible refine Below.setCell ?_ (by first | omega | (simp; done) | (simp; omega)) _) | (with_reducible refine Below.alloc ?_ (by first | omega | (simp; done) | (simp; omega)) _) | (with_reducible refine below_drewN ?_ _) | (with_reducible refine Below.drew ?_) | (with_reducible refine Below.trans ?_ (Below.mono (by first | (with_reducible assumption) | exact Grow.below (by assumption)) (by first | omega | (simp; done) | (simp; omega)))))⟩
    | true =>
      have hF := fit_swP ie ix hp hf
      go_enter Try.func17, Try.ntmps17
      go_wp2_with (first | (apply wpList_wide und32 Try.underlying37; rfl; rfl; (first | assumption | exact is_lit64 _ (by decide) | exact is_lit32 _ (by decide)); intro Kq hKq rq nq hq; go_simp) | (go_at_call 33; refine (sPart (by assumption) _).mono ?_; rintro eq wq ⟨nq, rfl, rfl⟩) | (go_at_call 34; refine (finite_any (by assumption) _).mono ?_; rintro eq wq ⟨nq, rfl, rfl⟩) | (go_at_call 36; refine (sSwP (by assumption) (by assumption) _).mono ?_; rintro _ _ ⟨r2, n2, rfl, i2, rfl⟩) | (go_at_call 35; refine (sNarF i2 hF _).mono ?_; rintro _ W1 ⟨⟨r1, rfl, i1⟩, b1⟩))
      go_ret2
      exact ⟨⟨_, rfl, i1⟩, by repeat' (first | with_reducible exact Below.refl _ _ | with_reducible assumption | (with_reducible refine Below.setCell ?_ (by first | omega | (simp; done) | (simp; omega)) _) | (with_reducible refine Below.alloc ?_ (by first | omega | (simp; done) | (simp; omega)) _) | (with_reducible refine below_drewN ?_ _) | (with_reducible refine Below.drew ?_) | (with_reducible refine Below.trans ?_ (Below.mono (by first | (with_reducible assumption) | exact Grow.below (by assumption)) (by first | omega | (simp; done) | (simp; omega)))))⟩

theorem iPhS {r x : Nat} {e v : Option Nat} (ie : Is .f32 r e) (ix : Is .f32 x v) (w : World) : Calls Try.prog 18 #[.float .f32 r, .float .f32 x] w (RetNum (phN e v) (phB e v) w) := by
  unfold phN phB
  cases hp : partB e with
  | false =>
    go_enter Try.func18, Try.ntmps18
    go_wp2_with (go_at_call 37; refine (iEllR (by assumption) _).mono ?_; rintro eq wq ⟨nq, rfl, rfl⟩)
    go_ret2
    exact ⟨⟨_, rfl, zero32⟩, by repeat' (first | with_reducible exact Below.refl _ _ | with_reducible assumption | (with_reducible refine Below.setCell ?_ (by first | omega | (simp; done) | (simp; omega)) _) | (with_reducible refine Below.alloc ?_ (by first | omega | (simp; done) | (simp; omega)) _) | (with_reducible refine below_drewN ?_ _) | (with_reducible refine Below.drew ?_) | (with_reducible refine Below.trans ?_ (Below.mono (by first | (with_reducible assumption) | exact Grow.below (by assumption)) (by first | omega | (simp; done) | (simp; omega)))))⟩
  | true =>
    cases hf : finS v with
    | false =>
      go_enter Try.func18, Try.ntmps18
      go_wp2_with (first | (go_at_call 37; refine (iEllR (by assumption) _).mono ?_; rintro eq wq ⟨nq, rfl, rfl⟩) | (go_at_call 25; refine (sFinite (by assumption) _).mono ?_; rintro eq wq ⟨nq, rfl, rfl⟩))
      go_ret2
      exact ⟨⟨_, rfl, zero32⟩, by repeat' (first | with_reducible exact Below.refl _ _ | with_reducible assumption | (with_reducible refine Below.setCell ?_ (by first | omega | (simp; done) | (simp; omega)) _) | (with_reducible refine Below.alloc ?_ (by first | omega | (simp; done) | (simp; omega)) _) | (with_reducible refine below_drewN ?_ _) | (with_reducible refine Below.drew ?_) | (with_reducible refine Below.trans ?_ (Below.mono (by first | (with_reducible assumption) | exact Grow.below (by assumption)) (by first | omega | (simp; done) | (simp; omega)))))⟩
    | true =>
      have hF := fit_swP ie ix hp hf
      go_enter Try.func18, Try.ntmps18
      go_wp2_with (first | (apply wpList_wide und32 Try.underlying37; rfl; rfl; (first | assumption | exact is_lit64 _ (by decide) | exact is_lit32 _ (by decide)); intro Kq hKq rq nq hq; go_simp) | (apply wpList_wide und32 Try.underlying46; rfl; rfl; assumption; intro Kq hKq rq nq hq; go_simp) | (go_at_call 37; refine (iEllR (by assumption) _).mono ?_; rintro eq wq ⟨nq, rfl, rfl⟩) | (go_at_call 25; refine (sFinite (by assumption) _).mono ?_; rintro eq wq ⟨nq, rfl, rfl⟩) | (go_at_call 39; refine (iSwP (by assumption) (by assumption) _).mono ?_; rintro _ W2 ⟨⟨r2, rfl, i2⟩, b2⟩) | (go_at_call 38; refine (iNarF i2 hF _).mono ?_; rintro _ W1 ⟨⟨r1, rfl, i1⟩, b1⟩))
      go_ret2
      have hz : w.heap.size ≤ W2.heap.size := b2.size
      exact ⟨⟨_, rfl, i1⟩, by repeat' (first | with_reducible exact Below.refl _ _ | with_reducible assumption | (with_reducible refine Below.setCell ?_ (by first | omega | (simp; done) | (simp; omega)) _) | (with_reducible refine Below.alloc ?_ (by first | omega | (simp; done) | (simp; omega)) _) | (with_reducible refine below_drewN ?_ _) | (with_reducible refine Below.drew ?_) | (with_reducible refine Below.trans ?_ (Below.mono (by first | (with_reducible assumption) | exact Grow.below (by assumption)) (by first | omega | (simp; done) | (simp; omega)))))⟩

theorem walk_FnExactPhaseOfSwing (a b : Nat) (w : World) (ka : a < 2 ^ 32) (kb : b < 2 ^ 32) :
    Calls Try.prog 6 #[.float .f32 a, .float .f32 b] w fun e w' => e = .returned (.bool true) ∧ Below w.heap.size w w' := by
  have ia := Is.self (k := .f32) ka
  have ib := Is.self (k := .f32) kb
  go_enter Try.func6, Try.ntmps6
  go_wp2_with (first | (apply wpList_wide und32 Try.underlying37; rfl; rfl; (first | assumption | exact is_lit64 _ (by decide) | exact is_lit32 _ (by decide)); intro Kq hKq rq nq hq; go_simp) | (go_at_call 17; refine (sPhS ia ib _).mono ?_; rintro _ W1 ⟨⟨r1, rfl, i1⟩, b1⟩) | (go_at_call 18; refine (iPhS ia ib _).mono ?_; rintro _ W2 ⟨⟨r2, rfl, i2⟩, b2⟩) | (go_at_call 19; refine (sameFloat_any (by assumption) (by assumption) _).mono ?_; rintro eq wq ⟨nq, rfl, rfl⟩))
  go_ret
  refine ⟨rfl, ?_⟩
  have hz := b1.size
  repeat' (first | with_reducible exact Below.refl _ _ | with_reducible assumption | (with_reducible refine Below.setCell ?_ (by first | omega | (simp; done) | (simp; omega)) _) | (with_reducible refine Below.alloc ?_ (by first | omega | (simp; done) | (simp; omega)) _) | (with_reducible refine below_drewN ?_ _) | (with_reducible refine Below.drew ?_) | (with_reducible refine Below.trans ?_ (Below.mono (by first | (with_reducible assumption) | exact Grow.below (by assumption)) (by first | omega | (simp; done) | (simp; omega)))))
end Go.Proofs.Ythajdpfdnihimaa
