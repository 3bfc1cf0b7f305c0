/-
  The lean of a phase: for every two numbers the law's text returns true, and writes nothing that was there. No condition.
-/
import Derived.Test.YthajdpfdnihimaaLean
namespace Go.Proofs.Ythajdpfdnihimaa
open Go.RowKit

def lowL : Option Nat := some 13845191154443747328
def highL : Option Nat := some 4621819117588971520
theorem is_lowL : Is .f64 13845191154443747328 lowL := is_lit64 _ (by decide)
theorem is_highL : Is .f64 4621819117588971520 highL := is_lit64 _ (by decide)
theorem sm_lowL : SmO .f64 lowL 4 := sm_lit (by kernel_rfl)
theorem sm_highL : SmO .f64 highL 4 := sm_lit (by kernel_rfl)

set_option maxHeartbeats 1600000 in
theorem iHalvedL (T : Option Nat → Bool) (F : Nat) (C : Array Value) {l h n : Nat} {L H : Option Nat} (il : Is .f64 l L) (ih : Is .f64 h H) (hn : n ≤ 64) (w : World)
    (eF : Enters Try.prog F) (sl : SmO .f64 L 4) (sh : SmO .f64 H 4) (hF : ∀ c v, Is .f64 c v → SmO .f64 v 4 → ∀ W, Below w.heap.size w W → Calls Try.prog F (#[.float .f64 c] ++ C) W fun e w' => e = .returned (.bool (T v)) ∧ Below W.heap.size W w') :
    Calls Try.prog 56 #[.float .f64 l, .float .f64 h, .int .i64 n, .func (.func F) #[] C] w (RetB .f64 (halN T L H n).1 w) := by
  have HF := Lib.hid hF
  unfold Enters at eF
  clear hF
  go_enter Try.func56, Try.ntmps56
  go_wp2
  go_loopw [0, 1, 11] (fun p q i wr => ∃ k rl rh : Nat, k ≤ n ∧ i = .int .i64 k ∧ p = .float .f64 rl ∧ q = .float .f64 rh ∧ Is .f64 rl (halN T L H k).1 ∧ Is .f64 rh (halN T L H k).2 ∧ Below w.heap.size w wr) (fun _ _ i _ => n - (intOf i).toNat)
  case atStart => exact ⟨0, _, _, Nat.zero_le _, rfl, rfl, rfl, il, ih, Below.refl _ _⟩
  case round =>
    obtain ⟨k, rl, rh, hk, rfl, rfl, rfl, jl, jh, hb⟩ := hrel
    by_cases hlt : k < n
    · have hlt' : ((k : Nat) : Int) < (n : Int) := by omega
      obtain ⟨s1, s2⟩ := sm_halN (t := T) sl sh (by decide) (by decide) k
      have s3 := sm_half s1 s2 (by decide) (by decide)
      have S3 := Lib.hid s3
      clear s1 s2 s3
      cases ht : T (halfO (halN T L H k).1 (halN T L H k).2) with
      | true =>
        have e1 := halN_t ht
        have E1 := Lib.hid e1
        clear e1
        generalize (halN T L H k).1 = M at *
        generalize (halN T L H k).2 = N at *
        have hT : T (fo .quo .f64 (fo .add .f64 M N) (some 4611686018427387904)) = true := ht
        go_wp2_with (first | (apply wpList_arith; rfl; simp [Arith]; rfl; rfl; (first | assumption | exact is_lit64 _ (by decide) | exact is_lit32 _ (by decide)); (first | assumption | exact is_lit64 _ (by decide) | exact is_lit32 _ (by decide)); intro Kq hKq rq nq hq; go_simp) | (go_at_fn F; refine (HF.out _ _ (by assumption) S3.out _ (by repeat' (first | with_reducible exact Below.refl _ _ | with_reducible assumption | (with_reducible refine Below.setCell ?_ (by first | omega | (simp; done) | (simp; omega)) _) | (with_reducible refine Below.alloc ?_ (by first | omega | (simp; done) | (simp; omega)) _) | (with_reducible refine below_drewN ?_ _) | (with_reducible refine Below.drew ?_) | (with_reducible refine Below.trans ?_ (Below.mono (by first | (with_reducible assumption) | exact Grow.below (by assumption)) (by first | omega | (simp; done) | (simp; omega))))))).mono ?_; rintro _ W1 ⟨rfl, b1⟩))
        go_roundw
        case rel => exact ⟨k + 1, _, _, by omega, by go_num, rfl, rfl, by rw [E1.out]; assumption, by rw [E1.out]; assumption, (below_drewN hb _).trans (b1.mono hb.size)⟩
        case measure => simp [intOf]; omega
      | false =>
        have e1 := halN_f ht
        have E1 := Lib.hid e1
        clear e1
        generalize (halN T L H k).1 = M at *
        generalize (halN T L H k).2 = N at *
        have hT : T (fo .quo .f64 (fo .add .f64 M N) (some 4611686018427387904)) = false := ht
        go_wp2_with (first | (apply wpList_arith; rfl; simp [Arith]; rfl; rfl; (first | assumption | exact is_lit64 _ (by decide) | exact is_lit32 _ (by decide)); (first | assumption | exact is_lit64 _ (by decide) | exact is_lit32 _ (by decide)); intro Kq hKq rq nq hq; go_simp) | (go_at_fn F; refine (HF.out _ _ (by assumption) S3.out _ (by repeat' (first | with_reducible exact Below.refl _ _ | with_reducible assumption | (with_reducible refine Below.setCell ?_ (by first | omega | (simp; done) | (simp; omega)) _) | (with_reducible refine Below.alloc ?_ (by first | omega | (simp; done) | (simp; omega)) _) | (with_reducible refine below_drewN ?_ _) | (with_reducible refine Below.drew ?_) | (with_reducible refine Below.trans ?_ (Below.mono (by first | (with_reducible assumption) | exact Grow.below (by assumption)) (by first | omega | (simp; done) | (simp; omega))))))).mono ?_; rintro _ W1 ⟨rfl, b1⟩))
        go_roundw
        case rel => exact ⟨k + 1, _, _, by omega, by go_num, rfl, rfl, by rw [E1.out]; assumption, by rw [E1.out]; assumption, (below_drewN hb _).trans (b1.mono hb.size)⟩
        case measure => simp [intOf]; omega
    · have hkn : Hid (k = n) := (show k = n by omega)
      go_wp2
      go_ret
      exact ⟨⟨_, rfl, by rw [← hkn.out]; exact jl⟩, hb⟩

set_option maxHeartbeats 1600000 in
theorem sLean {a x : Nat} {u : Option Nat} (ia : Is .f64 a u) {x1 : Option Nat} (ix : Is .f64 x x1) (w : World) :
    Calls Try.prog 43 #[.float .f64 a, .float .f64 x] w (RetF .f64 (halN (fun c => cmpB .gtr .f64 (lnP u c) (fo .mul .f64 (some 4618760256179416344) x1)) lowL highL 60).1 w) := by
  generalize hT : (fun c => cmpB .gtr .f64 (lnP u c) (fo .mul .f64 (some 4618760256179416344) x1)) = T
  have tv : ∀ c, T c = cmpB .gtr .f64 (lnP u c) (fo .mul .f64 (some 4618760256179416344) x1) := fun c => by rw [← hT]
  have TV := Lib.hid tv
  clear tv hT
  go_enter Try.func43, Try.ntmps43
  go_wp2_with (apply wpList_arith; rfl; simp [Arith]; rfl; rfl; (first | assumption | exact is_lit64 _ (by decide) | exact is_lit32 _ (by decide)); (first | assumption | exact is_lit64 _ (by decide) | exact is_lit32 _ (by decide)); intro Kq hKq rq nq hq; go_simp)
  go_loopw [6, 7, 8] (fun l h i wr => ∃ k rl rh m : Nat, k ≤ 60 ∧ i = .int .i64 k ∧ l = .float .f64 rl ∧ h = .float .f64 rh ∧ Is .f64 rl (halN T lowL highL k).1 ∧ Is .f64 rh (halN T lowL highL k).2 ∧ wr = w.drewN m) (fun _ _ i _ => 60 - (intOf i).toNat)
  case atStart => exact ⟨0, _, _, _, Nat.zero_le _, rfl, rfl, rfl, is_lowL, is_highL, rfl⟩
  case round =>
    obtain ⟨k, rl, rh, m, hk, rfl, rfl, rfl, il, ih, rfl⟩ := hrel
    by_cases hlt : k < 60
    · have hlt' : ((k : Nat) : Int) < 60 := by omega
      obtain ⟨s1, s2⟩ := sm_halN (t := T) sm_lowL sm_highL (by decide) (by decide) k
      have s3 := sm_half s1 s2 (by decide) (by decide)
      have S3 := Lib.hid s3
      clear s1 s2 s3
      cases ht : T (halfO (halN T lowL highL k).1 (halN T lowL highL k).2) with
      | true =>
        have e1 := halN_t ht
        have E1 := Lib.hid e1
        clear e1
        generalize (halN T lowL highL k).1 = M at *
        generalize (halN T lowL highL k).2 = N at *
        rw [TV.out] at ht
        have hT : cmpB .gtr .f64 (lnP u (halfO M N)) (fo .mul .f64 (some 4618760256179416344) x1) = true := ht
        clear ht
        go_wp2_with (first | (apply wpList_cmp; rfl; simp [Cmp]; rfl; rfl; (first | assumption | exact is_lit64 _ (by decide) | exact is_lit32 _ (by decide)); (first | assumption | exact is_lit64 _ (by decide) | exact is_lit32 _ (by decide)); intro Kq hKq; go_simp) | (apply wpList_arith; rfl; simp [Arith]; rfl; rfl; (first | assumption | exact is_lit64 _ (by decide) | exact is_lit32 _ (by decide)); (first | assumption | exact is_lit64 _ (by decide) | exact is_lit32 _ (by decide)); intro Kq hKq rq nq hq; go_simp) | (go_at_call 59; refine (sLnP (by assumption) (by assumption) S3.out _).mono ?_; rintro eq wq ⟨rq, nq, rfl, hq, rfl⟩))
        go_roundw
        case rel => exact ⟨k + 1, _, _, _, by omega, by go_num, rfl, rfl, by rw [E1.out]; assumption, by rw [E1.out]; assumption, rfl⟩
        case measure => simp [intOf]; omega
      | false =>
        have e1 := halN_f ht
        have E1 := Lib.hid e1
        clear e1
        generalize (halN T lowL highL k).1 = M at *
        generalize (halN T lowL highL k).2 = N at *
        rw [TV.out] at ht
        have hT : cmpB .gtr .f64 (lnP u (halfO M N)) (fo .mul .f64 (some 4618760256179416344) x1) = false := ht
        clear ht
        go_wp2_with (first | (apply wpList_cmp; rfl; simp [Cmp]; rfl; rfl; (first | assumption | exact is_lit64 _ (by decide) | exact is_lit32 _ (by decide)); (first | assumption | exact is_lit64 _ (by decide) | exact is_lit32 _ (by decide)); intro Kq hKq; go_simp) | (apply wpList_arith; rfl; simp [Arith]; rfl; rfl; (first | assumption | exact is_lit64 _ (by decide) | exact is_lit32 _ (by decide)); (first | assumption | exact is_lit64 _ (by decide) | exact is_lit32 _ (by decide)); intro Kq hKq rq nq hq; go_simp) | (go_at_call 59; refine (sLnP (by assumption) (by assumption) S3.out _).mono ?_; rintro eq wq ⟨rq, nq, rfl, hq, rfl⟩))
        go_roundw
        case rel => exact ⟨k + 1, _, _, _, by omega, by go_num, rfl, rfl, by rw [E1.out]; assumption, by rw [E1.out]; assumption, rfl⟩
        case measure => simp [intOf]; omega
    · have hkn : Hid (k = 60) := (show k = 60 by omega)
      go_wp2
      go_ret
      exact ⟨_, _, rfl, by rw [← hkn.out]; exact il, rfl⟩

theorem iLean {a x : Nat} {u v : Option Nat} (ia : Is .f64 a u) (ix : Is .f64 x v) (w : World) :
    Calls Try.prog 46 #[.float .f64 a, .float .f64 x] w (RetB .f64 (halN (fun c => cmpB .gtr .f64 (lnP u c) (fo .mul .f64 (some 4618760256179416344) v)) lowL highL 60).1 w) := by
  have hst := run_store_float Try.prog
  have hE : Enters Try.prog 67 := enters_of Try.func67 (by kernel_rfl) rfl
  have hp : Is .f64 4618760256179416344 (some 4618760256179416344) := is_lit64 _ (by decide)
  generalize hV : (halN (fun c => cmpB .gtr .f64 (lnP u c) (fo .mul .f64 (some 4618760256179416344) v)) lowL highL 60).1 = V
  have HV := Lib.hid hV
  clear hV
  go_enter Try.func46, Try.ntmps46
  go_wp2_with (first | (go_at_call 54; refine (full_any _).mono ?_; rintro eq wq ⟨nq, rfl, rfl⟩) | (go_at_call 52; refine (iMul2 _ hp ix (by rw [alloc_drewN]; simp; done) (by rw [alloc_drewN]; simp; done)).mono ?_; rintro eq wq ⟨rq, nq, rfl, hq, rfl⟩) | (go_at_call 56; refine (iHalvedL (fun c => cmpB .gtr .f64 (lnP u c) (fo .mul .f64 (some 4618760256179416344) v)) _ _ is_lowL is_highL (n := 60) (by decide) _ hE sm_lowL sm_highL (iAbvLF ia hq _ _ _ _ (by simp [alloc_drewN, World.cell?_alloc_at]; done) (by simp [alloc_drewN, World.cell?_alloc_at, World.cell?_alloc_past, lt2]; done) (by simp [alloc_drewN, World.cell?_alloc_at, World.cell?_alloc_past]; done) (by simp) (by simp [lt3]) (by simp [lt2]))).mono ?_; rintro _ W1 ⟨⟨r1, rfl, i1⟩, b1⟩) | go_in)
  go_ret
  have hz := b1.size
  simp at hz
  exact ⟨⟨_, rfl, HV.out ▸ i1⟩, by repeat' (first | with_reducible exact Below.refl _ _ | with_reducible assumption | (with_reducible refine Below.setCell ?_ (by first | omega | (simp; done) | (simp; omega)) _) | (with_reducible refine Below.alloc ?_ (by first | omega | (simp; done) | (simp; omega)) _) | (with_reducible refine below_drewN ?_ _) | (with_reducible refine Below.drew ?_) | (with_reducible refine Below.trans ?_ (Below.mono (by first | (with_reducible assumption) | exact Grow.below (by assumption)) (by first | omega | (simp; done) | (simp; omega)))))⟩

/-- What is halved for a lean. -/
def leH (u p : Option Nat) : Option Nat := (halN (fun c => cmpB .gtr .f64 (lnP u c) (fo .mul .f64 (some 4618760256179416344) p)) lowL highL 60).1

theorem sm_leH (u p : Option Nat) : SmO .f64 (leH u p) 4 := (sm_halN sm_lowL sm_highL (by decide) (by decide) 60).1

/-- The lean, and whether it is one. -/
def leN (e v : Option Nat) : Option Nat := if brR e && brP v then cv .f64 .f32 (leH (cv .f32 .f64 e) (cv .f32 .f64 v)) else some 0

theorem sLeO {r x : Nat} {e v : Option Nat} (ie : Is .f32 r e) (ix : Is .f32 x v) (w : World) : Calls Try.prog 22 #[.float .f32 r, .float .f32 x] w (RetNum (leN e v) (brR e && brP v) w) := by
  unfold leN
  have no : (brR e && brP v) = false → Calls Try.prog 22 #[.float .f32 r, .float .f32 x] w (RetNum (some 0) false w) := fun h => by
    unfold brR brP at h
    cases h1 : finS e with
    | false =>
      go_enter Try.func22, Try.ntmps22
      go_wp2_with (first | (apply wpList_cmp; rfl; simp [Cmp]; rfl; rfl; (first | assumption | exact is_lit64 _ (by decide) | exact is_lit32 _ (by decide)); (first | assumption | exact is_lit64 _ (by decide) | exact is_lit32 _ (by decide)); intro Kq hKq; go_simp) | (go_at_call 34; refine (finite_any (by assumption) _).mono ?_; rintro eq wq ⟨nq, rfl, rfl⟩))
      go_ret2
      exact ⟨⟨_, rfl, zero32⟩, by repeat' (first | with_reducible exact Below.refl _ _ | with_reducible assumption | (with_reducible refine Below.setCell ?_ (by first | omega | (simp; done) | (simp; omega)) _) | (with_reducible refine Below.alloc ?_ (by first | omega | (simp; done) | (simp; omega)) _) | (with_reducible refine below_drewN ?_ _) | (with_reducible refine Below.drew ?_) | (with_reducible refine Below.trans ?_ (Below.mono (by first | (with_reducible assumption) | exact Grow.below (by assumption)) (by first | omega | (simp; done) | (simp; omega)))))⟩
    | true =>
      cases h2 : cmpB .gtr .f32 e (some 1065353216) with
      | false =>
        go_enter Try.func22, Try.ntmps22
        go_wp2_with (first | (apply wpList_cmp; rfl; simp [Cmp]; rfl; rfl; (first | assumption | exact is_lit64 _ (by decide) | exact is_lit32 _ (by decide)); (first | assumption | exact is_lit64 _ (by decide) | exact is_lit32 _ (by decide)); intro Kq hKq; go_simp) | (go_at_call 34; refine (finite_any (by assumption) _).mono ?_; rintro eq wq ⟨nq, rfl, rfl⟩))
        go_ret2
        exact ⟨⟨_, rfl, zero32⟩, by repeat' (first | with_reducible exact Below.refl _ _ | with_reducible assumption | (with_reducible refine Below.setCell ?_ (by first | omega | (simp; done) | (simp; omega)) _) | (with_reducible refine Below.alloc ?_ (by first | omega | (simp; done) | (simp; omega)) _) | (with_reducible refine below_drewN ?_ _) | (with_reducible refine Below.drew ?_) | (with_reducible refine Below.trans ?_ (Below.mono (by first | (with_reducible assumption) | exact Grow.below (by assumption)) (by first | omega | (simp; done) | (simp; omega)))))⟩
      | true =>
        cases h3 : cmpB .geq .f32 v (some 3246391296) with
        | false =>
          go_enter Try.func22, Try.ntmps22
          go_wp2_with (first | (apply wpList_cmp; rfl; simp [Cmp]; rfl; rfl; (first | assumption | exact is_lit64 _ (by decide) | exact is_lit32 _ (by decide)); (first | assumption | exact is_lit64 _ (by decide) | exact is_lit32 _ (by decide)); intro Kq hKq; go_simp) | (go_at_call 34; refine (finite_any (by assumption) _).mono ?_; rintro eq wq ⟨nq, rfl, rfl⟩))
          go_ret2
          exact ⟨⟨_, rfl, zero32⟩, by repeat' (first | with_reducible exact Below.refl _ _ | with_reducible assumption | (with_reducible refine Below.setCell ?_ (by first | omega | (simp; done) | (simp; omega)) _) | (with_reducible refine Below.alloc ?_ (by first | omega | (simp; done) | (simp; omega)) _) | (with_reducible refine below_drewN ?_ _) | (with_reducible refine Below.drew ?_) | (with_reducible refine Below.trans ?_ (Below.mono (by first | (with_reducible assumption) | exact Grow.below (by assumption)) (by first | omega | (simp; done) | (simp; omega)))))⟩
        | true =>
          have h4 : cmpB .leq .f32 v (some 1098907648) = false := by rw [h1, h2, h3] at h; simpa using h
          go_enter Try.func22, Try.ntmps22
          go_wp2_with (first | (apply wpList_cmp; rfl; simp [Cmp]; rfl; rfl; (first | assumption | exact is_lit64 _ (by decide) | exact is_lit32 _ (by decide)); (first | assumption | exact is_lit64 _ (by decide) | exact is_lit32 _ (by decide)); intro Kq hKq; go_simp) | (go_at_call 34; refine (finite_any (by assumption) _).mono ?_; rintro eq wq ⟨nq, rfl, rfl⟩))
          go_ret2
          exact ⟨⟨_, rfl, zero32⟩, by repeat' (first | with_reducible exact Below.refl _ _ | with_reducible assumption | (with_reducible refine Below.setCell ?_ (by first | omega | (simp; done) | (simp; omega)) _) | (with_reducible refine Below.alloc ?_ (by first | omega | (simp; done) | (simp; omega)) _) | (with_reducible refine below_drewN ?_ _) | (with_reducible refine Below.drew ?_) | (with_reducible refine Below.trans ?_ (Below.mono (by first | (with_reducible assumption) | exact Grow.below (by assumption)) (by first | omega | (simp; done) | (simp; omega)))))⟩
  cases hb : brR e && brP v with
  | false => exact no hb
  | true =>
    clear no
    have hs := sm_leH (cv .f32 .f64 e) (cv .f32 .f64 v)
    have hF := fit_le hs.2 (by decide)
    unfold brR brP at hb
    simp only [Bool.and_eq_true] at hb
    obtain ⟨⟨h1, h2⟩, h3, h4⟩ := hb
    go_enter Try.func22, Try.ntmps22
    go_wp2_with (first | (apply wpList_cmp; rfl; simp [Cmp]; rfl; rfl; (first | assumption | exact is_lit64 _ (by decide) | exact is_lit32 _ (by decide)); (first | assumption | exact is_lit64 _ (by decide) | exact is_lit32 _ (by decide)); intro Kq hKq; go_simp) | (apply wpList_wide und32 Try.underlying37; rfl; rfl; (first | assumption | exact is_lit64 _ (by decide) | exact is_lit32 _ (by decide)); intro Kq hKq rq nq hq; go_simp) | (go_at_call 34; refine (finite_any (by assumption) _).mono ?_; rintro eq wq ⟨nq, rfl, rfl⟩) | (go_at_call 43; refine (sLean (by assumption) (by assumption) _).mono ?_; rintro _ _ ⟨r2, n2, rfl, i2, rfl⟩) | (go_at_call 40; refine (narrow_any i2 hF _).mono ?_; rintro _ _ ⟨r1, n1, rfl, i1, rfl⟩))
    go_ret2
    exact ⟨⟨_, rfl, i1⟩, by repeat' (first | with_reducible exact Below.refl _ _ | with_reducible assumption | (with_reducible refine Below.setCell ?_ (by first | omega | (simp; done) | (simp; omega)) _) | (with_reducible refine Below.alloc ?_ (by first | omega | (simp; done) | (simp; omega)) _) | (with_reducible refine below_drewN ?_ _) | (with_reducible refine Below.drew ?_) | (with_reducible refine Below.trans ?_ (Below.mono (by first | (with_reducible assumption) | exact Grow.below (by assumption)) (by first | omega | (simp; done) | (simp; omega)))))⟩

theorem iLeO {r x : Nat} {e v : Option Nat} (ie : Is .f32 r e) (ix : Is .f32 x v) (w : World) : Calls Try.prog 23 #[.float .f32 r, .float .f32 x] w (RetNum (leN e v) (brR e && brP v) w) := by
  unfold leN
  cases hp : brR e with
  | false =>
    go_enter Try.func23, Try.ntmps23
    go_wp2_with (go_at_call 44; refine (iBraR (by assumption) _).mono ?_; rintro eq wq ⟨nq, rfl, rfl⟩)
    go_ret2
    exact ⟨⟨_, rfl, zero32⟩, by repeat' (first | with_reducible exact Below.refl _ _ | with_reducible assumption | (with_reducible refine Below.setCell ?_ (by first | omega | (simp; done) | (simp; omega)) _) | (with_reducible refine Below.alloc ?_ (by first | omega | (simp; done) | (simp; omega)) _) | (with_reducible refine below_drewN ?_ _) | (with_reducible refine Below.drew ?_) | (with_reducible refine Below.trans ?_ (Below.mono (by first | (with_reducible assumption) | exact Grow.below (by assumption)) (by first | omega | (simp; done) | (simp; omega)))))⟩
  | true =>
    cases hf : brP v with
    | false =>
      go_enter Try.func23, Try.ntmps23
      go_wp2_with (first | (go_at_call 44; refine (iBraR (by assumption) _).mono ?_; rintro eq wq ⟨nq, rfl, rfl⟩) | (go_at_call 45; refine (iBraP (by assumption) _).mono ?_; rintro eq wq ⟨nq, rfl, rfl⟩))
      go_ret2
      exact ⟨⟨_, rfl, zero32⟩, by repeat' (first | with_reducible exact Below.refl _ _ | with_reducible assumption | (with_reducible refine Below.setCell ?_ (by first | omega | (simp; done) | (simp; omega)) _) | (with_reducible refine Below.alloc ?_ (by first | omega | (simp; done) | (simp; omega)) _) | (with_reducible refine below_drewN ?_ _) | (with_reducible refine Below.drew ?_) | (with_reducible refine Below.trans ?_ (Below.mono (by first | (with_reducible assumption) | exact Grow.below (by assumption)) (by first | omega | (simp; done) | (simp; omega)))))⟩
    | true =>
      have hs := sm_leH (cv .f32 .f64 e) (cv .f32 .f64 v)
      have hF := fit_le hs.2 (by decide)
      have hok := fin_cv hs (by decide)
      have hfn : finN (cv .f64 .f32 (leH (cv .f32 .f64 e) (cv .f32 .f64 v))) = cv .f64 .f32 (leH (cv .f32 .f64 e) (cv .f32 .f64 v)) := by unfold finN; rw [hok]; rfl
      have HN := fun {z : Nat} (iz : Is .f64 z (leH (cv .f32 .f64 e) (cv .f32 .f64 v))) w => hfn ▸ hok ▸ iNarF iz hF w
      clear hfn hok
      go_enter Try.func23, Try.ntmps23
      go_wp2_with (first | (apply wpList_wide und32 Try.underlying37; rfl; rfl; (first | assumption | exact is_lit64 _ (by decide) | exact is_lit32 _ (by decide)); intro Kq hKq rq nq hq; go_simp) | (apply wpList_wide und32 Try.underlying46; rfl; rfl; assumption; intro Kq hKq rq nq hq; go_simp) | (go_at_call 44; refine (iBraR (by assumption) _).mono ?_; rintro eq wq ⟨nq, rfl, rfl⟩) | (go_at_call 45; refine (iBraP (by assumption) _).mono ?_; rintro eq wq ⟨nq, rfl, rfl⟩) | (go_at_call 46; refine (iLean (by assumption) (by assumption) _).mono ?_; rintro _ W2 ⟨⟨r2, rfl, i2⟩, b2⟩) | (go_at_call 38; refine (HN i2 _).mono ?_; rintro _ W1 ⟨⟨r1, rfl, i1⟩, b1⟩))
      go_ret2
      have hz : w.heap.size ≤ W2.heap.size := b2.size
      exact ⟨⟨_, rfl, i1⟩, by repeat' (first | with_reducible exact Below.refl _ _ | with_reducible assumption | (with_reducible refine Below.setCell ?_ (by first | omega | (simp; done) | (simp; omega)) _) | (with_reducible refine Below.alloc ?_ (by first | omega | (simp; done) | (simp; omega)) _) | (with_reducible refine below_drewN ?_ _) | (with_reducible refine Below.drew ?_) | (with_reducible refine Below.trans ?_ (Below.mono (by first | (with_reducible assumption) | exact Grow.below (by assumption)) (by first | omega | (simp; done) | (simp; omega)))))⟩

theorem walk_FnExactLeanOf (a b : Nat) (w : World) (ka : a < 2 ^ 32) (kb : b < 2 ^ 32) :
    Calls Try.prog 8 #[.float .f32 a, .float .f32 b] w fun e w' => e = .returned (.bool true) ∧ Below w.heap.size w w' := by
  have ia := Is.self (k := .f32) ka
  have ib := Is.self (k := .f32) kb
  go_enter Try.func8, Try.ntmps8
  go_wp2_with (first | (apply wpList_wide und32 Try.underlying37; rfl; rfl; (first | assumption | exact is_lit64 _ (by decide) | exact is_lit32 _ (by decide)); intro Kq hKq rq nq hq; go_simp) | (go_at_call 22; refine (sLeO ia ib _).mono ?_; rintro _ W1 ⟨⟨r1, rfl, i1⟩, b1⟩) | (go_at_call 23; refine (iLeO ia ib _).mono ?_; rintro _ W2 ⟨⟨r2, rfl, i2⟩, b2⟩) | (go_at_call 19; refine (sameFloat_any (by assumption) (by assumption) _).mono ?_; rintro eq wq ⟨nq, rfl, rfl⟩))
  go_ret
  refine ⟨rfl, ?_⟩
  have hz := b1.size
  repeat' (first | with_reducible exact Below.refl _ _ | with_reducible assumption | (with_reducible refine Below.setCell ?_ (by first | omega | (simp; done) | (simp; omega)) _) | (with_reducible refine Below.alloc ?_ (by first | omega | (simp; done) | (simp; omega)) _) | (with_reducible refine below_drewN ?_ _) | (with_reducible refine Below.drew ?_) | (with_reducible refine Below.trans ?_ (Below.mono (by first | (with_reducible assumption) | exact Grow.below (by assumption)) (by first | omega | (simp; done) | (simp; omega)))))
end Go.Proofs.Ythajdpfdnihimaa
