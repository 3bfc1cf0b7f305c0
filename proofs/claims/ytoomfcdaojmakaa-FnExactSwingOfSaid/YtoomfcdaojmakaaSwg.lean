/-
  The swing of a phase, of the program and of the model. No condition.
-/
import Derived.Test.YtoomfcdaojmakaaHalf
import Derived.Test.YtoomfcdaojmakaaDivO
import Derived.Test.YtoomfcdaojmakaaFlo
import Derived.Deep.RegionHeld3
import Derived.Shelf.Abstract
namespace Go.Proofs.Ytoomfcdaojmakaa
open Go.RowKit

theorem sWrap {x : Nat} (ix : Is .f64 x (some x)) {s : Bool} {m : Nat} {e : Int} (hd : FloatKind.f64.decode x = .number s m e) (w : World) : Calls Try.prog 49 #[.float .f64 x] w (RetF .f64 (wrapS (some x)) w) := by
  unfold wrapS
  go_enter Try.func49, Try.ntmps49
  go_wp2_with (first | (apply wpList_arith; rfl; simp [Arith]; rfl; rfl; (first | assumption | exact is_lit64 _ (by decide) | exact is_lit32 _ (by decide)); (first | assumption | exact is_lit64 _ (by decide) | exact is_lit32 _ (by decide)); intro Kq hKq rq nq hq; go_simp) | (go_at_call 45; refine (floor_num hd _).mono ?_; rintro eq wq ⟨rq, nq, rfl, hq, rfl⟩))
  go_ret
  exact ⟨_, _, rfl, by assumption, rfl⟩

/-- A number that is wrapped by spans of 1, as the program does it. -/
def wrapB (v : Option Nat) : Option Nat := if cmpB .neq .f64 (floorO (fo .quo .f64 v (some 4607182418800017408))) (some 0) then fo .sub .f64 v (fo .mul .f64 (some 4607182418800017408) (floorO (fo .quo .f64 v (some 4607182418800017408)))) else v

theorem wrapB_eq {x : Nat} {v : Option Nat} (ix : Is .f64 x v) : wrapB v = wrapO v := by
  unfold wrapB wrapO
  rw [div_one ix]
  have hf : ∃ y, Is .f64 y (floorO v) := by
    cases v with
    | none => exact ⟨9221120237041090561, by decide, by decide⟩
    | some z =>
      cases h : floorO (some z) with
      | none => exact ⟨9221120237041090561, by decide, by decide⟩
      | some y => exact ⟨y, floor_is h⟩
  obtain ⟨y, iy⟩ := hf
  rw [one_mul iy]

theorem iWrapBy {x : Nat} {v : Option Nat} (ix : Is .f64 x v) (w : World) : Calls Try.prog 69 #[.float .f64 x, .float .f64 4607182418800017408] w (RetB .f64 (wrapO v) w) := by
  have h1 := is_one64
  have hst := run_store_float Try.prog
  rw [← wrapB_eq ix]
  unfold wrapB
  cases hn : cmpB .neq .f64 (floorO (fo .quo .f64 v (some 4607182418800017408))) (some 0) with
  | true =>
    go_enter Try.func69, Try.ntmps69
    go_wp2_with (first | (apply wpList_cmp; rfl; simp [Cmp]; rfl; rfl; (first | assumption | exact is_lit64 _ (by decide) | exact is_lit32 _ (by decide)); (first | assumption | exact is_lit64 _ (by decide) | exact is_lit32 _ (by decide)); intro Kq hKq; go_simp) | (apply wpList_arith; rfl; simp [Arith]; rfl; rfl; (first | assumption | exact is_lit64 _ (by decide) | exact is_lit32 _ (by decide)); (first | assumption | exact is_lit64 _ (by decide) | exact is_lit32 _ (by decide)); intro Kq hKq rq nq hq; go_simp) | (go_at_call 45; refine (floor_any (by assumption) _).mono ?_; rintro eq wq ⟨rq, nq, rfl, hq, rfl⟩))
    refine (iMul2 _ h1 hq (by first | (simp; done) | (rw [alloc_drewN]; simp; done)) (by first | (simp; done) | (rw [alloc_drewN]; simp; done))).mono ?_
    rintro _ _ ⟨r1, n1, rfl, i1, rfl⟩
    go_wp2_with (apply wpList_arith; rfl; simp [Arith]; rfl; rfl; (first | assumption | exact is_lit64 _ (by decide) | exact is_lit32 _ (by decide)); (first | assumption | exact is_lit64 _ (by decide) | exact is_lit32 _ (by decide)); intro Kq hKq rq nq hq; go_simp)
    go_ret
    refine ⟨⟨_, rfl, by assumption⟩, ?_⟩
    repeat' (first | with_reducible exact Below.refl _ _ | with_reducible assumption | (with_reducible refine Below.setCell ?_ (by first | omega | (simp; done) | (simp; omega)) _) | (with_reducible refine Below.alloc ?_ (by first | omega | (simp; done) | (simp; omega)) _) | (with_reducible refine below_drewN ?_ _) | (with_reducible refine Below.drew ?_) | (with_reducible refine Below.trans ?_ (Below.mono (by first | (with_reducible assumption) | exact Grow.below (by assumption)) (by first | omega | (simp; done) | (simp; omega)))))
  | false =>
    go_enter Try.func69, Try.ntmps69
    go_wp2_with (first | (apply wpList_cmp; rfl; simp [Cmp]; rfl; rfl; (first | assumption | exact is_lit64 _ (by decide) | exact is_lit32 _ (by decide)); (first | assumption | exact is_lit64 _ (by decide) | exact is_lit32 _ (by decide)); intro Kq hKq; go_simp) | (apply wpList_arith; rfl; simp [Arith]; rfl; rfl; (first | assumption | exact is_lit64 _ (by decide) | exact is_lit32 _ (by decide)); (first | assumption | exact is_lit64 _ (by decide) | exact is_lit32 _ (by decide)); intro Kq hKq rq nq hq; go_simp) | (go_at_call 45; refine (floor_any (by assumption) _).mono ?_; rintro eq wq ⟨rq, nq, rfl, hq, rfl⟩))
    go_ret
    refine ⟨⟨_, rfl, by assumption⟩, ?_⟩
    repeat' (first | with_reducible exact Below.refl _ _ | with_reducible assumption | (with_reducible refine Below.setCell ?_ (by first | omega | (simp; done) | (simp; omega)) _) | (with_reducible refine Below.alloc ?_ (by first | omega | (simp; done) | (simp; omega)) _) | (with_reducible refine below_drewN ?_ _) | (with_reducible refine Below.drew ?_) | (with_reducible refine Below.trans ?_ (Below.mono (by first | (with_reducible assumption) | exact Grow.below (by assumption)) (by first | omega | (simp; done) | (simp; omega)))))

theorem iWrap {x : Nat} {v : Option Nat} (ix : Is .f64 x v) (w : World) : Calls Try.prog 53 #[.float .f64 x] w (RetB .f64 (wrapO v) w) := by
  go_enter Try.func53, Try.ntmps53
  go_wp2_with (go_at_call 69; refine (iWrapBy ix _).mono ?_; rintro _ W1 ⟨⟨r1, rfl, i1⟩, b1⟩)
  go_ret
  exact ⟨⟨_, rfl, i1⟩, b1⟩


set_option maxHeartbeats 1600000 in
theorem sSwing {a x : Nat} {u : Option Nat} (ia : Is .f64 a u) (ix : Is .f64 x (some x)) {s : Bool} {m : Nat} {e : Int} (hd : FloatKind.f64.decode x = .number s m e) (w : World) :
    Calls Try.prog 32 #[.float .f64 a, .float .f64 x] w (RetF .f64 (halN (fun c => cmpB .gtr .f64 (swP u c) (wrapS (some x))) (some 0) (some 4607182418800017408) 50).1 w) := by
  have HD := Lib.hid hd
  clear hd
  generalize hT : (fun c => cmpB .gtr .f64 (swP u c) (wrapS (some x))) = T
  have tv : ∀ c, T c = cmpB .gtr .f64 (swP u c) (wrapS (some x)) := fun c => by rw [← hT]
  have TV := Lib.hid tv
  clear tv hT
  go_enter Try.func32, Try.ntmps32
  go_wp2_with (first | (go_at_call 49; refine (sWrap ix HD.out _).mono ?_; rintro eq wq ⟨rq, nq, rfl, hq, rfl⟩))
  go_loopw [6, 7, 8] (fun l h i wr => ∃ k rl rh m : Nat, k ≤ 50 ∧ i = .int .i64 k ∧ l = .float .f64 rl ∧ h = .float .f64 rh ∧ Is .f64 rl (halN T (some 0) (some 4607182418800017408) k).1 ∧ Is .f64 rh (halN T (some 0) (some 4607182418800017408) k).2 ∧ wr = w.drewN m) (fun _ _ i _ => 50 - (intOf i).toNat)
  case atStart => exact ⟨0, _, _, _, Nat.zero_le _, rfl, rfl, rfl, is_zero64, is_one64, rfl⟩
  case round =>
    obtain ⟨k, rl, rh, m, hk, rfl, rfl, rfl, il, ih, rfl⟩ := hrel
    by_cases hlt : k < 50
    · have hlt' : ((k : Nat) : Int) < 50 := by omega
      cases ht : T (midO (halN T (some 0) (some 4607182418800017408) k).1 (halN T (some 0) (some 4607182418800017408) k).2) with
      | true =>
        have e1 := halN_t ht
        have E1 := Lib.hid e1
        clear e1
        generalize (halN T (some 0) (some 4607182418800017408) k).1 = M at *
        generalize (halN T (some 0) (some 4607182418800017408) k).2 = N at *
        rw [TV.out] at ht
        have hT : cmpB .gtr .f64 (swP u (fo .quo .f64 (fo .add .f64 M N) (some 4611686018427387904))) (wrapS (some x)) = true := ht
        clear ht
        go_wp2_with (first | (apply wpList_cmp; rfl; simp [Cmp]; rfl; rfl; (first | assumption | exact is_lit64 _ (by decide) | exact is_lit32 _ (by decide)); (first | assumption | exact is_lit64 _ (by decide) | exact is_lit32 _ (by decide)); intro Kq hKq; go_simp) | (apply wpList_arith; rfl; simp [Arith]; rfl; rfl; (first | assumption | exact is_lit64 _ (by decide) | exact is_lit32 _ (by decide)); (first | assumption | exact is_lit64 _ (by decide) | exact is_lit32 _ (by decide)); intro Kq hKq rq nq hq; go_simp) | (go_at_call 50; refine (sSwP (by assumption) (by assumption) _).mono ?_; rintro eq wq ⟨rq, nq, rfl, hq, rfl⟩))
        go_roundw
        case rel => exact ⟨k + 1, _, _, _, by omega, by go_num, rfl, rfl, by rw [E1.out]; assumption, by rw [E1.out]; assumption, rfl⟩
        case measure => simp [intOf]; omega
      | false =>
        have e1 := halN_f ht
        have E1 := Lib.hid e1
        clear e1
        generalize (halN T (some 0) (some 4607182418800017408) k).1 = M at *
        generalize (halN T (some 0) (some 4607182418800017408) k).2 = N at *
        rw [TV.out] at ht
        have hT : cmpB .gtr .f64 (swP u (fo .quo .f64 (fo .add .f64 M N) (some 4611686018427387904))) (wrapS (some x)) = false := ht
        clear ht
        go_wp2_with (first | (apply wpList_cmp; rfl; simp [Cmp]; rfl; rfl; (first | assumption | exact is_lit64 _ (by decide) | exact is_lit32 _ (by decide)); (first | assumption | exact is_lit64 _ (by decide) | exact is_lit32 _ (by decide)); intro Kq hKq; go_simp) | (apply wpList_arith; rfl; simp [Arith]; rfl; rfl; (first | assumption | exact is_lit64 _ (by decide) | exact is_lit32 _ (by decide)); (first | assumption | exact is_lit64 _ (by decide) | exact is_lit32 _ (by decide)); intro Kq hKq rq nq hq; go_simp) | (go_at_call 50; refine (sSwP (by assumption) (by assumption) _).mono ?_; rintro eq wq ⟨rq, nq, rfl, hq, rfl⟩))
        go_roundw
        case rel => exact ⟨k + 1, _, _, _, by omega, by go_num, rfl, rfl, by rw [E1.out]; assumption, by rw [E1.out]; assumption, rfl⟩
        case measure => simp [intOf]; omega
    · have hkn : Hid (k = 50) := (show k = 50 by omega)
      go_wp2
      go_ret
      exact ⟨_, _, rfl, by rw [← hkn.out]; exact il, rfl⟩


set_option maxHeartbeats 1600000 in
theorem iHalved (T : Option Nat → Bool) (F : Nat) (C : Array Value) {l h n : Nat} {L H : Option Nat} (il : Is .f64 l L) (ih : Is .f64 h H) (hn : n ≤ 64) (w : World)
    (eF : Enters Try.prog F) (hF : ∀ c v, Is .f64 c v → ∀ W, Below w.heap.size w W → Calls Try.prog F (#[.float .f64 c] ++ C) W fun e w' => e = .returned (.bool (T v)) ∧ Below W.heap.size W w') :
    Calls Try.prog 51 #[.float .f64 l, .float .f64 h, .int .i64 n, .func (.func F) #[] C] w (RetB .f64 (halN T L H n).1 w) := by
  have HF := Lib.hid hF
  unfold Enters at eF
  clear hF
  go_enter Try.func51, Try.ntmps51
  go_wp2
  go_loopw [0, 1, 11] (fun p q i wr => ∃ k rl rh : Nat, k ≤ n ∧ i = .int .i64 k ∧ p = .float .f64 rl ∧ q = .float .f64 rh ∧ Is .f64 rl (halN T L H k).1 ∧ Is .f64 rh (halN T L H k).2 ∧ Below w.heap.size w wr) (fun _ _ i _ => n - (intOf i).toNat)
  case atStart => exact ⟨0, _, _, Nat.zero_le _, rfl, rfl, rfl, il, ih, Below.refl _ _⟩
  case round =>
    obtain ⟨k, rl, rh, hk, rfl, rfl, rfl, jl, jh, hb⟩ := hrel
    by_cases hlt : k < n
    · have hlt' : ((k : Nat) : Int) < (n : Int) := by omega
      cases ht : T (midO (halN T L H k).1 (halN T L H k).2) with
      | true =>
        have e1 := halN_t ht
        have E1 := Lib.hid e1
        clear e1
        generalize (halN T L H k).1 = M at *
        generalize (halN T L H k).2 = N at *
        have hT : T (fo .quo .f64 (fo .add .f64 M N) (some 4611686018427387904)) = true := ht
        go_wp2_with (first | (apply wpList_arith; rfl; simp [Arith]; rfl; rfl; (first | assumption | exact is_lit64 _ (by decide) | exact is_lit32 _ (by decide)); (first | assumption | exact is_lit64 _ (by decide) | exact is_lit32 _ (by decide)); intro Kq hKq rq nq hq; go_simp) | (go_at_fn F; refine (HF.out _ _ (by assumption) _ (by repeat' (first | with_reducible exact Below.refl _ _ | with_reducible assumption | (with_reducible refine Below.setCell ?_ (by first | omega | (simp; done) | (simp; omega)) _) | (with_reducible refine Below.alloc ?_ (by first | omega | (simp; done) | (simp; omega)) _) | (with_reducible refine below_drewN ?_ _) | (with_reducible refine Below.drew ?_) | (with_reducible refine Below.trans ?_ (Below.mono (by first | (with_reducible assumption) | exact Grow.below (by assumption)) (by first | omega | (simp; done) | (simp; omega))))))).mono ?_; rintro _ W1 ⟨rfl, b1⟩))
        go_roundw
        case rel => exact ⟨k + 1, _, _, by omega, by go_num, rfl, rfl, by rw [E1.out]; assumption, by rw [E1.out]; assumption, (below_drewN hb _).trans (b1.mono hb.size)⟩
        case measure => simp [intOf]; omega
      | false =>
        have e1 := halN_f ht
        have E1 := Lib.hid e1
        clear e1
        generalize (halN T L H k).1 = M at *
        generalize (halN T L H k).2 = N at *
        have hT : T (fo .quo .f64 (fo .add .f64 M N) (some 4611686018427387904)) = false := ht
        go_wp2_with (first | (apply wpList_arith; rfl; simp [Arith]; rfl; rfl; (first | assumption | exact is_lit64 _ (by decide) | exact is_lit32 _ (by decide)); (first | assumption | exact is_lit64 _ (by decide) | exact is_lit32 _ (by decide)); intro Kq hKq rq nq hq; go_simp) | (go_at_fn F; refine (HF.out _ _ (by assumption) _ (by repeat' (first | with_reducible exact Below.refl _ _ | with_reducible assumption | (with_reducible refine Below.setCell ?_ (by first | omega | (simp; done) | (simp; omega)) _) | (with_reducible refine Below.alloc ?_ (by first | omega | (simp; done) | (simp; omega)) _) | (with_reducible refine below_drewN ?_ _) | (with_reducible refine Below.drew ?_) | (with_reducible refine Below.trans ?_ (Below.mono (by first | (with_reducible assumption) | exact Grow.below (by assumption)) (by first | omega | (simp; done) | (simp; omega))))))).mono ?_; rintro _ W1 ⟨rfl, b1⟩))
        go_roundw
        case rel => exact ⟨k + 1, _, _, by omega, by go_num, rfl, rfl, by rw [E1.out]; assumption, by rw [E1.out]; assumption, (below_drewN hb _).trans (b1.mono hb.size)⟩
        case measure => simp [intOf]; omega
    · have hkn : Hid (k = n) := (show k = n by omega)
      go_wp2
      go_ret
      exact ⟨⟨_, rfl, by rw [← hkn.out]; exact jl⟩, hb⟩

theorem lt2 (n : Nat) : n < n + 1 + 1 := by omega
theorem lt3 (n : Nat) : n < n + 1 + 1 + 1 := by omega

theorem iAbv {a g c : Nat} {u f v : Option Nat} (ia : Is .f64 a u) (ig : Is .f64 g f) (ic : Is .f64 c v) (be bg bt : Nat) (w : World) (ct : w.cell? ⟨bt, 0, none⟩ = some (.func (.func 54) #[] #[])) (ce : w.cell? ⟨be, 0, none⟩ = some (.float .f64 a)) (cg : w.cell? ⟨bg, 0, none⟩ = some (.float .f64 g)) (ht : bt < w.heap.size) (he : be < w.heap.size) (hg : bg < w.heap.size) :
    Calls Try.prog 68 #[.float .f64 c, .pointer (some ⟨bt, 0, none⟩), .pointer (some ⟨be, 0, none⟩), .pointer (some ⟨bg, 0, none⟩)] w fun e w' => e = .returned (.bool (cmpB .gtr .f64 (swP u v) f)) ∧ Below w.heap.size w w' := by
  have kt : ∀ w', Below w.heap.size w w' → w'.cell? ⟨bt, 0, none⟩ = some (.func (.func 54) #[] #[]) := fun w' h => by rw [h.cell (by assumption), ct]
  have ke : ∀ w', Below w.heap.size w w' → w'.cell? ⟨be, 0, none⟩ = some (.float .f64 a) := fun w' h => by rw [h.cell (by assumption), ce]
  have kg : ∀ w', Below w.heap.size w w' → w'.cell? ⟨bg, 0, none⟩ = some (.float .f64 g) := fun w' h => by rw [h.cell (by assumption), cg]
  go_enter Try.func68, Try.ntmps68
  go_wp2_with fail
  go_region_held3 (fun w' => Below w.heap.size w w') (first | with_reducible assumption | with_reducible exact (Below.refl _ _).drew | with_reducible exact Below.refl _ _ | with_reducible exact Below.trans (by with_reducible assumption) (Below.mono (by with_reducible assumption) (Below.size (by with_reducible assumption))) | (with_reducible refine below_drewN ?_ _; with_reducible assumption) | (with_reducible refine Below.drew ?_; with_reducible assumption))
    (first | (go_at_call 54; refine (iSwP ia ic _).mono ?_; rintro eq wq ⟨⟨rq, rfl, hq⟩, hb⟩))
  rename_i hHeld
  have hb2 : (FloatKind.f64.format.order rq g == some Ordering.gt) = cmpB .gtr .f64 (swP u v) f := by rw [order_fo, hq.1, ig.1]; rfl
  go_wp2
  go_ret
  exact ⟨by rw [hb2]; rfl, hHeld⟩

theorem iAbvF {a g : Nat} {u f : Option Nat} (ia : Is .f64 a u) (ig : Is .f64 g f) (be bg bt : Nat) (W0 : World) (ct : W0.cell? ⟨bt, 0, none⟩ = some (.func (.func 54) #[] #[])) (ce : W0.cell? ⟨be, 0, none⟩ = some (.float .f64 a)) (cg : W0.cell? ⟨bg, 0, none⟩ = some (.float .f64 g)) (ht : bt < W0.heap.size) (he : be < W0.heap.size) (hg : bg < W0.heap.size) (c : Nat) (v : Option Nat) (ic : Is .f64 c v) (W : World) (hW : Below W0.heap.size W0 W) :
    Calls Try.prog 68 (#[.float .f64 c] ++ #[.pointer (some ⟨bt, 0, none⟩), .pointer (some ⟨be, 0, none⟩), .pointer (some ⟨bg, 0, none⟩)]) W fun e w' => e = .returned (.bool (cmpB .gtr .f64 (swP u v) f)) ∧ Below W.heap.size W w' :=
  iAbv ia ig ic be bg bt W (by rw [hW.cell (by assumption), ct]) (by rw [hW.cell (by assumption), ce]) (by rw [hW.cell (by assumption), cg]) (Nat.lt_of_lt_of_le ht hW.size) (Nat.lt_of_lt_of_le he hW.size) (Nat.lt_of_lt_of_le hg hW.size)

theorem iSwing {a x : Nat} {u : Option Nat} (ia : Is .f64 a u) (ix : Is .f64 x (some x)) {s : Bool} {m : Nat} {e : Int} (hd : FloatKind.f64.decode x = .number s m e) (w : World) :
    Calls Try.prog 34 #[.float .f64 a, .float .f64 x] w (RetB .f64 (halN (fun c => cmpB .gtr .f64 (swP u c) (wrapS (some x))) (some 0) (some 4607182418800017408) 50).1 w) := by
  have hst := run_store_float Try.prog
  have hE : Enters Try.prog 68 := enters_of Try.func68 (by kernel_rfl) rfl
  have hT : (fun c => cmpB .gtr .f64 (swP u c) (wrapS (some x))) = fun c => cmpB .gtr .f64 (swP u c) (wrapO (some x)) := by
    funext c
    rw [wrap_gtr ix rfl hd]
  rw [hT]
  clear hT
  generalize hV : (halN (fun c => cmpB .gtr .f64 (swP u c) (wrapO (some x))) (some 0) (some 4607182418800017408) 50).1 = V
  have HV := Lib.hid hV
  clear hV
  go_enter Try.func34, Try.ntmps34
  go_wp2_with (first | (go_at_call 53; refine (iWrap ix _).mono ?_; rintro _ W0 ⟨⟨rq, rfl, hq⟩, b0⟩) | (go_at_call 51; refine (iHalved (fun c => cmpB .gtr .f64 (swP u c) (wrapO (some x))) _ _ is_zero64 is_one64 (n := 50) (by decide) _ hE (iAbvF ia hq _ _ _ _ (by simp [alloc_drewN, World.cell?_alloc_at]; done) (by simp [alloc_drewN, World.cell?_alloc_at, World.cell?_alloc_past, lt2]; done) (by simp [alloc_drewN, World.cell?_alloc_at, World.cell?_alloc_past]; done) (by simp) (by simp [lt3]) (by simp [lt2]))).mono ?_; rintro _ W1 ⟨⟨r1, rfl, i1⟩, b1⟩) | go_in)
  go_ret
  have hz0 := b0.size
  have hz := b1.size
  simp at hz
  exact ⟨⟨_, rfl, HV.out ▸ i1⟩, by repeat' (first | with_reducible exact Below.refl _ _ | with_reducible assumption | (with_reducible refine Below.setCell ?_ (by first | omega | (simp; done) | (simp; omega)) _) | (with_reducible refine Below.alloc ?_ (by first | omega | (simp; done) | (simp; omega)) _) | (with_reducible refine below_drewN ?_ _) | (with_reducible refine Below.drew ?_) | (with_reducible refine Below.trans ?_ (Below.mono (by first | (with_reducible assumption) | exact Grow.below (by assumption)) (by first | omega | (simp; done) | (simp; omega)))))⟩
end Go.Proofs.Ytoomfcdaojmakaa
