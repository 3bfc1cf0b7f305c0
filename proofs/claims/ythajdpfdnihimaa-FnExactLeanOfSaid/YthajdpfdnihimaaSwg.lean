/-
  The swing of a phase, of the program and of the model. No condition.
-/
import Derived.Test.YthajdpfdnihimaaHalf
import Derived.Deep.RegionHeld3
import Derived.Shelf.Abstract
namespace Go.Proofs.Ythajdpfdnihimaa
open Go.RowKit

theorem sWrap {x : Nat} (ix : Is .f64 x (some x)) {s : Bool} {m : Nat} {e : Int} (hd : FloatKind.f64.decode x = .number s m e) (w : World) : Calls Try.prog 55 #[.float .f64 x] w (RetF .f64 (wrapS (some x)) w) := by
  unfold wrapS
  go_enter Try.func55, Try.ntmps55
  go_wp2_with (first | (apply wpList_arith; rfl; simp [Arith]; rfl; rfl; (first | assumption | exact is_lit64 _ (by decide) | exact is_lit32 _ (by decide)); (first | assumption | exact is_lit64 _ (by decide) | exact is_lit32 _ (by decide)); intro Kq hKq rq nq hq; go_simp) | (go_at_call 66; refine (floor_num hd _).mono ?_; rintro eq wq ⟨rq, nq, rfl, hq, rfl⟩))
  go_ret
  exact ⟨_, _, rfl, by assumption, rfl⟩

theorem iWrap {x : Nat} (ix : Is .f64 x (some x)) {s : Bool} {m : Nat} {e : Int} (hd : FloatKind.f64.decode x = .number s m e) (w : World) : Calls Try.prog 58 #[.float .f64 x] w (RetF .f64 (wrapO (some x)) w) := by
  unfold wrapO
  cases hn : cmpB .neq .f64 (floorO (some x)) (some 0) with
  | true =>
    go_enter Try.func58, Try.ntmps58
    go_wp2_with (first | (apply wpList_cmp; rfl; simp [Cmp]; rfl; rfl; (first | assumption | exact is_lit64 _ (by decide) | exact is_lit32 _ (by decide)); (first | assumption | exact is_lit64 _ (by decide) | exact is_lit32 _ (by decide)); intro Kq hKq; go_simp) | (apply wpList_arith; rfl; simp [Arith]; rfl; rfl; (first | assumption | exact is_lit64 _ (by decide) | exact is_lit32 _ (by decide)); (first | assumption | exact is_lit64 _ (by decide) | exact is_lit32 _ (by decide)); intro Kq hKq rq nq hq; go_simp) | (go_at_call 66; refine (floor_num hd _).mono ?_; rintro eq wq ⟨rq, nq, rfl, hq, rfl⟩))
    go_ret
    exact ⟨_, _, rfl, by assumption, rfl⟩
  | false =>
    go_enter Try.func58, Try.ntmps58
    go_wp2_with (first | (apply wpList_cmp; rfl; simp [Cmp]; rfl; rfl; (first | assumption | exact is_lit64 _ (by decide) | exact is_lit32 _ (by decide)); (first | assumption | exact is_lit64 _ (by decide) | exact is_lit32 _ (by decide)); intro Kq hKq; go_simp) | (apply wpList_arith; rfl; simp [Arith]; rfl; rfl; (first | assumption | exact is_lit64 _ (by decide) | exact is_lit32 _ (by decide)); (first | assumption | exact is_lit64 _ (by decide) | exact is_lit32 _ (by decide)); intro Kq hKq rq nq hq; go_simp) | (go_at_call 66; refine (floor_num hd _).mono ?_; rintro eq wq ⟨rq, nq, rfl, hq, rfl⟩))
    go_ret
    exact ⟨_, _, rfl, by assumption, rfl⟩

theorem half_val : cmpB .eql .f64 (some 0) (some 0) = true := by decide

set_option maxHeartbeats 1600000 in
theorem sSwing {a x : Nat} {u : Option Nat} (ia : Is .f64 a u) (ix : Is .f64 x (some x)) {s : Bool} {m : Nat} {e : Int} (hd : FloatKind.f64.decode x = .number s m e) (w : World) :
    Calls Try.prog 41 #[.float .f64 a, .float .f64 x] w (RetF .f64 (halN (fun c => cmpB .gtr .f64 (swP u c) (wrapS (some x))) (some 0) (some 4607182418800017408) 50).1 w) := by
  have HD := Lib.hid hd
  clear hd
  generalize hT : (fun c => cmpB .gtr .f64 (swP u c) (wrapS (some x))) = T
  have tv : ∀ c, T c = cmpB .gtr .f64 (swP u c) (wrapS (some x)) := fun c => by rw [← hT]
  have TV := Lib.hid tv
  clear tv hT
  go_enter Try.func41, Try.ntmps41
  go_wp2_with (first | (go_at_call 55; refine (sWrap ix HD.out _).mono ?_; rintro eq wq ⟨rq, nq, rfl, hq, rfl⟩))
  go_loopw [6, 7, 8] (fun l h i wr => ∃ k rl rh m : Nat, k ≤ 50 ∧ i = .int .i64 k ∧ l = .float .f64 rl ∧ h = .float .f64 rh ∧ Is .f64 rl (halN T (some 0) (some 4607182418800017408) k).1 ∧ Is .f64 rh (halN T (some 0) (some 4607182418800017408) k).2 ∧ wr = w.drewN m) (fun _ _ i _ => 50 - (intOf i).toNat)
  case atStart => exact ⟨0, _, _, _, Nat.zero_le _, rfl, rfl, rfl, is_zero64, is_one64, rfl⟩
  case round =>
    obtain ⟨k, rl, rh, m, hk, rfl, rfl, rfl, il, ih, rfl⟩ := hrel
    by_cases hlt : k < 50
    · have hlt' : ((k : Nat) : Int) < 50 := by omega
      cases ht : T (halfO (halN T (some 0) (some 4607182418800017408) k).1 (halN T (some 0) (some 4607182418800017408) k).2) with
      | true =>
        have e1 := halN_t ht
        have E1 := Lib.hid e1
        clear e1
        generalize (halN T (some 0) (some 4607182418800017408) k).1 = M at *
        generalize (halN T (some 0) (some 4607182418800017408) k).2 = N at *
        rw [TV.out] at ht
        have hT : cmpB .gtr .f64 (swP u (fo .quo .f64 (fo .add .f64 M N) (some 4611686018427387904))) (wrapS (some x)) = true := ht
        clear ht
        go_wp2_with (first | (apply wpList_cmp; rfl; simp [Cmp]; rfl; rfl; (first | assumption | exact is_lit64 _ (by decide) | exact is_lit32 _ (by decide)); (first | assumption | exact is_lit64 _ (by decide) | exact is_lit32 _ (by decide)); intro Kq hKq; go_simp) | (apply wpList_arith; rfl; simp [Arith]; rfl; rfl; (first | assumption | exact is_lit64 _ (by decide) | exact is_lit32 _ (by decide)); (first | assumption | exact is_lit64 _ (by decide) | exact is_lit32 _ (by decide)); intro Kq hKq rq nq hq; go_simp) | (go_at_call 36; refine (sSwP (by assumption) (by assumption) _).mono ?_; rintro eq wq ⟨rq, nq, rfl, hq, rfl⟩))
        go_roundw
        case rel => exact ⟨k + 1, _, _, _, by omega, by go_num, rfl, rfl, by rw [E1.out]; assumption, by rw [E1.out]; assumption, rfl⟩
        case measure => simp [intOf]; omega
      | false =>
        have e1 := halN_f ht
        have E1 := Lib.hid e1
        clear e1
        generalize (halN T (some 0) (some 4607182418800017408) k).1 = M at *
        generalize (halN T (some 0) (some 4607182418800017408) k).2 = N at *
        rw [TV.out] at ht
        have hT : cmpB .gtr .f64 (swP u (fo .quo .f64 (fo .add .f64 M N) (some 4611686018427387904))) (wrapS (some x)) = false := ht
        clear ht
        go_wp2_with (first | (apply wpList_cmp; rfl; simp [Cmp]; rfl; rfl; (first | assumption | exact is_lit64 _ (by decide) | exact is_lit32 _ (by decide)); (first | assumption | exact is_lit64 _ (by decide) | exact is_lit32 _ (by decide)); intro Kq hKq; go_simp) | (apply wpList_arith; rfl; simp [Arith]; rfl; rfl; (first | assumption | exact is_lit64 _ (by decide) | exact is_lit32 _ (by decide)); (first | assumption | exact is_lit64 _ (by decide) | exact is_lit32 _ (by decide)); intro Kq hKq rq nq hq; go_simp) | (go_at_call 36; refine (sSwP (by assumption) (by assumption) _).mono ?_; rintro eq wq ⟨rq, nq, rfl, hq, rfl⟩))
        go_roundw
        case rel => exact ⟨k + 1, _, _, _, by omega, by go_num, rfl, rfl, by rw [E1.out]; assumption, by rw [E1.out]; assumption, rfl⟩
        case measure => simp [intOf]; omega
    · have hkn : Hid (k = 50) := (show k = 50 by omega)
      go_wp2
      go_ret
      exact ⟨_, _, rfl, by rw [← hkn.out]; exact il, rfl⟩


set_option maxHeartbeats 1600000 in
theorem iHalved (T : Option Nat → Bool) (F : Nat) (C : Array Value) {l h n : Nat} {L H : Option Nat} (il : Is .f64 l L) (ih : Is .f64 h H) (hn : n ≤ 64) (w : World)
    (eF : Enters Try.prog F) (hF : ∀ c v, Is .f64 c v → ∀ W, Below w.heap.size w W → Calls Try.prog F (#[.float .f64 c] ++ C) W fun e w' => e = .returned (.bool (T v)) ∧ Below W.heap.size W w') :
    Calls Try.prog 56 #[.float .f64 l, .float .f64 h, .int .i64 n, .func (.func F) #[] C] w (RetB .f64 (halN T L H n).1 w) := by
  have HF := Lib.hid hF
  unfold Enters at eF
  clear hF
  go_enter Try.func56, Try.ntmps56
  go_wp2
  go_loopw [0, 1, 11] (fun p q i wr => ∃ k rl rh : Nat, k ≤ n ∧ i = .int .i64 k ∧ p = .float .f64 rl ∧ q = .float .f64 rh ∧ Is .f64 rl (halN T L H k).1 ∧ Is .f64 rh (halN T L H k).2 ∧ Below w.heap.size w wr) (fun _ _ i _ => n - (intOf i).toNat)
  case atStart => exact ⟨0, _, _, Nat.zero_le _, rfl, rfl, rfl, il, ih, Below.refl _ _⟩
  case round =>
    obtain ⟨k, rl, rh, hk, rfl, rfl, rfl, jl, jh, hb⟩ := hrel
    by_cases hlt : k < n
    · have hlt' : ((k : Nat) : Int) < (n : Int) := by omega
      cases ht : T (halfO (halN T L H k).1 (halN T L H k).2) with
      | true =>
        have e1 := halN_t ht
        have E1 := Lib.hid e1
        clear e1
        generalize (halN T L H k).1 = M at *
        generalize (halN T L H k).2 = N at *
        have hT : T (fo .quo .f64 (fo .add .f64 M N) (some 4611686018427387904)) = true := ht
        go_wp2_with (first | (apply wpList_arith; rfl; simp [Arith]; rfl; rfl; (first | assumption | exact is_lit64 _ (by decide) | exact is_lit32 _ (by decide)); (first | assumption | exact is_lit64 _ (by decide) | exact is_lit32 _ (by decide)); intro Kq hKq rq nq hq; go_simp) | (go_at_fn F; refine (HF.out _ _ (by assumption) _ (by repeat' (first | with_reducible exact Below.refl _ _ | with_reducible assumption | (with_reducible refine Below.setCell ?_ (by first | omega | (simp; done) | (simp; omega)) _) | (with_reducible refine Below.alloc ?_ (by first | omega | (simp; done) | (simp; omega)) _) | (with_reducible refine below_drewN ?_ _) | (with_reducible refine Below.drew ?_) | (with_reducible refine Below.trans ?_ (Below.mono (by first | (with_reducible assumption) | exact Grow.below (by assumption)) (by first | omega | (simp; done) | (simp; omega))))))).mono ?_; rintro _ W1 ⟨rfl, b1⟩))
        go_roundw
        case rel => exact ⟨k + 1, _, _, by omega, by go_num, rfl, rfl, by rw [E1.out]; assumption, by rw [E1.out]; assumption, (below_drewN hb _).trans (b1.mono hb.size)⟩
        case measure => simp [intOf]; omega
      | false =>
        have e1 := halN_f ht
        have E1 := Lib.hid e1
        clear e1
        generalize (halN T L H k).1 = M at *
        generalize (halN T L H k).2 = N at *
        have hT : T (fo .quo .f64 (fo .add .f64 M N) (some 4611686018427387904)) = false := ht
        go_wp2_with (first | (apply wpList_arith; rfl; simp [Arith]; rfl; rfl; (first | assumption | exact is_lit64 _ (by decide) | exact is_lit32 _ (by decide)); (first | assumption | exact is_lit64 _ (by decide) | exact is_lit32 _ (by decide)); intro Kq hKq rq nq hq; go_simp) | (go_at_fn F; refine (HF.out _ _ (by assumption) _ (by repeat' (first | with_reducible exact Below.refl _ _ | with_reducible assumption | (with_reducible refine Below.setCell ?_ (by first | omega | (simp; done) | (simp; omega)) _) | (with_reducible refine Below.alloc ?_ (by first | omega | (simp; done) | (simp; omega)) _) | (with_reducible refine below_drewN ?_ _) | (with_reducible refine Below.drew ?_) | (with_reducible refine Below.trans ?_ (Below.mono (by first | (with_reducible assumption) | exact Grow.below (by assumption)) (by first | omega | (simp; done) | (simp; omega))))))).mono ?_; rintro _ W1 ⟨rfl, b1⟩))
        go_roundw
        case rel => exact ⟨k + 1, _, _, by omega, by go_num, rfl, rfl, by rw [E1.out]; assumption, by rw [E1.out]; assumption, (below_drewN hb _).trans (b1.mono hb.size)⟩
        case measure => simp [intOf]; omega
    · have hkn : Hid (k = n) := (show k = n by omega)
      go_wp2
      go_ret
      exact ⟨⟨_, rfl, by rw [← hkn.out]; exact jl⟩, hb⟩

theorem lt2 (n : Nat) : n < n + 1 + 1 := by omega
theorem lt3 (n : Nat) : n < n + 1 + 1 + 1 := by omega

theorem iAbv {a g c : Nat} {u f v : Option Nat} (ia : Is .f64 a u) (ig : Is .f64 g f) (ic : Is .f64 c v) (be bg bt : Nat) (w : World) (ct : w.cell? ⟨bt, 0, none⟩ = some (.func (.func 39) #[] #[])) (ce : w.cell? ⟨be, 0, none⟩ = some (.float .f64 a)) (cg : w.cell? ⟨bg, 0, none⟩ = some (.float .f64 g)) (ht : bt < w.heap.size) (he : be < w.heap.size) (hg : bg < w.heap.size) :
    Calls Try.prog 67 #[.float .f64 c, .pointer (some ⟨bt, 0, none⟩), .pointer (some ⟨be, 0, none⟩), .pointer (some ⟨bg, 0, none⟩)] w fun e w' => e = .returned (.bool (cmpB .gtr .f64 (swP u v) f)) ∧ Below w.heap.size w w' := by
  have kt : ∀ w', Below w.heap.size w w' → w'.cell? ⟨bt, 0, none⟩ = some (.func (.func 39) #[] #[]) := fun w' h => by rw [h.cell (by assumption), ct]
  have ke : ∀ w', Below w.heap.size w w' → w'.cell? ⟨be, 0, none⟩ = some (.float .f64 a) := fun w' h => by rw [h.cell (by assumption), ce]
  have kg : ∀ w', Below w.heap.size w w' → w'.cell? ⟨bg, 0, none⟩ = some (.float .f64 g) := fun w' h => by rw [h.cell (by assumption), cg]
  go_enter Try.func67, Try.ntmps67
  go_wp2_with fail
  go_region_held3 (fun w' => Below w.heap.size w w') (first | with_reducible assumption | with_reducible exact (Below.refl _ _).drew | with_reducible exact Below.refl _ _ | with_reducible exact Below.trans (by with_reducible assumption) (Below.mono (by with_reducible assumption) (Below.size (by with_reducible assumption))) | (with_reducible refine below_drewN ?_ _; with_reducible assumption) | (with_reducible refine Below.drew ?_; with_reducible assumption))
    (first | (go_at_call 39; refine (iSwP ia ic _).mono ?_; rintro eq wq ⟨⟨rq, rfl, hq⟩, hb⟩))
  rename_i hHeld
  have hb2 : (FloatKind.f64.format.order rq g == some Ordering.gt) = cmpB .gtr .f64 (swP u v) f := by rw [order_fo, hq.1, ig.1]; rfl
  go_wp2
  go_ret
  exact ⟨by rw [hb2]; rfl, hHeld⟩

theorem iAbvF {a g : Nat} {u f : Option Nat} (ia : Is .f64 a u) (ig : Is .f64 g f) (be bg bt : Nat) (W0 : World) (ct : W0.cell? ⟨bt, 0, none⟩ = some (.func (.func 39) #[] #[])) (ce : W0.cell? ⟨be, 0, none⟩ = some (.float .f64 a)) (cg : W0.cell? ⟨bg, 0, none⟩ = some (.float .f64 g)) (ht : bt < W0.heap.size) (he : be < W0.heap.size) (hg : bg < W0.heap.size) (c : Nat) (v : Option Nat) (ic : Is .f64 c v) (W : World) (hW : Below W0.heap.size W0 W) :
    Calls Try.prog 67 (#[.float .f64 c] ++ #[.pointer (some ⟨bt, 0, none⟩), .pointer (some ⟨be, 0, none⟩), .pointer (some ⟨bg, 0, none⟩)]) W fun e w' => e = .returned (.bool (cmpB .gtr .f64 (swP u v) f)) ∧ Below W.heap.size W w' :=
  iAbv ia ig ic be bg bt W (by rw [hW.cell (by assumption), ct]) (by rw [hW.cell (by assumption), ce]) (by rw [hW.cell (by assumption), cg]) (Nat.lt_of_lt_of_le ht hW.size) (Nat.lt_of_lt_of_le he hW.size) (Nat.lt_of_lt_of_le hg hW.size)

theorem iSwing {a x : Nat} {u : Option Nat} (ia : Is .f64 a u) (ix : Is .f64 x (some x)) {s : Bool} {m : Nat} {e : Int} (hd : FloatKind.f64.decode x = .number s m e) (w : World) :
    Calls Try.prog 42 #[.float .f64 a, .float .f64 x] w (RetB .f64 (halN (fun c => cmpB .gtr .f64 (swP u c) (wrapS (some x))) (some 0) (some 4607182418800017408) 50).1 w) := by
  have hst := run_store_float Try.prog
  have hE : Enters Try.prog 67 := enters_of Try.func67 (by kernel_rfl) rfl
  have hT : (fun c => cmpB .gtr .f64 (swP u c) (wrapS (some x))) = fun c => cmpB .gtr .f64 (swP u c) (wrapO (some x)) := by
    funext c
    rw [wrap_gtr ix rfl hd]
  rw [hT]
  clear hT
  generalize hV : (halN (fun c => cmpB .gtr .f64 (swP u c) (wrapO (some x))) (some 0) (some 4607182418800017408) 50).1 = V
  have HV := Lib.hid hV
  clear hV
  go_enter Try.func42, Try.ntmps42
  go_wp2_with (first | (go_at_call 58; refine (iWrap ix hd _).mono ?_; rintro eq wq ⟨rq, nq, rfl, hq, rfl⟩) | (go_at_call 56; refine (iHalved (fun c => cmpB .gtr .f64 (swP u c) (wrapO (some x))) _ _ is_zero64 is_one64 (n := 50) (by decide) _ hE (iAbvF ia hq _ _ _ _ (by simp [alloc_drewN, World.cell?_alloc_at]; done) (by simp [alloc_drewN, World.cell?_alloc_at, World.cell?_alloc_past, lt2]; done) (by simp [alloc_drewN, World.cell?_alloc_at, World.cell?_alloc_past]; done) (by simp) (by simp [lt3]) (by simp [lt2]))).mono ?_; rintro _ W1 ⟨⟨r1, rfl, i1⟩, b1⟩) | go_in)
  go_ret
  have hz := b1.size
  simp at hz
  exact ⟨⟨_, rfl, HV.out ▸ i1⟩, by repeat' (first | with_reducible exact Below.refl _ _ | with_reducible assumption | (with_reducible refine Below.setCell ?_ (by first | omega | (simp; done) | (simp; omega)) _) | (with_reducible refine Below.alloc ?_ (by first | omega | (simp; done) | (simp; omega)) _) | (with_reducible refine below_drewN ?_ _) | (with_reducible refine Below.drew ?_) | (with_reducible refine Below.trans ?_ (Below.mono (by first | (with_reducible assumption) | exact Grow.below (by assumption)) (by first | omega | (simp; done) | (simp; omega)))))⟩
end Go.Proofs.Ythajdpfdnihimaa
