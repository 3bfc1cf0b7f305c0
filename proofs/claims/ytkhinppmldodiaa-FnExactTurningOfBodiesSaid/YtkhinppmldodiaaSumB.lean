/-
  Sums of vectors over bodies, of the program. No condition.
-/
import Derived.Test.YtkhinppmldodiaaMass
import Derived.Test.YtkhinppmldodiaaVAdd
import Derived.Shelf.Abstract
namespace Go.Proofs.Ytkhinppmldodiaa
open Go.RowKit

/-- The sum of the first k of some numbers. -/
def sumC (p : Nat → Option Nat) : Nat → Option Nat
  | 0 => some 0
  | k + 1 => fo .add .f32 (sumC p k) (p k)
theorem sumC_succ (p : Nat → Option Nat) (k : Nat) : sumC p (k + 1) = fo .add .f32 (sumC p k) (p k) := rfl

/-- A vector is handed back. -/
def RetV3 (v0 v1 v2 : Option Nat) (w : World) (e : Ending) (w' : World) : Prop := (∃ r0 r1 r2, e = .returned (vecV r0 r1 r2) ∧ Is .f32 r0 v0 ∧ Is .f32 r1 v1 ∧ Is .f32 r2 v2) ∧ Below w.heap.size w w'
/-- A vector is handed back, and whether it is good. -/
def RetVB (v0 v1 v2 : Option Nat) (ok : Bool) (w : World) (e : Ending) (w' : World) : Prop := (∃ r0 r1 r2, e = .returned (.tuple #[vecV r0 r1 r2, .bool ok]) ∧ Is .f32 r0 v0 ∧ Is .f32 r1 v1 ∧ Is .f32 r2 v2) ∧ Below w.heap.size w w'

/-- A part of a vector if the vector is finite. -/
def finP (a b c v : Option Nat) : Option Nat := if finV a b c then v else some 0
theorem finP_t {a b c v : Option Nat} (h : finV a b c = true) : finP a b c v = v := by simp [finP, h]
theorem finP_f {a b c v : Option Nat} (h : finV a b c = false) : finP a b c v = some 0 := by simp [finP, h]

theorem iFinVec {a0 a1 a2 : Nat} {x0 x1 x2 : Option Nat} (h0 : Is .f32 a0 x0) (h1 : Is .f32 a1 x1) (h2 : Is .f32 a2 x2) (w : World) :
    Calls Try.prog 43 #[vecV a0 a1 a2] w (RetVB (finP x0 x1 x2 x0) (finP x0 x1 x2 x1) (finP x0 x1 x2 x2) (finV x0 x1 x2) w) := by
  have hst := run_store_float Try.prog
  cases h : finV x0 x1 x2 with
  | false =>
    rw [finP_f h, finP_f h, finP_f h]
    go_enter Try.func43, Try.ntmps43
    go_wp2_with (go_at_call 34; refine (iFinV h0 h1 h2 _).mono ?_; rintro eq wq ⟨rfl, hb⟩; obtain ⟨hc, hf⟩ := bcell hb.1; have hz := hb.2; try simp at hz)
    refine bodyPost_ret (v := .tuple #[vecV 0 0 0, .bool false]) (by simp [results, Try.results43, go_sem, hc, hz]) rfl ⟨⟨_, _, _, rfl, zero32, zero32, zero32⟩, ?_⟩
    repeat' (first | with_reducible exact Below.refl _ _ | with_reducible assumption | (with_reducible refine Below.setCell ?_ (by first | omega | (simp; done) | (simp; omega)) _) | (with_reducible refine Below.alloc ?_ (by first | omega | (simp; done) | (simp; omega)) _) | (with_reducible refine below_drewN ?_ _) | (with_reducible refine Below.drew ?_) | (with_reducible refine Below.trans ?_ (Below.mono (by first | (with_reducible assumption) | exact Grow.below (by assumption)) (by first | omega | (simp; done) | (simp; omega)))))
  | true =>
    rw [finP_t h, finP_t h, finP_t h]
    go_enter Try.func43, Try.ntmps43
    go_wp2_with (go_at_call 34; refine (iFinV h0 h1 h2 _).mono ?_; rintro eq wq ⟨rfl, hb⟩; obtain ⟨hc, hf⟩ := bcell hb.1; have hz := hb.2; try simp at hz)
    refine bodyPost_ret (v := .tuple #[vecV a0 a1 a2, .bool true]) (by simp [results, Try.results43, go_sem, hc, hz]) rfl ⟨⟨_, _, _, rfl, h0, h1, h2⟩, ?_⟩
    repeat' (first | with_reducible exact Below.refl _ _ | with_reducible assumption | (with_reducible refine Below.setCell ?_ (by first | omega | (simp; done) | (simp; omega)) _) | (with_reducible refine Below.alloc ?_ (by first | omega | (simp; done) | (simp; omega)) _) | (with_reducible refine below_drewN ?_ _) | (with_reducible refine Below.drew ?_) | (with_reducible refine Below.trans ?_ (Below.mono (by first | (with_reducible assumption) | exact Grow.below (by assumption)) (by first | omega | (simp; done) | (simp; omega)))))

theorem sFinVec {a0 a1 a2 : Nat} {x0 x1 x2 : Option Nat} (h0 : Is .f32 a0 x0) (h1 : Is .f32 a1 x1) (h2 : Is .f32 a2 x2) (w : World) :
    Calls Try.prog 41 #[vecV a0 a1 a2] w (RetVB (finP x0 x1 x2 x0) (finP x0 x1 x2 x1) (finP x0 x1 x2 x2) (finV x0 x1 x2) w) := by
  have hst := run_store_float Try.prog
  cases h : finV x0 x1 x2 with
  | false =>
    rw [finP_f h, finP_f h, finP_f h]
    go_enter Try.func41, Try.ntmps41
    go_wp2_with (go_at_call 31; refine (sFinV h0 h1 h2 _).mono ?_; rintro eq wq ⟨rfl, hb⟩; obtain ⟨hc, hf⟩ := bcell hb.1; have hz := hb.2; try simp at hz)
    refine bodyPost_ret (v := .tuple #[vecV 0 0 0, .bool false]) (by simp [results, Try.results41, go_sem, hc, hz]) rfl ⟨⟨_, _, _, rfl, zero32, zero32, zero32⟩, ?_⟩
    repeat' (first | with_reducible exact Below.refl _ _ | with_reducible assumption | (with_reducible refine Below.setCell ?_ (by first | omega | (simp; done) | (simp; omega)) _) | (with_reducible refine Below.alloc ?_ (by first | omega | (simp; done) | (simp; omega)) _) | (with_reducible refine below_drewN ?_ _) | (with_reducible refine Below.drew ?_) | (with_reducible refine Below.trans ?_ (Below.mono (by first | (with_reducible assumption) | exact Grow.below (by assumption)) (by first | omega | (simp; done) | (simp; omega)))))
  | true =>
    rw [finP_t h, finP_t h, finP_t h]
    go_enter Try.func41, Try.ntmps41
    go_wp2_with (go_at_call 31; refine (sFinV h0 h1 h2 _).mono ?_; rintro eq wq ⟨rfl, hb⟩; obtain ⟨hc, hf⟩ := bcell hb.1; have hz := hb.2; try simp at hz)
    refine bodyPost_ret (v := .tuple #[vecV a0 a1 a2, .bool true]) (by simp [results, Try.results41, go_sem, hc, hz]) rfl ⟨⟨_, _, _, rfl, h0, h1, h2⟩, ?_⟩
    repeat' (first | with_reducible exact Below.refl _ _ | with_reducible assumption | (with_reducible refine Below.setCell ?_ (by first | omega | (simp; done) | (simp; omega)) _) | (with_reducible refine Below.alloc ?_ (by first | omega | (simp; done) | (simp; omega)) _) | (with_reducible refine below_drewN ?_ _) | (with_reducible refine Below.drew ?_) | (with_reducible refine Below.trans ?_ (Below.mono (by first | (with_reducible assumption) | exact Grow.below (by assumption)) (by first | omega | (simp; done) | (simp; omega)))))

theorem rth {W w1 w2 : World} {b n : Nat} {t : TypeId} {f : Nat → Value} (h2 : Below W.heap.size W w2) (hr : w1.rowIs b t n f) (e : W.heap = w1.heap) : w2.rowIs b t n f :=
  rt (w1 := W) (by obtain ⟨c, h, r⟩ := hr; exact ⟨c, by rw [e]; exact h, r⟩) h2

/-- Three words of a block. -/
abbrev w3 (s0 s1 s2 : Nat) (j : Nat) : Value := if j = 0 then .float .f32 s0 else if j = 1 then .float .f32 s1 else .float .f32 s2

theorem row3 {w : World} {b : Nat} {t : TypeId} {s0 s1 s2 : Nat} (h : w.rowIs b t 3 (w3 s0 s1 s2)) :
    w.cell? ⟨b, 0, none⟩ = some (.float .f32 s0) ∧ w.cell? ⟨b, 1, none⟩ = some (.float .f32 s1) ∧ w.cell? ⟨b, 2, none⟩ = some (.float .f32 s2) :=
  ⟨h.cell (i := 0) (by decide), h.cell (i := 1) (by decide), h.cell (i := 2) (by decide)⟩

theorem set3 {w : World} {b : Nat} {t : TypeId} {g : Nat → Value} (h : w.rowIs b t 3 g) (s0 s1 s2 : Nat) :
    (((w.setCell ⟨b, 0, none⟩ (.float .f32 s0)).setCell ⟨b, 1, none⟩ (.float .f32 s1)).setCell ⟨b, 2, none⟩ (.float .f32 s2)).rowIs b t 3 (w3 s0 s1 s2) := by
  refine (((h.set _ _).set _ _).set _ _).congr fun j hj => ?_
  match j, hj with
  | 0, _ => rfl
  | 1, _ => rfl
  | 2, _ => rfl

theorem alloc3 (w : World) (s0 s1 s2 : Nat) (t : TypeId) : (w.alloc (.cells #[.float .f32 s0, .float .f32 s1, .float .f32 s2] t)).rowIs w.heap.size t 3 (w3 s0 s1 s2) :=
  World.rowIs_alloc w #[.float .f32 s0, .float .f32 s1, .float .f32 s2] t _ (fun i hi => match i, hi with | 0, _ => rfl | 1, _ => rfl | 2, _ => rfl)

set_option maxHeartbeats 1600000 in
theorem iSumOver (F : Nat) (p0 p1 p2 : Nat → Option Nat) (b off n cap : Nat) (f : Nat → Nat) (w : World) (hn : n ≤ 16) (hb : b < w.heap.size) (hr : ∀ i, i < 7 * n → w.cell? ⟨b, off + i, none⟩ = some (.float .f32 (f i)))
    (eF : Enters Try.prog F) (hF : ∀ k, k < n → ∀ w, Calls Try.prog F #[bodV (f (7 * k)) (f (7 * k + 1)) (f (7 * k + 2)) (f (7 * k + 3)) (f (7 * k + 4)) (f (7 * k + 5)) (f (7 * k + 6))] w (RetV3 (p0 k) (p1 k) (p2 k) w)) :
    Calls Try.prog 44 #[.slice (some ⟨b, off, none⟩) n cap, .func (.func F) #[] #[]] w (RetV3 (sumC p0 n) (sumC p1 n) (sumC p2 n) w) := by
  have hst := run_store_float Try.prog
  have HR := Lib.hid hr
  have HF := Lib.hid hF
  unfold Enters at eF
  clear hr hF
  go_enter Try.func44, Try.ntmps44
  go_wp2
  go_loopw [10] (fun i wr => ∃ k s0 s1 s2 : Nat, k ≤ n ∧ i = .int .i64 k ∧ Is .f32 s0 (sumC p0 k) ∧ Is .f32 s1 (sumC p1 k) ∧ Is .f32 s2 (sumC p2 k) ∧ wr.rowIs (w.heap.size + 1) 33 3 (w3 s0 s1 s2) ∧ wr.rowIs w.heap.size 33 3 (w3 0 0 0) ∧ Below w.heap.size w wr) (fun i _ => n - (intOf i).toNat)
  case atStart => exact ⟨0, 0, 0, 0, Nat.zero_le _, rfl, zero32, zero32, zero32, by simpa using alloc3 (w.alloc _) 0 0 0 _, (alloc3 w 0 0 0 _).alloc _, by repeat' (first | with_reducible exact Below.refl _ _ | with_reducible assumption | (with_reducible refine Below.setCell ?_ (by first | omega | (simp; done) | (simp; omega)) _) | (with_reducible refine Below.alloc ?_ (by first | omega | (simp; done) | (simp; omega)) _) | (with_reducible refine below_drewN ?_ _) | (with_reducible refine Below.drew ?_) | (with_reducible refine Below.trans ?_ (Below.mono (by first | (with_reducible assumption) | exact Grow.below (by assumption)) (by first | omega | (simp; done) | (simp; omega)))))⟩
  case round =>
    obtain ⟨k, s0, s1, s2, hk, rfl, j0, j1, j2, hS, hR, hbel⟩ := hrel
    by_cases hlt : k < n
    · obtain ⟨c0, c1, c2, c3, c4, c5, c6⟩ := cells7 HR.out hlt
      rw [← hbel.cell (by exact hb)] at c0 c1 c2 c3 c4 c5 c6
      have hz := hbel.size
      have hz1 := hz
      have hlS := hS.lt
      have hb2 : b < wr.heap.size := by omega
      obtain ⟨t0, t1, t2⟩ := row3 hS
      have tf : ∀ o, wr.frozen? ⟨w.heap.size + 1, o, none⟩ = false := hS.frozen
      have HS := Lib.hid hS
      clear hS
      have HRR := Lib.hid hR
      go_wp2_with fail
      go_region_with (first | (go_at_fn F; refine (HF.out k hlt _).mono ?_; rintro eq wq ⟨⟨rq0, rq1, rq2, rfl, hq0, hq1, hq2⟩, hbp⟩; have hS1 := rth hbp (HS.out.alloc _) rfl; have hR1 := rth hbp (hR.alloc _) rfl; obtain ⟨t0', t1', t2'⟩ := row3 hS1; have tf' : ∀ o, wq.frozen? ⟨w.heap.size + 1, o, none⟩ = false := hS1.frozen; have hl' := hS1.lt; have HS1 := Lib.hid hS1; clear hS1) | (go_at_call 37; refine (implAdd (by assumption) (by assumption) (by assumption) (by assumption) (by assumption) (by assumption) _).mono ?_; rintro eq wq ⟨rq0, rq1, rq2, rfl, hq0, hq1, hq2, hb⟩; obtain ⟨hc, hf⟩ := bcell hb.1; have hz := hb.2; try simp at hz))
      all_goals
        have hS2 := rt HS1.out hb.1
        have hR2 := rt hR1 hb.1
        go_wp2
        go_roundw
        case rel =>
          refine ⟨k + 1, rq0, rq1, rq2, by omega, by go_num, by rw [sumC_succ]; exact hq0, by rw [sumC_succ]; exact hq1, by rw [sumC_succ]; exact hq2, set3 hS2 _ _ _, ((hR2.setOther (Nat.ne_of_lt (Nat.lt_succ_self _)) _).setOther (Nat.ne_of_lt (Nat.lt_succ_self _)) _).setOther (Nat.ne_of_lt (Nat.lt_succ_self _)) _, ?_⟩
          have hb3 : Below w.heap.size w _ := ((hbel.alloc hz1 _).drew).trans (hbp.mono (by simp; omega))
          have hb4 := hb3.trans (hb.1.mono (by omega))
          exact ((hb4.setCell (by simp) _).setCell (by simp) _).setCell (by simp) _
        case measure => simp [intOf]; omega
    · have hkn : Hid (k = n) := (show k = n by omega)
      have hz := hbel.size
      have hlS := hS.lt
      obtain ⟨t0, t1, t2⟩ := row3 hS
      obtain ⟨u0, u1, u2⟩ := row3 hR
      have tf : ∀ o, wr.frozen? ⟨w.heap.size, o, none⟩ = false := hR.frozen
      go_wp2
      refine bodyPost_ret (v := vecV s0 s1 s2) (by simp [results, Try.results44, go_sem, u0, u1, u2]) rfl ⟨⟨_, _, _, rfl, hkn.out ▸ j0, hkn.out ▸ j1, hkn.out ▸ j2⟩, ?_⟩
      repeat' (first | with_reducible exact Below.refl _ _ | with_reducible assumption | (with_reducible refine Below.setCell ?_ (by first | omega | (simp; done) | (simp; omega)) _) | (with_reducible refine Below.alloc ?_ (by first | omega | (simp; done) | (simp; omega)) _) | (with_reducible refine below_drewN ?_ _) | (with_reducible refine Below.drew ?_) | (with_reducible refine Below.trans ?_ (Below.mono (by first | (with_reducible assumption) | exact Grow.below (by assumption)) (by first | omega | (simp; done) | (simp; omega)))))
end Go.Proofs.Ytkhinppmldodiaa
