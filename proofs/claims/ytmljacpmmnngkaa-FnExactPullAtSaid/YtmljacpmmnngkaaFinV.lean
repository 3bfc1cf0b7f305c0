/-
  Vectors that are handed back if they are finite, of the program and of the model. No condition.
-/
import Derived.Test.YtmljacpmmnngkaaAreS
import Derived.Test.YtmljacpmmnngkaaHas
namespace Go.Proofs.Ytmljacpmmnngkaa
open Go.RowKit

theorem zeroW : Is .f32 0 (some 0) := is_lit32 0 (by decide)
/-- A vector is handed back, and whether it is good. -/
def RetVB (v0 v1 v2 : Option Nat) (ok : Bool) (w : World) (e : Ending) (w' : World) : Prop := (∃ r0 r1 r2, e = .returned (.tuple #[vecV r0 r1 r2, .bool ok]) ∧ Is .f32 r0 v0 ∧ Is .f32 r1 v1 ∧ Is .f32 r2 v2) ∧ Below w.heap.size w w'

/-- A part of a vector if the vector is finite. -/
def finP (a b c v : Option Nat) : Option Nat := if finV a b c then v else some 0
theorem finP_t {a b c v : Option Nat} (h : finV a b c = true) : finP a b c v = v := by simp [finP, h]
theorem finP_f {a b c v : Option Nat} (h : finV a b c = false) : finP a b c v = some 0 := by simp [finP, h]

theorem iFinVec {a0 a1 a2 : Nat} {x0 x1 x2 : Option Nat} (h0 : Is .f32 a0 x0) (h1 : Is .f32 a1 x1) (h2 : Is .f32 a2 x2) (w : World) :
    Calls Try.prog 22 #[vecV a0 a1 a2] w (RetVB (finP x0 x1 x2 x0) (finP x0 x1 x2 x1) (finP x0 x1 x2 x2) (finV x0 x1 x2) w) := by
  have hst := run_store_float Try.prog
  cases h : finV x0 x1 x2 with
  | false =>
    rw [finP_f h, finP_f h, finP_f h]
    go_enter Try.func22, Try.ntmps22
    go_wp2_with (go_at_call 20; refine (iFinV h0 h1 h2 _).mono ?_; rintro eq wq ⟨rfl, hb⟩; obtain ⟨hc, hf⟩ := bcell hb.1; have hz := hb.2; try simp at hz)
    refine bodyPost_ret (v := .tuple #[vecV 0 0 0, .bool false]) (by simp [results, Try.results22, go_sem, hc, hz]) rfl ⟨⟨_, _, _, rfl, zeroW, zeroW, zeroW⟩, ?_⟩
    repeat' (first | with_reducible exact Below.refl _ _ | with_reducible assumption | (with_reducible refine Below.setCell ?_ (by first | omega | (simp; done) | (simp; omega)) _) | (with_reducible refine Below.alloc ?_ (by first | omega | (simp; done) | (simp; omega)) _) | (with_reducible refine below_drewN ?_ _) | (with_reducible refine Below.drew ?_) | (with_reducible refine Below.trans ?_ (Below.mono (by first | (with_reducible assumption) | exact Grow.below (by assumption)) (by first | omega | (simp; done) | (simp; omega)))))
  | true =>
    rw [finP_t h, finP_t h, finP_t h]
    go_enter Try.func22, Try.ntmps22
    go_wp2_with (go_at_call 20; refine (iFinV h0 h1 h2 _).mono ?_; rintro eq wq ⟨rfl, hb⟩; obtain ⟨hc, hf⟩ := bcell hb.1; have hz := hb.2; try simp at hz)
    refine bodyPost_ret (v := .tuple #[vecV a0 a1 a2, .bool true]) (by simp [results, Try.results22, go_sem, hc, hz]) rfl ⟨⟨_, _, _, rfl, h0, h1, h2⟩, ?_⟩
    repeat' (first | with_reducible exact Below.refl _ _ | with_reducible assumption | (with_reducible refine Below.setCell ?_ (by first | omega | (simp; done) | (simp; omega)) _) | (with_reducible refine Below.alloc ?_ (by first | omega | (simp; done) | (simp; omega)) _) | (with_reducible refine below_drewN ?_ _) | (with_reducible refine Below.drew ?_) | (with_reducible refine Below.trans ?_ (Below.mono (by first | (with_reducible assumption) | exact Grow.below (by assumption)) (by first | omega | (simp; done) | (simp; omega)))))

theorem sFinVec {a0 a1 a2 : Nat} {x0 x1 x2 : Option Nat} (h0 : Is .f32 a0 x0) (h1 : Is .f32 a1 x1) (h2 : Is .f32 a2 x2) (w : World) :
    Calls Try.prog 17 #[vecV a0 a1 a2] w (RetVB (finP x0 x1 x2 x0) (finP x0 x1 x2 x1) (finP x0 x1 x2 x2) (finV x0 x1 x2) w) := by
  have hst := run_store_float Try.prog
  cases h : finV x0 x1 x2 with
  | false =>
    rw [finP_f h, finP_f h, finP_f h]
    go_enter Try.func17, Try.ntmps17
    go_wp2_with (go_at_call 15; refine (sFinV h0 h1 h2 _).mono ?_; rintro eq wq ⟨rfl, hb⟩; obtain ⟨hc, hf⟩ := bcell hb.1; have hz := hb.2; try simp at hz)
    refine bodyPost_ret (v := .tuple #[vecV 0 0 0, .bool false]) (by simp [results, Try.results17, go_sem, hc, hz]) rfl ⟨⟨_, _, _, rfl, zeroW, zeroW, zeroW⟩, ?_⟩
    repeat' (first | with_reducible exact Below.refl _ _ | with_reducible assumption | (with_reducible refine Below.setCell ?_ (by first | omega | (simp; done) | (simp; omega)) _) | (with_reducible refine Below.alloc ?_ (by first | omega | (simp; done) | (simp; omega)) _) | (with_reducible refine below_drewN ?_ _) | (with_reducible refine Below.drew ?_) | (with_reducible refine Below.trans ?_ (Below.mono (by first | (with_reducible assumption) | exact Grow.below (by assumption)) (by first | omega | (simp; done) | (simp; omega)))))
  | true =>
    rw [finP_t h, finP_t h, finP_t h]
    go_enter Try.func17, Try.ntmps17
    go_wp2_with (go_at_call 15; refine (sFinV h0 h1 h2 _).mono ?_; rintro eq wq ⟨rfl, hb⟩; obtain ⟨hc, hf⟩ := bcell hb.1; have hz := hb.2; try simp at hz)
    refine bodyPost_ret (v := .tuple #[vecV a0 a1 a2, .bool true]) (by simp [results, Try.results17, go_sem, hc, hz]) rfl ⟨⟨_, _, _, rfl, h0, h1, h2⟩, ?_⟩
    repeat' (first | with_reducible exact Below.refl _ _ | with_reducible assumption | (with_reducible refine Below.setCell ?_ (by first | omega | (simp; done) | (simp; omega)) _) | (with_reducible refine Below.alloc ?_ (by first | omega | (simp; done) | (simp; omega)) _) | (with_reducible refine below_drewN ?_ _) | (with_reducible refine Below.drew ?_) | (with_reducible refine Below.trans ?_ (Below.mono (by first | (with_reducible assumption) | exact Grow.below (by assumption)) (by first | omega | (simp; done) | (simp; omega)))))
end Go.Proofs.Ytmljacpmmnngkaa
