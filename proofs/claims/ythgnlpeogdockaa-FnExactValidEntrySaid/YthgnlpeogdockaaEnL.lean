/-
  Whether a text and seven numbers are an entry: for every entry the law's text returns true, and writes nothing that was there. No condition.
-/
import Derived.Test.YthgnlpeogdockaaEn
namespace Go.Proofs.Ythgnlpeogdockaa
open Go.RowKit

set_option maxHeartbeats 1600000 in
theorem walk_FnExactValidEntry (s : ByteArray) (a0 a1 a2 a3 a4 a5 a6 : Nat) (w : World) (hs : s.size ≤ maxLen) (k0 : a0 < 2 ^ 32) (k1 : a1 < 2 ^ 32) (k2 : a2 < 2 ^ 32) (k3 : a3 < 2 ^ 32) (k4 : a4 < 2 ^ 32) (k5 : a5 < 2 ^ 32) (k6 : a6 < 2 ^ 32) :
    Calls Try.prog 5 #[enV s a0 a1 a2 a3 a4 a5 a6] w fun e w' => e = .returned (.bool true) ∧ Below w.heap.size w w' := by
  have h0 := Is.self (k := .f32) k0
  have h1 := Is.self (k := .f32) k1
  have h2 := Is.self (k := .f32) k2
  have h3 := Is.self (k := .f32) k3
  have h4 := Is.self (k := .f32) k4
  have h5 := Is.self (k := .f32) k5
  have h6 := Is.self (k := .f32) k6
  have CS := fun (W : World) => szEn (s := s) (a0 := a0) (a1 := a1) (a2 := a2) (a3 := a3) (a4 := a4) (a5 := a5) (a6 := a6) 1048576 W hs (by decide) (by decide)
  by_cases hl : (1048576 : Int) < s.size
  · simp only [if_pos hl] at CS
    go_enter Try.func5, Try.ntmps5
    go_wp2_with (first | (go_at_call 17; refine (CS _).mono ?_; rintro eq wq ⟨rfl, hb⟩; obtain ⟨hc, hf⟩ := bcell hb; have hz := hb.size; (try simp at hz); (try have hl : w.heap.size < wq.heap.size := (by omega))))
    go_ret
    refine ⟨rfl, ?_⟩
    repeat' (first | with_reducible exact Below.refl _ _ | with_reducible assumption | (with_reducible refine Below.setCell ?_ (by first | omega | (simp; done) | (simp; omega)) _) | (with_reducible refine Below.alloc ?_ (by first | omega | (simp; done) | (simp; omega)) _) | (with_reducible refine below_drewN ?_ _) | (with_reducible refine Below.drew ?_) | (with_reducible refine Below.trans ?_ (Below.mono (by first | (with_reducible assumption) | exact Grow.below (by assumption)) (by first | omega | (simp; done) | (simp; omega)))))
  · have hd : decide (1048576 - (s.size : Int) < 0) = false := by simp; omega
    simp only [if_neg hl] at CS
    go_enter Try.func5, Try.ntmps5
    go_wp2_with (first | (go_at_call 17; refine (CS _).mono ?_; rintro eq wq ⟨rfl, hb⟩; obtain ⟨hc, hf⟩ := bcell hb; have hz := hb.size; (try simp at hz); (try have hl : w.heap.size < wq.heap.size := (by omega))) | (go_at_call 19; refine (toEn _).mono ?_; rintro eq wq ⟨rfl, hb⟩; obtain ⟨hc, hf⟩ := bcell hb; have hz := hb.size; (try simp at hz); (try have hl : w.heap.size < wq.heap.size := (by omega))) | (go_at_call 18; refine (sEntry hs h0 h1 h2 h3 h4 h5 h6 _).mono ?_; rintro eq wq ⟨rfl, hb⟩; obtain ⟨hc, hf⟩ := bcell hb; have hz := hb.size; (try simp at hz); (try have hl : w.heap.size < wq.heap.size := (by omega))) | (go_at_call 20; refine (iEntry hs h0 h1 h2 h3 h4 h5 h6 _).mono ?_; rintro eq wq ⟨rfl, hb⟩; obtain ⟨hc, hf⟩ := bcell hb; have hz := hb.size; (try simp at hz); (try have hl : w.heap.size < wq.heap.size := (by omega))))
    go_ret
    refine ⟨rfl, ?_⟩
    repeat' (first | with_reducible exact Below.refl _ _ | with_reducible assumption | (with_reducible refine Below.setCell ?_ (by first | omega | (simp; done) | (simp; omega)) _) | (with_reducible refine Below.alloc ?_ (by first | omega | (simp; done) | (simp; omega)) _) | (with_reducible refine below_drewN ?_ _) | (with_reducible refine Below.drew ?_) | (with_reducible refine Below.trans ?_ (Below.mono (by first | (with_reducible assumption) | exact Grow.below (by assumption)) (by first | omega | (simp; done) | (simp; omega)))))
end Go.Proofs.Ythgnlpeogdockaa
