/-
  The place of an entry in a list: for every list and name the law's text returns true, and writes nothing that was there. No condition.
-/
import Derived.Test.YthgnlpeogdockaaFnd
namespace Go.Proofs.Ythgnlpeogdockaa
open Go.RowKit

set_option maxHeartbeats 1600000 in
theorem iFind (b off n cap : Nat) (s : Nat → ByteArray) (t : ByteArray) (f : Nat → Nat) (v : Nat → Option Nat) (w : World) (hn : n ≤ 1048576) (hc : n ≤ cap) (hb : b < w.heap.size) (hs : ∀ i, i < n → (s i).size ≤ maxLen) (hr : ∀ i, i < 8 * n → w.cell? ⟨b, off + i, none⟩ = some (enC s f i)) (hv : ∀ i, i < 7 * n → Is .f32 (f i) (v i)) (R : Int) (B : Bool) (hR : (if findE s t n < 0 ∨ allE s v n = false then ((0 : Int), false) else (findE s t n, true)) = (R, B)) :
    Calls Try.prog 29 #[.slice (some ⟨b, off, none⟩) n cap, .string t] w fun e w' => e = .returned (.tuple #[.int .i64 R, .bool B]) ∧ Below w.heap.size w w' := by
  have CF := fun (W : World) (N : Nat) (h : Below w.heap.size w W) (hN : N < W.heap.size) (ct : W.cell? ⟨N, 0, none⟩ = some (.string t)) => iIndexE b off n cap N s t f W hn (Nat.lt_of_lt_of_le hb h.size) hN ct (fun i hi => (h.cell (p := ⟨b, off + i, none⟩) hb).trans (hr i hi))
  have CA := fun (W : World) (h : Below w.heap.size w W) => iAreE b off n cap s f v W hn hc (Nat.lt_of_lt_of_le hb h.size) hs (fun i hi => (h.cell (p := ⟨b, off + i, none⟩) hb).trans (hr i hi)) hv
  clear hr hv hs
  generalize allE s v n = O at CA hR
  generalize findE s t n = F at CF hR
  by_cases h0 : F < 0
  · rw [if_pos (.inl h0)] at hR
    obtain ⟨rfl, rfl⟩ := Prod.mk.inj hR
    go_enter Try.func29, Try.ntmps29
    go_wp2_with (first | (go_at_call 53; refine (CF _ _ (by repeat' (first | with_reducible exact Below.refl _ _ | with_reducible assumption | (with_reducible refine Below.setCell ?_ (by first | omega | (simp; done) | (simp; omega)) _) | (with_reducible refine Below.alloc ?_ (by first | omega | (simp; done) | (simp; omega)) _) | (with_reducible refine below_drewN ?_ _) | (with_reducible refine Below.drew ?_) | (with_reducible refine Below.trans ?_ (Below.mono (by first | (with_reducible assumption) | exact Grow.below (by assumption)) (by first | omega | (simp; done) | (simp; omega)))))) (by simp) (by simp)).mono ?_; rintro eq wq ⟨rfl, hb⟩; obtain ⟨hc, hf⟩ := bcell hb; have hz := hb.size; (try simp at hz); (try have hl : w.heap.size < wq.heap.size := (by omega))))
    go_ret2
    exact ⟨rfl, by repeat' (first | with_reducible exact Below.refl _ _ | with_reducible assumption | (with_reducible refine Below.setCell ?_ (by first | omega | (simp; done) | (simp; omega)) _) | (with_reducible refine Below.alloc ?_ (by first | omega | (simp; done) | (simp; omega)) _) | (with_reducible refine below_drewN ?_ _) | (with_reducible refine Below.drew ?_) | (with_reducible refine Below.trans ?_ (Below.mono (by first | (with_reducible assumption) | exact Grow.below (by assumption)) (by first | omega | (simp; done) | (simp; omega)))))⟩
  · cases O with
    | false =>
      rw [if_pos (.inr rfl)] at hR
      obtain ⟨rfl, rfl⟩ := Prod.mk.inj hR
      go_enter Try.func29, Try.ntmps29
      go_wp2_with (first | (go_at_call 53; refine (CF _ _ (by repeat' (first | with_reducible exact Below.refl _ _ | with_reducible assumption | (with_reducible refine Below.setCell ?_ (by first | omega | (simp; done) | (simp; omega)) _) | (with_reducible refine Below.alloc ?_ (by first | omega | (simp; done) | (simp; omega)) _) | (with_reducible refine below_drewN ?_ _) | (with_reducible refine Below.drew ?_) | (with_reducible refine Below.trans ?_ (Below.mono (by first | (with_reducible assumption) | exact Grow.below (by assumption)) (by first | omega | (simp; done) | (simp; omega)))))) (by simp) (by simp)).mono ?_; rintro eq wq ⟨rfl, hb⟩; obtain ⟨hc, hf⟩ := bcell hb; have hz := hb.size; (try simp at hz); (try have hl : w.heap.size < wq.heap.size := (by omega))) | (go_at_call 27; refine (CA _ (by repeat' (first | with_reducible exact Below.refl _ _ | with_reducible assumption | (with_reducible refine Below.setCell ?_ (by first | omega | (simp; done) | (simp; omega)) _) | (with_reducible refine Below.alloc ?_ (by first | omega | (simp; done) | (simp; omega)) _) | (with_reducible refine below_drewN ?_ _) | (with_reducible refine Below.drew ?_) | (with_reducible refine Below.trans ?_ (Below.mono (by first | (with_reducible assumption) | exact Grow.below (by assumption)) (by first | omega | (simp; done) | (simp; omega))))))).mono ?_; rintro eq wq ⟨rfl, hb⟩; obtain ⟨hc, hf⟩ := bcell hb; have hz := hb.size; (try simp at hz); (try have hl : w.heap.size < wq.heap.size := (by omega))))
      go_ret2
      exact ⟨rfl, by repeat' (first | with_reducible exact Below.refl _ _ | with_reducible assumption | (with_reducible refine Below.setCell ?_ (by first | omega | (simp; done) | (simp; omega)) _) | (with_reducible refine Below.alloc ?_ (by first | omega | (simp; done) | (simp; omega)) _) | (with_reducible refine below_drewN ?_ _) | (with_reducible refine Below.drew ?_) | (with_reducible refine Below.trans ?_ (Below.mono (by first | (with_reducible assumption) | exact Grow.below (by assumption)) (by first | omega | (simp; done) | (simp; omega)))))⟩
    | true =>
      rw [if_neg (by simp [h0])] at hR
      obtain ⟨rfl, rfl⟩ := Prod.mk.inj hR
      go_enter Try.func29, Try.ntmps29
      go_wp2_with (first | (go_at_call 53; refine (CF _ _ (by repeat' (first | with_reducible exact Below.refl _ _ | with_reducible assumption | (with_reducible refine Below.setCell ?_ (by first | omega | (simp; done) | (simp; omega)) _) | (with_reducible refine Below.alloc ?_ (by first | omega | (simp; done) | (simp; omega)) _) | (with_reducible refine below_drewN ?_ _) | (with_reducible refine Below.drew ?_) | (with_reducible refine Below.trans ?_ (Below.mono (by first | (with_reducible assumption) | exact Grow.below (by assumption)) (by first | omega | (simp; done) | (simp; omega)))))) (by simp) (by simp)).mono ?_; rintro eq wq ⟨rfl, hb⟩; obtain ⟨hc, hf⟩ := bcell hb; have hz := hb.size; (try simp at hz); (try have hl : w.heap.size < wq.heap.size := (by omega))) | (go_at_call 27; refine (CA _ (by repeat' (first | with_reducible exact Below.refl _ _ | with_reducible assumption | (with_reducible refine Below.setCell ?_ (by first | omega | (simp; done) | (simp; omega)) _) | (with_reducible refine Below.alloc ?_ (by first | omega | (simp; done) | (simp; omega)) _) | (with_reducible refine below_drewN ?_ _) | (with_reducible refine Below.drew ?_) | (with_reducible refine Below.trans ?_ (Below.mono (by first | (with_reducible assumption) | exact Grow.below (by assumption)) (by first | omega | (simp; done) | (simp; omega))))))).mono ?_; rintro eq wq ⟨rfl, hb⟩; obtain ⟨hc, hf⟩ := bcell hb; have hz := hb.size; (try simp at hz); (try have hl : w.heap.size < wq.heap.size := (by omega))))
      go_ret2
      exact ⟨rfl, by repeat' (first | with_reducible exact Below.refl _ _ | with_reducible assumption | (with_reducible refine Below.setCell ?_ (by first | omega | (simp; done) | (simp; omega)) _) | (with_reducible refine Below.alloc ?_ (by first | omega | (simp; done) | (simp; omega)) _) | (with_reducible refine below_drewN ?_ _) | (with_reducible refine Below.drew ?_) | (with_reducible refine Below.trans ?_ (Below.mono (by first | (with_reducible assumption) | exact Grow.below (by assumption)) (by first | omega | (simp; done) | (simp; omega)))))⟩

set_option maxHeartbeats 1600000 in
theorem sFind (b off n cap : Nat) (s : Nat → ByteArray) (t : ByteArray) (f : Nat → Nat) (v : Nat → Option Nat) (w : World) (hn : n ≤ 1048576) (hb : b < w.heap.size) (hs : ∀ i, i < n → (s i).size ≤ maxLen) (hr : ∀ i, i < 8 * n → w.cell? ⟨b, off + i, none⟩ = some (enC s f i)) (hv : ∀ i, i < 7 * n → Is .f32 (f i) (v i)) (R : Int) (B : Bool) (hR : (if findE s t n < 0 ∨ allE s v n = false then ((0 : Int), false) else (findE s t n, true)) = (R, B)) :
    Calls Try.prog 28 #[.slice (some ⟨b, off, none⟩) n cap, .string t] w fun e w' => e = .returned (.tuple #[.int .i64 R, .bool B]) ∧ Below w.heap.size w w' := by
  have CF := fun (W : World) (h : Below w.heap.size w W) => sFindE b off n cap s t f W hn (Nat.lt_of_lt_of_le hb h.size) (fun i hi => (h.cell (p := ⟨b, off + i, none⟩) hb).trans (hr i hi))
  have CA := fun (W : World) (h : Below w.heap.size w W) => sAreE b off n cap s f v W hn (Nat.lt_of_lt_of_le hb h.size) hs (fun i hi => (h.cell (p := ⟨b, off + i, none⟩) hb).trans (hr i hi)) hv
  clear hr hv hs
  generalize allE s v n = O at CA hR
  generalize findE s t n = F at CF hR
  cases O with
  | false =>
    rw [if_pos (.inr rfl)] at hR
    obtain ⟨rfl, rfl⟩ := Prod.mk.inj hR
    go_enter Try.func28, Try.ntmps28
    go_wp2_with (first | (go_at_call 52; refine (CF _ (by repeat' (first | with_reducible exact Below.refl _ _ | with_reducible assumption | (with_reducible refine Below.setCell ?_ (by first | omega | (simp; done) | (simp; omega)) _) | (with_reducible refine Below.alloc ?_ (by first | omega | (simp; done) | (simp; omega)) _) | (with_reducible refine below_drewN ?_ _) | (with_reducible refine Below.drew ?_) | (with_reducible refine Below.trans ?_ (Below.mono (by first | (with_reducible assumption) | exact Grow.below (by assumption)) (by first | omega | (simp; done) | (simp; omega))))))).mono ?_; rintro eq wq ⟨rfl, hb⟩; obtain ⟨hc, hf⟩ := bcell hb; have hz := hb.size; (try simp at hz); (try have hl : w.heap.size < wq.heap.size := (by omega))) | (go_at_call 50; refine (CA _ (by repeat' (first | with_reducible exact Below.refl _ _ | with_reducible assumption | (with_reducible refine Below.setCell ?_ (by first | omega | (simp; done) | (simp; omega)) _) | (with_reducible refine Below.alloc ?_ (by first | omega | (simp; done) | (simp; omega)) _) | (with_reducible refine below_drewN ?_ _) | (with_reducible refine Below.drew ?_) | (with_reducible refine Below.trans ?_ (Below.mono (by first | (with_reducible assumption) | exact Grow.below (by assumption)) (by first | omega | (simp; done) | (simp; omega))))))).mono ?_; rintro eq wq ⟨rfl, hb⟩; obtain ⟨hc, hf⟩ := bcell hb; have hz := hb.size; (try simp at hz); (try have hl : w.heap.size < wq.heap.size := (by omega))))
    go_ret2
    exact ⟨rfl, by repeat' (first | with_reducible exact Below.refl _ _ | with_reducible assumption | (with_reducible refine Below.setCell ?_ (by first | omega | (simp; done) | (simp; omega)) _) | (with_reducible refine Below.alloc ?_ (by first | omega | (simp; done) | (simp; omega)) _) | (with_reducible refine below_drewN ?_ _) | (with_reducible refine Below.drew ?_) | (with_reducible refine Below.trans ?_ (Below.mono (by first | (with_reducible assumption) | exact Grow.below (by assumption)) (by first | omega | (simp; done) | (simp; omega)))))⟩
  | true =>
    by_cases h0 : F < 0
    · rw [if_pos (.inl h0)] at hR
      obtain ⟨rfl, rfl⟩ := Prod.mk.inj hR
      go_enter Try.func28, Try.ntmps28
      go_wp2_with (first | (go_at_call 52; refine (CF _ (by repeat' (first | with_reducible exact Below.refl _ _ | with_reducible assumption | (with_reducible refine Below.setCell ?_ (by first | omega | (simp; done) | (simp; omega)) _) | (with_reducible refine Below.alloc ?_ (by first | omega | (simp; done) | (simp; omega)) _) | (with_reducible refine below_drewN ?_ _) | (with_reducible refine Below.drew ?_) | (with_reducible refine Below.trans ?_ (Below.mono (by first | (with_reducible assumption) | exact Grow.below (by assumption)) (by first | omega | (simp; done) | (simp; omega))))))).mono ?_; rintro eq wq ⟨rfl, hb⟩; obtain ⟨hc, hf⟩ := bcell hb; have hz := hb.size; (try simp at hz); (try have hl : w.heap.size < wq.heap.size := (by omega))) | (go_at_call 50; refine (CA _ (by repeat' (first | with_reducible exact Below.refl _ _ | with_reducible assumption | (with_reducible refine Below.setCell ?_ (by first | omega | (simp; done) | (simp; omega)) _) | (with_reducible refine Below.alloc ?_ (by first | omega | (simp; done) | (simp; omega)) _) | (with_reducible refine below_drewN ?_ _) | (with_reducible refine Below.drew ?_) | (with_reducible refine Below.trans ?_ (Below.mono (by first | (with_reducible assumption) | exact Grow.below (by assumption)) (by first | omega | (simp; done) | (simp; omega))))))).mono ?_; rintro eq wq ⟨rfl, hb⟩; obtain ⟨hc, hf⟩ := bcell hb; have hz := hb.size; (try simp at hz); (try have hl : w.heap.size < wq.heap.size := (by omega))))
      go_ret2
      exact ⟨rfl, by repeat' (first | with_reducible exact Below.refl _ _ | with_reducible assumption | (with_reducible refine Below.setCell ?_ (by first | omega | (simp; done) | (simp; omega)) _) | (with_reducible refine Below.alloc ?_ (by first | omega | (simp; done) | (simp; omega)) _) | (with_reducible refine below_drewN ?_ _) | (with_reducible refine Below.drew ?_) | (with_reducible refine Below.trans ?_ (Below.mono (by first | (with_reducible assumption) | exact Grow.below (by assumption)) (by first | omega | (simp; done) | (simp; omega)))))⟩
    · rw [if_neg (by simp [h0])] at hR
      obtain ⟨rfl, rfl⟩ := Prod.mk.inj hR
      go_enter Try.func28, Try.ntmps28
      go_wp2_with (first | (go_at_call 52; refine (CF _ (by repeat' (first | with_reducible exact Below.refl _ _ | with_reducible assumption | (with_reducible refine Below.setCell ?_ (by first | omega | (simp; done) | (simp; omega)) _) | (with_reducible refine Below.alloc ?_ (by first | omega | (simp; done) | (simp; omega)) _) | (with_reducible refine below_drewN ?_ _) | (with_reducible refine Below.drew ?_) | (with_reducible refine Below.trans ?_ (Below.mono (by first | (with_reducible assumption) | exact Grow.below (by assumption)) (by first | omega | (simp; done) | (simp; omega))))))).mono ?_; rintro eq wq ⟨rfl, hb⟩; obtain ⟨hc, hf⟩ := bcell hb; have hz := hb.size; (try simp at hz); (try have hl : w.heap.size < wq.heap.size := (by omega))) | (go_at_call 50; refine (CA _ (by repeat' (first | with_reducible exact Below.refl _ _ | with_reducible assumption | (with_reducible refine Below.setCell ?_ (by first | omega | (simp; done) | (simp; omega)) _) | (with_reducible refine Below.alloc ?_ (by first | omega | (simp; done) | (simp; omega)) _) | (with_reducible refine below_drewN ?_ _) | (with_reducible refine Below.drew ?_) | (with_reducible refine Below.trans ?_ (Below.mono (by first | (with_reducible assumption) | exact Grow.below (by assumption)) (by first | omega | (simp; done) | (simp; omega))))))).mono ?_; rintro eq wq ⟨rfl, hb⟩; obtain ⟨hc, hf⟩ := bcell hb; have hz := hb.size; (try simp at hz); (try have hl : w.heap.size < wq.heap.size := (by omega))))
      go_ret2
      exact ⟨rfl, by repeat' (first | with_reducible exact Below.refl _ _ | with_reducible assumption | (with_reducible refine Below.setCell ?_ (by first | omega | (simp; done) | (simp; omega)) _) | (with_reducible refine Below.alloc ?_ (by first | omega | (simp; done) | (simp; omega)) _) | (with_reducible refine below_drewN ?_ _) | (with_reducible refine Below.drew ?_) | (with_reducible refine Below.trans ?_ (Below.mono (by first | (with_reducible assumption) | exact Grow.below (by assumption)) (by first | omega | (simp; done) | (simp; omega)))))⟩

set_option maxHeartbeats 1600000 in
theorem walk_FnExactFindEntry (a : Option Addr) (n cap : Nat) (p : (Nat → ByteArray) × (Nat → Nat)) (t : ByteArray) (w : World) (hg : GoodEn w a n p) (ht : t.size ≤ maxLen) :
    Calls Try.prog 8 #[.slice a n cap, .string t] w fun e w' => e = .returned (.bool true) ∧ Below w.heap.size w w' := by
  by_cases hT : t.size ≤ 1048576
  · have hT' : decide (1048576 < ((t.size : Nat) : Int)) = false := by simp; omega
    have CZ := szE (cap := cap) 1048576 (by decide) (by decide) hg
    obtain ⟨hs, hw, hm, h⟩ := hg
    have hi : ∀ i, i < 7 * n → Is .f32 (p.2 i) (nrm .f32 (p.2 i)) := fun i h => Is.self (hw i h)
    have H := Lib.hid h
    have HI := Lib.hid hi
    have HS := Lib.hid hs
    clear h hi hw hs
    go_enter Try.func8, Try.ntmps8
    go_wp2_with fail
    (go_at_call 21; refine CZ.mono ?_; rintro _ W0 ⟨⟨r, rfl, hz⟩, b0⟩)
    rcases hz with hz | ⟨hz, _, hn⟩
    · go_wp2
      go_ret
      exact ⟨rfl, b0⟩
    · have hz' : decide (r < 0) = false := by simp; omega
      go_wp2_with fail
      (go_at_call 23; refine Calls.mono (toE_any _ hn (H.out.below b0)) ?_; rintro _ W1 ⟨rfl, b1, r1⟩)
      replace b1 := bt b0 b1
      go_wp2_with fail
      obtain ⟨R, B, hR⟩ : ∃ R B, (if findE p.1 t n < 0 ∨ allE p.1 (fun i => nrm .f32 (p.2 i)) n = false then ((0 : Int), false) else (findE p.1 t n, true)) = (R, B) := ⟨_, _, rfl⟩
      have HRR := Lib.hid hR
      clear hR
      (go_at_call 28; refine (sFind _ 0 n n p.1 t p.2 _ W1 hn r1.lt HS.out (rowCells r1) HI.out R B HRR.out).mono ?_; rintro _ W2 ⟨rfl, b2⟩)
      replace b2 := bt b1 b2
      clear r1
      go_wp2_with fail
      (go_at_call 23; refine Calls.mono (toE_any _ hn (H.out.below b2)) ?_; rintro _ W3 ⟨rfl, b3, r3⟩)
      replace b3 := bt b2 b3
      go_wp2_with fail
      (go_at_call 29; refine (iFind _ 0 n n p.1 t p.2 _ W3 hn (Nat.le_refl _) r3.lt HS.out (rowCells r3) HI.out R B HRR.out).mono ?_; rintro _ W4 ⟨rfl, b4⟩)
      replace r3 := rt r3 b4
      replace b4 := bt b3 b4
      go_wp2_with fail
      (go_at_call 23; refine Calls.mono (toE_any _ hn (H.out.below b4)) ?_; rintro _ W5 ⟨rfl, b5, r5⟩)
      replace r3 := rt r3 b5
      replace b5 := bt b4 b5
      go_wp2_with fail
      (go_at_call 25; refine (eqRowE hn r3 r5 HI.out HI.out).mono ?_; rintro _ W6 ⟨rfl, b6⟩)
      replace b6 := bt b5 b6
      go_wp2_with fail
      go_ret
      exact ⟨rfl, b6⟩
  · have hT' : decide (1048576 < ((t.size : Nat) : Int)) = true := by simp; omega
    clear hg
    go_enter Try.func8, Try.ntmps8
    go_wp2
    go_ret
    exact ⟨rfl, Below.refl _ _⟩
end Go.Proofs.Ythgnlpeogdockaa
