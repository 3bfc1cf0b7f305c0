/-
  The arc between two marks: for every two marks the law's text returns true, and writes nothing that was there. No condition.
-/
import Derived.Test.YtlfcjfaddcciaaaArc
import Derived.Test.YtlfcjfaddcciaaaTo
namespace Go.Proofs.Ytlfcjfaddcciaaa
open Go.RowKit

theorem gP_t {n e v : Option Nat} (h : gB n e = true) : gP n e v = v := finP_t h
theorem bal_one : balB (some 1065353216) (some 1065353216) (some 0) (some 0) = true := by decide
theorem fin_zero : finS (some 0) = true := by decide
theorem mrk0 {n e h : Option Nat} (k : mrkB n e h = true) : mrkB n e (some 0) = true := by
  unfold mrkB at *
  simp only [Bool.and_eq_true] at *
  exact ⟨k.1, k.2.1, k.2.2.1, k.2.2.2.1, fin_zero⟩
theorem plcOk1 {n e h : Option Nat} (k : mrkB n e h = true) : plcOk (some 1065353216) (some 1065353216) (some 0) (some 0) n e (some 0) (some 0) = true := by
  unfold plcOk
  rw [bal_one, mrk0 k, fin_zero]; rfl
theorem plcB1 {n e h : Option Nat} (k : mrkB n e h = true) : plcB (some 1065353216) (some 1065353216) (some 0) (some 0) n e (some 0) (some 0) = gB n e := by
  unfold plcB
  rw [plcOk1 k, Bool.true_and]; rfl
theorem plcV1 {n e h v : Option Nat} (k : mrkB n e h = true) : plcV (some 1065353216) (some 1065353216) (some 0) (some 0) n e (some 0) (some 0) v = gP n e v := by
  unfold plcV
  rw [plcOk1 k, if_pos rfl]; rfl

/-- Whether there is an arc between two marks, and it. -/
def arcOk (un ue uh um uf ug : Option Nat) : Bool := mrkB un ue uh && mrkB um uf ug && gB un ue && gB um uf
def arcU (un ue um uf : Option Nat) : Option Nat := arcN (gX un ue) (gY un ue) (gZ un) (gX um uf) (gY um uf) (gZ um)
def arcV (un ue uh um uf ug : Option Nat) : Option Nat := if arcOk un ue uh um uf ug then finN (arcU un ue um uf) else some 0
def arcB (un ue uh um uf ug : Option Nat) : Bool := arcOk un ue uh um uf ug && finS (arcU un ue um uf)

section
variable {n e h m f g : Nat} {un ue uh um uf ug : Option Nat} (hn : Is .f32 n un) (he : Is .f32 e ue) (hh : Is .f32 h uh) (hm : Is .f32 m um) (hf : Is .f32 f uf) (hg : Is .f32 g ug)
include hn he hh hm hf hg

theorem sArc (w : World) : Calls Try.prog 19 #[vecV n e h, vecV m f g] w (RetNum (arcV un ue uh um uf ug) (arcB un ue uh um uf ug) w) := by
  have H := sArc0 hn he hh hm hf hg (fun bb bm w hb c1 c2 c3 k => sGr hn he bb bm w hb c1 c2 c3 k) (fun bb bm w hb c1 c2 c3 k => sGr hm hf bb bm w hb c1 c2 c3 k) w
  unfold arcV arcB arcOk arcU
  cases hA : gB un ue with
  | false => simpa only [hA, Bool.and_false, Bool.false_and, Bool.false_eq_true, if_false] using H
  | true =>
  cases hB : gB um uf with
  | false => simpa only [hA, hB, Bool.and_false, Bool.false_and, Bool.false_eq_true, if_false] using H
  | true => simpa only [hA, hB, gP_t hA, gP_t hB] using H

theorem iArc (w : World) : Calls Try.prog 20 #[vecV n e h, vecV m f g] w (RetNum (arcV un ue uh um uf ug) (arcB un ue uh um uf ug) w) := by
  have H := iArc0 (fun W => iPlc one32 one32 zero32 zero32 hn he zero32 zero32 W) (fun W => iPlc one32 one32 zero32 zero32 hm hf zero32 zero32 W) (fun W => iMrk hn he hh W) (fun W => iMrk hm hf hg W) w
  unfold arcV arcB arcOk arcU
  cases hA : mrkB un ue uh with
  | false => simpa only [hA, Bool.and_false, Bool.false_and, Bool.false_eq_true, if_false] using H
  | true =>
  cases hB : mrkB um uf ug with
  | false => simpa only [hA, hB, Bool.and_false, Bool.false_and, Bool.false_eq_true, if_false] using H
  | true =>
    rw [hA, hB, plcB1 hA, plcB1 hB] at H
    simp only [plcV1 hA, plcV1 hB] at H
    simp only [Bool.true_and, Bool.and_true] at H ⊢
    cases gA : gB un ue with
    | false => simpa only [gA, Bool.and_false, Bool.false_and, Bool.false_eq_true, if_false] using H
    | true =>
    cases gC : gB um uf with
    | false => simpa only [gA, gC, Bool.and_false, Bool.false_and, Bool.false_eq_true, if_false] using H
    | true =>
      simp only [gA, gC, gP_t gA, gP_t gC, Bool.true_and, Bool.and_true] at H ⊢
      exact H
end

abbrev stAl (w : World) (n e h m f g : Nat) : World := (w.alloc (.cells #[.float .f32 n, .float .f32 e, .float .f32 h] 26)).alloc (.cells #[.float .f32 m, .float .f32 f, .float .f32 g] 26)

set_option maxHeartbeats 3200000 in
theorem walk_FnExactArcBetween (n e h m f g : Nat) (w : World) (kn : n < 2 ^ 32) (ke : e < 2 ^ 32) (kh : h < 2 ^ 32) (km : m < 2 ^ 32) (kf : f < 2 ^ 32) (kg : g < 2 ^ 32) :
    Calls Try.prog 5 #[vecV n e h, vecV m f g] w fun e w' => e = .returned (.bool true) ∧ Below w.heap.size w w' := by
  have hn := Is.self (k := .f32) kn
  have he := Is.self (k := .f32) ke
  have hh := Is.self (k := .f32) kh
  have hm := Is.self (k := .f32) km
  have hf := Is.self (k := .f32) kf
  have hg := Is.self (k := .f32) kg
  have TA := fun W => toMrk (a0 := n) (a1 := e) (a2 := h) W
  have TB := fun W => toMrk (a0 := m) (a1 := f) (a2 := g) W
  have SP := fun W => sArc hn he hh hm hf hg W
  have IP := fun W => iArc hn he hh hm hf hg W
  generalize arcV (nrm .f32 n) (nrm .f32 e) (nrm .f32 h) (nrm .f32 m) (nrm .f32 f) (nrm .f32 g) = v0 at SP IP
  generalize arcB (nrm .f32 n) (nrm .f32 e) (nrm .f32 h) (nrm .f32 m) (nrm .f32 f) (nrm .f32 g) = ok at SP IP
  clear hn he hh hm hf hg
  have cA : VecIn (stAl w n e h m f g) w.heap.size n e h := ⟨by simp; omega, by rw [World.cell?_alloc_lt _ _ _ (by simp)]; simp, by rw [World.cell?_alloc_lt _ _ _ (by simp)]; simp, by rw [World.cell?_alloc_lt _ _ _ (by simp)]; simp⟩
  have cB : VecIn (stAl w n e h m f g) (w.heap.size + 1) m f g := by simpa using vec_alloc (w.alloc (.cells #[.float .f32 n, .float .f32 e, .float .f32 h] 26)) m f g 26
  have up : ∀ w', Below (w.heap.size + 2) (stAl w n e h m f g) w' → Below (stAl w n e h m f g).heap.size (stAl w n e h m f g) w' := fun w' k => k.mono (by simp)
  have p0 : ∀ w', Below (w.heap.size + 2) (stAl w n e h m f g) w' → w'.cell? ⟨w.heap.size, 0, none⟩ = some (.float .f32 n) := fun w' k => (k.cell (by simp)).trans cA.2.1
  have p1 : ∀ w', Below (w.heap.size + 2) (stAl w n e h m f g) w' → w'.cell? ⟨w.heap.size, 1, none⟩ = some (.float .f32 e) := fun w' k => (k.cell (by simp)).trans cA.2.2.1
  have p2 : ∀ w', Below (w.heap.size + 2) (stAl w n e h m f g) w' → w'.cell? ⟨w.heap.size, 2, none⟩ = some (.float .f32 h) := fun w' k => (k.cell (by simp)).trans cA.2.2.2
  have o0 : ∀ w', Below (w.heap.size + 2) (stAl w n e h m f g) w' → w'.cell? ⟨w.heap.size + 1, 0, none⟩ = some (.float .f32 m) := fun w' k => (k.cell (by simp)).trans cB.2.1
  have o1 : ∀ w', Below (w.heap.size + 2) (stAl w n e h m f g) w' → w'.cell? ⟨w.heap.size + 1, 1, none⟩ = some (.float .f32 f) := fun w' k => (k.cell (by simp)).trans cB.2.2.1
  have o2 : ∀ w', Below (w.heap.size + 2) (stAl w n e h m f g) w' → w'.cell? ⟨w.heap.size + 1, 2, none⟩ = some (.float .f32 g) := fun w' k => (k.cell (by simp)).trans cB.2.2.2
  clear cA cB up
  go_enter Try.func5, Try.ntmps5
  go_upto_region 1 with fail
  go_cut [5, 6] (fun s9 s10 wx => (∃ r, s9 = .float .f32 r ∧ s10 = .bool ok ∧ Is .f32 r v0) ∧ Below (w.heap.size + 2) (stAl w n e h m f g) wx)
  case first =>
    clear IP
    go_region_held3 (fun w' => Below (w.heap.size + 2) (stAl w n e h m f g) w') ((repeat' (first | with_reducible assumption | with_reducible exact Below.refl _ _ | with_reducible exact keepW (by with_reducible assumption) (by with_reducible assumption) (by first | exact Nat.le_refl _ | assumption | omega | (simp; done) | (simp; omega)) | with_reducible exact keepS (by with_reducible assumption) (by with_reducible assumption) (by first | exact Nat.le_refl _ | assumption | omega | (simp; done) | (simp; omega)) | (with_reducible refine Below.setCell ?_ (by first | omega | (simp; done) | (simp; omega)) _) | (with_reducible refine below_drewN ?_ _) | (with_reducible refine Below.drew ?_) | (with_reducible refine Below.trans ?_ (Below.mono (by with_reducible assumption) (by first | omega | (simp; done) | (simp; omega)))) | (with_reducible refine Below.trans ?_ (Below.mono (Grow.below (by with_reducible assumption)) (by first | omega | (simp; done) | (simp; omega)))) | (with_reducible refine Below.alloc ?_ (by first | omega | (simp; done) | (simp; omega)) _))))
      (first | (go_at_call 12; with_reducible refine (TA _).mono ?_; rintro eq wq ⟨rfl, hb⟩) | (go_at_call 12; with_reducible refine (TB _).mono ?_; rintro eq wq ⟨rfl, hb⟩) | (go_at_call 19; refine (SP _).mono ?_; rintro eq wq ⟨⟨r0, rfl, i0⟩, hb⟩))
    all_goals
      go_wp2_with fail
      go_meet
      exact ⟨⟨_, rfl, rfl, i0⟩, by with_reducible assumption⟩
  case rest =>
    obtain ⟨⟨r0, rfl, rfl, i0⟩, hX⟩ := hcut
    have hzc := hX.size
    simp [stAl] at hzc
    go_upto_region 2 with fail
    go_cut [7, 8] (fun s9 s10 wx => (∃ r, s9 = .float .f32 r ∧ s10 = .bool ok ∧ Is .f32 r v0) ∧ Below (w.heap.size + 2) (stAl w n e h m f g) wx)
    case first =>
      clear SP
      go_region_held3 (fun w' => Below (w.heap.size + 2) (stAl w n e h m f g) w') ((repeat' (first | with_reducible assumption | with_reducible exact Below.refl _ _ | with_reducible exact keepW (by with_reducible assumption) (by with_reducible assumption) (by first | exact Nat.le_refl _ | assumption | omega | (simp; done) | (simp; omega)) | with_reducible exact keepS (by with_reducible assumption) (by with_reducible assumption) (by first | exact Nat.le_refl _ | assumption | omega | (simp; done) | (simp; omega)) | (with_reducible refine Below.setCell ?_ (by first | omega | (simp; done) | (simp; omega)) _) | (with_reducible refine below_drewN ?_ _) | (with_reducible refine Below.drew ?_) | (with_reducible refine Below.trans ?_ (Below.mono (by with_reducible assumption) (by first | omega | (simp; done) | (simp; omega)))) | (with_reducible refine Below.trans ?_ (Below.mono (Grow.below (by with_reducible assumption)) (by first | omega | (simp; done) | (simp; omega)))) | (with_reducible refine Below.alloc ?_ (by first | omega | (simp; done) | (simp; omega)) _))))
        (first | (go_at_call 12; with_reducible refine (TA _).mono ?_; rintro eq wq ⟨rfl, hb⟩) | (go_at_call 12; with_reducible refine (TB _).mono ?_; rintro eq wq ⟨rfl, hb⟩) | (go_at_call 20; refine (IP _).mono ?_; rintro eq wq ⟨⟨r1, rfl, i1⟩, hb⟩))
      all_goals
        go_wp2_with fail
        go_meet
        exact ⟨⟨_, rfl, rfl, i1⟩, by with_reducible assumption⟩
    case rest =>
      obtain ⟨⟨r1, rfl, rfl, i1⟩, hY⟩ := hcut
      clear p0 p1 p2 o0 o1 o2
      go_wp2_with (first | (apply wpList_wide und32 Try.underlying42; rfl; rfl; (first | assumption | exact is_lit64 _ (by decide) | exact is_lit32 _ (by decide)); intro Kq hKq rq nq hq; go_simp) | (go_at_call 18; refine (sameFloat_any (by assumption) (by assumption) _).mono ?_; rintro eq wq ⟨nq, rfl, rfl⟩))
      go_ret
      refine ⟨rfl, ?_⟩
      have b0 : Below w.heap.size w (stAl w n e h m f g) := ((Below.refl _ _).alloc (Nat.le_refl _) _).alloc (by simp) _
      exact below_drewN (b0.trans (hY.mono (by omega))) _
end Go.Proofs.Ytlfcjfaddcciaaa
