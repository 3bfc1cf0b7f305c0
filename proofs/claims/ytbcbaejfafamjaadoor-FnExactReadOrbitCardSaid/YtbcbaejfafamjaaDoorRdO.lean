/-
  An orbit with a text: for every text the law returns true, and writes nothing that was there. Conditions: as for lists of numbers.
-/
import Derived.Test.YtbcbaejfafamjaaDoorSom
import Derived.Test.YtbcbaejfafamjaaDoorOrbSD
import Derived.Test.YtbcbaejfafamjaaDoorHas
import Derived.Test.YtbcbaejfafamjaaDoorTake
namespace Go.Proofs.YtbcbaejfafamjaaDoor
open Go.RowKit

/-- Whether a text has the numbers of an orbit. -/
def okRO (s : ByteArray) : Bool := someB s 6 && orbB (nrm .f32 ((valsN s).getD 0 0)) (nrm .f32 ((valsN s).getD 1 0)) (nrm .f32 ((valsN s).getD 2 0)) (nrm .f32 ((valsN s).getD 3 0)) (nrm .f32 ((valsN s).getD 4 0)) (nrm .f32 ((valsN s).getD 5 0))
def cRO (s : ByteArray) (i : Nat) : Nat := if okRO s then (valsN s).getD i 0 else 0
def RetRO (s : ByteArray) (w : World) (e : Ending) (w' : World) : Prop :=
  e = .returned (.tuple #[orbV (cRO s 0) (cRO s 1) (cRO s 2) (cRO s 3) (cRO s 4) (cRO s 5), .bool (okRO s)]) ∧ Below w.heap.size w w'
theorem okRO_no {s : ByteArray} (h : okRO s = false) (w : World) : RetRO s w = fun e w' => e = .returned (.tuple #[orbV 0 0 0 0 0 0, .bool false]) ∧ Below w.heap.size w w' := by
  have h0 : ∀ i, cRO s i = 0 := fun i => by unfold cRO; rw [h]; rfl
  funext e w'
  unfold RetRO
  rw [h0 0, h0 1, h0 2, h0 3, h0 4, h0 5, h]
theorem okRO_some {s : ByteArray} (h : someB s 6 = false) : okRO s = false := by unfold okRO; rw [h]; rfl
theorem okRO_is {s : ByteArray} (h : someB s 6 = true) : ∃ a b c d p q, valsN s = [a, b, c, d, p, q] ∧ a < 2 ^ 32 ∧ b < 2 ^ 32 ∧ c < 2 ^ 32 ∧ d < 2 ^ 32 ∧ p < 2 ^ 32 ∧ q < 2 ^ 32 ∧ okRO s = orbB (nrm .f32 a) (nrm .f32 b) (nrm .f32 c) (nrm .f32 d) (nrm .f32 p) (nrm .f32 q) ∧ (okRO s = true → ∀ w, RetRO s w = fun e w' => e = .returned (.tuple #[orbV a b c d p q, .bool true]) ∧ Below w.heap.size w w') := by
  obtain ⟨-, h3⟩ := someV_t h
  have hlt := vals_lt s
  have he : okRO s = (someB s 6 && orbB (nrm .f32 ((valsN s).getD 0 0)) (nrm .f32 ((valsN s).getD 1 0)) (nrm .f32 ((valsN s).getD 2 0)) (nrm .f32 ((valsN s).getD 3 0)) (nrm .f32 ((valsN s).getD 4 0)) (nrm .f32 ((valsN s).getD 5 0))) := rfl
  have hc : okRO s = true → ∀ i, cRO s i = (valsN s).getD i 0 := fun e i => by unfold cRO; rw [e]; rfl
  rw [h] at he
  generalize valsN s = xs at h3 hlt he hc ⊢
  match xs, h3 with
  | [a, b, c, d, p, q], _ =>
    refine ⟨a, b, c, d, p, q, rfl, hlt _ (by simp), hlt _ (by simp), hlt _ (by simp), hlt _ (by simp), hlt _ (by simp), hlt _ (by simp), by rw [he]; rfl, fun e w => ?_⟩
    funext e' w'
    unfold RetRO
    rw [hc e 0, hc e 1, hc e 2, hc e 3, hc e 4, hc e 5, e]
    rfl
theorem cRO_lt (s : ByteArray) (i : Nat) : cRO s i < 2 ^ 32 := by
  unfold cRO
  split
  · rw [List.getD_eq_getElem?_getD]
    cases h : (valsN s)[i]? with
    | none => decide
    | some x => exact vals_lt s x (List.mem_of_getElem? h)
  · decide

theorem eqOrbR {a0 a1 a2 a3 a4 a5 : Nat} {x0 x1 x2 x3 x4 x5 : Option Nat} (h0 : Is .f32 a0 x0) (h1 : Is .f32 a1 x1) (h2 : Is .f32 a2 x2) (h3 : Is .f32 a3 x3) (h4 : Is .f32 a4 x4) (h5 : Is .f32 a5 x5) {b0 b1 b2 b3 b4 b5 : Nat} (g0 : Is .f32 b0 x0) (g1 : Is .f32 b1 x1) (g2 : Is .f32 b2 x2) (g3 : Is .f32 b3 x3) (g4 : Is .f32 b4 x4) (g5 : Is .f32 b5 x5) (w : World) :
    Calls Tryd.prog 26 #[orbV a0 a1 a2 a3 a4 a5, orbV b0 b1 b2 b3 b4 b5] w fun e w' => e = .returned (.bool true) ∧ Below w.heap.size w w' := by
  go_enter Tryd.func26, Tryd.ntmps26
  go_wp2_with (first | (apply wpList_wide und32 Tryd.underlying54; rfl; rfl; (first | assumption | exact is_lit64 _ (by decide) | exact is_lit32 _ (by decide)); intro Kq hKq rq nq hq; go_simp) | (go_at_call 33; refine (sameFloat_any (by assumption) (by assumption) _).mono ?_; rintro eq wq ⟨nq, rfl, rfl⟩))
  go_ret
  refine ⟨rfl, ?_⟩
  repeat' (first | with_reducible exact Below.refl _ _ | with_reducible assumption | (with_reducible refine Below.setCell ?_ (by first | omega | (simp; done) | (simp; omega)) _) | (with_reducible refine Below.alloc ?_ (by first | omega | (simp; done) | (simp; omega)) _) | (with_reducible refine below_drewN ?_ _) | (with_reducible refine Below.drew ?_) | (with_reducible refine Below.trans ?_ (Below.mono (by first | (with_reducible assumption) | exact Grow.below (by assumption)) (by first | omega | (simp; done) | (simp; omega)))))

/-- Six words, or none. -/
def orbIf (ok : Bool) (a0 a1 a2 a3 a4 a5 : Nat) : Value := if ok then orbV a0 a1 a2 a3 a4 a5 else orbV 0 0 0 0 0 0

theorem iCheckR {a0 a1 a2 a3 a4 a5 : Nat} {x0 x1 x2 x3 x4 x5 : Option Nat} (h0 : Is .f32 a0 x0) (h1 : Is .f32 a1 x1) (h2 : Is .f32 a2 x2) (h3 : Is .f32 a3 x3) (h4 : Is .f32 a4 x4) (h5 : Is .f32 a5 x5) (w : World) :
    Calls Tryd.prog 39 #[orbV a0 a1 a2 a3 a4 a5] w fun e w' => e = .returned (.tuple #[orbIf (orbB x0 x1 x2 x3 x4 x5) a0 a1 a2 a3 a4 a5, .bool (orbB x0 x1 x2 x3 x4 x5)]) ∧ Below w.heap.size w w' := by
  have hst := run_store_float Tryd.prog
  have HI := fun (W : World) => iOrb h0 h1 h2 h3 h4 h5 W
  generalize orbB x0 x1 x2 x3 x4 x5 = ok at HI ⊢
  clear h0 h1 h2 h3 h4 h5
  cases ok with
  | true =>
    go_enter Tryd.func39, Tryd.ntmps39
    go_wp2_with (go_at_call 56; refine (HI _).mono ?_; rintro eq wq ⟨rfl, hb⟩; obtain ⟨hc, hf⟩ := bcell hb; have hz := hb.size; (try simp at hz); (try have hl : w.heap.size < wq.heap.size := (by omega)))
    refine bodyPost_ret (v := .tuple #[orbV a0 a1 a2 a3 a4 a5, .bool true]) (by simp [results, Tryd.results39, go_sem, hc]) rfl ⟨rfl, ?_⟩
    repeat' (first | with_reducible exact Below.refl _ _ | with_reducible assumption | (with_reducible refine Below.setCell ?_ (by first | omega | (simp; done) | (simp; omega)) _) | (with_reducible refine Below.alloc ?_ (by first | omega | (simp; done) | (simp; omega)) _) | (with_reducible refine below_drewN ?_ _) | (with_reducible refine Below.drew ?_) | (with_reducible refine Below.trans ?_ (Below.mono (by first | (with_reducible assumption) | exact Grow.below (by assumption)) (by first | omega | (simp; done) | (simp; omega)))))
  | false =>
    go_enter Tryd.func39, Tryd.ntmps39
    go_wp2_with (go_at_call 56; refine (HI _).mono ?_; rintro eq wq ⟨rfl, hb⟩; obtain ⟨hc, hf⟩ := bcell hb; have hz := hb.size; (try simp at hz); (try have hl : w.heap.size < wq.heap.size := (by omega)))
    refine bodyPost_ret (v := .tuple #[orbV 0 0 0 0 0 0, .bool false]) (by simp [results, Tryd.results39, go_sem, hc]) rfl ⟨rfl, ?_⟩
    repeat' (first | with_reducible exact Below.refl _ _ | with_reducible assumption | (with_reducible refine Below.setCell ?_ (by first | omega | (simp; done) | (simp; omega)) _) | (with_reducible refine Below.alloc ?_ (by first | omega | (simp; done) | (simp; omega)) _) | (with_reducible refine below_drewN ?_ _) | (with_reducible refine Below.drew ?_) | (with_reducible refine Below.trans ?_ (Below.mono (by first | (with_reducible assumption) | exact Grow.below (by assumption)) (by first | omega | (simp; done) | (simp; omega)))))

theorem sGiveR {a0 a1 a2 a3 a4 a5 : Nat} {x0 x1 x2 x3 x4 x5 : Option Nat} (h0 : Is .f32 a0 x0) (h1 : Is .f32 a1 x1) (h2 : Is .f32 a2 x2) (h3 : Is .f32 a3 x3) (h4 : Is .f32 a4 x4) (h5 : Is .f32 a5 x5) (w : World) :
    Calls Tryd.prog 54 #[orbV a0 a1 a2 a3 a4 a5] w fun e w' => e = .returned (.tuple #[orbIf (orbB x0 x1 x2 x3 x4 x5) a0 a1 a2 a3 a4 a5, .bool (orbB x0 x1 x2 x3 x4 x5)]) ∧ Below w.heap.size w w' := by
  have hst := run_store_float Tryd.prog
  have HI := fun (W : World) (hb : w.heap.size < W.heap.size) c0 c1 c2 c3 c4 c5 => sIs h0 h1 h2 h3 h4 h5 w.heap.size 0 W hb c0 c1 c2 c3 c4 c5
  simp only [Nat.zero_add] at HI
  rw [orb_same h1] at HI
  generalize orbB x0 x1 x2 x3 x4 x5 = ok at HI ⊢
  clear h0 h1 h2 h3 h4 h5
  cases ok with
  | true =>
    go_enter Tryd.func54, Tryd.ntmps54
    go_wp2_with (go_at_call 74; refine (HI _ (by first | (simp; done) | (simp; omega)) (by simp) (by simp) (by simp) (by simp) (by simp) (by simp)).mono ?_; rintro eq wq ⟨nq, rfl, rfl⟩)
    refine bodyPost_ret (v := .tuple #[orbV a0 a1 a2 a3 a4 a5, .bool true]) (by simp [results, Tryd.results54, go_sem]) rfl ⟨rfl, ?_⟩
    repeat' (first | with_reducible exact Below.refl _ _ | with_reducible assumption | (with_reducible refine Below.setCell ?_ (by first | omega | (simp; done) | (simp; omega)) _) | (with_reducible refine Below.alloc ?_ (by first | omega | (simp; done) | (simp; omega)) _) | (with_reducible refine below_drewN ?_ _) | (with_reducible refine Below.drew ?_) | (with_reducible refine Below.trans ?_ (Below.mono (by first | (with_reducible assumption) | exact Grow.below (by assumption)) (by first | omega | (simp; done) | (simp; omega)))))
  | false =>
    go_enter Tryd.func54, Tryd.ntmps54
    go_wp2_with (go_at_call 74; refine (HI _ (by first | (simp; done) | (simp; omega)) (by simp) (by simp) (by simp) (by simp) (by simp) (by simp)).mono ?_; rintro eq wq ⟨nq, rfl, rfl⟩)
    refine bodyPost_ret (v := .tuple #[orbV 0 0 0 0 0 0, .bool false]) (by simp [results, Tryd.results54, go_sem]) rfl ⟨rfl, ?_⟩
    repeat' (first | with_reducible exact Below.refl _ _ | with_reducible assumption | (with_reducible refine Below.setCell ?_ (by first | omega | (simp; done) | (simp; omega)) _) | (with_reducible refine Below.alloc ?_ (by first | omega | (simp; done) | (simp; omega)) _) | (with_reducible refine below_drewN ?_ _) | (with_reducible refine Below.drew ?_) | (with_reducible refine Below.trans ?_ (Below.mono (by first | (with_reducible assumption) | exact Grow.below (by assumption)) (by first | omega | (simp; done) | (simp; omega)))))

theorem sFrom {a0 a1 a2 a3 a4 a5 : Nat} (g cap : Nat) (w : World) (hg : g < w.heap.size) (c0 : w.cell? ⟨g, 0, none⟩ = some (.float .f32 a0)) (c1 : w.cell? ⟨g, 1, none⟩ = some (.float .f32 a1)) (c2 : w.cell? ⟨g, 2, none⟩ = some (.float .f32 a2)) (c3 : w.cell? ⟨g, 3, none⟩ = some (.float .f32 a3)) (c4 : w.cell? ⟨g, 4, none⟩ = some (.float .f32 a4)) (c5 : w.cell? ⟨g, 5, none⟩ = some (.float .f32 a5)) :
    Calls Tryd.prog 55 #[.slice (some ⟨g, 0, none⟩) 6 cap] w fun e w' => e = .returned (orbV a0 a1 a2 a3 a4 a5) ∧ Below w.heap.size w w' := by
  have hst := run_store_float Tryd.prog
  go_enter Tryd.func55, Tryd.ntmps55
  go_wp2
  go_region
  go_wp2_with fail
  refine bodyPost_ret (v := orbV a0 a1 a2 a3 a4 a5) (by simp [results, Tryd.results55, go_sem]) rfl ⟨rfl, ?_⟩
  repeat' (first | with_reducible exact Below.refl _ _ | with_reducible assumption | (with_reducible refine Below.setCell ?_ (by first | omega | (simp; done) | (simp; omega)) _) | (with_reducible refine Below.alloc ?_ (by first | omega | (simp; done) | (simp; omega)) _) | (with_reducible refine below_drewN ?_ _) | (with_reducible refine Below.drew ?_) | (with_reducible refine Below.trans ?_ (Below.mono (by first | (with_reducible assumption) | exact Grow.below (by assumption)) (by first | omega | (simp; done) | (simp; omega)))))

theorem hasQ {w wq : World} (h : Below (w.alloc (.cells #[.float .f32 0, .float .f32 0, .float .f32 0, .float .f32 0, .float .f32 0, .float .f32 0] 45)).heap.size (w.alloc (.cells #[.float .f32 0, .float .f32 0, .float .f32 0, .float .f32 0, .float .f32 0, .float .f32 0] 45)) wq) : Has w.heap.size 6 wq := by
  have h1 : Has w.heap.size 6 (w.alloc (.cells #[.float .f32 0, .float .f32 0, .float .f32 0, .float .f32 0, .float .f32 0, .float .f32 0] 45)) := by
    refine ⟨by simp, fun o ho => ?_, fun o => ?_⟩
    · match o, ho with
      | 0, _ => simp
      | 1, _ => simp
      | 2, _ => simp
      | 3, _ => simp
      | 4, _ => simp
      | 5, _ => simp
    · simp
  exact h1.at h
/-- What a region holds that ends in a store into a block R of six: what was there is as it was, and so is the row g. -/
def OrS (w : World) (R g a0 a1 a2 a3 a4 a5 : Nat) (w' : World) : Prop := Below R w w' ∧ Has R 6 w' ∧ (w'.cell? ⟨g, 0, none⟩ = some (.float .f32 a0) ∧ w'.cell? ⟨g, 1, none⟩ = some (.float .f32 a1) ∧ w'.cell? ⟨g, 2, none⟩ = some (.float .f32 a2) ∧ w'.cell? ⟨g, 3, none⟩ = some (.float .f32 a3) ∧ w'.cell? ⟨g, 4, none⟩ = some (.float .f32 a4) ∧ w'.cell? ⟨g, 5, none⟩ = some (.float .f32 a5))
section
variable {w X Y : World} {R g a0 a1 a2 a3 a4 a5 : Nat}
theorem OrS.drew (h : OrS w R g a0 a1 a2 a3 a4 a5 X) : OrS w R g a0 a1 a2 a3 a4 a5 X.drew := ⟨h.1.drew, h.2.1.drew, h.2.2⟩
theorem OrS.at (h : OrS w R g a0 a1 a2 a3 a4 a5 X) (e : Below X.heap.size X Y) (hg : g < X.heap.size) : OrS w R g a0 a1 a2 a3 a4 a5 Y := by
  obtain ⟨a, b, c0, c1, c2, c3, c4, c5⟩ := h
  exact ⟨a.trans (e.mono (Nat.le_of_lt b.1)), b.at e, (e.cell (p := ⟨g, 0, none⟩) hg).trans c0, (e.cell (p := ⟨g, 1, none⟩) hg).trans c1, (e.cell (p := ⟨g, 2, none⟩) hg).trans c2, (e.cell (p := ⟨g, 3, none⟩) hg).trans c3, (e.cell (p := ⟨g, 4, none⟩) hg).trans c4, (e.cell (p := ⟨g, 5, none⟩) hg).trans c5⟩
theorem OrS.set (h : OrS w R g a0 a1 a2 a3 a4 a5 X) (hne : R ≠ g) (o : Nat) (v : Value) : OrS w R g a0 a1 a2 a3 a4 a5 (X.setCell ⟨R, o, none⟩ v) := by
  obtain ⟨a, b, c0, c1, c2, c3, c4, c5⟩ := h
  have ne : ∀ q, (⟨R, o, none⟩ : Addr) ≠ ⟨g, q, none⟩ := fun q h => hne (by cases h; rfl)
  exact ⟨a.setCell (Nat.le_refl _) _, b.setCell _ _, by rw [World.cell?_setCell_other _ _ _ _ (ne 0), c0], by rw [World.cell?_setCell_other _ _ _ _ (ne 1), c1], by rw [World.cell?_setCell_other _ _ _ _ (ne 2), c2], by rw [World.cell?_setCell_other _ _ _ _ (ne 3), c3], by rw [World.cell?_setCell_other _ _ _ _ (ne 4), c4], by rw [World.cell?_setCell_other _ _ _ _ (ne 5), c5]⟩
theorem set6 {u0 u1 u2 u3 u4 u5 : Nat} (h : Has R 6 X) : ((((((X.setCell ⟨R, 0, none⟩ (.float .f32 u0)).setCell ⟨R, 1, none⟩ (.float .f32 u1)).setCell ⟨R, 2, none⟩ (.float .f32 u2)).setCell ⟨R, 3, none⟩ (.float .f32 u3)).setCell ⟨R, 4, none⟩ (.float .f32 u4)).setCell ⟨R, 5, none⟩ (.float .f32 u5)).cell? ⟨R, 0, none⟩ = some (.float .f32 u0) ∧ ((((((X.setCell ⟨R, 0, none⟩ (.float .f32 u0)).setCell ⟨R, 1, none⟩ (.float .f32 u1)).setCell ⟨R, 2, none⟩ (.float .f32 u2)).setCell ⟨R, 3, none⟩ (.float .f32 u3)).setCell ⟨R, 4, none⟩ (.float .f32 u4)).setCell ⟨R, 5, none⟩ (.float .f32 u5)).cell? ⟨R, 1, none⟩ = some (.float .f32 u1) ∧ ((((((X.setCell ⟨R, 0, none⟩ (.float .f32 u0)).setCell ⟨R, 1, none⟩ (.float .f32 u1)).setCell ⟨R, 2, none⟩ (.float .f32 u2)).setCell ⟨R, 3, none⟩ (.float .f32 u3)).setCell ⟨R, 4, none⟩ (.float .f32 u4)).setCell ⟨R, 5, none⟩ (.float .f32 u5)).cell? ⟨R, 2, none⟩ = some (.float .f32 u2) ∧ ((((((X.setCell ⟨R, 0, none⟩ (.float .f32 u0)).setCell ⟨R, 1, none⟩ (.float .f32 u1)).setCell ⟨R, 2, none⟩ (.float .f32 u2)).setCell ⟨R, 3, none⟩ (.float .f32 u3)).setCell ⟨R, 4, none⟩ (.float .f32 u4)).setCell ⟨R, 5, none⟩ (.float .f32 u5)).cell? ⟨R, 3, none⟩ = some (.float .f32 u3) ∧ ((((((X.setCell ⟨R, 0, none⟩ (.float .f32 u0)).setCell ⟨R, 1, none⟩ (.float .f32 u1)).setCell ⟨R, 2, none⟩ (.float .f32 u2)).setCell ⟨R, 3, none⟩ (.float .f32 u3)).setCell ⟨R, 4, none⟩ (.float .f32 u4)).setCell ⟨R, 5, none⟩ (.float .f32 u5)).cell? ⟨R, 4, none⟩ = some (.float .f32 u4) ∧ ((((((X.setCell ⟨R, 0, none⟩ (.float .f32 u0)).setCell ⟨R, 1, none⟩ (.float .f32 u1)).setCell ⟨R, 2, none⟩ (.float .f32 u2)).setCell ⟨R, 3, none⟩ (.float .f32 u3)).setCell ⟨R, 4, none⟩ (.float .f32 u4)).setCell ⟨R, 5, none⟩ (.float .f32 u5)).cell? ⟨R, 5, none⟩ = some (.float .f32 u5) := by
  have q0 := h.cell (o := 0) (by decide)
  have q1 := h.cell (o := 1) (by decide)
  have q2 := h.cell (o := 2) (by decide)
  have q3 := h.cell (o := 3) (by decide)
  have q4 := h.cell (o := 4) (by decide)
  have q5 := h.cell (o := 5) (by decide)
  simp [World.cell?_setCell_other, cell_set, q0, q1, q2, q3, q4, q5]
end

set_option maxHeartbeats 3200000 in
theorem iRO (s : ByteArray) (hs : s.size ≤ 1048576) (w : World) (hL : LibM w) : Calls Tryd.prog 25 #[.string s] w (RetRO s w) := by
  have HC := fun (W : World) (hB : Below w.heap.size w W) => iSome 6 (by decide) s hs W (hL.stays hB)
  have hst := run_store_float Tryd.prog
  clear hL
  cases hV : someB s 6 with
  | false =>
    rw [hV, someV_f hV] at HC
    rw [okRO_no (okRO_some hV)]
    clear hV
    go_enter Tryd.func25, Tryd.ntmps25
    go_wp2_with (go_at_call 35; refine (HC _ ((Below.refl _ _).alloc (Nat.le_refl _) _)).mono ?_; rintro _ wq ⟨v, rfl, hr, hb⟩; have HQ := Lib.hid hb; obtain ⟨hc, hf⟩ := bcell hb; have hl : w.heap.size < wq.heap.size := (by have := hb.size; simp at this; omega); have HB := Lib.hid (((Below.refl w.heap.size w).alloc (Nat.le_refl _) _).trans (hb.mono (by simp))); obtain ⟨a, c, rfl⟩ := row_any hr; clear hr hb)
    have hB := HB.out
    refine bodyPost_ret (v := .tuple #[orbV 0 0 0 0 0 0, .bool false]) (by simp [results, Tryd.results25, go_sem, hc, hl]) rfl ⟨rfl, ?_⟩
    repeat' (first | with_reducible exact Below.refl _ _ | with_reducible assumption | (with_reducible refine Below.setCell ?_ (by first | omega | (simp; done) | (simp; omega)) _) | (with_reducible refine Below.alloc ?_ (by first | omega | (simp; done) | (simp; omega)) _) | (with_reducible refine below_drewN ?_ _) | (with_reducible refine Below.drew ?_) | (with_reducible refine Below.trans ?_ (Below.mono (by first | (with_reducible assumption) | exact Grow.below (by assumption)) (by first | omega | (simp; done) | (simp; omega)))))
  | true =>
    obtain ⟨e1, -⟩ := someV_t hV
    obtain ⟨a, b, c, d, p, q, ex, ka, kb, kc, kd, kp, kq, eo, er⟩ := okRO_is hV
    rw [hV, e1, ex] at HC
    have HI := fun (W : World) => iCheckR (Is.self (k := .f32) ka) (Is.self (k := .f32) kb) (Is.self (k := .f32) kc) (Is.self (k := .f32) kd) (Is.self (k := .f32) kp) (Is.self (k := .f32) kq) W
    rw [← eo] at HI
    clear e1 ex eo ka kb kc kd kp kq hV
    cases ho : okRO s with
    | false =>
      rw [okRO_no ho]
      rw [ho, show orbIf false a b c d p q = orbV 0 0 0 0 0 0 from rfl] at HI
      clear er ho
      go_enter Tryd.func25, Tryd.ntmps25
      go_wp2_with (go_at_call 35; refine (HC _ ((Below.refl _ _).alloc (Nat.le_refl _) _)).mono ?_; rintro _ wq ⟨v, rfl, hr, hb⟩; have HQ := Lib.hid hb; obtain ⟨hc, hf⟩ := bcell hb; have hl : w.heap.size < wq.heap.size := (by have := hb.size; simp at this; omega); have HB := Lib.hid (((Below.refl w.heap.size w).alloc (Nat.le_refl _) _).trans (hb.mono (by simp)));  obtain ⟨g, cap, rfl, hg, hgl⟩ := hr.form (by simp); have hqq := hb; have k0 := row_cell hr (k := 0) rfl; have k1 := row_cell hr (k := 1) rfl; have k2 := row_cell hr (k := 2) rfl; have k3 := row_cell hr (k := 3) rfl; have k4 := row_cell hr (k := 4) rfl; have k5 := row_cell hr (k := 5) rfl; clear hr hb)
      have hHw : Has w.heap.size 6 wq := hasQ hqq
      have hne : w.heap.size ≠ g := by simp at hg; omega
      have hS0 : OrS w w.heap.size g a b c d p q wq := ⟨HB.out, hHw, k0, k1, k2, k3, k4, k5⟩
      refine wp_region_held_drew (S := OrS w w.heap.size g a b c d p q) (by kernel_rfl) hS0.drew (fun hHeld => ?_)
      (refine wpTake (i := 0) (some 14) (v := ?_) rfl (by rfl) (by kernel_rfl) (by kernel_rfl) (by kernel_rfl) (fun _ _ _ h => h) (Or.inl ⟨by rfl, ?_⟩) hHeld ?_; rotate_left; (focus (intro wx hSw; obtain ⟨hSA, hSB, ⟨hS0, hS1, hS2, hS3, hS4, hS5⟩⟩ := hSw; (try dsimp only); go_simp; (try with_reducible rfl))); (simp only [Act.put, List.setIfInBounds_toArray, List.set_cons_zero, List.set_cons_succ]))
      (refine wpTake (i := 1) (some 15) (v := ?_) rfl (by rfl) (by kernel_rfl) (by kernel_rfl) (by kernel_rfl) (fun _ _ _ h => h) (Or.inl ⟨by rfl, ?_⟩) hHeld ?_; rotate_left; (focus (intro wx hSw; obtain ⟨hSA, hSB, ⟨hS0, hS1, hS2, hS3, hS4, hS5⟩⟩ := hSw; (try dsimp only); go_simp; (try with_reducible rfl))); (simp only [Act.put, List.setIfInBounds_toArray, List.set_cons_zero, List.set_cons_succ]))
      (refine wpTake (i := 2) (some 16) (v := ?_) rfl (by rfl) (by kernel_rfl) (by kernel_rfl) (by kernel_rfl) (fun _ _ _ h => h) (Or.inl ⟨by rfl, ?_⟩) hHeld ?_; rotate_left; (focus (intro wx hSw; obtain ⟨hSA, hSB, ⟨hS0, hS1, hS2, hS3, hS4, hS5⟩⟩ := hSw; (try dsimp only); go_simp; (try with_reducible rfl))); (simp only [Act.put, List.setIfInBounds_toArray, List.set_cons_zero, List.set_cons_succ]))
      (refine wpTake (i := 3) (some 17) (v := ?_) rfl (by rfl) (by kernel_rfl) (by kernel_rfl) (by kernel_rfl) (fun _ _ _ h => h) (Or.inl ⟨by rfl, ?_⟩) hHeld ?_; rotate_left; (focus (intro wx hSw; obtain ⟨hSA, hSB, ⟨hS0, hS1, hS2, hS3, hS4, hS5⟩⟩ := hSw; (try dsimp only); go_simp; (try with_reducible rfl))); (simp only [Act.put, List.setIfInBounds_toArray, List.set_cons_zero, List.set_cons_succ]))
      (refine wpTake (i := 4) (some 18) (v := ?_) rfl (by rfl) (by kernel_rfl) (by kernel_rfl) (by kernel_rfl) (fun _ _ _ h => h) (Or.inl ⟨by rfl, ?_⟩) hHeld ?_; rotate_left; (focus (intro wx hSw; obtain ⟨hSA, hSB, ⟨hS0, hS1, hS2, hS3, hS4, hS5⟩⟩ := hSw; (try dsimp only); go_simp; (try with_reducible rfl))); (simp only [Act.put, List.setIfInBounds_toArray, List.set_cons_zero, List.set_cons_succ]))
      (refine wpTake (i := 5) (some 19) (v := ?_) rfl (by rfl) (by kernel_rfl) (by kernel_rfl) (by kernel_rfl) (fun _ _ _ h => h) (Or.inl ⟨by rfl, ?_⟩) hHeld ?_; rotate_left; (focus (intro wx hSw; obtain ⟨hSA, hSB, ⟨hS0, hS1, hS2, hS3, hS4, hS5⟩⟩ := hSw; (try dsimp only); go_simp; (try with_reducible rfl))); (simp only [Act.put, List.setIfInBounds_toArray, List.set_cons_zero, List.set_cons_succ]))
      (refine wpTake (i := 6) (some 20) (v := ?_) rfl (by rfl) (by kernel_rfl) (by kernel_rfl) (by kernel_rfl) (fun _ _ _ h => h) (Or.inl ⟨by rfl, ?_⟩) hHeld ?_; rotate_left; (focus (intro wx hSw; obtain ⟨hSA, hSB, ⟨hS0, hS1, hS2, hS3, hS4, hS5⟩⟩ := hSw; (try dsimp only); go_simp; (try with_reducible rfl))); (simp only [Act.put, List.setIfInBounds_toArray, List.set_cons_zero, List.set_cons_succ]))
      (refine wpTake (i := 7) (some 21) (v := ?_) rfl (by rfl) (by kernel_rfl) (by kernel_rfl) (by kernel_rfl) (fun _ _ _ h => h) (Or.inl ⟨by rfl, ?_⟩) hHeld ?_; rotate_left; (focus (intro wx hSw; obtain ⟨hSA, hSB, ⟨hS0, hS1, hS2, hS3, hS4, hS5⟩⟩ := hSw; (try dsimp only); go_simp; (try with_reducible rfl))); (simp only [Act.put, List.setIfInBounds_toArray, List.set_cons_zero, List.set_cons_succ]))
      (refine wpTake (i := 8) (some 22) (v := ?_) rfl (by rfl) (by kernel_rfl) (by kernel_rfl) (by kernel_rfl) (fun _ _ _ h => h) (Or.inl ⟨by rfl, ?_⟩) hHeld ?_; rotate_left; (focus (intro wx hSw; obtain ⟨hSA, hSB, ⟨hS0, hS1, hS2, hS3, hS4, hS5⟩⟩ := hSw; (try dsimp only); go_simp; (try with_reducible rfl))); (simp only [Act.put, List.setIfInBounds_toArray, List.set_cons_zero, List.set_cons_succ]))
      (refine wpTake (i := 9) (some 23) (v := ?_) rfl (by rfl) (by kernel_rfl) (by kernel_rfl) (by kernel_rfl) (fun _ _ _ h => h) (Or.inl ⟨by rfl, ?_⟩) hHeld ?_; rotate_left; (focus (intro wx hSw; obtain ⟨hSA, hSB, ⟨hS0, hS1, hS2, hS3, hS4, hS5⟩⟩ := hSw; (try dsimp only); go_simp; (try with_reducible rfl))); (simp only [Act.put, List.setIfInBounds_toArray, List.set_cons_zero, List.set_cons_succ]))
      (refine wpTake (i := 10) (some 24) (v := ?_) rfl (by rfl) (by kernel_rfl) (by kernel_rfl) (by kernel_rfl) (fun _ _ _ h => h) (Or.inl ⟨by rfl, ?_⟩) hHeld ?_; rotate_left; (focus (intro wx hSw; obtain ⟨hSA, hSB, ⟨hS0, hS1, hS2, hS3, hS4, hS5⟩⟩ := hSw; (try dsimp only); go_simp; (try with_reducible rfl))); (simp only [Act.put, List.setIfInBounds_toArray, List.set_cons_zero, List.set_cons_succ]))
      (refine wpTake (i := 11) (some 25) (v := ?_) rfl (by rfl) (by kernel_rfl) (by kernel_rfl) (by kernel_rfl) (fun _ _ _ h => h) (Or.inl ⟨by rfl, ?_⟩) hHeld ?_; rotate_left; (focus (intro wx hSw; obtain ⟨hSA, hSB, ⟨hS0, hS1, hS2, hS3, hS4, hS5⟩⟩ := hSw; (try dsimp only); go_simp; (try with_reducible rfl))); (simp only [Act.put, List.setIfInBounds_toArray, List.set_cons_zero, List.set_cons_succ]))
      (refine wpTake (i := 12) (some 26) (v := ?_) rfl (by rfl) (by kernel_rfl) (by kernel_rfl) (by kernel_rfl) (fun _ _ _ h => h) (Or.inl ⟨by rfl, ?_⟩) hHeld ?_; rotate_left; (focus (intro wx hSw; obtain ⟨hSA, hSB, ⟨hS0, hS1, hS2, hS3, hS4, hS5⟩⟩ := hSw; (try dsimp only); go_simp; (try with_reducible rfl))); (simp only [Act.put, List.setIfInBounds_toArray, List.set_cons_zero, List.set_cons_succ]))
      (refine wpTake (i := 13) (some 27) (v := ?_) rfl (by rfl) (by kernel_rfl) (by kernel_rfl) (by kernel_rfl) (fun _ _ _ h => h) (Or.inl ⟨by rfl, ?_⟩) hHeld ?_; rotate_left; (focus (intro wx hSw; obtain ⟨hSA, hSB, ⟨hS0, hS1, hS2, hS3, hS4, hS5⟩⟩ := hSw; (try dsimp only); go_simp; (try with_reducible rfl))); (simp only [Act.put, List.setIfInBounds_toArray, List.set_cons_zero, List.set_cons_succ]))
      (refine wpTake (i := 14) (some 28) (v := ?_) rfl (by rfl) (by kernel_rfl) (by kernel_rfl) (by kernel_rfl) (fun _ _ _ h => h) (Or.inl ⟨by rfl, ?_⟩) hHeld ?_; rotate_left; (focus (intro wx hSw; obtain ⟨hSA, hSB, ⟨hS0, hS1, hS2, hS3, hS4, hS5⟩⟩ := hSw; (try dsimp only); go_simp; (try with_reducible rfl))); (simp only [Act.put, List.setIfInBounds_toArray, List.set_cons_zero, List.set_cons_succ]))
      (refine wpTake (i := 15) (some 29) (v := ?_) rfl (by rfl) (by kernel_rfl) (by kernel_rfl) (by kernel_rfl) (fun _ _ _ h => h) (Or.inl ⟨by rfl, ?_⟩) hHeld ?_; rotate_left; (focus (intro wx hSw; obtain ⟨hSA, hSB, ⟨hS0, hS1, hS2, hS3, hS4, hS5⟩⟩ := hSw; (try dsimp only); go_simp; (try with_reducible rfl))); (simp only [Act.put, List.setIfInBounds_toArray, List.set_cons_zero, List.set_cons_succ]))
      (refine wpTake (i := 16) (some 30) (v := ?_) rfl (by rfl) (by kernel_rfl) (by kernel_rfl) (by kernel_rfl) (fun _ _ _ h => h) (Or.inl ⟨by rfl, ?_⟩) hHeld ?_; rotate_left; (focus (intro wx hSw; obtain ⟨hSA, hSB, ⟨hS0, hS1, hS2, hS3, hS4, hS5⟩⟩ := hSw; (try dsimp only); go_simp; (try with_reducible rfl))); (simp only [Act.put, List.setIfInBounds_toArray, List.set_cons_zero, List.set_cons_succ]))
      (refine wpTake (i := 17) (some 31) (v := ?_) rfl (by rfl) (by kernel_rfl) (by kernel_rfl) (by kernel_rfl) (fun _ _ _ h => h) (Or.inl ⟨by rfl, ?_⟩) hHeld ?_; rotate_left; (focus (intro wx hSw; obtain ⟨hSA, hSB, ⟨hS0, hS1, hS2, hS3, hS4, hS5⟩⟩ := hSw; (try dsimp only); go_simp; (try with_reducible rfl))); (simp only [Act.put, List.setIfInBounds_toArray, List.set_cons_zero, List.set_cons_succ]))
      (refine wpTake (i := 18) (some 32) (v := ?_) rfl (by rfl) (by kernel_rfl) (by kernel_rfl) (by kernel_rfl) (fun _ _ _ h => h) (Or.inl ⟨by rfl, ?_⟩) hHeld ?_; rotate_left; (focus (intro wx hSw; obtain ⟨hSA, hSB, ⟨hS0, hS1, hS2, hS3, hS4, hS5⟩⟩ := hSw; (try dsimp only); go_simp; (try with_reducible rfl))); (simp only [Act.put, List.setIfInBounds_toArray, List.set_cons_zero, List.set_cons_succ]))
      (refine wpAnyH_ready (rs := [19]) (by kernel_rfl) (by simp) ?_; refine AllReadyH.cons rfl (fun K hK => ?_) AllReadyH.nil; go_simp)
      (go_at_call 39; (with_reducible refine (HI _).mono ?_); rintro _ w5 ⟨rfl, e5⟩)
      (go_wp2_with fail; refine hK.out _ _ (hHeld.at e5 hgl) (fun hHeld => ?_); clear hK K; (try simp only [Act.put, List.setIfInBounds_toArray, List.set_cons_zero, List.set_cons_succ]))
      (refine wpTake (i := 20) (some 34) (v := ?_) rfl (by rfl) (by kernel_rfl) (by kernel_rfl) (by kernel_rfl) (fun _ _ _ h => h) (Or.inl ⟨by rfl, ?_⟩) hHeld ?_; rotate_left; (focus (intro wx hSw; obtain ⟨hSA, hSB, ⟨hS0, hS1, hS2, hS3, hS4, hS5⟩⟩ := hSw; (try dsimp only); go_simp; (try with_reducible rfl))); (simp only [Act.put, List.setIfInBounds_toArray, List.set_cons_zero, List.set_cons_succ]))
      (refine wpTake (i := 21) (some 35) (v := ?_) rfl (by rfl) (by kernel_rfl) (by kernel_rfl) (by kernel_rfl) (fun _ _ _ h => h) (Or.inl ⟨by rfl, ?_⟩) hHeld ?_; rotate_left; (focus (intro wx hSw; obtain ⟨hSA, hSB, ⟨hS0, hS1, hS2, hS3, hS4, hS5⟩⟩ := hSw; (try dsimp only); go_simp; (try with_reducible rfl))); (simp only [Act.put, List.setIfInBounds_toArray, List.set_cons_zero, List.set_cons_succ]))
      have hR5 := hHeld.2.1
      have z0 := hR5.cell (o := 0) (by decide)
      have z1 := hR5.cell (o := 1) (by decide)
      have z2 := hR5.cell (o := 2) (by decide)
      have z3 := hR5.cell (o := 3) (by decide)
      have z4 := hR5.cell (o := 4) (by decide)
      have z5 := hR5.cell (o := 5) (by decide)
      have zf := hR5.frz
      (refine wpAnyH_ready (rs := [22]) (by kernel_rfl) (by simp) ?_; refine AllReadyH.cons rfl (fun K hK => ?_) AllReadyH.nil; go_simp)
      refine hK.out _ _ ((((((hHeld.set hne _ _).set hne _ _).set hne _ _).set hne _ _).set hne _ _).set hne _ _) (fun hHeld => ?_)
      clear hK K
      (try simp only [Act.put, List.setIfInBounds_toArray, List.set_cons_zero, List.set_cons_succ])
      (refine wpAnyH_ready (rs := [23]) (by kernel_rfl) (by simp) ?_; refine AllReadyH.cons rfl (fun K hK => ?_) AllReadyH.nil; go_simp)
      refine hK.out _ _ hHeld (fun hHeld => ?_)
      clear hK K
      (try simp only [Act.put, List.setIfInBounds_toArray, List.set_cons_zero, List.set_cons_succ])
      (refine wpAnyH_done (by kernel_rfl) ?_ _)
      go_wp2_with fail
      obtain ⟨y0, y1, y2, y3, y4, y5⟩ := set6 hR5 (u0 := 0) (u1 := 0) (u2 := 0) (u3 := 0) (u4 := 0) (u5 := 0)
      refine bodyPost_ret (v := .tuple #[orbV 0 0 0 0 0 0, .bool false]) (by simp [results, Tryd.results25, go_sem, y0, y1, y2, y3, y4, y5]) rfl ⟨rfl, ?_⟩
      exact hHeld.1
    | true =>
      rw [er ho]
      rw [ho, show orbIf true a b c d p q = orbV a b c d p q from rfl] at HI
      clear er ho
      go_enter Tryd.func25, Tryd.ntmps25
      go_wp2_with (go_at_call 35; refine (HC _ ((Below.refl _ _).alloc (Nat.le_refl _) _)).mono ?_; rintro _ wq ⟨v, rfl, hr, hb⟩; have HQ := Lib.hid hb; obtain ⟨hc, hf⟩ := bcell hb; have hl : w.heap.size < wq.heap.size := (by have := hb.size; simp at this; omega); have HB := Lib.hid (((Below.refl w.heap.size w).alloc (Nat.le_refl _) _).trans (hb.mono (by simp)));  obtain ⟨g, cap, rfl, hg, hgl⟩ := hr.form (by simp); have hqq := hb; have k0 := row_cell hr (k := 0) rfl; have k1 := row_cell hr (k := 1) rfl; have k2 := row_cell hr (k := 2) rfl; have k3 := row_cell hr (k := 3) rfl; have k4 := row_cell hr (k := 4) rfl; have k5 := row_cell hr (k := 5) rfl; clear hr hb)
      have hHw : Has w.heap.size 6 wq := hasQ hqq
      have hne : w.heap.size ≠ g := by simp at hg; omega
      have hS0 : OrS w w.heap.size g a b c d p q wq := ⟨HB.out, hHw, k0, k1, k2, k3, k4, k5⟩
      refine wp_region_held_drew (S := OrS w w.heap.size g a b c d p q) (by kernel_rfl) hS0.drew (fun hHeld => ?_)
      (refine wpTake (i := 0) (some 14) (v := ?_) rfl (by rfl) (by kernel_rfl) (by kernel_rfl) (by kernel_rfl) (fun _ _ _ h => h) (Or.inl ⟨by rfl, ?_⟩) hHeld ?_; rotate_left; (focus (intro wx hSw; obtain ⟨hSA, hSB, ⟨hS0, hS1, hS2, hS3, hS4, hS5⟩⟩ := hSw; (try dsimp only); go_simp; (try with_reducible rfl))); (simp only [Act.put, List.setIfInBounds_toArray, List.set_cons_zero, List.set_cons_succ]))
      (refine wpTake (i := 1) (some 15) (v := ?_) rfl (by rfl) (by kernel_rfl) (by kernel_rfl) (by kernel_rfl) (fun _ _ _ h => h) (Or.inl ⟨by rfl, ?_⟩) hHeld ?_; rotate_left; (focus (intro wx hSw; obtain ⟨hSA, hSB, ⟨hS0, hS1, hS2, hS3, hS4, hS5⟩⟩ := hSw; (try dsimp only); go_simp; (try with_reducible rfl))); (simp only [Act.put, List.setIfInBounds_toArray, List.set_cons_zero, List.set_cons_succ]))
      (refine wpTake (i := 2) (some 16) (v := ?_) rfl (by rfl) (by kernel_rfl) (by kernel_rfl) (by kernel_rfl) (fun _ _ _ h => h) (Or.inl ⟨by rfl, ?_⟩) hHeld ?_; rotate_left; (focus (intro wx hSw; obtain ⟨hSA, hSB, ⟨hS0, hS1, hS2, hS3, hS4, hS5⟩⟩ := hSw; (try dsimp only); go_simp; (try with_reducible rfl))); (simp only [Act.put, List.setIfInBounds_toArray, List.set_cons_zero, List.set_cons_succ]))
      (refine wpTake (i := 3) (some 17) (v := ?_) rfl (by rfl) (by kernel_rfl) (by kernel_rfl) (by kernel_rfl) (fun _ _ _ h => h) (Or.inl ⟨by rfl, ?_⟩) hHeld ?_; rotate_left; (focus (intro wx hSw; obtain ⟨hSA, hSB, ⟨hS0, hS1, hS2, hS3, hS4, hS5⟩⟩ := hSw; (try dsimp only); go_simp; (try with_reducible rfl))); (simp only [Act.put, List.setIfInBounds_toArray, List.set_cons_zero, List.set_cons_succ]))
      (refine wpTake (i := 4) (some 18) (v := ?_) rfl (by rfl) (by kernel_rfl) (by kernel_rfl) (by kernel_rfl) (fun _ _ _ h => h) (Or.inl ⟨by rfl, ?_⟩) hHeld ?_; rotate_left; (focus (intro wx hSw; obtain ⟨hSA, hSB, ⟨hS0, hS1, hS2, hS3, hS4, hS5⟩⟩ := hSw; (try dsimp only); go_simp; (try with_reducible rfl))); (simp only [Act.put, List.setIfInBounds_toArray, List.set_cons_zero, List.set_cons_succ]))
      (refine wpTake (i := 5) (some 19) (v := ?_) rfl (by rfl) (by kernel_rfl) (by kernel_rfl) (by kernel_rfl) (fun _ _ _ h => h) (Or.inl ⟨by rfl, ?_⟩) hHeld ?_; rotate_left; (focus (intro wx hSw; obtain ⟨hSA, hSB, ⟨hS0, hS1, hS2, hS3, hS4, hS5⟩⟩ := hSw; (try dsimp only); go_simp; (try with_reducible rfl))); (simp only [Act.put, List.setIfInBounds_toArray, List.set_cons_zero, List.set_cons_succ]))
      (refine wpTake (i := 6) (some 20) (v := ?_) rfl (by rfl) (by kernel_rfl) (by kernel_rfl) (by kernel_rfl) (fun _ _ _ h => h) (Or.inl ⟨by rfl, ?_⟩) hHeld ?_; rotate_left; (focus (intro wx hSw; obtain ⟨hSA, hSB, ⟨hS0, hS1, hS2, hS3, hS4, hS5⟩⟩ := hSw; (try dsimp only); go_simp; (try with_reducible rfl))); (simp only [Act.put, List.setIfInBounds_toArray, List.set_cons_zero, List.set_cons_succ]))
      (refine wpTake (i := 7) (some 21) (v := ?_) rfl (by rfl) (by kernel_rfl) (by kernel_rfl) (by kernel_rfl) (fun _ _ _ h => h) (Or.inl ⟨by rfl, ?_⟩) hHeld ?_; rotate_left; (focus (intro wx hSw; obtain ⟨hSA, hSB, ⟨hS0, hS1, hS2, hS3, hS4, hS5⟩⟩ := hSw; (try dsimp only); go_simp; (try with_reducible rfl))); (simp only [Act.put, List.setIfInBounds_toArray, List.set_cons_zero, List.set_cons_succ]))
      (refine wpTake (i := 8) (some 22) (v := ?_) rfl (by rfl) (by kernel_rfl) (by kernel_rfl) (by kernel_rfl) (fun _ _ _ h => h) (Or.inl ⟨by rfl, ?_⟩) hHeld ?_; rotate_left; (focus (intro wx hSw; obtain ⟨hSA, hSB, ⟨hS0, hS1, hS2, hS3, hS4, hS5⟩⟩ := hSw; (try dsimp only); go_simp; (try with_reducible rfl))); (simp only [Act.put, List.setIfInBounds_toArray, List.set_cons_zero, List.set_cons_succ]))
      (refine wpTake (i := 9) (some 23) (v := ?_) rfl (by rfl) (by kernel_rfl) (by kernel_rfl) (by kernel_rfl) (fun _ _ _ h => h) (Or.inl ⟨by rfl, ?_⟩) hHeld ?_; rotate_left; (focus (intro wx hSw; obtain ⟨hSA, hSB, ⟨hS0, hS1, hS2, hS3, hS4, hS5⟩⟩ := hSw; (try dsimp only); go_simp; (try with_reducible rfl))); (simp only [Act.put, List.setIfInBounds_toArray, List.set_cons_zero, List.set_cons_succ]))
      (refine wpTake (i := 10) (some 24) (v := ?_) rfl (by rfl) (by kernel_rfl) (by kernel_rfl) (by kernel_rfl) (fun _ _ _ h => h) (Or.inl ⟨by rfl, ?_⟩) hHeld ?_; rotate_left; (focus (intro wx hSw; obtain ⟨hSA, hSB, ⟨hS0, hS1, hS2, hS3, hS4, hS5⟩⟩ := hSw; (try dsimp only); go_simp; (try with_reducible rfl))); (simp only [Act.put, List.setIfInBounds_toArray, List.set_cons_zero, List.set_cons_succ]))
      (refine wpTake (i := 11) (some 25) (v := ?_) rfl (by rfl) (by kernel_rfl) (by kernel_rfl) (by kernel_rfl) (fun _ _ _ h => h) (Or.inl ⟨by rfl, ?_⟩) hHeld ?_; rotate_left; (focus (intro wx hSw; obtain ⟨hSA, hSB, ⟨hS0, hS1, hS2, hS3, hS4, hS5⟩⟩ := hSw; (try dsimp only); go_simp; (try with_reducible rfl))); (simp only [Act.put, List.setIfInBounds_toArray, List.set_cons_zero, List.set_cons_succ]))
      (refine wpTake (i := 12) (some 26) (v := ?_) rfl (by rfl) (by kernel_rfl) (by kernel_rfl) (by kernel_rfl) (fun _ _ _ h => h) (Or.inl ⟨by rfl, ?_⟩) hHeld ?_; rotate_left; (focus (intro wx hSw; obtain ⟨hSA, hSB, ⟨hS0, hS1, hS2, hS3, hS4, hS5⟩⟩ := hSw; (try dsimp only); go_simp; (try with_reducible rfl))); (simp only [Act.put, List.setIfInBounds_toArray, List.set_cons_zero, List.set_cons_succ]))
      (refine wpTake (i := 13) (some 27) (v := ?_) rfl (by rfl) (by kernel_rfl) (by kernel_rfl) (by kernel_rfl) (fun _ _ _ h => h) (Or.inl ⟨by rfl, ?_⟩) hHeld ?_; rotate_left; (focus (intro wx hSw; obtain ⟨hSA, hSB, ⟨hS0, hS1, hS2, hS3, hS4, hS5⟩⟩ := hSw; (try dsimp only); go_simp; (try with_reducible rfl))); (simp only [Act.put, List.setIfInBounds_toArray, List.set_cons_zero, List.set_cons_succ]))
      (refine wpTake (i := 14) (some 28) (v := ?_) rfl (by rfl) (by kernel_rfl) (by kernel_rfl) (by kernel_rfl) (fun _ _ _ h => h) (Or.inl ⟨by rfl, ?_⟩) hHeld ?_; rotate_left; (focus (intro wx hSw; obtain ⟨hSA, hSB, ⟨hS0, hS1, hS2, hS3, hS4, hS5⟩⟩ := hSw; (try dsimp only); go_simp; (try with_reducible rfl))); (simp only [Act.put, List.setIfInBounds_toArray, List.set_cons_zero, List.set_cons_succ]))
      (refine wpTake (i := 15) (some 29) (v := ?_) rfl (by rfl) (by kernel_rfl) (by kernel_rfl) (by kernel_rfl) (fun _ _ _ h => h) (Or.inl ⟨by rfl, ?_⟩) hHeld ?_; rotate_left; (focus (intro wx hSw; obtain ⟨hSA, hSB, ⟨hS0, hS1, hS2, hS3, hS4, hS5⟩⟩ := hSw; (try dsimp only); go_simp; (try with_reducible rfl))); (simp only [Act.put, List.setIfInBounds_toArray, List.set_cons_zero, List.set_cons_succ]))
      (refine wpTake (i := 16) (some 30) (v := ?_) rfl (by rfl) (by kernel_rfl) (by kernel_rfl) (by kernel_rfl) (fun _ _ _ h => h) (Or.inl ⟨by rfl, ?_⟩) hHeld ?_; rotate_left; (focus (intro wx hSw; obtain ⟨hSA, hSB, ⟨hS0, hS1, hS2, hS3, hS4, hS5⟩⟩ := hSw; (try dsimp only); go_simp; (try with_reducible rfl))); (simp only [Act.put, List.setIfInBounds_toArray, List.set_cons_zero, List.set_cons_succ]))
      (refine wpTake (i := 17) (some 31) (v := ?_) rfl (by rfl) (by kernel_rfl) (by kernel_rfl) (by kernel_rfl) (fun _ _ _ h => h) (Or.inl ⟨by rfl, ?_⟩) hHeld ?_; rotate_left; (focus (intro wx hSw; obtain ⟨hSA, hSB, ⟨hS0, hS1, hS2, hS3, hS4, hS5⟩⟩ := hSw; (try dsimp only); go_simp; (try with_reducible rfl))); (simp only [Act.put, List.setIfInBounds_toArray, List.set_cons_zero, List.set_cons_succ]))
      (refine wpTake (i := 18) (some 32) (v := ?_) rfl (by rfl) (by kernel_rfl) (by kernel_rfl) (by kernel_rfl) (fun _ _ _ h => h) (Or.inl ⟨by rfl, ?_⟩) hHeld ?_; rotate_left; (focus (intro wx hSw; obtain ⟨hSA, hSB, ⟨hS0, hS1, hS2, hS3, hS4, hS5⟩⟩ := hSw; (try dsimp only); go_simp; (try with_reducible rfl))); (simp only [Act.put, List.setIfInBounds_toArray, List.set_cons_zero, List.set_cons_succ]))
      (refine wpAnyH_ready (rs := [19]) (by kernel_rfl) (by simp) ?_; refine AllReadyH.cons rfl (fun K hK => ?_) AllReadyH.nil; go_simp)
      (go_at_call 39; (with_reducible refine (HI _).mono ?_); rintro _ w5 ⟨rfl, e5⟩)
      (go_wp2_with fail; refine hK.out _ _ (hHeld.at e5 hgl) (fun hHeld => ?_); clear hK K; (try simp only [Act.put, List.setIfInBounds_toArray, List.set_cons_zero, List.set_cons_succ]))
      (refine wpTake (i := 20) (some 34) (v := ?_) rfl (by rfl) (by kernel_rfl) (by kernel_rfl) (by kernel_rfl) (fun _ _ _ h => h) (Or.inl ⟨by rfl, ?_⟩) hHeld ?_; rotate_left; (focus (intro wx hSw; obtain ⟨hSA, hSB, ⟨hS0, hS1, hS2, hS3, hS4, hS5⟩⟩ := hSw; (try dsimp only); go_simp; (try with_reducible rfl))); (simp only [Act.put, List.setIfInBounds_toArray, List.set_cons_zero, List.set_cons_succ]))
      (refine wpTake (i := 21) (some 35) (v := ?_) rfl (by rfl) (by kernel_rfl) (by kernel_rfl) (by kernel_rfl) (fun _ _ _ h => h) (Or.inl ⟨by rfl, ?_⟩) hHeld ?_; rotate_left; (focus (intro wx hSw; obtain ⟨hSA, hSB, ⟨hS0, hS1, hS2, hS3, hS4, hS5⟩⟩ := hSw; (try dsimp only); go_simp; (try with_reducible rfl))); (simp only [Act.put, List.setIfInBounds_toArray, List.set_cons_zero, List.set_cons_succ]))
      have hR5 := hHeld.2.1
      have z0 := hR5.cell (o := 0) (by decide)
      have z1 := hR5.cell (o := 1) (by decide)
      have z2 := hR5.cell (o := 2) (by decide)
      have z3 := hR5.cell (o := 3) (by decide)
      have z4 := hR5.cell (o := 4) (by decide)
      have z5 := hR5.cell (o := 5) (by decide)
      have zf := hR5.frz
      (refine wpAnyH_ready (rs := [22]) (by kernel_rfl) (by simp) ?_; refine AllReadyH.cons rfl (fun K hK => ?_) AllReadyH.nil; go_simp)
      refine hK.out _ _ ((((((hHeld.set hne _ _).set hne _ _).set hne _ _).set hne _ _).set hne _ _).set hne _ _) (fun hHeld => ?_)
      clear hK K
      (try simp only [Act.put, List.setIfInBounds_toArray, List.set_cons_zero, List.set_cons_succ])
      (refine wpAnyH_ready (rs := [23]) (by kernel_rfl) (by simp) ?_; refine AllReadyH.cons rfl (fun K hK => ?_) AllReadyH.nil; go_simp)
      refine hK.out _ _ hHeld (fun hHeld => ?_)
      clear hK K
      (try simp only [Act.put, List.setIfInBounds_toArray, List.set_cons_zero, List.set_cons_succ])
      (refine wpAnyH_done (by kernel_rfl) ?_ _)
      go_wp2_with fail
      obtain ⟨y0, y1, y2, y3, y4, y5⟩ := set6 hR5 (u0 := a) (u1 := b) (u2 := c) (u3 := d) (u4 := p) (u5 := q)
      refine bodyPost_ret (v := .tuple #[orbV a b c d p q, .bool true]) (by simp [results, Tryd.results25, go_sem, y0, y1, y2, y3, y4, y5]) rfl ⟨rfl, ?_⟩
      exact hHeld.1

set_option maxHeartbeats 3200000 in
theorem sRO0 (s : ByteArray) (hs : s.size ≤ 1048576) (w : World) : Calls Tryd.prog 38 #[.string s] w (RetRO s w) := by
  have HC := fun (W : World) => specNRd s hs W
  have hst := run_store_float Tryd.prog
  cases hV : someB s 6 with
  | false =>
    rw [okRO_no (okRO_some hV)]
    have hx : okN s = false ∨ okN s = true ∧ (((valsN s).length : Int) != 6) = true := by
      unfold someB at hV
      cases ho : okN s with
      | false => exact .inl rfl
      | true => rw [ho] at hV; simp at hV; exact .inr ⟨rfl, by simp; omega⟩
    clear hV
    rcases hx with hx | ⟨hx, hl4⟩ <;> rw [hx] at HC <;> clear hx <;> generalize valsN s = xs at * <;>
      (go_enter Tryd.func38, Tryd.ntmps38
       go_wp2_with (go_at_call 30; refine (HC _).mono ?_; rintro _ wq ⟨v, rfl, hr, hb⟩; have HQ := Lib.hid hb; obtain ⟨hc, hf⟩ := bcell hb; have hl : w.heap.size < wq.heap.size := (by have := hb.size; simp at this; omega); have HB := Lib.hid (((Below.refl w.heap.size w).alloc (Nat.le_refl _) _).trans (hb.mono (by simp))); obtain ⟨a, c, rfl⟩ := row_any hr; clear hr hb)
       have hB := HB.out
       refine bodyPost_ret (v := .tuple #[orbV 0 0 0 0 0 0, .bool false]) (by simp [results, Tryd.results38, go_sem, hc, hl]) rfl ⟨rfl, ?_⟩
       repeat' (first | with_reducible exact Below.refl _ _ | with_reducible assumption | (with_reducible refine Below.setCell ?_ (by first | omega | (simp; done) | (simp; omega)) _) | (with_reducible refine Below.alloc ?_ (by first | omega | (simp; done) | (simp; omega)) _) | (with_reducible refine below_drewN ?_ _) | (with_reducible refine Below.drew ?_) | (with_reducible refine Below.trans ?_ (Below.mono (by first | (with_reducible assumption) | exact Grow.below (by assumption)) (by first | omega | (simp; done) | (simp; omega))))))
  | true =>
    obtain ⟨e1, h4⟩ := someV_t hV
    obtain ⟨a, b, c, d, p, q, ex, ka, kb, kc, kd, kp, kq, eo, er⟩ := okRO_is hV
    have hx : okN s = true := by unfold someB at hV; simp only [Bool.and_eq_true] at hV; exact hV.1
    rw [hx, ex] at HC
    have HG := fun (W : World) => sGiveR (Is.self (k := .f32) ka) (Is.self (k := .f32) kb) (Is.self (k := .f32) kc) (Is.self (k := .f32) kd) (Is.self (k := .f32) kp) (Is.self (k := .f32) kq) W
    rw [← eo] at HG
    clear e1 ex eo ka kb kc kd kp kq hV h4 hx
    cases ho : okRO s with
    | false =>
      rw [okRO_no ho]
      rw [ho, show orbIf false a b c d p q = orbV 0 0 0 0 0 0 from rfl] at HG
      clear er ho
      go_enter Tryd.func38, Tryd.ntmps38
      go_wp2_with (go_at_call 30; refine (HC _).mono ?_; rintro _ wq ⟨v, rfl, hr, hb⟩; have HQ := Lib.hid hb; obtain ⟨hc, hf⟩ := bcell hb; have hl : w.heap.size < wq.heap.size := (by have := hb.size; simp at this; omega); have HB := Lib.hid (((Below.refl w.heap.size w).alloc (Nat.le_refl _) _).trans (hb.mono (by simp)));  obtain ⟨g, cap, rfl, hg, hgl⟩ := hr.form (by simp); have hqq := hb; have k0 := row_cell hr (k := 0) rfl; have k1 := row_cell hr (k := 1) rfl; have k2 := row_cell hr (k := 2) rfl; have k3 := row_cell hr (k := 3) rfl; have k4 := row_cell hr (k := 4) rfl; have k5 := row_cell hr (k := 5) rfl; clear hr hb)
      go_wp2_with (first | (go_at_call 55; refine (sFrom (a0 := a) (a1 := b) (a2 := c) (a3 := d) (a4 := p) (a5 := q) g cap _ hgl k0 k1 k2 k3 k4 k5).mono ?_; rintro _ w4 ⟨rfl, hb4⟩) | (go_at_call 54; refine (HG _).mono ?_; rintro _ w5 ⟨rfl, hb5⟩; have hbq := hb4.trans (hb5.mono hb4.size); have hbb := HQ.out.trans (hbq.mono HQ.out.size); obtain ⟨hc6, hf6⟩ := bcell hbb; have hl5 : w.heap.size < w5.heap.size := (by have := hbb.size; simp at this; omega); have z0 : w5.cell? ⟨w.heap.size, 0, none⟩ = some (.float .f32 0) := (by rw [hc6 _ _ (by simp)]; first | done | simp); have z1 : w5.cell? ⟨w.heap.size, 1, none⟩ = some (.float .f32 0) := (by rw [hc6 _ _ (by simp)]; first | done | simp); have z2 : w5.cell? ⟨w.heap.size, 2, none⟩ = some (.float .f32 0) := (by rw [hc6 _ _ (by simp)]; first | done | simp); have z3 : w5.cell? ⟨w.heap.size, 3, none⟩ = some (.float .f32 0) := (by rw [hc6 _ _ (by simp)]; first | done | simp); have z4 : w5.cell? ⟨w.heap.size, 4, none⟩ = some (.float .f32 0) := (by rw [hc6 _ _ (by simp)]; first | done | simp); have z5 : w5.cell? ⟨w.heap.size, 5, none⟩ = some (.float .f32 0) := (by rw [hc6 _ _ (by simp)]; first | done | simp); have fz : ∀ o, w5.frozen? ⟨w.heap.size, o, none⟩ = false := (fun o => by rw [hf6 _ _ (by simp)]; first | done | simp); have HB5 := Lib.hid (((Below.refl w.heap.size w).alloc (Nat.le_refl _) _).trans (hbb.mono (by simp)) : Below w.heap.size w w5); clear hb5 hbb hc6 hf6 hbq))
      have hB := HB5.out
      refine bodyPost_ret (v := .tuple #[orbV 0 0 0 0 0 0, .bool false]) (by simp [results, Tryd.results38, go_sem, z0, z1, z2, z3, z4, z5]) rfl ⟨rfl, ?_⟩
      repeat' (first | with_reducible exact Below.refl _ _ | with_reducible assumption | (with_reducible refine Below.setCell ?_ (by first | omega | (simp; done) | (simp; omega)) _) | (with_reducible refine Below.alloc ?_ (by first | omega | (simp; done) | (simp; omega)) _) | (with_reducible refine below_drewN ?_ _) | (with_reducible refine Below.drew ?_) | (with_reducible refine Below.trans ?_ (Below.mono (by first | (with_reducible assumption) | exact Grow.below (by assumption)) (by first | omega | (simp; done) | (simp; omega)))))
    | true =>
      rw [er ho]
      rw [ho, show orbIf true a b c d p q = orbV a b c d p q from rfl] at HG
      clear er ho
      go_enter Tryd.func38, Tryd.ntmps38
      go_wp2_with (go_at_call 30; refine (HC _).mono ?_; rintro _ wq ⟨v, rfl, hr, hb⟩; have HQ := Lib.hid hb; obtain ⟨hc, hf⟩ := bcell hb; have hl : w.heap.size < wq.heap.size := (by have := hb.size; simp at this; omega); have HB := Lib.hid (((Below.refl w.heap.size w).alloc (Nat.le_refl _) _).trans (hb.mono (by simp)));  obtain ⟨g, cap, rfl, hg, hgl⟩ := hr.form (by simp); have hqq := hb; have k0 := row_cell hr (k := 0) rfl; have k1 := row_cell hr (k := 1) rfl; have k2 := row_cell hr (k := 2) rfl; have k3 := row_cell hr (k := 3) rfl; have k4 := row_cell hr (k := 4) rfl; have k5 := row_cell hr (k := 5) rfl; clear hr hb)
      go_wp2_with (first | (go_at_call 55; refine (sFrom (a0 := a) (a1 := b) (a2 := c) (a3 := d) (a4 := p) (a5 := q) g cap _ hgl k0 k1 k2 k3 k4 k5).mono ?_; rintro _ w4 ⟨rfl, hb4⟩) | (go_at_call 54; refine (HG _).mono ?_; rintro _ w5 ⟨rfl, hb5⟩; have hbq := hb4.trans (hb5.mono hb4.size); have hbb := HQ.out.trans (hbq.mono HQ.out.size); obtain ⟨hc6, hf6⟩ := bcell hbb; have hl5 : w.heap.size < w5.heap.size := (by have := hbb.size; simp at this; omega); have z0 : w5.cell? ⟨w.heap.size, 0, none⟩ = some (.float .f32 0) := (by rw [hc6 _ _ (by simp)]; first | done | simp); have z1 : w5.cell? ⟨w.heap.size, 1, none⟩ = some (.float .f32 0) := (by rw [hc6 _ _ (by simp)]; first | done | simp); have z2 : w5.cell? ⟨w.heap.size, 2, none⟩ = some (.float .f32 0) := (by rw [hc6 _ _ (by simp)]; first | done | simp); have z3 : w5.cell? ⟨w.heap.size, 3, none⟩ = some (.float .f32 0) := (by rw [hc6 _ _ (by simp)]; first | done | simp); have z4 : w5.cell? ⟨w.heap.size, 4, none⟩ = some (.float .f32 0) := (by rw [hc6 _ _ (by simp)]; first | done | simp); have z5 : w5.cell? ⟨w.heap.size, 5, none⟩ = some (.float .f32 0) := (by rw [hc6 _ _ (by simp)]; first | done | simp); have fz : ∀ o, w5.frozen? ⟨w.heap.size, o, none⟩ = false := (fun o => by rw [hf6 _ _ (by simp)]; first | done | simp); have HB5 := Lib.hid (((Below.refl w.heap.size w).alloc (Nat.le_refl _) _).trans (hbb.mono (by simp)) : Below w.heap.size w w5); clear hb5 hbb hc6 hf6 hbq))
      have hB := HB5.out
      refine bodyPost_ret (v := .tuple #[orbV a b c d p q, .bool true]) (by simp [results, Tryd.results38, go_sem, z0, z1, z2, z3, z4, z5]) rfl ⟨rfl, ?_⟩
      repeat' (first | with_reducible exact Below.refl _ _ | with_reducible assumption | (with_reducible refine Below.setCell ?_ (by first | omega | (simp; done) | (simp; omega)) _) | (with_reducible refine Below.alloc ?_ (by first | omega | (simp; done) | (simp; omega)) _) | (with_reducible refine below_drewN ?_ _) | (with_reducible refine Below.drew ?_) | (with_reducible refine Below.trans ?_ (Below.mono (by first | (with_reducible assumption) | exact Grow.below (by assumption)) (by first | omega | (simp; done) | (simp; omega)))))

theorem sRO (s : ByteArray) (hs : s.size ≤ 1048576) (w : World) : Calls Tryd.prog 24 #[.string s] w (RetRO s w) := by
  have hst := run_store_float Tryd.prog
  go_enter Tryd.func24, Tryd.ntmps24
  go_wp2_with (go_at_call 38; refine (sRO0 s hs _).mono ?_; rintro _ wq ⟨rfl, hb⟩; obtain ⟨hc, hf⟩ := bcell hb; have hl : w.heap.size ≤ wq.heap.size := (by have := hb.size; simp at this; omega))
  have hB : Below w.heap.size w wq := ((Below.refl w.heap.size w).alloc (Nat.le_refl _) _).trans (hb.mono (by simp))
  refine bodyPost_ret (v := .tuple #[orbV (cRO s 0) (cRO s 1) (cRO s 2) (cRO s 3) (cRO s 4) (cRO s 5), .bool (okRO s)]) (by simp [results, Tryd.results24, go_sem, hc]) rfl ⟨rfl, ?_⟩
  repeat' (first | with_reducible exact Below.refl _ _ | with_reducible assumption | (with_reducible refine Below.setCell ?_ (by first | omega | (simp; done) | (simp; omega)) _) | (with_reducible refine Below.alloc ?_ (by first | omega | (simp; done) | (simp; omega)) _) | (with_reducible refine below_drewN ?_ _) | (with_reducible refine Below.drew ?_) | (with_reducible refine Below.trans ?_ (Below.mono (by first | (with_reducible assumption) | exact Grow.below (by assumption)) (by first | omega | (simp; done) | (simp; omega)))))

set_option maxHeartbeats 1600000 in
theorem walk_FnExactReadOrbit (s : ByteArray) (w : World) (_hw : s.size ≤ maxLen) (hLL : laidMetH Tryd.prog Rows.fnExactReadOrbitRow.laid w) (hsh : w.ShapedOpen Tryd.prog) :
    Calls Tryd.prog 7 #[.string s] w fun e w' => e = .returned (.bool true) ∧ Below w.heap.size w w' := by
  have hL : LibM w := ⟨lib_of_laidN (a := ("math/bits.deBruijn32tab", Rows.laid_math_bits_deBruijn32tab)) (b := ("internal/strconv.uint64pow10", Rows.laid_internal_strconv_uint64pow10)) (c := ("unicode/utf8.acceptRanges", Rows.laid_unicode_utf8_acceptRanges)) (rest := [("unicode/utf8.first", Rows.laid_unicode_utf8_first)]) (by rw [MakeChecks.laidMetH_plain _ _ _ (by kernel_rfl)]) rfl hLL,
    cell_of_shapedOpen_int (zero := #[.int .i64 0]) (t := 3) hsh (of_decide_eq_true (by kernel_rfl)) (by kernel_rfl) rfl (by kernel_rfl) (by kernel_rfl) Tryd.underlying3⟩
  clear hLL hsh _hw
  by_cases hs : s.size ≤ 1048576
  · have hn' : decide (1048576 < ((s.size : Nat) : Int)) = false := by simp; omega
    have HS := fun w => sRO s hs w
    have HI := fun (w' : World) (hb : Below w.heap.size w w') => iRO s hs w' (hL.stays hb)
    have i0 := Is.self (k := .f32) (b := cRO s 0) (cRO_lt s 0)
    have i1 := Is.self (k := .f32) (b := cRO s 1) (cRO_lt s 1)
    have i2 := Is.self (k := .f32) (b := cRO s 2) (cRO_lt s 2)
    have i3 := Is.self (k := .f32) (b := cRO s 3) (cRO_lt s 3)
    have i4 := Is.self (k := .f32) (b := cRO s 4) (cRO_lt s 4)
    have i5 := Is.self (k := .f32) (b := cRO s 5) (cRO_lt s 5)
    unfold RetRO at HS HI
    generalize cRO s 0 = a at HS HI i0
    generalize cRO s 1 = b at HS HI i1
    generalize cRO s 2 = c at HS HI i2
    generalize cRO s 3 = d at HS HI i3
    generalize cRO s 4 = p at HS HI i4
    generalize cRO s 5 = q at HS HI i5
    generalize okRO s = ok at HS HI
    clear hL
    have hst := run_store_float Tryd.prog
    go_enter Tryd.func7, Tryd.ntmps7
    go_wp2_with (go_at_call 24; refine (HS _).mono ?_; rintro _ w1 ⟨rfl, hb0⟩; have B0 := Lib.hid hb0; have z0 := hb0.size; clear hb0)
    have A0 : Below w.heap.size w (w1.alloc (.cells #[.float .f32 a, .float .f32 b, .float .f32 c, .float .f32 d, .float .f32 p, .float .f32 q] 45)) := B0.out.alloc z0 _
    refine (HI _ A0).mono ?_
    rintro _ w2 ⟨rfl, hb1⟩
    obtain ⟨hc, hf⟩ := bcell hb1
    have hl : w1.heap.size < w2.heap.size := (by have := hb1.size; simp at this; omega)
    have hn : ¬ w1.heap.size = w2.heap.size := by omega
    have B1 := Lib.hid (A0.trans (hb1.mono A0.size))
    clear hb1 A0
    go_wp2_with (go_at_call 26; refine (eqOrbR i0 i1 i2 i3 i4 i5 i0 i1 i2 i3 i4 i5 _).mono ?_; rintro _ w3 ⟨rfl, hb2⟩)
    go_ret
    have B2 := B1.out.alloc B1.out.size (.cells #[.float .f32 a, .float .f32 b, .float .f32 c, .float .f32 d, .float .f32 p, .float .f32 q] 45)
    exact ⟨rfl, B2.trans (hb2.mono B2.size)⟩
  · have hn' : decide (1048576 < ((s.size : Nat) : Int)) = true := by simp; omega
    clear hL
    go_enter Tryd.func7, Tryd.ntmps7
    go_wp2
    go_ret
    exact ⟨rfl, Below.refl _ _⟩

end Go.Proofs.YtbcbaejfafamjaaDoor
