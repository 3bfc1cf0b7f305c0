/-
  How high a place is seen: for every ball, mark, place and time the law's text returns true, and writes nothing that was there. No condition.
-/
import Derived.Test.YtlfcjfaddcciaaaRisS
import Derived.Test.YtlfcjfaddcciaaaPlcS
import Derived.Test.YtlfcjfaddcciaaaTo
namespace Go.Proofs.Ytlfcjfaddcciaaa
open Go.RowKit

theorem four_ways' (b0 b1 b2 b3 : Bool) : b0 = false ∨ b0 = true ∧ (b1 = false ∨ b1 = true ∧ (b2 = false ∨ b2 = true ∧ (b3 = false ∨ b3 = true))) := by
  cases b0 <;> cases b1 <;> cases b2 <;> cases b3 <;> decide

/-- Whether a place is seen from a mark at all. -/
def risOk (x0 x1 x2 x3 un ue uh ut y0 y1 y2 : Option Nat) : Bool := plcB x0 x1 x2 x3 un ue uh ut && finV y0 y1 y2
def risV (x0 x1 x2 x3 un ue uh ut y0 y1 y2 : Option Nat) : Option Nat := if risOk x0 x1 x2 x3 un ue uh ut y0 y1 y2 then finN (risM x1 x2 x3 un ue uh ut y0 y1 y2) else some 0
def risB (x0 x1 x2 x3 un ue uh ut y0 y1 y2 : Option Nat) : Bool := risOk x0 x1 x2 x3 un ue uh ut y0 y1 y2 && finS (risM x1 x2 x3 un ue uh ut y0 y1 y2)

section
variable {a0 a1 a2 a3 n e h t s0 s1 s2 : Nat} {x0 x1 x2 x3 un ue uh ut y0 y1 y2 : Option Nat} (h0 : Is .f32 a0 x0) (h1 : Is .f32 a1 x1) (h2 : Is .f32 a2 x2) (h3 : Is .f32 a3 x3) (hn : Is .f32 n un) (he : Is .f32 e ue) (hh : Is .f32 h uh) (ht : Is .f32 t ut) (g0 : Is .f32 s0 y0) (g1 : Is .f32 s1 y1) (g2 : Is .f32 s2 y2)
include h0 h1 h2 h3 hn he hh ht g0 g1 g2

theorem iRis (w : World) : Calls Try.prog 17 #[balV a0 a1 a2 a3, vecV n e h, vecV s0 s1 s2, .float .f32 t] w (RetNum (risV x0 x1 x2 x3 un ue uh ut y0 y1 y2) (risB x0 x1 x2 x3 un ue uh ut y0 y1 y2) w) := by
  have IP := fun W => iPlc h0 h1 h2 h3 hn he hh ht W
  unfold RetPlc at IP
  unfold risV risB
  cases ok : risOk x0 x1 x2 x3 un ue uh ut y0 y1 y2 with
  | false =>
    simp only [Bool.false_eq_true, if_false, Bool.false_and]
    exact iRisF g0 g1 g2 IP ok w
  | true =>
    simp only [if_true, Bool.true_and]
    unfold risOk at ok
    rw [Bool.and_eq_true] at ok
    obtain ⟨oP, oV⟩ := ok
    have oP' := oP
    unfold plcB at oP'
    rw [Bool.and_eq_true] at oP'
    simp only [oP, plcV, oP'.1, if_true, finP_t oP'.2] at IP
    exact iRisT g0 g1 g2 IP oV w

set_option maxHeartbeats 3200000 in
theorem sRisF (w : World) (ok : (balB x0 x1 x2 x3 && (mrkB un ue uh && (finV y0 y1 y2 && finS ut))) = false) : Calls Try.prog 15 #[balV a0 a1 a2 a3, vecV n e h, vecV s0 s1 s2, .float .f32 t] w (RetNum (some 0) false w) := by
  have hst := run_store_float Try.prog
  rcases four_ways' (balB x0 x1 x2 x3) (mrkB un ue uh) (finV y0 y1 y2) (finS ut) with oB | ⟨oB, oM | ⟨oM, oV | ⟨oV, oF | oF⟩⟩⟩
  case inr.inr.inr.inr => rw [oB, oM, oV, oF] at ok; cases ok
  case inl =>
    clear ok
    go_enter Try.func15, Try.ntmps15
    go_wp2_with fail
    refine (sBalP h0 h1 h2 h3 w.heap.size 0 _ (by simp; omega) (by rw [World.cell?_alloc_lt _ _ _ (by simp; omega), World.cell?_alloc_lt _ _ _ (by simp)]; simp) (by rw [World.cell?_alloc_lt _ _ _ (by simp; omega), World.cell?_alloc_lt _ _ _ (by simp)]; simp) (by rw [World.cell?_alloc_lt _ _ _ (by simp; omega), World.cell?_alloc_lt _ _ _ (by simp)]; simp) (by rw [World.cell?_alloc_lt _ _ _ (by simp; omega), World.cell?_alloc_lt _ _ _ (by simp)]; simp)).mono ?_
    rw [oB]
    rintro _ W0 ⟨rfl, b0⟩
    have hz := b0.size
    simp at hz
    go_wp2_with fail
    go_ret2
    refine ⟨⟨_, rfl, zero32⟩, ?_⟩
    repeat' (first | with_reducible exact Below.refl _ _ | with_reducible assumption | (with_reducible refine Below.setCell ?_ (by first | omega | (simp; done) | (simp; omega)) _) | (with_reducible refine Below.alloc ?_ (by first | omega | (simp; done) | (simp; omega)) _) | (with_reducible refine below_drewN ?_ _) | (with_reducible refine Below.drew ?_) | (with_reducible refine Below.trans ?_ (Below.mono (by first | (with_reducible assumption) | exact Grow.below (by assumption)) (by first | omega | (simp; done) | (simp; omega)))))
  case inr.inl =>
    clear ok
    go_enter Try.func15, Try.ntmps15
    go_wp2_with fail
    refine (sBalP h0 h1 h2 h3 w.heap.size 0 _ (by simp; omega) (by rw [World.cell?_alloc_lt _ _ _ (by simp; omega), World.cell?_alloc_lt _ _ _ (by simp)]; simp) (by rw [World.cell?_alloc_lt _ _ _ (by simp; omega), World.cell?_alloc_lt _ _ _ (by simp)]; simp) (by rw [World.cell?_alloc_lt _ _ _ (by simp; omega), World.cell?_alloc_lt _ _ _ (by simp)]; simp) (by rw [World.cell?_alloc_lt _ _ _ (by simp; omega), World.cell?_alloc_lt _ _ _ (by simp)]; simp)).mono ?_
    rw [oB]
    rintro _ W0 ⟨rfl, b0⟩
    have bA : Below (w.heap.size + 3) (((w.alloc (Obj.cells #[.float .f32 a0, .float .f32 a1, .float .f32 a2, .float .f32 a3] 31)).alloc (Obj.cells #[.float .f32 n, .float .f32 e, .float .f32 h] 33)).alloc (Obj.cells #[.float .f32 s0, .float .f32 s1, .float .f32 s2] 28)) W0 := b0.mono (by simp)
    have hz0 := b0.size
    simp at hz0
    have kb : ∀ w', Below (w.heap.size + 3) W0 w' → (w'.cell? ⟨w.heap.size, 1, none⟩ = some (.float .f32 a1) ∧ w'.cell? ⟨w.heap.size, 2, none⟩ = some (.float .f32 a2) ∧ w'.cell? ⟨w.heap.size, 3, none⟩ = some (.float .f32 a3)) ∧ (w'.cell? ⟨w.heap.size + 1, 0, none⟩ = some (.float .f32 n) ∧ w'.cell? ⟨w.heap.size + 1, 1, none⟩ = some (.float .f32 e) ∧ w'.cell? ⟨w.heap.size + 1, 2, none⟩ = some (.float .f32 h)) ∧ VecIn w' (w.heap.size + 1 + 1) s0 s1 s2 := fun w' hw => by
      have hb := bA.trans hw
      have hv := vec_alloc ((w.alloc (Obj.cells #[.float .f32 a0, .float .f32 a1, .float .f32 a2, .float .f32 a3] 31)).alloc (Obj.cells #[.float .f32 n, .float .f32 e, .float .f32 h] 33)) s0 s1 s2 28
      simp at hv
      have hsz := hb.size
      simp at hsz
      exact ⟨⟨(hb.cell (p := ⟨w.heap.size, 1, none⟩) (by dsimp only; omega)).trans (by rw [World.cell?_alloc_lt _ _ _ (by simp; omega), World.cell?_alloc_lt _ _ _ (by simp)]; simp), (hb.cell (p := ⟨w.heap.size, 2, none⟩) (by dsimp only; omega)).trans (by rw [World.cell?_alloc_lt _ _ _ (by simp; omega), World.cell?_alloc_lt _ _ _ (by simp)]; simp), (hb.cell (p := ⟨w.heap.size, 3, none⟩) (by dsimp only; omega)).trans (by rw [World.cell?_alloc_lt _ _ _ (by simp; omega), World.cell?_alloc_lt _ _ _ (by simp)]; simp)⟩, ⟨(hb.cell (p := ⟨w.heap.size + 1, 0, none⟩) (by dsimp only; omega)).trans (by rw [World.cell?_alloc_lt _ _ _ (by simp)]; simp), (hb.cell (p := ⟨w.heap.size + 1, 1, none⟩) (by dsimp only; omega)).trans (by rw [World.cell?_alloc_lt _ _ _ (by simp)]; simp), (hb.cell (p := ⟨w.heap.size + 1, 2, none⟩) (by dsimp only; omega)).trans (by rw [World.cell?_alloc_lt _ _ _ (by simp)]; simp)⟩, ⟨by omega, (hb.cell (p := ⟨w.heap.size + 1 + 1, 0, none⟩) (by dsimp only; omega)).trans hv.2.1, (hb.cell (p := ⟨w.heap.size + 1 + 1, 1, none⟩) (by dsimp only; omega)).trans hv.2.2.1, (hb.cell (p := ⟨w.heap.size + 1 + 1, 2, none⟩) (by dsimp only; omega)).trans hv.2.2.2⟩⟩
    have KB := Lib.hid kb
    have b0w : Below w.heap.size w W0 := ((((Below.refl w.heap.size w).alloc (Nat.le_refl _) _).alloc (by simp) _).alloc (by simp; omega) _).trans (bA.mono (by omega))
    clear b0 kb
    have l1 : w.heap.size + 1 < W0.heap.size := by omega
    obtain ⟨m0, m1, m2⟩ := (KB.out W0 (Below.refl _ _)).2.1
    go_wp2_with fail
    refine (sMrkP hn he hh (w.heap.size + 1) 0 _ l1 m0 m1 m2).mono ?_
    rw [oM]
    rintro _ W1 ⟨rfl, b1⟩
    have hz1 := b1.size
    have bB : Below (w.heap.size + 3) W0 W1 := b1.mono (by omega)
    replace b0w := b0w.trans (b1.mono b0w.size)
    obtain ⟨-, k0, k1, k2⟩ := (KB.out W1 bB).2.2
    clear m0 m1 m2 b1
    go_wp2_with fail
    go_ret2
    exact ⟨⟨_, rfl, zero32⟩, b0w⟩
  case inr.inr.inl =>
    clear ok
    go_enter Try.func15, Try.ntmps15
    go_wp2_with fail
    refine (sBalP h0 h1 h2 h3 w.heap.size 0 _ (by simp; omega) (by rw [World.cell?_alloc_lt _ _ _ (by simp; omega), World.cell?_alloc_lt _ _ _ (by simp)]; simp) (by rw [World.cell?_alloc_lt _ _ _ (by simp; omega), World.cell?_alloc_lt _ _ _ (by simp)]; simp) (by rw [World.cell?_alloc_lt _ _ _ (by simp; omega), World.cell?_alloc_lt _ _ _ (by simp)]; simp) (by rw [World.cell?_alloc_lt _ _ _ (by simp; omega), World.cell?_alloc_lt _ _ _ (by simp)]; simp)).mono ?_
    rw [oB]
    rintro _ W0 ⟨rfl, b0⟩
    have bA : Below (w.heap.size + 3) (((w.alloc (Obj.cells #[.float .f32 a0, .float .f32 a1, .float .f32 a2, .float .f32 a3] 31)).alloc (Obj.cells #[.float .f32 n, .float .f32 e, .float .f32 h] 33)).alloc (Obj.cells #[.float .f32 s0, .float .f32 s1, .float .f32 s2] 28)) W0 := b0.mono (by simp)
    have hz0 := b0.size
    simp at hz0
    have kb : ∀ w', Below (w.heap.size + 3) W0 w' → (w'.cell? ⟨w.heap.size, 1, none⟩ = some (.float .f32 a1) ∧ w'.cell? ⟨w.heap.size, 2, none⟩ = some (.float .f32 a2) ∧ w'.cell? ⟨w.heap.size, 3, none⟩ = some (.float .f32 a3)) ∧ (w'.cell? ⟨w.heap.size + 1, 0, none⟩ = some (.float .f32 n) ∧ w'.cell? ⟨w.heap.size + 1, 1, none⟩ = some (.float .f32 e) ∧ w'.cell? ⟨w.heap.size + 1, 2, none⟩ = some (.float .f32 h)) ∧ VecIn w' (w.heap.size + 1 + 1) s0 s1 s2 := fun w' hw => by
      have hb := bA.trans hw
      have hv := vec_alloc ((w.alloc (Obj.cells #[.float .f32 a0, .float .f32 a1, .float .f32 a2, .float .f32 a3] 31)).alloc (Obj.cells #[.float .f32 n, .float .f32 e, .float .f32 h] 33)) s0 s1 s2 28
      simp at hv
      have hsz := hb.size
      simp at hsz
      exact ⟨⟨(hb.cell (p := ⟨w.heap.size, 1, none⟩) (by dsimp only; omega)).trans (by rw [World.cell?_alloc_lt _ _ _ (by simp; omega), World.cell?_alloc_lt _ _ _ (by simp)]; simp), (hb.cell (p := ⟨w.heap.size, 2, none⟩) (by dsimp only; omega)).trans (by rw [World.cell?_alloc_lt _ _ _ (by simp; omega), World.cell?_alloc_lt _ _ _ (by simp)]; simp), (hb.cell (p := ⟨w.heap.size, 3, none⟩) (by dsimp only; omega)).trans (by rw [World.cell?_alloc_lt _ _ _ (by simp; omega), World.cell?_alloc_lt _ _ _ (by simp)]; simp)⟩, ⟨(hb.cell (p := ⟨w.heap.size + 1, 0, none⟩) (by dsimp only; omega)).trans (by rw [World.cell?_alloc_lt _ _ _ (by simp)]; simp), (hb.cell (p := ⟨w.heap.size + 1, 1, none⟩) (by dsimp only; omega)).trans (by rw [World.cell?_alloc_lt _ _ _ (by simp)]; simp), (hb.cell (p := ⟨w.heap.size + 1, 2, none⟩) (by dsimp only; omega)).trans (by rw [World.cell?_alloc_lt _ _ _ (by simp)]; simp)⟩, ⟨by omega, (hb.cell (p := ⟨w.heap.size + 1 + 1, 0, none⟩) (by dsimp only; omega)).trans hv.2.1, (hb.cell (p := ⟨w.heap.size + 1 + 1, 1, none⟩) (by dsimp only; omega)).trans hv.2.2.1, (hb.cell (p := ⟨w.heap.size + 1 + 1, 2, none⟩) (by dsimp only; omega)).trans hv.2.2.2⟩⟩
    have KB := Lib.hid kb
    have b0w : Below w.heap.size w W0 := ((((Below.refl w.heap.size w).alloc (Nat.le_refl _) _).alloc (by simp) _).alloc (by simp; omega) _).trans (bA.mono (by omega))
    clear b0 kb
    have l1 : w.heap.size + 1 < W0.heap.size := by omega
    obtain ⟨m0, m1, m2⟩ := (KB.out W0 (Below.refl _ _)).2.1
    go_wp2_with fail
    refine (sMrkP hn he hh (w.heap.size + 1) 0 _ l1 m0 m1 m2).mono ?_
    rw [oM]
    rintro _ W1 ⟨rfl, b1⟩
    have hz1 := b1.size
    have bB : Below (w.heap.size + 3) W0 W1 := b1.mono (by omega)
    replace b0w := b0w.trans (b1.mono b0w.size)
    obtain ⟨-, k0, k1, k2⟩ := (KB.out W1 bB).2.2
    clear m0 m1 m2 b1
    have FV := fun W => sFinV g0 g1 g2 W
    simp only [oV] at FV
    go_wp2_with fail
    (go_at_call 45; refine (FV _).mono ?_; rintro _ W2 ⟨rfl, f2⟩)
    have b2 := f2.below
    replace b0w := b0w.trans (b2.mono b0w.size)
    go_wp2_with fail
    go_ret2
    exact ⟨⟨_, rfl, zero32⟩, b0w⟩
  case inr.inr.inr.inl =>
    clear ok
    go_enter Try.func15, Try.ntmps15
    go_wp2_with fail
    refine (sBalP h0 h1 h2 h3 w.heap.size 0 _ (by simp; omega) (by rw [World.cell?_alloc_lt _ _ _ (by simp; omega), World.cell?_alloc_lt _ _ _ (by simp)]; simp) (by rw [World.cell?_alloc_lt _ _ _ (by simp; omega), World.cell?_alloc_lt _ _ _ (by simp)]; simp) (by rw [World.cell?_alloc_lt _ _ _ (by simp; omega), World.cell?_alloc_lt _ _ _ (by simp)]; simp) (by rw [World.cell?_alloc_lt _ _ _ (by simp; omega), World.cell?_alloc_lt _ _ _ (by simp)]; simp)).mono ?_
    rw [oB]
    rintro _ W0 ⟨rfl, b0⟩
    have bA : Below (w.heap.size + 3) (((w.alloc (Obj.cells #[.float .f32 a0, .float .f32 a1, .float .f32 a2, .float .f32 a3] 31)).alloc (Obj.cells #[.float .f32 n, .float .f32 e, .float .f32 h] 33)).alloc (Obj.cells #[.float .f32 s0, .float .f32 s1, .float .f32 s2] 28)) W0 := b0.mono (by simp)
    have hz0 := b0.size
    simp at hz0
    have kb : ∀ w', Below (w.heap.size + 3) W0 w' → (w'.cell? ⟨w.heap.size, 1, none⟩ = some (.float .f32 a1) ∧ w'.cell? ⟨w.heap.size, 2, none⟩ = some (.float .f32 a2) ∧ w'.cell? ⟨w.heap.size, 3, none⟩ = some (.float .f32 a3)) ∧ (w'.cell? ⟨w.heap.size + 1, 0, none⟩ = some (.float .f32 n) ∧ w'.cell? ⟨w.heap.size + 1, 1, none⟩ = some (.float .f32 e) ∧ w'.cell? ⟨w.heap.size + 1, 2, none⟩ = some (.float .f32 h)) ∧ VecIn w' (w.heap.size + 1 + 1) s0 s1 s2 := fun w' hw => by
      have hb := bA.trans hw
      have hv := vec_alloc ((w.alloc (Obj.cells #[.float .f32 a0, .float .f32 a1, .float .f32 a2, .float .f32 a3] 31)).alloc (Obj.cells #[.float .f32 n, .float .f32 e, .float .f32 h] 33)) s0 s1 s2 28
      simp at hv
      have hsz := hb.size
      simp at hsz
      exact ⟨⟨(hb.cell (p := ⟨w.heap.size, 1, none⟩) (by dsimp only; omega)).trans (by rw [World.cell?_alloc_lt _ _ _ (by simp; omega), World.cell?_alloc_lt _ _ _ (by simp)]; simp), (hb.cell (p := ⟨w.heap.size, 2, none⟩) (by dsimp only; omega)).trans (by rw [World.cell?_alloc_lt _ _ _ (by simp; omega), World.cell?_alloc_lt _ _ _ (by simp)]; simp), (hb.cell (p := ⟨w.heap.size, 3, none⟩) (by dsimp only; omega)).trans (by rw [World.cell?_alloc_lt _ _ _ (by simp; omega), World.cell?_alloc_lt _ _ _ (by simp)]; simp)⟩, ⟨(hb.cell (p := ⟨w.heap.size + 1, 0, none⟩) (by dsimp only; omega)).trans (by rw [World.cell?_alloc_lt _ _ _ (by simp)]; simp), (hb.cell (p := ⟨w.heap.size + 1, 1, none⟩) (by dsimp only; omega)).trans (by rw [World.cell?_alloc_lt _ _ _ (by simp)]; simp), (hb.cell (p := ⟨w.heap.size + 1, 2, none⟩) (by dsimp only; omega)).trans (by rw [World.cell?_alloc_lt _ _ _ (by simp)]; simp)⟩, ⟨by omega, (hb.cell (p := ⟨w.heap.size + 1 + 1, 0, none⟩) (by dsimp only; omega)).trans hv.2.1, (hb.cell (p := ⟨w.heap.size + 1 + 1, 1, none⟩) (by dsimp only; omega)).trans hv.2.2.1, (hb.cell (p := ⟨w.heap.size + 1 + 1, 2, none⟩) (by dsimp only; omega)).trans hv.2.2.2⟩⟩
    have KB := Lib.hid kb
    have b0w : Below w.heap.size w W0 := ((((Below.refl w.heap.size w).alloc (Nat.le_refl _) _).alloc (by simp) _).alloc (by simp; omega) _).trans (bA.mono (by omega))
    clear b0 kb
    have l1 : w.heap.size + 1 < W0.heap.size := by omega
    obtain ⟨m0, m1, m2⟩ := (KB.out W0 (Below.refl _ _)).2.1
    go_wp2_with fail
    refine (sMrkP hn he hh (w.heap.size + 1) 0 _ l1 m0 m1 m2).mono ?_
    rw [oM]
    rintro _ W1 ⟨rfl, b1⟩
    have hz1 := b1.size
    have bB : Below (w.heap.size + 3) W0 W1 := b1.mono (by omega)
    replace b0w := b0w.trans (b1.mono b0w.size)
    obtain ⟨-, k0, k1, k2⟩ := (KB.out W1 bB).2.2
    clear m0 m1 m2 b1
    have FV := fun W => sFinV g0 g1 g2 W
    simp only [oV] at FV
    go_wp2_with fail
    (go_at_call 45; refine (FV _).mono ?_; rintro _ W2 ⟨rfl, f2⟩)
    have b2 := f2.below
    have hz2 := b2.size
    have bC : Below (w.heap.size + 3) W0 W2 := bB.trans (b2.mono (by omega))
    replace b0w := b0w.trans (b2.mono b0w.size)
    clear k0 k1 k2 FV f2
    go_wp2_with (go_at_call 36; refine (finite_any ht _).mono ?_; rintro eq wq ⟨nq, rfl, rfl⟩)
    go_ret2
    refine ⟨⟨_, rfl, zero32⟩, ?_⟩
    exact below_drewN b0w _

set_option maxHeartbeats 3200000 in
theorem sRisT (w : World) (ok : (balB x0 x1 x2 x3 && (mrkB un ue uh && (finV y0 y1 y2 && finS ut))) = true) : Calls Try.prog 15 #[balV a0 a1 a2 a3, vecV n e h, vecV s0 s1 s2, .float .f32 t] w
      (RetNum (if finV (plX x1 x2 x3 un ue uh ut) (plY x1 x2 x3 un ue uh ut) (plZ x1 un uh) then finN (risM x1 x2 x3 un ue uh ut y0 y1 y2) else some 0) (finV (plX x1 x2 x3 un ue uh ut) (plY x1 x2 x3 un ue uh ut) (plZ x1 un uh) && finS (risM x1 x2 x3 un ue uh ut y0 y1 y2)) w) := by
  have hst := run_store_float Try.prog
  have SR := fun bb bm W hb hm c1 c2 c3 m0 m1 m2 => sRisP (t := t) h1 h2 h3 hn he hh ht g0 g1 g2 bb bm W hb hm c1 c2 c3 m0 m1 m2
  generalize (if finV (plX x1 x2 x3 un ue uh ut) (plY x1 x2 x3 un ue uh ut) (plZ x1 un uh) then finN (risM x1 x2 x3 un ue uh ut y0 y1 y2) else some 0) = vv at SR ⊢
  generalize (finV (plX x1 x2 x3 un ue uh ut) (plY x1 x2 x3 un ue uh ut) (plZ x1 un uh) && finS (risM x1 x2 x3 un ue uh ut y0 y1 y2)) = fb at SR ⊢
  simp only [Bool.and_eq_true] at ok
  obtain ⟨oB, oM, oV, oF⟩ := ok
  go_enter Try.func15, Try.ntmps15
  go_wp2_with fail
  refine (sBalP h0 h1 h2 h3 w.heap.size 0 _ (by simp; omega) (by rw [World.cell?_alloc_lt _ _ _ (by simp; omega), World.cell?_alloc_lt _ _ _ (by simp)]; simp) (by rw [World.cell?_alloc_lt _ _ _ (by simp; omega), World.cell?_alloc_lt _ _ _ (by simp)]; simp) (by rw [World.cell?_alloc_lt _ _ _ (by simp; omega), World.cell?_alloc_lt _ _ _ (by simp)]; simp) (by rw [World.cell?_alloc_lt _ _ _ (by simp; omega), World.cell?_alloc_lt _ _ _ (by simp)]; simp)).mono ?_
  rw [oB]
  rintro _ W0 ⟨rfl, b0⟩
  have bA : Below (w.heap.size + 3) (((w.alloc (Obj.cells #[.float .f32 a0, .float .f32 a1, .float .f32 a2, .float .f32 a3] 31)).alloc (Obj.cells #[.float .f32 n, .float .f32 e, .float .f32 h] 33)).alloc (Obj.cells #[.float .f32 s0, .float .f32 s1, .float .f32 s2] 28)) W0 := b0.mono (by simp)
  have hz0 := b0.size
  simp at hz0
  have kb : ∀ w', Below (w.heap.size + 3) W0 w' → (w'.cell? ⟨w.heap.size, 1, none⟩ = some (.float .f32 a1) ∧ w'.cell? ⟨w.heap.size, 2, none⟩ = some (.float .f32 a2) ∧ w'.cell? ⟨w.heap.size, 3, none⟩ = some (.float .f32 a3)) ∧ (w'.cell? ⟨w.heap.size + 1, 0, none⟩ = some (.float .f32 n) ∧ w'.cell? ⟨w.heap.size + 1, 1, none⟩ = some (.float .f32 e) ∧ w'.cell? ⟨w.heap.size + 1, 2, none⟩ = some (.float .f32 h)) ∧ VecIn w' (w.heap.size + 1 + 1) s0 s1 s2 := fun w' hw => by
    have hb := bA.trans hw
    have hv := vec_alloc ((w.alloc (Obj.cells #[.float .f32 a0, .float .f32 a1, .float .f32 a2, .float .f32 a3] 31)).alloc (Obj.cells #[.float .f32 n, .float .f32 e, .float .f32 h] 33)) s0 s1 s2 28
    simp at hv
    have hsz := hb.size
    simp at hsz
    exact ⟨⟨(hb.cell (p := ⟨w.heap.size, 1, none⟩) (by dsimp only; omega)).trans (by rw [World.cell?_alloc_lt _ _ _ (by simp; omega), World.cell?_alloc_lt _ _ _ (by simp)]; simp), (hb.cell (p := ⟨w.heap.size, 2, none⟩) (by dsimp only; omega)).trans (by rw [World.cell?_alloc_lt _ _ _ (by simp; omega), World.cell?_alloc_lt _ _ _ (by simp)]; simp), (hb.cell (p := ⟨w.heap.size, 3, none⟩) (by dsimp only; omega)).trans (by rw [World.cell?_alloc_lt _ _ _ (by simp; omega), World.cell?_alloc_lt _ _ _ (by simp)]; simp)⟩, ⟨(hb.cell (p := ⟨w.heap.size + 1, 0, none⟩) (by dsimp only; omega)).trans (by rw [World.cell?_alloc_lt _ _ _ (by simp)]; simp), (hb.cell (p := ⟨w.heap.size + 1, 1, none⟩) (by dsimp only; omega)).trans (by rw [World.cell?_alloc_lt _ _ _ (by simp)]; simp), (hb.cell (p := ⟨w.heap.size + 1, 2, none⟩) (by dsimp only; omega)).trans (by rw [World.cell?_alloc_lt _ _ _ (by simp)]; simp)⟩, ⟨by omega, (hb.cell (p := ⟨w.heap.size + 1 + 1, 0, none⟩) (by dsimp only; omega)).trans hv.2.1, (hb.cell (p := ⟨w.heap.size + 1 + 1, 1, none⟩) (by dsimp only; omega)).trans hv.2.2.1, (hb.cell (p := ⟨w.heap.size + 1 + 1, 2, none⟩) (by dsimp only; omega)).trans hv.2.2.2⟩⟩
  have KB := Lib.hid kb
  have b0w : Below w.heap.size w W0 := ((((Below.refl w.heap.size w).alloc (Nat.le_refl _) _).alloc (by simp) _).alloc (by simp; omega) _).trans (bA.mono (by omega))
  clear b0 kb
  have l1 : w.heap.size + 1 < W0.heap.size := by omega
  obtain ⟨m0, m1, m2⟩ := (KB.out W0 (Below.refl _ _)).2.1
  go_wp2_with fail
  refine (sMrkP hn he hh (w.heap.size + 1) 0 _ l1 m0 m1 m2).mono ?_
  rw [oM]
  rintro _ W1 ⟨rfl, b1⟩
  have hz1 := b1.size
  have bB : Below (w.heap.size + 3) W0 W1 := b1.mono (by omega)
  replace b0w := b0w.trans (b1.mono b0w.size)
  obtain ⟨-, k0, k1, k2⟩ := (KB.out W1 bB).2.2
  clear m0 m1 m2 b1
  have FV := fun W => sFinV g0 g1 g2 W
  simp only [oV] at FV
  go_wp2_with fail
  (go_at_call 45; refine (FV _).mono ?_; rintro _ W2 ⟨rfl, f2⟩)
  have b2 := f2.below
  have hz2 := b2.size
  have bC : Below (w.heap.size + 3) W0 W2 := bB.trans (b2.mono (by omega))
  replace b0w := b0w.trans (b2.mono b0w.size)
  clear k0 k1 k2 FV f2
  obtain ⟨⟨x1', x2', x3'⟩, ⟨z0, z1, z2⟩, k0, k1, k2, k3⟩ := KB.out W2 bC
  go_wp2_with (go_at_call 36; refine (finite_any ht _).mono ?_; rintro eq wq ⟨nq, rfl, rfl⟩)
  (go_at_call 46; refine (SR w.heap.size (w.heap.size + 1) _ (by show _ < W2.heap.size; omega) (by show _ < W2.heap.size; omega) (by simpa using x1') (by simpa using x2') (by simpa using x3') (by simpa using z0) (by simpa using z1) (by simpa using z2)).mono ?_; rintro _ Wf ⟨⟨rN, rfl, iN⟩, hbf⟩)
  go_wp2_with fail
  go_ret2
  exact ⟨⟨_, rfl, iN⟩, (below_drewN b0w _).trans (hbf.mono (below_drewN b0w _).size)⟩

theorem sRis (w : World) : Calls Try.prog 15 #[balV a0 a1 a2 a3, vecV n e h, vecV s0 s1 s2, .float .f32 t] w (RetNum (risV x0 x1 x2 x3 un ue uh ut y0 y1 y2) (risB x0 x1 x2 x3 un ue uh ut y0 y1 y2) w) := by
  unfold risV risB risOk plcB plcOk
  cases ok : (balB x0 x1 x2 x3 && (mrkB un ue uh && (finV y0 y1 y2 && finS ut))) with
  | false =>
    have e1 : (balB x0 x1 x2 x3 && (mrkB un ue uh && finS ut) && finV (plX x1 x2 x3 un ue uh ut) (plY x1 x2 x3 un ue uh ut) (plZ x1 un uh) && finV y0 y1 y2) = false := by
      revert ok
      cases balB x0 x1 x2 x3 <;> cases mrkB un ue uh <;> cases finV y0 y1 y2 <;> cases finS ut <;> simp
    rw [e1]
    simpa using sRisF h0 h1 h2 h3 hn he hh ht g0 g1 g2 w ok
  | true =>
    have ok' := ok
    simp only [Bool.and_eq_true] at ok'
    obtain ⟨oB, oM, oV, oF⟩ := ok'
    simp only [oB, oM, oV, oF, Bool.true_and, Bool.and_true]
    exact sRisT h0 h1 h2 h3 hn he hh ht g0 g1 g2 w ok
end

abbrev stRi (w : World) (a0 a1 a2 a3 n e h s0 s1 s2 : Nat) : World := ((w.alloc (.cells #[.float .f32 a0, .float .f32 a1, .float .f32 a2, .float .f32 a3] 24)).alloc (.cells #[.float .f32 n, .float .f32 e, .float .f32 h] 26)).alloc (.cells #[.float .f32 s0, .float .f32 s1, .float .f32 s2] 37)

theorem toVecB {a0 a1 a2 : Nat} (W : World) : Calls Try.prog 16 #[vecV a0 a1 a2] W fun e w' => e = .returned (vecV a0 a1 a2) ∧ Below W.heap.size W w' :=
  (toVec_any W).mono fun _ _ ⟨h, g⟩ => ⟨h, g.below⟩

set_option maxHeartbeats 3200000 in
theorem walk_FnExactRiseAt (a0 a1 a2 a3 n e h s0 s1 s2 t : Nat) (w : World) (k0 : a0 < 2 ^ 32) (k1 : a1 < 2 ^ 32) (k2 : a2 < 2 ^ 32) (k3 : a3 < 2 ^ 32) (kn : n < 2 ^ 32) (ke : e < 2 ^ 32) (kh : h < 2 ^ 32) (l0 : s0 < 2 ^ 32) (l1 : s1 < 2 ^ 32) (l2 : s2 < 2 ^ 32) (kt : t < 2 ^ 32) :
    Calls Try.prog 4 #[balV a0 a1 a2 a3, vecV n e h, vecV s0 s1 s2, .float .f32 t] w fun e w' => e = .returned (.bool true) ∧ Below w.heap.size w w' := by
  have h0 := Is.self (k := .f32) k0
  have h1 := Is.self (k := .f32) k1
  have h2 := Is.self (k := .f32) k2
  have h3 := Is.self (k := .f32) k3
  have hn := Is.self (k := .f32) kn
  have he := Is.self (k := .f32) ke
  have hh := Is.self (k := .f32) kh
  have ht := Is.self (k := .f32) kt
  have g0 := Is.self (k := .f32) l0
  have g1 := Is.self (k := .f32) l1
  have g2 := Is.self (k := .f32) l2
  have TB := fun W => toBal (a0 := a0) (a1 := a1) (a2 := a2) (a3 := a3) W
  have TM := fun W => toMrk (a0 := n) (a1 := e) (a2 := h) W
  have TV := fun W => toVecB (a0 := s0) (a1 := s1) (a2 := s2) W
  have SP := fun W => sRis h0 h1 h2 h3 hn he hh ht g0 g1 g2 W
  have IP := fun W => iRis h0 h1 h2 h3 hn he hh ht g0 g1 g2 W
  generalize risV (nrm .f32 a0) (nrm .f32 a1) (nrm .f32 a2) (nrm .f32 a3) (nrm .f32 n) (nrm .f32 e) (nrm .f32 h) (nrm .f32 t) (nrm .f32 s0) (nrm .f32 s1) (nrm .f32 s2) = v0 at SP IP
  generalize risB (nrm .f32 a0) (nrm .f32 a1) (nrm .f32 a2) (nrm .f32 a3) (nrm .f32 n) (nrm .f32 e) (nrm .f32 h) (nrm .f32 t) (nrm .f32 s0) (nrm .f32 s1) (nrm .f32 s2) = ok at SP IP
  clear h0 h1 h2 h3 hn he hh ht g0 g1 g2
  have hC : ∀ w', Below (w.heap.size + 3) (stRi w a0 a1 a2 a3 n e h s0 s1 s2) w' → (w'.cell? ⟨w.heap.size, 0, none⟩ = some (.float .f32 a0) ∧ w'.cell? ⟨w.heap.size, 1, none⟩ = some (.float .f32 a1) ∧ w'.cell? ⟨w.heap.size, 2, none⟩ = some (.float .f32 a2) ∧ w'.cell? ⟨w.heap.size, 3, none⟩ = some (.float .f32 a3)) ∧ (w'.cell? ⟨w.heap.size + 1, 0, none⟩ = some (.float .f32 n) ∧ w'.cell? ⟨w.heap.size + 1, 1, none⟩ = some (.float .f32 e) ∧ w'.cell? ⟨w.heap.size + 1, 2, none⟩ = some (.float .f32 h)) ∧ (w'.cell? ⟨w.heap.size + 1 + 1, 0, none⟩ = some (.float .f32 s0) ∧ w'.cell? ⟨w.heap.size + 1 + 1, 1, none⟩ = some (.float .f32 s1) ∧ w'.cell? ⟨w.heap.size + 1 + 1, 2, none⟩ = some (.float .f32 s2)) := fun w' hb => by
    have hv := vec_alloc ((w.alloc (Obj.cells #[.float .f32 a0, .float .f32 a1, .float .f32 a2, .float .f32 a3] 24)).alloc (Obj.cells #[.float .f32 n, .float .f32 e, .float .f32 h] 26)) s0 s1 s2 37
    simp at hv
    exact ⟨⟨(hb.cell (p := ⟨w.heap.size, 0, none⟩) (by dsimp only; omega)).trans (by rw [World.cell?_alloc_lt _ _ _ (by simp; omega), World.cell?_alloc_lt _ _ _ (by simp)]; simp), (hb.cell (p := ⟨w.heap.size, 1, none⟩) (by dsimp only; omega)).trans (by rw [World.cell?_alloc_lt _ _ _ (by simp; omega), World.cell?_alloc_lt _ _ _ (by simp)]; simp), (hb.cell (p := ⟨w.heap.size, 2, none⟩) (by dsimp only; omega)).trans (by rw [World.cell?_alloc_lt _ _ _ (by simp; omega), World.cell?_alloc_lt _ _ _ (by simp)]; simp), (hb.cell (p := ⟨w.heap.size, 3, none⟩) (by dsimp only; omega)).trans (by rw [World.cell?_alloc_lt _ _ _ (by simp; omega), World.cell?_alloc_lt _ _ _ (by simp)]; simp)⟩, ⟨(hb.cell (p := ⟨w.heap.size + 1, 0, none⟩) (by dsimp only; omega)).trans (by rw [World.cell?_alloc_lt _ _ _ (by simp)]; simp), (hb.cell (p := ⟨w.heap.size + 1, 1, none⟩) (by dsimp only; omega)).trans (by rw [World.cell?_alloc_lt _ _ _ (by simp)]; simp), (hb.cell (p := ⟨w.heap.size + 1, 2, none⟩) (by dsimp only; omega)).trans (by rw [World.cell?_alloc_lt _ _ _ (by simp)]; simp)⟩, (hb.cell (p := ⟨w.heap.size + 1 + 1, 0, none⟩) (by dsimp only; omega)).trans hv.2.1, (hb.cell (p := ⟨w.heap.size + 1 + 1, 1, none⟩) (by dsimp only; omega)).trans hv.2.2.1, (hb.cell (p := ⟨w.heap.size + 1 + 1, 2, none⟩) (by dsimp only; omega)).trans hv.2.2.2⟩
  have HC := Lib.hid hC
  clear hC
  have q0 : ∀ w', Below (w.heap.size + 3) (stRi w a0 a1 a2 a3 n e h s0 s1 s2) w' → w'.cell? ⟨w.heap.size, 0, none⟩ = some (.float .f32 a0) := fun w' hb => by obtain ⟨⟨c0, c1, c2, c3⟩, -⟩ := HC.out w' hb; assumption
  have q1 : ∀ w', Below (w.heap.size + 3) (stRi w a0 a1 a2 a3 n e h s0 s1 s2) w' → w'.cell? ⟨w.heap.size, 1, none⟩ = some (.float .f32 a1) := fun w' hb => by obtain ⟨⟨c0, c1, c2, c3⟩, -⟩ := HC.out w' hb; assumption
  have q2 : ∀ w', Below (w.heap.size + 3) (stRi w a0 a1 a2 a3 n e h s0 s1 s2) w' → w'.cell? ⟨w.heap.size, 2, none⟩ = some (.float .f32 a2) := fun w' hb => by obtain ⟨⟨c0, c1, c2, c3⟩, -⟩ := HC.out w' hb; assumption
  have q3 : ∀ w', Below (w.heap.size + 3) (stRi w a0 a1 a2 a3 n e h s0 s1 s2) w' → w'.cell? ⟨w.heap.size, 3, none⟩ = some (.float .f32 a3) := fun w' hb => by obtain ⟨⟨c0, c1, c2, c3⟩, -⟩ := HC.out w' hb; assumption
  have p0 : ∀ w', Below (w.heap.size + 3) (stRi w a0 a1 a2 a3 n e h s0 s1 s2) w' → w'.cell? ⟨w.heap.size + 1, 0, none⟩ = some (.float .f32 n) := fun w' hb => (HC.out w' hb).2.1.1
  have p1 : ∀ w', Below (w.heap.size + 3) (stRi w a0 a1 a2 a3 n e h s0 s1 s2) w' → w'.cell? ⟨w.heap.size + 1, 1, none⟩ = some (.float .f32 e) := fun w' hb => (HC.out w' hb).2.1.2.1
  have p2 : ∀ w', Below (w.heap.size + 3) (stRi w a0 a1 a2 a3 n e h s0 s1 s2) w' → w'.cell? ⟨w.heap.size + 1, 2, none⟩ = some (.float .f32 h) := fun w' hb => (HC.out w' hb).2.1.2.2
  have o0 : ∀ w', Below (w.heap.size + 3) (stRi w a0 a1 a2 a3 n e h s0 s1 s2) w' → w'.cell? ⟨w.heap.size + 1 + 1, 0, none⟩ = some (.float .f32 s0) := fun w' hb => (HC.out w' hb).2.2.1
  have o1 : ∀ w', Below (w.heap.size + 3) (stRi w a0 a1 a2 a3 n e h s0 s1 s2) w' → w'.cell? ⟨w.heap.size + 1 + 1, 1, none⟩ = some (.float .f32 s1) := fun w' hb => (HC.out w' hb).2.2.2.1
  have o2 : ∀ w', Below (w.heap.size + 3) (stRi w a0 a1 a2 a3 n e h s0 s1 s2) w' → w'.cell? ⟨w.heap.size + 1 + 1, 2, none⟩ = some (.float .f32 s2) := fun w' hb => (HC.out w' hb).2.2.2.2
  go_enter Try.func4, Try.ntmps4
  go_upto_region 1 with fail
  go_cut [9, 10] (fun s9 s10 wx => (∃ r, s9 = .float .f32 r ∧ s10 = .bool ok ∧ Is .f32 r v0) ∧ Below (w.heap.size + 3) (stRi w a0 a1 a2 a3 n e h s0 s1 s2) wx)
  case first =>
    go_region_held3 (fun w' => Below (w.heap.size + 3) (stRi w a0 a1 a2 a3 n e h s0 s1 s2) w') ((repeat' (first | with_reducible assumption | with_reducible exact Below.refl _ _ | with_reducible exact keepW (by with_reducible assumption) (by with_reducible assumption) (by first | exact Nat.le_refl _ | assumption | omega | (simp; done) | (simp; omega)) | with_reducible exact keepS (by with_reducible assumption) (by with_reducible assumption) (by first | exact Nat.le_refl _ | assumption | omega | (simp; done) | (simp; omega)) | (with_reducible refine Below.setCell ?_ (by first | omega | (simp; done) | (simp; omega)) _) | (with_reducible refine below_drewN ?_ _) | (with_reducible refine Below.drew ?_) | (with_reducible refine Below.trans ?_ (Below.mono (by with_reducible assumption) (by first | omega | (simp; done) | (simp; omega)))) | (with_reducible refine Below.trans ?_ (Below.mono (Grow.below (by with_reducible assumption)) (by first | omega | (simp; done) | (simp; omega)))) | (with_reducible refine Below.alloc ?_ (by first | omega | (simp; done) | (simp; omega)) _))))
      (first | (go_at_call 11; refine (TB _).mono ?_; rintro eq wq ⟨rfl, hb⟩) | (go_at_call 12; refine (TM _).mono ?_; rintro eq wq ⟨rfl, hb⟩) | (go_at_call 16; refine (TV _).mono ?_; rintro eq wq ⟨rfl, hb⟩) | (go_at_call 15; refine (SP _).mono ?_; rintro eq wq ⟨⟨r0, rfl, i0⟩, hb⟩))
    all_goals
      go_wp2_with fail
      go_meet
      exact ⟨⟨_, rfl, rfl, i0⟩, by with_reducible assumption⟩
  case rest =>
    obtain ⟨⟨r0, rfl, rfl, i0⟩, hX⟩ := hcut
    have hzc := hX.size
    simp [stRi] at hzc
    go_upto_region 2 with fail
    go_cut [11, 12] (fun s9 s10 wx => (∃ r, s9 = .float .f32 r ∧ s10 = .bool ok ∧ Is .f32 r v0) ∧ Below (w.heap.size + 3) (stRi w a0 a1 a2 a3 n e h s0 s1 s2) wx)
    case first =>
      go_region_held3 (fun w' => Below (w.heap.size + 3) (stRi w a0 a1 a2 a3 n e h s0 s1 s2) w') ((repeat' (first | with_reducible assumption | with_reducible exact Below.refl _ _ | with_reducible exact keepW (by with_reducible assumption) (by with_reducible assumption) (by first | exact Nat.le_refl _ | assumption | omega | (simp; done) | (simp; omega)) | with_reducible exact keepS (by with_reducible assumption) (by with_reducible assumption) (by first | exact Nat.le_refl _ | assumption | omega | (simp; done) | (simp; omega)) | (with_reducible refine Below.setCell ?_ (by first | omega | (simp; done) | (simp; omega)) _) | (with_reducible refine below_drewN ?_ _) | (with_reducible refine Below.drew ?_) | (with_reducible refine Below.trans ?_ (Below.mono (by with_reducible assumption) (by first | omega | (simp; done) | (simp; omega)))) | (with_reducible refine Below.trans ?_ (Below.mono (Grow.below (by with_reducible assumption)) (by first | omega | (simp; done) | (simp; omega)))) | (with_reducible refine Below.alloc ?_ (by first | omega | (simp; done) | (simp; omega)) _))))
        (first | (go_at_call 11; refine (TB _).mono ?_; rintro eq wq ⟨rfl, hb⟩) | (go_at_call 12; refine (TM _).mono ?_; rintro eq wq ⟨rfl, hb⟩) | (go_at_call 16; refine (TV _).mono ?_; rintro eq wq ⟨rfl, hb⟩) | (go_at_call 17; refine (IP _).mono ?_; rintro eq wq ⟨⟨r1, rfl, i1⟩, hb⟩))
      all_goals
        go_wp2_with fail
        go_meet
        exact ⟨⟨_, rfl, rfl, i1⟩, by with_reducible assumption⟩
    case rest =>
      obtain ⟨⟨r1, rfl, rfl, i1⟩, hY⟩ := hcut
      clear q0 q1 q2 q3 p0 p1 p2 o0 o1 o2
      go_wp2_with (first | (apply wpList_wide und32 Try.underlying42; rfl; rfl; (first | assumption | exact is_lit64 _ (by decide) | exact is_lit32 _ (by decide)); intro Kq hKq rq nq hq; go_simp) | (go_at_call 18; refine (sameFloat_any (by assumption) (by assumption) _).mono ?_; rintro eq wq ⟨nq, rfl, rfl⟩))
      go_ret
      refine ⟨rfl, ?_⟩
      have b0 : Below w.heap.size w (stRi w a0 a1 a2 a3 n e h s0 s1 s2) := (((Below.refl _ _).alloc (Nat.le_refl _) _).alloc (by simp) _).alloc (by simp; omega) _
      exact below_drewN (b0.trans (hY.mono (by omega))) _
end Go.Proofs.Ytlfcjfaddcciaaa
