/-
  Where a mark is: for every ball, mark and time the law's text returns true, and writes nothing that was there. No condition.
-/
import Derived.Test.YtlfcjfaddcciaaaPlcS
import Derived.Test.YtlfcjfaddcciaaaEqW
namespace Go.Proofs.Ytlfcjfaddcciaaa
open Go.RowKit

section
variable {a0 a1 a2 a3 n e h t : Nat} {x0 x1 x2 x3 un ue uh ut : Option Nat} (h0 : Is .f32 a0 x0) (h1 : Is .f32 a1 x1) (h2 : Is .f32 a2 x2) (h3 : Is .f32 a3 x3) (hn : Is .f32 n un) (he : Is .f32 e ue) (hh : Is .f32 h uh) (ht : Is .f32 t ut)
include h0 h1 h2 h3 hn he hh ht

set_option maxHeartbeats 3200000 in
theorem sPlcF (w : World) (ok : plcOk x0 x1 x2 x3 un ue uh ut = false) : Calls Try.prog 10 #[balV a0 a1 a2 a3, vecV n e h, .float .f32 t] w (RetVB (some 0) (some 0) (some 0) false w) := by
  have hst := run_store_float Try.prog
  unfold plcOk at ok
  rcases three_ways (balB x0 x1 x2 x3) (mrkB un ue uh) (finS ut) with oB | ⟨oB, oM | ⟨oM, oF | oF⟩⟩
  case inr.inr.inr => rw [oB, oM, oF] at ok; cases ok
  case inl =>
    clear ok
    go_enter Try.func10, Try.ntmps10
    go_wp2_with fail
    refine (sBalP h0 h1 h2 h3 w.heap.size 0 _ (by simp; omega) (by rw [World.cell?_alloc_lt _ _ _ (by simp; omega), World.cell?_alloc_lt _ _ _ (by simp)]; simp) (by rw [World.cell?_alloc_lt _ _ _ (by simp; omega), World.cell?_alloc_lt _ _ _ (by simp)]; simp) (by rw [World.cell?_alloc_lt _ _ _ (by simp; omega), World.cell?_alloc_lt _ _ _ (by simp)]; simp) (by rw [World.cell?_alloc_lt _ _ _ (by simp; omega), World.cell?_alloc_lt _ _ _ (by simp)]; simp)).mono ?_
    rw [oB]
    rintro _ wq ⟨rfl, hb⟩
    obtain ⟨hc, hf⟩ := bcell hb
    have hz := hb.size
    simp at hz
    go_wp2_with fail
    refine bodyPost_ret (v := .tuple #[vecV 0 0 0, .bool false]) (by simp [results, Try.results10, go_sem, hc, hz]) rfl ⟨⟨_, _, _, rfl, zeroW, zeroW, zeroW⟩, ?_⟩
    repeat' (first | with_reducible exact Below.refl _ _ | with_reducible assumption | (with_reducible refine Below.setCell ?_ (by first | omega | (simp; done) | (simp; omega)) _) | (with_reducible refine Below.alloc ?_ (by first | omega | (simp; done) | (simp; omega)) _) | (with_reducible refine below_drewN ?_ _) | (with_reducible refine Below.drew ?_) | (with_reducible refine Below.trans ?_ (Below.mono (by first | (with_reducible assumption) | exact Grow.below (by assumption)) (by first | omega | (simp; done) | (simp; omega)))))
  all_goals
    clear ok
    go_enter Try.func10, Try.ntmps10
    go_wp2_with fail
    refine (sBalP h0 h1 h2 h3 w.heap.size 0 _ (by simp; omega) (by rw [World.cell?_alloc_lt _ _ _ (by simp; omega), World.cell?_alloc_lt _ _ _ (by simp)]; simp) (by rw [World.cell?_alloc_lt _ _ _ (by simp; omega), World.cell?_alloc_lt _ _ _ (by simp)]; simp) (by rw [World.cell?_alloc_lt _ _ _ (by simp; omega), World.cell?_alloc_lt _ _ _ (by simp)]; simp) (by rw [World.cell?_alloc_lt _ _ _ (by simp; omega), World.cell?_alloc_lt _ _ _ (by simp)]; simp)).mono ?_
    rw [oB]
    rintro _ W0 ⟨rfl, b0⟩
    have bA : Below (w.heap.size + 3) (((w.alloc (Obj.cells #[.float .f32 a0, .float .f32 a1, .float .f32 a2, .float .f32 a3] 31)).alloc (Obj.cells #[.float .f32 n, .float .f32 e, .float .f32 h] 33)).alloc (Obj.cells #[.float .f32 0, .float .f32 0, .float .f32 0] 28)) W0 := b0.mono (by simp)
    have hz0 := b0.size
    simp at hz0
    have kb : ∀ w', Below (w.heap.size + 3) W0 w' → (w'.cell? ⟨w.heap.size, 0, none⟩ = some (.float .f32 a0) ∧ w'.cell? ⟨w.heap.size, 1, none⟩ = some (.float .f32 a1) ∧ w'.cell? ⟨w.heap.size, 2, none⟩ = some (.float .f32 a2) ∧ w'.cell? ⟨w.heap.size, 3, none⟩ = some (.float .f32 a3)) ∧ (w'.cell? ⟨w.heap.size + 1, 0, none⟩ = some (.float .f32 n) ∧ w'.cell? ⟨w.heap.size + 1, 1, none⟩ = some (.float .f32 e) ∧ w'.cell? ⟨w.heap.size + 1, 2, none⟩ = some (.float .f32 h)) := fun w' hw => by
      have hb := bA.trans hw
      exact ⟨⟨(hb.cell (p := ⟨w.heap.size, 0, none⟩) (by dsimp only; omega)).trans (by rw [World.cell?_alloc_lt _ _ _ (by simp; omega), World.cell?_alloc_lt _ _ _ (by simp)]; simp), (hb.cell (p := ⟨w.heap.size, 1, none⟩) (by dsimp only; omega)).trans (by rw [World.cell?_alloc_lt _ _ _ (by simp; omega), World.cell?_alloc_lt _ _ _ (by simp)]; simp), (hb.cell (p := ⟨w.heap.size, 2, none⟩) (by dsimp only; omega)).trans (by rw [World.cell?_alloc_lt _ _ _ (by simp; omega), World.cell?_alloc_lt _ _ _ (by simp)]; simp), (hb.cell (p := ⟨w.heap.size, 3, none⟩) (by dsimp only; omega)).trans (by rw [World.cell?_alloc_lt _ _ _ (by simp; omega), World.cell?_alloc_lt _ _ _ (by simp)]; simp)⟩, (hb.cell (p := ⟨w.heap.size + 1, 0, none⟩) (by dsimp only; omega)).trans (by rw [World.cell?_alloc_lt _ _ _ (by simp)]; simp), (hb.cell (p := ⟨w.heap.size + 1, 1, none⟩) (by dsimp only; omega)).trans (by rw [World.cell?_alloc_lt _ _ _ (by simp)]; simp), (hb.cell (p := ⟨w.heap.size + 1, 2, none⟩) (by dsimp only; omega)).trans (by rw [World.cell?_alloc_lt _ _ _ (by simp)]; simp)⟩
    have KB := Lib.hid kb
    have hR0 : Has (w.heap.size + 1 + 1) 3 (((w.alloc (Obj.cells #[.float .f32 a0, .float .f32 a1, .float .f32 a2, .float .f32 a3] 31)).alloc (Obj.cells #[.float .f32 n, .float .f32 e, .float .f32 h] 33)).alloc (Obj.cells #[.float .f32 0, .float .f32 0, .float .f32 0] 28)) := by simpa using has_alloc3 ((w.alloc (Obj.cells #[.float .f32 a0, .float .f32 a1, .float .f32 a2, .float .f32 a3] 31)).alloc (Obj.cells #[.float .f32 n, .float .f32 e, .float .f32 h] 33)) (.float .f32 0) (.float .f32 0) (.float .f32 0) 28
    have hR := hR0.below bA (by omega)
    have b0w : Below w.heap.size w W0 := ((((Below.refl w.heap.size w).alloc (Nat.le_refl _) _).alloc (by simp) _).alloc (by simp; omega) _).trans (bA.mono (by omega))
    clear hR0 b0 kb
    have l1 : w.heap.size + 1 < W0.heap.size := by omega
    obtain ⟨m0, m1, m2⟩ := (KB.out W0 (Below.refl _ _)).2
    go_wp2_with fail
    refine (sMrkP hn he hh (w.heap.size + 1) 0 _ l1 m0 m1 m2).mono ?_
    rw [oM]
    rintro _ W1 ⟨rfl, b1⟩
    have hz1 := b1.size
    have bB : Below (w.heap.size + 3) W0 W1 := b1.mono (by omega)
    replace hR := hR.at b1
    replace b0w := b0w.trans (b1.mono b0w.size)
    have q0 := hR.cell (o := 0) (by decide)
    have q1 := hR.cell (o := 1) (by decide)
    have q2 := hR.cell (o := 2) (by decide)
    have qf := hR.frz
    clear m0 m1 m2
    go_wp2_with (go_at_call 36; refine (finite_any ht _).mono ?_; rintro eq wq ⟨nq, rfl, rfl⟩)
    refine bodyPost_ret (v := .tuple #[vecV 0 0 0, .bool false]) (by simp [results, Try.results10, go_sem, q0, q1, q2]) rfl ⟨⟨_, _, _, rfl, zeroW, zeroW, zeroW⟩, ?_⟩
    refine b0w.trans ?_
    repeat' (first | with_reducible exact Below.refl _ _ | with_reducible assumption | (with_reducible refine Below.setCell ?_ (by first | omega | (simp; done) | (simp; omega)) _) | (with_reducible refine Below.alloc ?_ (by first | omega | (simp; done) | (simp; omega)) _) | (with_reducible refine below_drewN ?_ _) | (with_reducible refine Below.drew ?_) | (with_reducible refine Below.trans ?_ (Below.mono (by first | (with_reducible assumption) | exact Grow.below (by assumption)) (by first | omega | (simp; done) | (simp; omega)))))

set_option maxHeartbeats 3200000 in
theorem sPlcT (w : World) (ok : plcOk x0 x1 x2 x3 un ue uh ut = true) : Calls Try.prog 10 #[balV a0 a1 a2 a3, vecV n e h, .float .f32 t] w
      (RetVB (finP (plX x1 x2 x3 un ue uh ut) (plY x1 x2 x3 un ue uh ut) (plZ x1 un uh) (plX x1 x2 x3 un ue uh ut)) (finP (plX x1 x2 x3 un ue uh ut) (plY x1 x2 x3 un ue uh ut) (plZ x1 un uh) (plY x1 x2 x3 un ue uh ut)) (finP (plX x1 x2 x3 un ue uh ut) (plY x1 x2 x3 un ue uh ut) (plZ x1 un uh) (plZ x1 un uh)) (finV (plX x1 x2 x3 un ue uh ut) (plY x1 x2 x3 un ue uh ut) (plZ x1 un uh)) w) := by
  have hst := run_store_float Try.prog
  simp only [plcOk, Bool.and_eq_true] at ok
  obtain ⟨oB, oM, oF⟩ := ok
  go_enter Try.func10, Try.ntmps10
  go_wp2_with fail
  refine (sBalP h0 h1 h2 h3 w.heap.size 0 _ (by simp; omega) (by rw [World.cell?_alloc_lt _ _ _ (by simp; omega), World.cell?_alloc_lt _ _ _ (by simp)]; simp) (by rw [World.cell?_alloc_lt _ _ _ (by simp; omega), World.cell?_alloc_lt _ _ _ (by simp)]; simp) (by rw [World.cell?_alloc_lt _ _ _ (by simp; omega), World.cell?_alloc_lt _ _ _ (by simp)]; simp) (by rw [World.cell?_alloc_lt _ _ _ (by simp; omega), World.cell?_alloc_lt _ _ _ (by simp)]; simp)).mono ?_
  rw [oB]
  rintro _ W0 ⟨rfl, b0⟩
  have bA : Below (w.heap.size + 3) (((w.alloc (Obj.cells #[.float .f32 a0, .float .f32 a1, .float .f32 a2, .float .f32 a3] 31)).alloc (Obj.cells #[.float .f32 n, .float .f32 e, .float .f32 h] 33)).alloc (Obj.cells #[.float .f32 0, .float .f32 0, .float .f32 0] 28)) W0 := b0.mono (by simp)
  have hz0 := b0.size
  simp at hz0
  have kb : ∀ w', Below (w.heap.size + 3) W0 w' → (w'.cell? ⟨w.heap.size, 0, none⟩ = some (.float .f32 a0) ∧ w'.cell? ⟨w.heap.size, 1, none⟩ = some (.float .f32 a1) ∧ w'.cell? ⟨w.heap.size, 2, none⟩ = some (.float .f32 a2) ∧ w'.cell? ⟨w.heap.size, 3, none⟩ = some (.float .f32 a3)) ∧ (w'.cell? ⟨w.heap.size + 1, 0, none⟩ = some (.float .f32 n) ∧ w'.cell? ⟨w.heap.size + 1, 1, none⟩ = some (.float .f32 e) ∧ w'.cell? ⟨w.heap.size + 1, 2, none⟩ = some (.float .f32 h)) := fun w' hw => by
    have hb := bA.trans hw
    exact ⟨⟨(hb.cell (p := ⟨w.heap.size, 0, none⟩) (by dsimp only; omega)).trans (by rw [World.cell?_alloc_lt _ _ _ (by simp; omega), World.cell?_alloc_lt _ _ _ (by simp)]; simp), (hb.cell (p := ⟨w.heap.size, 1, none⟩) (by dsimp only; omega)).trans (by rw [World.cell?_alloc_lt _ _ _ (by simp; omega), World.cell?_alloc_lt _ _ _ (by simp)]; simp), (hb.cell (p := ⟨w.heap.size, 2, none⟩) (by dsimp only; omega)).trans (by rw [World.cell?_alloc_lt _ _ _ (by simp; omega), World.cell?_alloc_lt _ _ _ (by simp)]; simp), (hb.cell (p := ⟨w.heap.size, 3, none⟩) (by dsimp only; omega)).trans (by rw [World.cell?_alloc_lt _ _ _ (by simp; omega), World.cell?_alloc_lt _ _ _ (by simp)]; simp)⟩, (hb.cell (p := ⟨w.heap.size + 1, 0, none⟩) (by dsimp only; omega)).trans (by rw [World.cell?_alloc_lt _ _ _ (by simp)]; simp), (hb.cell (p := ⟨w.heap.size + 1, 1, none⟩) (by dsimp only; omega)).trans (by rw [World.cell?_alloc_lt _ _ _ (by simp)]; simp), (hb.cell (p := ⟨w.heap.size + 1, 2, none⟩) (by dsimp only; omega)).trans (by rw [World.cell?_alloc_lt _ _ _ (by simp)]; simp)⟩
  have KB := Lib.hid kb
  have hR0 : Has (w.heap.size + 1 + 1) 3 (((w.alloc (Obj.cells #[.float .f32 a0, .float .f32 a1, .float .f32 a2, .float .f32 a3] 31)).alloc (Obj.cells #[.float .f32 n, .float .f32 e, .float .f32 h] 33)).alloc (Obj.cells #[.float .f32 0, .float .f32 0, .float .f32 0] 28)) := by simpa using has_alloc3 ((w.alloc (Obj.cells #[.float .f32 a0, .float .f32 a1, .float .f32 a2, .float .f32 a3] 31)).alloc (Obj.cells #[.float .f32 n, .float .f32 e, .float .f32 h] 33)) (.float .f32 0) (.float .f32 0) (.float .f32 0) 28
  have hR := hR0.below bA (by omega)
  have b0w : Below w.heap.size w W0 := ((((Below.refl w.heap.size w).alloc (Nat.le_refl _) _).alloc (by simp) _).alloc (by simp; omega) _).trans (bA.mono (by omega))
  clear hR0 b0 kb
  have l1 : w.heap.size + 1 < W0.heap.size := by omega
  obtain ⟨m0, m1, m2⟩ := (KB.out W0 (Below.refl _ _)).2
  go_wp2_with fail
  refine (sMrkP hn he hh (w.heap.size + 1) 0 _ l1 m0 m1 m2).mono ?_
  rw [oM]
  rintro _ W1 ⟨rfl, b1⟩
  have hz1 := b1.size
  have bB : Below (w.heap.size + 3) W0 W1 := b1.mono (by omega)
  replace hR := hR.at b1
  replace b0w := b0w.trans (b1.mono b0w.size)
  have q0 := hR.cell (o := 0) (by decide)
  have q1 := hR.cell (o := 1) (by decide)
  have q2 := hR.cell (o := 2) (by decide)
  have qf := hR.frz
  clear m0 m1 m2
  go_wp2_with (go_at_call 36; refine (finite_any ht _).mono ?_; rintro eq wq ⟨nq, rfl, rfl⟩)
  obtain ⟨⟨-, x1', x2', x3'⟩, y0, y1, y2⟩ := KB.out W1 bB
  refine (sPlcP h1 h2 h3 hn he hh ht w.heap.size (w.heap.size + 1) _ (by show _ < W1.heap.size; omega) (by show _ < W1.heap.size; omega) (by simpa using x1') (by simpa using x2') (by simpa using x3') (by simpa using y0) (by simpa using y1) (by simpa using y2)).mono ?_
  rintro _ Wf ⟨⟨s0, s1, s2, rfl, j0, j1, j2⟩, hbf⟩
  have hRf : Has (w.heap.size + 1 + 1) 3 Wf := (hR.drewN _).at hbf
  have bf : Below w.heap.size w Wf := b0w.trans (Below.mono (B := W1.heap.size) ((below_drewN (Below.refl _ _) _).trans hbf) b0w.size)
  clear q0 q1 q2 qf x1' x2' x3' y0 y1 y2
  have q0 := hRf.cell (o := 0) (by decide)
  have q1 := hRf.cell (o := 1) (by decide)
  have q2 := hRf.cell (o := 2) (by decide)
  have qf := hRf.frz
  go_wp2_with fail
  refine bodyPost_ret (v := .tuple #[vecV s0 s1 s2, .bool (finV (plX x1 x2 x3 un ue uh ut) (plY x1 x2 x3 un ue uh ut) (plZ x1 un uh))]) (by simp [results, Try.results10, go_sem, q0, q1, q2]) rfl ⟨⟨_, _, _, rfl, j0, j1, j2⟩, ?_⟩
  refine bf.trans ?_
  have hz := bf.size
  repeat' (first | with_reducible exact Below.refl _ _ | with_reducible assumption | (with_reducible refine Below.setCell ?_ (by first | omega | (simp; done) | (simp; omega)) _) | (with_reducible refine Below.alloc ?_ (by first | omega | (simp; done) | (simp; omega)) _) | (with_reducible refine below_drewN ?_ _) | (with_reducible refine Below.drew ?_) | (with_reducible refine Below.trans ?_ (Below.mono (by first | (with_reducible assumption) | exact Grow.below (by assumption)) (by first | omega | (simp; done) | (simp; omega)))))

theorem sPlc (w : World) : Calls Try.prog 10 #[balV a0 a1 a2 a3, vecV n e h, .float .f32 t] w (RetPlc x0 x1 x2 x3 un ue uh ut w) := by
  unfold RetPlc plcV plcB
  cases ok : plcOk x0 x1 x2 x3 un ue uh ut with
  | true => simpa using sPlcT h0 h1 h2 h3 hn he hh ht w ok
  | false => simpa using sPlcF h0 h1 h2 h3 hn he hh ht w ok
end

abbrev stPl (w : World) (a0 a1 a2 a3 n e h : Nat) : World := (w.alloc (.cells #[.float .f32 a0, .float .f32 a1, .float .f32 a2, .float .f32 a3] 24)).alloc (.cells #[.float .f32 n, .float .f32 e, .float .f32 h] 26)

set_option maxHeartbeats 3200000 in
theorem walk_FnExactPlaceOf (a0 a1 a2 a3 n e h t : Nat) (w : World) (k0 : a0 < 2 ^ 32) (k1 : a1 < 2 ^ 32) (k2 : a2 < 2 ^ 32) (k3 : a3 < 2 ^ 32) (kn : n < 2 ^ 32) (ke : e < 2 ^ 32) (kh : h < 2 ^ 32) (kt : t < 2 ^ 32) :
    Calls Try.prog 3 #[balV a0 a1 a2 a3, vecV n e h, .float .f32 t] w fun e w' => e = .returned (.bool true) ∧ Below w.heap.size w w' := by
  have h0 := Is.self (k := .f32) k0
  have h1 := Is.self (k := .f32) k1
  have h2 := Is.self (k := .f32) k2
  have h3 := Is.self (k := .f32) k3
  have hn := Is.self (k := .f32) kn
  have he := Is.self (k := .f32) ke
  have hh := Is.self (k := .f32) kh
  have ht := Is.self (k := .f32) kt
  have hst := run_store_float Try.prog
  have TB := fun W => toBal (a0 := a0) (a1 := a1) (a2 := a2) (a3 := a3) W
  have TM := fun W => toMrk (a0 := n) (a1 := e) (a2 := h) W
  have SP := fun W => sPlc h0 h1 h2 h3 hn he hh ht W
  have IP := fun W => iPlc h0 h1 h2 h3 hn he hh ht W
  unfold RetPlc at SP IP
  generalize plcV (nrm .f32 a0) (nrm .f32 a1) (nrm .f32 a2) (nrm .f32 a3) (nrm .f32 n) (nrm .f32 e) (nrm .f32 h) (nrm .f32 t) (plX (nrm .f32 a1) (nrm .f32 a2) (nrm .f32 a3) (nrm .f32 n) (nrm .f32 e) (nrm .f32 h) (nrm .f32 t)) = v0 at SP IP
  generalize plcV (nrm .f32 a0) (nrm .f32 a1) (nrm .f32 a2) (nrm .f32 a3) (nrm .f32 n) (nrm .f32 e) (nrm .f32 h) (nrm .f32 t) (plY (nrm .f32 a1) (nrm .f32 a2) (nrm .f32 a3) (nrm .f32 n) (nrm .f32 e) (nrm .f32 h) (nrm .f32 t)) = v1 at SP IP
  generalize plcV (nrm .f32 a0) (nrm .f32 a1) (nrm .f32 a2) (nrm .f32 a3) (nrm .f32 n) (nrm .f32 e) (nrm .f32 h) (nrm .f32 t) (plZ (nrm .f32 a1) (nrm .f32 n) (nrm .f32 h)) = v2 at SP IP
  generalize plcB (nrm .f32 a0) (nrm .f32 a1) (nrm .f32 a2) (nrm .f32 a3) (nrm .f32 n) (nrm .f32 e) (nrm .f32 h) (nrm .f32 t) = ok at SP IP
  clear h0 h1 h2 h3 hn he hh ht
  have r0 : ∀ R w', Has R 3 w' → w'.cell? ⟨R, 0, none⟩ = some (rdc w' R 0) := fun R w' h => h.cell (by decide)
  have r1 : ∀ R w', Has R 3 w' → w'.cell? ⟨R, 1, none⟩ = some (rdc w' R 1) := fun R w' h => h.cell (by decide)
  have r2 : ∀ R w', Has R 3 w' → w'.cell? ⟨R, 2, none⟩ = some (rdc w' R 2) := fun R w' h => h.cell (by decide)
  have rf : ∀ R w', Has R 3 w' → ∀ o, w'.frozen? ⟨R, o, none⟩ = false := fun R w' h o => h.frz o
  have q0 : ∀ w', Below (w.heap.size + 2) (stPl w a0 a1 a2 a3 n e h) w' → w'.cell? ⟨w.heap.size, 0, none⟩ = some (.float .f32 a0) := fun w' h => by rw [h.cell (by simp)]; simp [stPl]
  have q1 : ∀ w', Below (w.heap.size + 2) (stPl w a0 a1 a2 a3 n e h) w' → w'.cell? ⟨w.heap.size, 1, none⟩ = some (.float .f32 a1) := fun w' h => by rw [h.cell (by simp)]; simp [stPl]
  have q2 : ∀ w', Below (w.heap.size + 2) (stPl w a0 a1 a2 a3 n e h) w' → w'.cell? ⟨w.heap.size, 2, none⟩ = some (.float .f32 a2) := fun w' h => by rw [h.cell (by simp)]; simp [stPl]
  have q3 : ∀ w', Below (w.heap.size + 2) (stPl w a0 a1 a2 a3 n e h) w' → w'.cell? ⟨w.heap.size, 3, none⟩ = some (.float .f32 a3) := fun w' h => by rw [h.cell (by simp)]; simp [stPl]
  have p0 : ∀ w', Below (w.heap.size + 2) (stPl w a0 a1 a2 a3 n e h) w' → w'.cell? ⟨w.heap.size + 1, 0, none⟩ = some (.float .f32 n) := fun w' h => by rw [h.cell (by simp)]; simp [stPl]
  have p1 : ∀ w', Below (w.heap.size + 2) (stPl w a0 a1 a2 a3 n e h) w' → w'.cell? ⟨w.heap.size + 1, 1, none⟩ = some (.float .f32 e) := fun w' h => by rw [h.cell (by simp)]; simp [stPl]
  have p2 : ∀ w', Below (w.heap.size + 2) (stPl w a0 a1 a2 a3 n e h) w' → w'.cell? ⟨w.heap.size + 1, 2, none⟩ = some (.float .f32 h) := fun w' h => by rw [h.cell (by simp)]; simp [stPl]
  go_enter Try.func3, Try.ntmps3
  go_upto_region 1 with fail
  go_cut [7, 8] (fun s7 s8 wx => (∃ R c0 c1 c2, s7 = .pointer (some ⟨R, 0, none⟩) ∧ s8 = .bool ok ∧ VecIn wx R c0 c1 c2 ∧ Is .f32 c0 v0 ∧ Is .f32 c1 v1 ∧ Is .f32 c2 v2) ∧ Below (w.heap.size + 2) (stPl w a0 a1 a2 a3 n e h) wx)
  case first =>
    go_region_held3 (fun w' => Below (w.heap.size + 2) (stPl w a0 a1 a2 a3 n e h) w') ((repeat' (first | with_reducible assumption | with_reducible exact Below.refl _ _ | with_reducible exact keepW (by with_reducible assumption) (by with_reducible assumption) (by first | exact Nat.le_refl _ | assumption | omega | (simp; done) | (simp; omega)) | with_reducible exact keepS (by with_reducible assumption) (by with_reducible assumption) (by first | exact Nat.le_refl _ | assumption | omega | (simp; done) | (simp; omega)) | (with_reducible refine Below.setCell ?_ (by first | omega | (simp; done) | (simp; omega)) _) | (with_reducible refine below_drewN ?_ _) | (with_reducible refine Below.drew ?_) | (with_reducible refine Below.trans ?_ (Below.mono (by with_reducible assumption) (by first | omega | (simp; done) | (simp; omega)))) | (with_reducible refine Below.trans ?_ (Below.mono (Grow.below (by with_reducible assumption)) (by first | omega | (simp; done) | (simp; omega)))) | (with_reducible refine Below.alloc ?_ (by first | omega | (simp; done) | (simp; omega)) _))))
      (first | (go_at_call 11; refine (TB _).mono ?_; rintro eq wq ⟨rfl, hb⟩; have hz := hb.size; (try simp [stPl] at hz); (first | (have hR := Has.at (by assumption) hb) | ((have hR := Has.at (has_alloc3 _ _ _ _ _) hb); (try simp [stPl] at hR)) | ((have hR := Has.at (Has.drewN (has_alloc3 _ _ _ _ _) _) hb); (try simp [stPl] at hR)) | ((have hR := Has.at (Has.drew (has_alloc3 _ _ _ _ _)) hb); (try simp [stPl] at hR)) | skip)) | (go_at_call 12; refine (TM _).mono ?_; rintro eq wq ⟨rfl, hb⟩; have hz := hb.size; (try simp [stPl] at hz); (first | (have hR := Has.at (by assumption) hb) | ((have hR := Has.at (has_alloc3 _ _ _ _ _) hb); (try simp [stPl] at hR)) | ((have hR := Has.at (Has.drewN (has_alloc3 _ _ _ _ _) _) hb); (try simp [stPl] at hR)) | ((have hR := Has.at (Has.drew (has_alloc3 _ _ _ _ _)) hb); (try simp [stPl] at hR)) | skip)) | (go_at_call 10; refine (SP _).mono ?_; rintro eq wq ⟨⟨c0, c1, c2, rfl, i0, i1, i2⟩, hb⟩; have hz := hb.size; (try simp [stPl] at hz); (first | (have hR := Has.at (by assumption) hb) | ((have hR := Has.at (has_alloc3 _ _ _ _ _) hb); (try simp [stPl] at hR)) | ((have hR := Has.at (Has.drewN (has_alloc3 _ _ _ _ _) _) hb); (try simp [stPl] at hR)) | ((have hR := Has.at (Has.drew (has_alloc3 _ _ _ _ _)) hb); (try simp [stPl] at hR)) | skip)))
    all_goals
      go_wp2_with fail
      go_meet
      exact ⟨⟨_, _, _, _, rfl, rfl, by first | exact vec_put hR _ _ _ | exact ⟨by simp, by simp, by simp, by simp⟩, i0, i1, i2⟩, by with_reducible assumption⟩
  case rest =>
    obtain ⟨⟨R, c0, c1, c2, rfl, rfl, hV, i0, i1, i2⟩, hX⟩ := hcut
    obtain ⟨X, rfl⟩ : ∃ X, X = wc := ⟨wc, rfl⟩
    have hzc := hX.size
    simp [stPl] at hzc
    have q0' : ∀ w', Below X.heap.size X w' → w'.cell? ⟨w.heap.size, 0, none⟩ = some (.float .f32 a0) := fun w' h => q0 w' (hX.trans (h.mono (by omega)))
    have q1' : ∀ w', Below X.heap.size X w' → w'.cell? ⟨w.heap.size, 1, none⟩ = some (.float .f32 a1) := fun w' h => q1 w' (hX.trans (h.mono (by omega)))
    have q2' : ∀ w', Below X.heap.size X w' → w'.cell? ⟨w.heap.size, 2, none⟩ = some (.float .f32 a2) := fun w' h => q2 w' (hX.trans (h.mono (by omega)))
    have q3' : ∀ w', Below X.heap.size X w' → w'.cell? ⟨w.heap.size, 3, none⟩ = some (.float .f32 a3) := fun w' h => q3 w' (hX.trans (h.mono (by omega)))
    have p0' : ∀ w', Below X.heap.size X w' → w'.cell? ⟨w.heap.size + 1, 0, none⟩ = some (.float .f32 n) := fun w' h => p0 w' (hX.trans (h.mono (by omega)))
    have p1' : ∀ w', Below X.heap.size X w' → w'.cell? ⟨w.heap.size + 1, 1, none⟩ = some (.float .f32 e) := fun w' h => p1 w' (hX.trans (h.mono (by omega)))
    have p2' : ∀ w', Below X.heap.size X w' → w'.cell? ⟨w.heap.size + 1, 2, none⟩ = some (.float .f32 h) := fun w' h => p2 w' (hX.trans (h.mono (by omega)))
    clear q0 q1 q2 q3 p0 p1 p2
    go_upto_region 2 with fail
    go_cut [9, 10] (fun s9 s10 wx => (∃ R c0 c1 c2, s9 = .pointer (some ⟨R, 0, none⟩) ∧ s10 = .bool ok ∧ VecIn wx R c0 c1 c2 ∧ Is .f32 c0 v0 ∧ Is .f32 c1 v1 ∧ Is .f32 c2 v2) ∧ Below X.heap.size X wx)
    case first =>
      go_region_held3 (fun w' => Below X.heap.size X w') ((repeat' (first | with_reducible assumption | with_reducible exact Below.refl _ _ | with_reducible exact keepW (by with_reducible assumption) (by with_reducible assumption) (by first | exact Nat.le_refl _ | assumption | omega | (simp; done) | (simp; omega)) | with_reducible exact keepS (by with_reducible assumption) (by with_reducible assumption) (by first | exact Nat.le_refl _ | assumption | omega | (simp; done) | (simp; omega)) | (with_reducible refine Below.setCell ?_ (by first | omega | (simp; done) | (simp; omega)) _) | (with_reducible refine below_drewN ?_ _) | (with_reducible refine Below.drew ?_) | (with_reducible refine Below.trans ?_ (Below.mono (by with_reducible assumption) (by first | omega | (simp; done) | (simp; omega)))) | (with_reducible refine Below.trans ?_ (Below.mono (Grow.below (by with_reducible assumption)) (by first | omega | (simp; done) | (simp; omega)))) | (with_reducible refine Below.alloc ?_ (by first | omega | (simp; done) | (simp; omega)) _))))
        (first | (go_at_call 11; refine (TB _).mono ?_; rintro eq wq ⟨rfl, hb⟩; have hz := hb.size; (try simp at hz); (first | (have hR := Has.at (by assumption) hb) | ((have hR := Has.at (has_alloc3 _ _ _ _ _) hb); (try simp at hR)) | ((have hR := Has.at (Has.drewN (has_alloc3 _ _ _ _ _) _) hb); (try simp at hR)) | ((have hR := Has.at (Has.drew (has_alloc3 _ _ _ _ _)) hb); (try simp at hR)) | skip)) | (go_at_call 12; refine (TM _).mono ?_; rintro eq wq ⟨rfl, hb⟩; have hz := hb.size; (try simp at hz); (first | (have hR := Has.at (by assumption) hb) | ((have hR := Has.at (has_alloc3 _ _ _ _ _) hb); (try simp at hR)) | ((have hR := Has.at (Has.drewN (has_alloc3 _ _ _ _ _) _) hb); (try simp at hR)) | ((have hR := Has.at (Has.drew (has_alloc3 _ _ _ _ _)) hb); (try simp at hR)) | skip)) | (go_at_call 13; refine (IP _).mono ?_; rintro eq wq ⟨⟨d0, d1, d2, rfl, j0, j1, j2⟩, hb⟩; have hz := hb.size; (try simp at hz); (first | (have hR := Has.at (by assumption) hb) | ((have hR := Has.at (has_alloc3 _ _ _ _ _) hb); (try simp at hR)) | ((have hR := Has.at (Has.drewN (has_alloc3 _ _ _ _ _) _) hb); (try simp at hR)) | ((have hR := Has.at (Has.drew (has_alloc3 _ _ _ _ _)) hb); (try simp at hR)) | skip)))
      all_goals
        go_wp2_with fail
        go_meet
        exact ⟨⟨_, _, _, _, rfl, rfl, by first | exact vec_put hR _ _ _ | exact ⟨by simp, by simp, by simp, by simp⟩, j0, j1, j2⟩, by with_reducible assumption⟩
    case rest =>
      obtain ⟨⟨S, d0, d1, d2, rfl, rfl, hU, j0, j1, j2⟩, hY⟩ := hcut
      obtain ⟨Y, rfl⟩ : ∃ Y, Y = wc := ⟨wc, rfl⟩
      have hV' := hV.at hY
      obtain ⟨-, u0, u1, u2⟩ := hU
      obtain ⟨-, t0, t1, t2⟩ := hV'
      clear hV q0' q1' q2' q3' p0' p1' p2' r0 r1 r2 rf
      have hzy := hY.size
      go_wp2_with (go_at_call 14; refine (eqVec_any j0 j1 j2 i0 i1 i2 _).mono ?_; rintro _ wq ⟨rfl, hb⟩)
      go_ret
      refine ⟨rfl, ?_⟩
      have b0 : Below w.heap.size w (stPl w a0 a1 a2 a3 n e h) := ((Below.refl _ _).alloc (Nat.le_refl _) _).alloc (by simp) _
      have b1 := b0.trans (hX.mono (by omega))
      have b2 := b1.trans (hY.mono (by omega))
      exact b2.trans (hb.mono (by omega))
end Go.Proofs.Ytlfcjfaddcciaaa
