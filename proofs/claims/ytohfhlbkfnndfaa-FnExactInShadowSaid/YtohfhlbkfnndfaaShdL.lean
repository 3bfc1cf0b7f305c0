/-
  Whether a place is in a ball's shadow: for every ball, sun and place the law's text returns true, and writes nothing that was there. No condition.
-/
import Derived.Test.YtohfhlbkfnndfaaShd
import Derived.Test.YtohfhlbkfnndfaaTo
namespace Go.Proofs.Ytohfhlbkfnndfaa
open Go.RowKit

section
variable {a0 a1 a2 a3 s0 s1 s2 p0 p1 p2 : Nat} {x0 x1 x2 x3 z0 z1 z2 y0 y1 y2 : Option Nat} (h0 : Is .f32 a0 x0) (h1 : Is .f32 a1 x1) (h2 : Is .f32 a2 x2) (h3 : Is .f32 a3 x3) (j0 : Is .f32 s0 z0) (j1 : Is .f32 s1 z1) (j2 : Is .f32 s2 z2) (g0 : Is .f32 p0 y0) (g1 : Is .f32 p1 y1) (g2 : Is .f32 p2 y2)
include h0 h1 h2 h3 j0 j1 j2 g0 g1 g2

set_option maxRecDepth 100000 in
set_option maxHeartbeats 3200000 in
theorem sShdF (w : World) (ok : (balB x0 x1 x2 x3 && (finV z0 z1 z2 && finV y0 y1 y2)) = false) :
    Calls Try.prog 9 #[balV a0 a1 a2 a3, vecV s0 s1 s2, vecV p0 p1 p2] w fun e w' => e = .returned (.tuple #[.bool false, .bool false]) ∧ Below w.heap.size w w' := by
  have hst := run_store_float Try.prog
  have KB := Lib.hid (stSh_at w a0 a1 a2 a3 s0 s1 s2 p0 p1 p2)
  have bw : Below w.heap.size w (stSh w a0 a1 a2 a3 s0 s1 s2 p0 p1 p2) := (((Below.refl w.heap.size w).alloc (Nat.le_refl _) _).alloc (by simp) _).alloc (by simp; omega) _
  have FS := fun W => sFinV j0 j1 j2 W
  have FV := fun W => sFinV g0 g1 g2 W
  obtain ⟨⟨c0, c1, c2, c3⟩, -⟩ := KB.out _ (Below.refl _ _)
  rcases three_ways' (balB x0 x1 x2 x3) (finV z0 z1 z2) (finV y0 y1 y2) with oB | ⟨oB, oS | ⟨oS, oV | oV⟩⟩
  case inr.inr.inr => rw [oB, oS, oV] at ok; cases ok
  all_goals
    clear ok
    go_enter Try.func9, Try.ntmps9
    go_wp2_with fail
    refine (sBalP h0 h1 h2 h3 w.heap.size 0 (stSh w a0 a1 a2 a3 s0 s1 s2 p0 p1 p2) (by simp; omega) c0 c1 c2 c3).mono ?_
    rw [oB]
    rintro _ W0 ⟨rfl, b0⟩
    clear c0 c1 c2 c3
    have bA : Below (w.heap.size + 3) (stSh w a0 a1 a2 a3 s0 s1 s2 p0 p1 p2) W0 := b0.mono (by simp)
    have hz0 := b0.size
    simp at hz0
    obtain ⟨-, ⟨-, k0, k1, k2⟩, -⟩ := KB.out W0 bA
  · go_wp2_with fail
    go_ret2
    exact ⟨rfl, bw.trans (bA.mono (by omega))⟩
  · simp only [oS] at FS
    go_wp2_with fail
    (go_at_call 27; refine (FS _).mono ?_; rintro _ W1 ⟨rfl, f1⟩)
    have bB : Below (w.heap.size + 3) (stSh w a0 a1 a2 a3 s0 s1 s2 p0 p1 p2) W1 := bA.trans (f1.below.mono (by omega))
    go_wp2_with fail
    go_ret2
    exact ⟨rfl, bw.trans (bB.mono (by omega))⟩
  · simp only [oS] at FS
    simp only [oV] at FV
    go_wp2_with fail
    (go_at_call 27; refine (FS _).mono ?_; rintro _ W1 ⟨rfl, f1⟩)
    have bB : Below (w.heap.size + 3) (stSh w a0 a1 a2 a3 s0 s1 s2 p0 p1 p2) W1 := bA.trans (f1.below.mono (by omega))
    have hz1 := f1.below.size
    clear k0 k1 k2
    obtain ⟨-, -, -, k0, k1, k2⟩ := KB.out W1 bB
    go_wp2_with fail
    (go_at_call 27; refine (FV _).mono ?_; rintro _ W2 ⟨rfl, f2⟩)
    have bC : Below (w.heap.size + 3) (stSh w a0 a1 a2 a3 s0 s1 s2 p0 p1 p2) W2 := bB.trans (f2.below.mono (by omega))
    go_wp2_with fail
    go_ret2
    exact ⟨rfl, bw.trans (bC.mono (by omega))⟩

set_option maxRecDepth 100000 in
set_option maxHeartbeats 3200000 in
theorem sShdT (w : World) (oB : balB x0 x1 x2 x3 = true) (oS : finV z0 z1 z2 = true) (oV : finV y0 y1 y2 = true) :
    Calls Try.prog 9 #[balV a0 a1 a2 a3, vecV s0 s1 s2, vecV p0 p1 p2] w fun e w' => e = .returned (.tuple #[.bool (dkB z0 z1 z2 y0 y1 y2 x1), .bool (dkOk z0 z1 z2 y0 y1 y2)]) ∧ Below w.heap.size w w' := by
  have hst := run_store_float Try.prog
  have KB := Lib.hid (stSh_at w a0 a1 a2 a3 s0 s1 s2 p0 p1 p2)
  have bw : Below w.heap.size w (stSh w a0 a1 a2 a3 s0 s1 s2 p0 p1 p2) := (((Below.refl w.heap.size w).alloc (Nat.le_refl _) _).alloc (by simp) _).alloc (by simp; omega) _
  have FS := fun W => sFinV j0 j1 j2 W
  have FV := fun W => sFinV g0 g1 g2 W
  have SD := fun bb W hb c => sDarkP j0 j1 j2 g0 g1 g2 h1 bb W hb c
  simp only [oS] at FS
  simp only [oV] at FV
  generalize dkB z0 z1 z2 y0 y1 y2 x1 = rr at SD ⊢
  generalize dkOk z0 z1 z2 y0 y1 y2 = okk at SD ⊢
  obtain ⟨⟨c0, c1, c2, c3⟩, -⟩ := KB.out _ (Below.refl _ _)
  go_enter Try.func9, Try.ntmps9
  go_wp2_with fail
  refine (sBalP h0 h1 h2 h3 w.heap.size 0 (stSh w a0 a1 a2 a3 s0 s1 s2 p0 p1 p2) (by simp; omega) c0 c1 c2 c3).mono ?_
  rw [oB]
  rintro _ W0 ⟨rfl, b0⟩
  clear c0 c1 c2 c3
  have bA : Below (w.heap.size + 3) (stSh w a0 a1 a2 a3 s0 s1 s2 p0 p1 p2) W0 := b0.mono (by simp)
  have hz0 := b0.size
  simp at hz0
  obtain ⟨-, ⟨-, k0, k1, k2⟩, -⟩ := KB.out W0 bA
  go_wp2_with fail
  (go_at_call 27; refine (FS _).mono ?_; rintro _ W1 ⟨rfl, f1⟩)
  have bB : Below (w.heap.size + 3) (stSh w a0 a1 a2 a3 s0 s1 s2 p0 p1 p2) W1 := bA.trans (f1.below.mono (by omega))
  have hz1 := f1.below.size
  clear k0 k1 k2 b0 bA
  obtain ⟨-, -, -, k0, k1, k2⟩ := KB.out W1 bB
  go_wp2_with fail
  (go_at_call 27; refine (FV _).mono ?_; rintro _ W2 ⟨rfl, f2⟩)
  have bC : Below (w.heap.size + 3) (stSh w a0 a1 a2 a3 s0 s1 s2 p0 p1 p2) W2 := bB.trans (f2.below.mono (by omega))
  have hz2 := f2.below.size
  clear k0 k1 k2 f1 bB FS FV f2
  obtain ⟨⟨-, c1, -, -⟩, ⟨-, k0, k1, k2⟩, -, m0, m1, m2⟩ := KB.out W2 bC
  go_wp2_with fail
  refine (SD w.heap.size W2 (by omega) c1).mono ?_
  rintro _ W3 ⟨rfl, b3⟩
  go_wp2_with fail
  go_ret2
  exact ⟨rfl, bw.trans ((bC.trans (b3.mono (by omega))).mono (by omega))⟩
end

section
variable {a0 a1 a2 a3 s0 s1 s2 p0 p1 p2 : Nat} {x0 x1 x2 x3 z0 z1 z2 y0 y1 y2 : Option Nat}
/-- Whether a place is in the shadow, and whether that can be told. -/
def shdOk (x0 x1 x2 x3 z0 z1 z2 y0 y1 y2 : Option Nat) : Bool := (balB x0 x1 x2 x3 && (finV z0 z1 z2 && finV y0 y1 y2)) && dkOk z0 z1 z2 y0 y1 y2
def shdB (x0 x1 x2 x3 z0 z1 z2 y0 y1 y2 : Option Nat) : Bool := (balB x0 x1 x2 x3 && (finV z0 z1 z2 && finV y0 y1 y2)) && dkB z0 z1 z2 y0 y1 y2 x1
variable (h0 : Is .f32 a0 x0) (h1 : Is .f32 a1 x1) (h2 : Is .f32 a2 x2) (h3 : Is .f32 a3 x3) (j0 : Is .f32 s0 z0) (j1 : Is .f32 s1 z1) (j2 : Is .f32 s2 z2) (g0 : Is .f32 p0 y0) (g1 : Is .f32 p1 y1) (g2 : Is .f32 p2 y2)
include h0 h1 h2 h3 j0 j1 j2 g0 g1 g2
theorem sShd (w : World) : Calls Try.prog 9 #[balV a0 a1 a2 a3, vecV s0 s1 s2, vecV p0 p1 p2] w fun e w' => e = .returned (.tuple #[.bool (shdB x0 x1 x2 x3 z0 z1 z2 y0 y1 y2), .bool (shdOk x0 x1 x2 x3 z0 z1 z2 y0 y1 y2)]) ∧ Below w.heap.size w w' := by
  unfold shdB shdOk
  cases ok : (balB x0 x1 x2 x3 && (finV z0 z1 z2 && finV y0 y1 y2)) with
  | false => exact sShdF h0 h1 h2 h3 j0 j1 j2 g0 g1 g2 w ok
  | true =>
    simp only [Bool.and_eq_true] at ok
    simp only [Bool.true_and]
    exact sShdT h0 h1 h2 h3 j0 j1 j2 g0 g1 g2 w ok.1 ok.2.1 ok.2.2
theorem iShd (w : World) : Calls Try.prog 12 #[balV a0 a1 a2 a3, vecV s0 s1 s2, vecV p0 p1 p2] w fun e w' => e = .returned (.tuple #[.bool (shdB x0 x1 x2 x3 z0 z1 z2 y0 y1 y2), .bool (shdOk x0 x1 x2 x3 z0 z1 z2 y0 y1 y2)]) ∧ Below w.heap.size w w' := by
  unfold shdB shdOk
  cases ok : (balB x0 x1 x2 x3 && (finV z0 z1 z2 && finV y0 y1 y2)) with
  | false => exact iShdF h0 h1 h2 h3 j0 j1 j2 g0 g1 g2 w ok
  | true =>
    simp only [Bool.and_eq_true] at ok
    simp only [Bool.true_and]
    exact iShdT h0 h1 h2 h3 j0 j1 j2 g0 g1 g2 w ok.1 ok.2.1 ok.2.2
end

theorem toVecB' {a0 a1 a2 : Nat} (W : World) : Calls Try.prog 11 #[vecV a0 a1 a2] W fun e w' => e = .returned (vecV a0 a1 a2) ∧ Below W.heap.size W w' :=
  (toVec_any W).mono fun _ _ ⟨h, g⟩ => ⟨h, g.below⟩

abbrev stSl (w : World) (a0 a1 a2 a3 s0 s1 s2 p0 p1 p2 : Nat) : World := ((w.alloc (.cells #[.float .f32 a0, .float .f32 a1, .float .f32 a2, .float .f32 a3] 24)).alloc (.cells #[.float .f32 s0, .float .f32 s1, .float .f32 s2] 26)).alloc (.cells #[.float .f32 p0, .float .f32 p1, .float .f32 p2] 26)

theorem stSl_at (w : World) (a0 a1 a2 a3 s0 s1 s2 p0 p1 p2 : Nat) (w' : World) (hb : Below (w.heap.size + 3) (stSl w a0 a1 a2 a3 s0 s1 s2 p0 p1 p2) w') :
    (w'.cell? ⟨w.heap.size, 0, none⟩ = some (.float .f32 a0) ∧ w'.cell? ⟨w.heap.size, 1, none⟩ = some (.float .f32 a1) ∧ w'.cell? ⟨w.heap.size, 2, none⟩ = some (.float .f32 a2) ∧ w'.cell? ⟨w.heap.size, 3, none⟩ = some (.float .f32 a3)) ∧ VecIn w' (w.heap.size + 1) s0 s1 s2 ∧ VecIn w' (w.heap.size + 1 + 1) p0 p1 p2 := by
  have hv := vec_alloc ((w.alloc (Obj.cells #[.float .f32 a0, .float .f32 a1, .float .f32 a2, .float .f32 a3] 24)).alloc (Obj.cells #[.float .f32 s0, .float .f32 s1, .float .f32 s2] 26)) p0 p1 p2 26
  have hu := (vec_alloc (w.alloc (Obj.cells #[.float .f32 a0, .float .f32 a1, .float .f32 a2, .float .f32 a3] 24)) s0 s1 s2 26).at ((Below.refl _ _).alloc (Nat.le_refl _) (Obj.cells #[.float .f32 p0, .float .f32 p1, .float .f32 p2] 26))
  simp at hv hu
  have hb' : Below (stSl w a0 a1 a2 a3 s0 s1 s2 p0 p1 p2).heap.size (stSl w a0 a1 a2 a3 s0 s1 s2 p0 p1 p2) w' := hb.mono (by simp)
  exact ⟨⟨(hb.cell (p := ⟨w.heap.size, 0, none⟩) (by dsimp only; omega)).trans (by rw [World.cell?_alloc_lt _ _ _ (by simp; omega), World.cell?_alloc_lt _ _ _ (by simp)]; simp), (hb.cell (p := ⟨w.heap.size, 1, none⟩) (by dsimp only; omega)).trans (by rw [World.cell?_alloc_lt _ _ _ (by simp; omega), World.cell?_alloc_lt _ _ _ (by simp)]; simp), (hb.cell (p := ⟨w.heap.size, 2, none⟩) (by dsimp only; omega)).trans (by rw [World.cell?_alloc_lt _ _ _ (by simp; omega), World.cell?_alloc_lt _ _ _ (by simp)]; simp), (hb.cell (p := ⟨w.heap.size, 3, none⟩) (by dsimp only; omega)).trans (by rw [World.cell?_alloc_lt _ _ _ (by simp; omega), World.cell?_alloc_lt _ _ _ (by simp)]; simp)⟩, hu.at hb', hv.at hb'⟩

set_option maxHeartbeats 3200000 in
theorem walk_FnExactInShadow (a0 a1 a2 a3 s0 s1 s2 p0 p1 p2 : Nat) (w : World) (k0 : a0 < 2 ^ 32) (k1 : a1 < 2 ^ 32) (k2 : a2 < 2 ^ 32) (k3 : a3 < 2 ^ 32) (l0 : s0 < 2 ^ 32) (l1 : s1 < 2 ^ 32) (l2 : s2 < 2 ^ 32) (m0 : p0 < 2 ^ 32) (m1 : p1 < 2 ^ 32) (m2 : p2 < 2 ^ 32) :
    Calls Try.prog 3 #[balV a0 a1 a2 a3, vecV s0 s1 s2, vecV p0 p1 p2] w fun e w' => e = .returned (.bool true) ∧ Below w.heap.size w w' := by
  have h0 := Is.self (k := .f32) k0
  have h1 := Is.self (k := .f32) k1
  have h2 := Is.self (k := .f32) k2
  have h3 := Is.self (k := .f32) k3
  have j0 := Is.self (k := .f32) l0
  have j1 := Is.self (k := .f32) l1
  have j2 := Is.self (k := .f32) l2
  have g0 := Is.self (k := .f32) m0
  have g1 := Is.self (k := .f32) m1
  have g2 := Is.self (k := .f32) m2
  have TB := fun W => toBal (a0 := a0) (a1 := a1) (a2 := a2) (a3 := a3) W
  have TS := fun W => toVecB' (a0 := s0) (a1 := s1) (a2 := s2) W
  have TP := fun W => toVecB' (a0 := p0) (a1 := p1) (a2 := p2) W
  have SP := fun W => sShd h0 h1 h2 h3 j0 j1 j2 g0 g1 g2 W
  have IP := fun W => iShd h0 h1 h2 h3 j0 j1 j2 g0 g1 g2 W
  generalize shdB (nrm .f32 a0) (nrm .f32 a1) (nrm .f32 a2) (nrm .f32 a3) (nrm .f32 s0) (nrm .f32 s1) (nrm .f32 s2) (nrm .f32 p0) (nrm .f32 p1) (nrm .f32 p2) = rr at SP IP
  generalize shdOk (nrm .f32 a0) (nrm .f32 a1) (nrm .f32 a2) (nrm .f32 a3) (nrm .f32 s0) (nrm .f32 s1) (nrm .f32 s2) (nrm .f32 p0) (nrm .f32 p1) (nrm .f32 p2) = ok at SP IP
  clear h0 h1 h2 h3 j0 j1 j2 g0 g1 g2
  have HC := Lib.hid (stSl_at w a0 a1 a2 a3 s0 s1 s2 p0 p1 p2)
  have q0 : ∀ w', Below (w.heap.size + 3) (stSl w a0 a1 a2 a3 s0 s1 s2 p0 p1 p2) w' → w'.cell? ⟨w.heap.size, 0, none⟩ = some (.float .f32 a0) := fun w' hb => by obtain ⟨⟨c0, c1, c2, c3⟩, -⟩ := HC.out w' hb; assumption
  have q1 : ∀ w', Below (w.heap.size + 3) (stSl w a0 a1 a2 a3 s0 s1 s2 p0 p1 p2) w' → w'.cell? ⟨w.heap.size, 1, none⟩ = some (.float .f32 a1) := fun w' hb => by obtain ⟨⟨c0, c1, c2, c3⟩, -⟩ := HC.out w' hb; assumption
  have q2 : ∀ w', Below (w.heap.size + 3) (stSl w a0 a1 a2 a3 s0 s1 s2 p0 p1 p2) w' → w'.cell? ⟨w.heap.size, 2, none⟩ = some (.float .f32 a2) := fun w' hb => by obtain ⟨⟨c0, c1, c2, c3⟩, -⟩ := HC.out w' hb; assumption
  have q3 : ∀ w', Below (w.heap.size + 3) (stSl w a0 a1 a2 a3 s0 s1 s2 p0 p1 p2) w' → w'.cell? ⟨w.heap.size, 3, none⟩ = some (.float .f32 a3) := fun w' hb => by obtain ⟨⟨c0, c1, c2, c3⟩, -⟩ := HC.out w' hb; assumption
  have u0 : ∀ w', Below (w.heap.size + 3) (stSl w a0 a1 a2 a3 s0 s1 s2 p0 p1 p2) w' → w'.cell? ⟨w.heap.size + 1, 0, none⟩ = some (.float .f32 s0) := fun w' hb => by obtain ⟨-, ⟨-, c0, c1, c2⟩, -⟩ := HC.out w' hb; assumption
  have u1 : ∀ w', Below (w.heap.size + 3) (stSl w a0 a1 a2 a3 s0 s1 s2 p0 p1 p2) w' → w'.cell? ⟨w.heap.size + 1, 1, none⟩ = some (.float .f32 s1) := fun w' hb => by obtain ⟨-, ⟨-, c0, c1, c2⟩, -⟩ := HC.out w' hb; assumption
  have u2 : ∀ w', Below (w.heap.size + 3) (stSl w a0 a1 a2 a3 s0 s1 s2 p0 p1 p2) w' → w'.cell? ⟨w.heap.size + 1, 2, none⟩ = some (.float .f32 s2) := fun w' hb => by obtain ⟨-, ⟨-, c0, c1, c2⟩, -⟩ := HC.out w' hb; assumption
  have o0 : ∀ w', Below (w.heap.size + 3) (stSl w a0 a1 a2 a3 s0 s1 s2 p0 p1 p2) w' → w'.cell? ⟨w.heap.size + 1 + 1, 0, none⟩ = some (.float .f32 p0) := fun w' hb => by obtain ⟨-, -, -, c0, c1, c2⟩ := HC.out w' hb; assumption
  have o1 : ∀ w', Below (w.heap.size + 3) (stSl w a0 a1 a2 a3 s0 s1 s2 p0 p1 p2) w' → w'.cell? ⟨w.heap.size + 1 + 1, 1, none⟩ = some (.float .f32 p1) := fun w' hb => by obtain ⟨-, -, -, c0, c1, c2⟩ := HC.out w' hb; assumption
  have o2 : ∀ w', Below (w.heap.size + 3) (stSl w a0 a1 a2 a3 s0 s1 s2 p0 p1 p2) w' → w'.cell? ⟨w.heap.size + 1 + 1, 2, none⟩ = some (.float .f32 p2) := fun w' hb => by obtain ⟨-, -, -, c0, c1, c2⟩ := HC.out w' hb; assumption
  go_enter Try.func3, Try.ntmps3
  go_upto_region 1 with fail
  go_cut [7, 8] (fun s7 s8 wx => (s7 = .bool rr ∧ s8 = .bool ok) ∧ Below (w.heap.size + 3) (stSl w a0 a1 a2 a3 s0 s1 s2 p0 p1 p2) wx)
  case first =>
    go_region_held3 (fun w' => Below (w.heap.size + 3) (stSl w a0 a1 a2 a3 s0 s1 s2 p0 p1 p2) w') ((repeat' (first | with_reducible assumption | with_reducible exact Below.refl _ _ | with_reducible exact keepW (by with_reducible assumption) (by with_reducible assumption) (by first | exact Nat.le_refl _ | assumption | omega | (simp; done) | (simp; omega)) | with_reducible exact keepS (by with_reducible assumption) (by with_reducible assumption) (by first | exact Nat.le_refl _ | assumption | omega | (simp; done) | (simp; omega)) | (with_reducible refine Below.setCell ?_ (by first | omega | (simp; done) | (simp; omega)) _) | (with_reducible refine below_drewN ?_ _) | (with_reducible refine Below.drew ?_) | (with_reducible refine Below.trans ?_ (Below.mono (by with_reducible assumption) (by first | omega | (simp; done) | (simp; omega)))) | (with_reducible refine Below.trans ?_ (Below.mono (Grow.below (by with_reducible assumption)) (by first | omega | (simp; done) | (simp; omega)))) | (with_reducible refine Below.alloc ?_ (by first | omega | (simp; done) | (simp; omega)) _))))
      (first | (go_at_call 10; refine (TB _).mono ?_; rintro eq wq ⟨rfl, hb⟩) | (go_at_call 11; (with_reducible refine (TS _).mono ?_); rintro eq wq ⟨rfl, hb⟩) | (go_at_call 11; (with_reducible refine (TP _).mono ?_); rintro eq wq ⟨rfl, hb⟩) | (go_at_call 9; refine (SP _).mono ?_; rintro eq wq ⟨rfl, hb⟩))
    all_goals
      go_wp2_with fail
      go_meet
      exact ⟨⟨rfl, rfl⟩, by with_reducible assumption⟩
  case rest =>
    obtain ⟨⟨rfl, rfl⟩, hX⟩ := hcut
    have hzc := hX.size
    simp [stSl] at hzc
    go_upto_region 2 with fail
    go_cut [9, 10] (fun s7 s8 wx => (s7 = .bool rr ∧ s8 = .bool ok) ∧ Below (w.heap.size + 3) (stSl w a0 a1 a2 a3 s0 s1 s2 p0 p1 p2) wx)
    case first =>
      go_region_held3 (fun w' => Below (w.heap.size + 3) (stSl w a0 a1 a2 a3 s0 s1 s2 p0 p1 p2) w') ((repeat' (first | with_reducible assumption | with_reducible exact Below.refl _ _ | with_reducible exact keepW (by with_reducible assumption) (by with_reducible assumption) (by first | exact Nat.le_refl _ | assumption | omega | (simp; done) | (simp; omega)) | with_reducible exact keepS (by with_reducible assumption) (by with_reducible assumption) (by first | exact Nat.le_refl _ | assumption | omega | (simp; done) | (simp; omega)) | (with_reducible refine Below.setCell ?_ (by first | omega | (simp; done) | (simp; omega)) _) | (with_reducible refine below_drewN ?_ _) | (with_reducible refine Below.drew ?_) | (with_reducible refine Below.trans ?_ (Below.mono (by with_reducible assumption) (by first | omega | (simp; done) | (simp; omega)))) | (with_reducible refine Below.trans ?_ (Below.mono (Grow.below (by with_reducible assumption)) (by first | omega | (simp; done) | (simp; omega)))) | (with_reducible refine Below.alloc ?_ (by first | omega | (simp; done) | (simp; omega)) _))))
        (first | (go_at_call 10; refine (TB _).mono ?_; rintro eq wq ⟨rfl, hb⟩) | (go_at_call 11; (with_reducible refine (TS _).mono ?_); rintro eq wq ⟨rfl, hb⟩) | (go_at_call 11; (with_reducible refine (TP _).mono ?_); rintro eq wq ⟨rfl, hb⟩) | (go_at_call 12; refine (IP _).mono ?_; rintro eq wq ⟨rfl, hb⟩))
      all_goals
        go_wp2_with fail
        go_meet
        exact ⟨⟨rfl, rfl⟩, by with_reducible assumption⟩
    case rest =>
      obtain ⟨⟨rfl, rfl⟩, hY⟩ := hcut
      clear q0 q1 q2 q3 u0 u1 u2 o0 o1 o2 SP IP
      have b0 : Below w.heap.size w (stSl w a0 a1 a2 a3 s0 s1 s2 p0 p1 p2) := (((Below.refl _ _).alloc (Nat.le_refl _) _).alloc (by simp) _).alloc (by simp; omega) _
      cases rr <;> cases ok <;>
        (go_wp2_with fail
         go_ret
         exact ⟨rfl, b0.trans (hY.mono (by omega))⟩)
end Go.Proofs.Ytohfhlbkfnndfaa
