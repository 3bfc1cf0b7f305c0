/-
  The mark of a place, of the program. No condition.
-/
import Derived.Test.YtngjpbfiijkibaaAngM
import Derived.Test.YtngjpbfiijkibaaWrp
import Derived.Test.YtngjpbfiijkibaaFac
import Derived.Test.YtngjpbfiijkibaaInnB
import Derived.Test.YtngjpbfiijkibaaVecI
import Derived.Test.YtngjpbfiijkibaaKeep
import Derived.Test.YtngjpbfiijkibaaMrk
namespace Go.Proofs.Ytngjpbfiijkibaa
open Go.RowKit

section
variable (x0 x1 x2 x3 y0 y1 y2 t : Option Nat)
/-- How far east, ahead of the wrapping; north; high. -/
def mkR : Option Nat := fo .sub .f32 (angT y1 y0) (faceO x2 x3 t)
def mkW : Option Nat := rootO (fo .add .f32 (fo .mul .f32 y0 y0) (fo .mul .f32 y1 y1))
def mkN : Option Nat := angT y2 (mkW y0 y1)
def mkH : Option Nat := fo .sub .f32 (lenO y0 y1 y2) x1
def mkOk : Bool := balB x0 x1 x2 x3 && (finV y0 y1 y2 && finS t)
def mkG : Bool := mrkB (mkN y0 y1 y2) (wrapV (mkR x2 x3 y0 y1 t)) (mkH x1 y0 y1 y2)
def mkB : Bool := mkOk x0 x1 x2 x3 y0 y1 y2 t && (finS (mkR x2 x3 y0 y1 t) && mkG x1 x2 x3 y0 y1 y2 t)
/-- A part of the mark, if there is one. -/
def mkV (u : Option Nat) : Option Nat := if mkB x0 x1 x2 x3 y0 y1 y2 t then u else some 0
end

theorem iChk {n e h : Nat} {un ue uh : Option Nat} (hn : Is .f32 n un) (he : Is .f32 e ue) (hh : Is .f32 h uh) (w : World) :
    Calls Try.prog 30 #[vecV n e h] w (RetVB (if mrkB un ue uh then un else some 0) (if mrkB un ue uh then ue else some 0) (if mrkB un ue uh then uh else some 0) (mrkB un ue uh) w) := by
  have hst := run_store_float Try.prog
  have HM := fun W => iMrk hn he hh W
  cases hm : mrkB un ue uh <;> rw [hm] at HM
  · simp only [Bool.false_eq_true, if_false]
    go_enter Try.func30, Try.ntmps30
    go_wp2_with (go_at_call 42; refine (HM _).mono ?_; rintro eq wq ⟨rfl, hb⟩; obtain ⟨hc, hf⟩ := bcell hb; have hz := hb.size; (try simp at hz); (try have hl : w.heap.size < wq.heap.size := (by omega)))
    refine bodyPost_ret (v := .tuple #[vecV 0 0 0, .bool false]) (by simp [results, Try.results30, go_sem, hc, hz]) rfl ⟨⟨_, _, _, rfl, zeroW, zeroW, zeroW⟩, ?_⟩
    repeat' (first | with_reducible exact Below.refl _ _ | with_reducible assumption | (with_reducible refine Below.setCell ?_ (by first | omega | (simp; done) | (simp; omega)) _) | (with_reducible refine Below.alloc ?_ (by first | omega | (simp; done) | (simp; omega)) _) | (with_reducible refine below_drewN ?_ _) | (with_reducible refine Below.drew ?_) | (with_reducible refine Below.trans ?_ (Below.mono (by first | (with_reducible assumption) | exact Grow.below (by assumption)) (by first | omega | (simp; done) | (simp; omega)))))
  · simp only [if_true]
    go_enter Try.func30, Try.ntmps30
    go_wp2_with (go_at_call 42; refine (HM _).mono ?_; rintro eq wq ⟨rfl, hb⟩; obtain ⟨hc, hf⟩ := bcell hb; have hz := hb.size; (try simp at hz); (try have hl : w.heap.size < wq.heap.size := (by omega)))
    refine bodyPost_ret (v := .tuple #[vecV n e h, .bool true]) (by simp [results, Try.results30, go_sem, hc, hz]) rfl ⟨⟨_, _, _, rfl, hn, he, hh⟩, ?_⟩
    repeat' (first | with_reducible exact Below.refl _ _ | with_reducible assumption | (with_reducible refine Below.setCell ?_ (by first | omega | (simp; done) | (simp; omega)) _) | (with_reducible refine Below.alloc ?_ (by first | omega | (simp; done) | (simp; omega)) _) | (with_reducible refine below_drewN ?_ _) | (with_reducible refine Below.drew ?_) | (with_reducible refine Below.trans ?_ (Below.mono (by first | (with_reducible assumption) | exact Grow.below (by assumption)) (by first | omega | (simp; done) | (simp; omega)))))

/-- How far a place is from the axis. -/
theorem iBesd {p0 p1 p2 : Nat} {y0 y1 y2 : Option Nat} (g0 : Is .f32 p0 y0) (g1 : Is .f32 p1 y1) (_ : Is .f32 p2 y2) (w : World) :
    Calls Try.prog 31 #[vecV p0 p1 p2] w fun e w' => (∃ r, e = .returned (.float .f32 r) ∧ Is .f32 r (mkW y0 y1)) ∧ Below w.heap.size w w' := by
  have hst := run_store_float Try.prog
  go_enter Try.func31, Try.ntmps31
  go_wp2_with (first | (apply wpList_arith; rfl; simp [Arith]; rfl; rfl; (first | assumption | exact is_lit64 _ (by decide) | exact is_lit32 _ (by decide)); (first | assumption | exact is_lit64 _ (by decide) | exact is_lit32 _ (by decide)); intro Kq hKq rq nq hq; go_simp) | (go_at_call 55; refine (root_any (by assumption) _).mono ?_; rintro eq wq ⟨rq, nq, rfl, hq, rfl⟩))
  go_ret
  refine ⟨⟨_, rfl, hq⟩, ?_⟩
  repeat' (first | with_reducible exact Below.refl _ _ | with_reducible assumption | (with_reducible refine Below.setCell ?_ (by first | omega | (simp; done) | (simp; omega)) _) | (with_reducible refine Below.alloc ?_ (by first | omega | (simp; done) | (simp; omega)) _) | (with_reducible refine below_drewN ?_ _) | (with_reducible refine Below.drew ?_) | (with_reducible refine Below.trans ?_ (Below.mono (by first | (with_reducible assumption) | exact Grow.below (by assumption)) (by first | omega | (simp; done) | (simp; omega)))))

abbrev stMk (w : World) (a0 a1 a2 a3 p0 p1 p2 : Nat) : World := ((w.alloc (Obj.cells #[.float .f32 a0, .float .f32 a1, .float .f32 a2, .float .f32 a3] 31)).alloc (Obj.cells #[.float .f32 p0, .float .f32 p1, .float .f32 p2] 33)).alloc (Obj.cells #[.float .f32 0, .float .f32 0, .float .f32 0] 28)

theorem stMk_at {w : World} {a0 a1 a2 a3 p0 p1 p2 R : Nat} {w' : World} (h : KeepS (w.heap.size + 2) (stMk w a0 a1 a2 a3 p0 p1 p2) R w') :
    (w'.cell? ⟨w.heap.size, 0, none⟩ = some (.float .f32 a0) ∧ w'.cell? ⟨w.heap.size, 1, none⟩ = some (.float .f32 a1) ∧ w'.cell? ⟨w.heap.size, 2, none⟩ = some (.float .f32 a2) ∧ w'.cell? ⟨w.heap.size, 3, none⟩ = some (.float .f32 a3)) ∧ w'.cell? ⟨w.heap.size + 1, 0, none⟩ = some (.float .f32 p0) ∧ w'.cell? ⟨w.heap.size + 1, 1, none⟩ = some (.float .f32 p1) ∧ w'.cell? ⟨w.heap.size + 1, 2, none⟩ = some (.float .f32 p2) := by
  have hb := h.2.1
  exact ⟨⟨(hb.cell (p := ⟨w.heap.size, 0, none⟩) (by dsimp only; omega)).trans (by rw [World.cell?_alloc_lt _ _ _ (by simp; omega), World.cell?_alloc_lt _ _ _ (by simp)]; simp), (hb.cell (p := ⟨w.heap.size, 1, none⟩) (by dsimp only; omega)).trans (by rw [World.cell?_alloc_lt _ _ _ (by simp; omega), World.cell?_alloc_lt _ _ _ (by simp)]; simp), (hb.cell (p := ⟨w.heap.size, 2, none⟩) (by dsimp only; omega)).trans (by rw [World.cell?_alloc_lt _ _ _ (by simp; omega), World.cell?_alloc_lt _ _ _ (by simp)]; simp), (hb.cell (p := ⟨w.heap.size, 3, none⟩) (by dsimp only; omega)).trans (by rw [World.cell?_alloc_lt _ _ _ (by simp; omega), World.cell?_alloc_lt _ _ _ (by simp)]; simp)⟩, (hb.cell (p := ⟨w.heap.size + 1, 0, none⟩) (by dsimp only; omega)).trans (by rw [World.cell?_alloc_lt _ _ _ (by simp)]; simp), (hb.cell (p := ⟨w.heap.size + 1, 1, none⟩) (by dsimp only; omega)).trans (by rw [World.cell?_alloc_lt _ _ _ (by simp)]; simp), (hb.cell (p := ⟨w.heap.size + 1, 2, none⟩) (by dsimp only; omega)).trans (by rw [World.cell?_alloc_lt _ _ _ (by simp)]; simp)⟩

theorem stMk_start (w : World) (a0 a1 a2 a3 p0 p1 p2 : Nat) : KeepS (w.heap.size + 2) (stMk w a0 a1 a2 a3 p0 p1 p2) (w.heap.size + 1 + 1) (stMk w a0 a1 a2 a3 p0 p1 p2) :=
  ⟨by simp, Below.refl _ _, by simpa using has_alloc3 ((w.alloc (Obj.cells #[.float .f32 a0, .float .f32 a1, .float .f32 a2, .float .f32 a3] 31)).alloc (Obj.cells #[.float .f32 p0, .float .f32 p1, .float .f32 p2] 33)) (.float .f32 0) (.float .f32 0) (.float .f32 0) 28⟩

theorem stMk_below {w : World} {a0 a1 a2 a3 p0 p1 p2 R : Nat} {w' : World} (h : KeepS (w.heap.size + 2) (stMk w a0 a1 a2 a3 p0 p1 p2) R w') : Below w.heap.size w w' :=
  ((((Below.refl w.heap.size w).alloc (Nat.le_refl _) _).alloc (by simp) _).alloc (by simp; omega) _).trans (h.2.1.mono (by omega))

theorem three_ways4 (b0 b1 b2 : Bool) : b0 = false ∨ b0 = true ∧ (b1 = false ∨ b1 = true ∧ (b2 = false ∨ b2 = true)) := by
  cases b0 <;> cases b1 <;> cases b2 <;> decide

section
variable {a0 a1 a2 a3 p0 p1 p2 tw : Nat} {x0 x1 x2 x3 y0 y1 y2 t : Option Nat} (h0 : Is .f32 a0 x0) (h1 : Is .f32 a1 x1) (h2 : Is .f32 a2 x2) (h3 : Is .f32 a3 x3) (g0 : Is .f32 p0 y0) (g1 : Is .f32 p1 y1) (g2 : Is .f32 p2 y2) (it : Is .f32 tw t)
include h0 h1 h2 h3 g0 g1 g2 it

set_option maxHeartbeats 3200000 in
theorem iMkoF (w : World) (ok : mkOk x0 x1 x2 x3 y0 y1 y2 t = false) :
    Calls Try.prog 10 #[balV a0 a1 a2 a3, vecV p0 p1 p2, .float .f32 tw] w (RetVB (some 0) (some 0) (some 0) false w) := by
  have hst := run_store_float Try.prog
  have HB := fun W => iBal h0 h1 h2 h3 W
  have FV := fun W => iFinV g0 g1 g2 W
  have hS := stMk_start w a0 a1 a2 a3 p0 p1 p2
  unfold mkOk at ok
  rcases three_ways4 (balB x0 x1 x2 x3) (finV y0 y1 y2) (finS t) with oB | ⟨oB, oM | ⟨oM, oF | oF⟩⟩
  case inr.inr.inr => rw [oB, oM, oF] at ok; cases ok
  all_goals
    clear ok
    rw [oB] at HB
    try rw [oM] at FV
    go_enter Try.func10, Try.ntmps10
    go_wp2_with fail
    (go_at_call 25; refine (HB _).mono ?_; rintro _ W0 ⟨rfl, b0⟩)
    have H0 := hS.at b0
    obtain ⟨-, k0, k1, k2⟩ := stMk_at H0
    obtain ⟨q0, q1, q2, qf⟩ := H0.cells
    clear hS b0
  · go_wp2_with fail
    refine bodyPost_ret (v := .tuple #[vecV 0 0 0, .bool false]) (by simp [results, Try.results10, go_sem, q0, q1, q2]) rfl ⟨⟨_, _, _, rfl, zeroW, zeroW, zeroW⟩, ?_⟩
    exact stMk_below (H0.set3 (by omega) _ _ _)
  · go_wp2_with fail
    (go_at_call 26; refine (FV _).mono ?_; rintro _ W1 ⟨rfl, b1⟩)
    have H1 := H0.at b1.below
    clear q0 q1 q2 qf
    obtain ⟨q0, q1, q2, qf⟩ := H1.cells
    go_wp2_with fail
    refine bodyPost_ret (v := .tuple #[vecV 0 0 0, .bool false]) (by simp [results, Try.results10, go_sem, q0, q1, q2]) rfl ⟨⟨_, _, _, rfl, zeroW, zeroW, zeroW⟩, ?_⟩
    exact stMk_below (H1.set3 (by omega) _ _ _)
  · go_wp2_with fail
    (go_at_call 26; refine (FV _).mono ?_; rintro _ W1 ⟨rfl, b1⟩)
    have H1 := H0.at b1.below
    clear q0 q1 q2 qf k0 k1 k2
    obtain ⟨q0, q1, q2, qf⟩ := H1.cells
    go_wp2_with (go_at_call 27; refine (sFinite it _).mono ?_; rw [oF]; rintro _ _ ⟨n2, rfl, rfl⟩)
    refine bodyPost_ret (v := .tuple #[vecV 0 0 0, .bool false]) (by simp [results, Try.results10, go_sem, q0, q1, q2]) rfl ⟨⟨_, _, _, rfl, zeroW, zeroW, zeroW⟩, ?_⟩
    exact stMk_below ((H1.drewN n2).set3 (by omega) _ _ _)

set_option maxRecDepth 100000 in
set_option maxHeartbeats 6400000 in
theorem iMkoT (w : World) (ok : mkOk x0 x1 x2 x3 y0 y1 y2 t = true) :
    Calls Try.prog 10 #[balV a0 a1 a2 a3, vecV p0 p1 p2, .float .f32 tw] w
      (RetVB (if finS (mkR x2 x3 y0 y1 t) && mkG x1 x2 x3 y0 y1 y2 t then mkN y0 y1 y2 else some 0) (if finS (mkR x2 x3 y0 y1 t) && mkG x1 x2 x3 y0 y1 y2 t then wrapV (mkR x2 x3 y0 y1 t) else some 0) (if finS (mkR x2 x3 y0 y1 t) && mkG x1 x2 x3 y0 y1 y2 t then mkH x1 y0 y1 y2 else some 0) (finS (mkR x2 x3 y0 y1 t) && mkG x1 x2 x3 y0 y1 y2 t) w) := by
  have hst := run_store_float Try.prog
  have HB := fun W => iBal h0 h1 h2 h3 W
  have FV := fun W => iFinV g0 g1 g2 W
  have FT := fun W => sFinite it W
  have hS := stMk_start w a0 a1 a2 a3 p0 p1 p2
  unfold mkOk at ok
  simp only [Bool.and_eq_true] at ok
  obtain ⟨oB, oV, oF⟩ := ok
  rw [oB] at HB
  rw [oV] at FV
  rw [oF] at FT
  have WR := fun {r : Nat} (ir : Is .f32 r (mkR x2 x3 y0 y1 t)) (W : World) => iWrp ir W
  have CK := fun (n e h : Nat) (hn : Is .f32 n (mkN y0 y1 y2)) (he : Is .f32 e (wrapV (mkR x2 x3 y0 y1 t))) (hh : Is .f32 h (mkH x1 y0 y1 y2)) (W : World) => iChk hn he hh W
  have eG : mrkB (mkN y0 y1 y2) (wrapV (mkR x2 x3 y0 y1 t)) (mkH x1 y0 y1 y2) = mkG x1 x2 x3 y0 y1 y2 t := rfl
  rw [eG] at CK
  unfold wrpR at WR
  generalize mkG x1 x2 x3 y0 y1 y2 t = gg at CK ⊢
  have hR : mkR x2 x3 y0 y1 t = fo .sub .f32 (angT y1 y0) (faceO x2 x3 t) := rfl
  have HR := Lib.hid hR
  clear eG hR oB oV oF
  generalize hN : (if finS (mkR x2 x3 y0 y1 t) && gg then mkN y0 y1 y2 else some 0) = vN
  generalize hE : (if finS (mkR x2 x3 y0 y1 t) && gg then wrapV (mkR x2 x3 y0 y1 t) else some 0) = vE
  generalize hH : (if finS (mkR x2 x3 y0 y1 t) && gg then mkH x1 y0 y1 y2 else some 0) = vH
  generalize hW : (if finS (mkR x2 x3 y0 y1 t) then wrapV (mkR x2 x3 y0 y1 t) else some 0) = vW at WR
  generalize wrapV (mkR x2 x3 y0 y1 t) = wv at *
  generalize finS (mkR x2 x3 y0 y1 t) = fr at *
  have HN := Lib.hid hN
  have HE := Lib.hid hE
  have HH := Lib.hid hH
  have HW := Lib.hid hW
  have CK' := Lib.hid CK
  clear hN hE hH hW CK
  go_enter Try.func10, Try.ntmps10
  go_wp2_with fail
  (go_at_call 25; refine (HB _).mono ?_; rintro _ W0 ⟨rfl, b0⟩)
  have H0 := hS.at b0
  obtain ⟨-, k0, k1, k2⟩ := stMk_at H0
  clear hS b0
  go_wp2_with fail
  (go_at_call 26; refine (FV _).mono ?_; rintro _ W1 ⟨rfl, b1⟩)
  have H1 := H0.at b1.below
  clear b1 k0 k1 k2 H0
  go_wp2_with (go_at_call 27; refine (FT _).mono ?_; rintro _ _ ⟨n2, rfl, rfl⟩)
  have H2 := H1.drewN n2
  clear H1 HB FV FT
  generalize W1.drewN n2 = W2 at H2 ⊢
  have q0 : ∀ w', KeepS (w.heap.size + 2) (stMk w a0 a1 a2 a3 p0 p1 p2) (w.heap.size + 1 + 1) w' → w'.cell? ⟨w.heap.size, 0, none⟩ = some (.float .f32 a0) := fun w' h => by obtain ⟨⟨c0, c1, c2, c3⟩, -⟩ := stMk_at h; assumption
  have q1 : ∀ w', KeepS (w.heap.size + 2) (stMk w a0 a1 a2 a3 p0 p1 p2) (w.heap.size + 1 + 1) w' → w'.cell? ⟨w.heap.size, 1, none⟩ = some (.float .f32 a1) := fun w' h => by obtain ⟨⟨c0, c1, c2, c3⟩, -⟩ := stMk_at h; assumption
  have q2 : ∀ w', KeepS (w.heap.size + 2) (stMk w a0 a1 a2 a3 p0 p1 p2) (w.heap.size + 1 + 1) w' → w'.cell? ⟨w.heap.size, 2, none⟩ = some (.float .f32 a2) := fun w' h => by obtain ⟨⟨c0, c1, c2, c3⟩, -⟩ := stMk_at h; assumption
  have q3 : ∀ w', KeepS (w.heap.size + 2) (stMk w a0 a1 a2 a3 p0 p1 p2) (w.heap.size + 1 + 1) w' → w'.cell? ⟨w.heap.size, 3, none⟩ = some (.float .f32 a3) := fun w' h => by obtain ⟨⟨c0, c1, c2, c3⟩, -⟩ := stMk_at h; assumption
  have e0 : ∀ w', KeepS (w.heap.size + 2) (stMk w a0 a1 a2 a3 p0 p1 p2) (w.heap.size + 1 + 1) w' → w'.cell? ⟨w.heap.size + 1, 0, none⟩ = some (.float .f32 p0) := fun w' h => by obtain ⟨-, c0, c1, c2⟩ := stMk_at h; assumption
  have e1 : ∀ w', KeepS (w.heap.size + 2) (stMk w a0 a1 a2 a3 p0 p1 p2) (w.heap.size + 1 + 1) w' → w'.cell? ⟨w.heap.size + 1, 1, none⟩ = some (.float .f32 p1) := fun w' h => by obtain ⟨-, c0, c1, c2⟩ := stMk_at h; assumption
  have e2 : ∀ w', KeepS (w.heap.size + 2) (stMk w a0 a1 a2 a3 p0 p1 p2) (w.heap.size + 1 + 1) w' → w'.cell? ⟨w.heap.size + 1, 2, none⟩ = some (.float .f32 p2) := fun w' h => by obtain ⟨-, c0, c1, c2⟩ := stMk_at h; assumption
  (refine wp_region_held_drew (S := (KeepS (w.heap.size + 2) (stMk w a0 a1 a2 a3 p0 p1 p2) (w.heap.size + 1 + 1))) (by kernel_rfl) H2.drew (fun hHeld => ?_))
  (refine wpTake (i := 0) (some 25) (v := ?_) rfl (by rfl) (by kernel_rfl) (by kernel_rfl) (by kernel_rfl) (fun _ _ _ h => h) (Or.inl ⟨by rfl, ?_⟩) (by assumption) ?_; rotate_left; (focus (intro w hSw; (try dsimp only at hSw); go_simp; (try with_reducible rfl))); (simp only [Act.put, List.setIfInBounds_toArray, List.set_cons_zero, List.set_cons_succ]))
  (refine wpTake (i := 1) (some 26) (v := ?_) rfl (by rfl) (by kernel_rfl) (by kernel_rfl) (by kernel_rfl) (fun _ _ _ h => h) (Or.inl ⟨by rfl, ?_⟩) (by assumption) ?_; rotate_left; (focus (intro w hSw; (try dsimp only at hSw); go_simp; (try with_reducible rfl))); (simp only [Act.put, List.setIfInBounds_toArray, List.set_cons_zero, List.set_cons_succ]))
  (refine wpTake (i := 2) (some 27) (v := ?_) rfl (by rfl) (by kernel_rfl) (by kernel_rfl) (by kernel_rfl) (fun _ _ _ h => h) (Or.inl ⟨by rfl, ?_⟩) (by assumption) ?_; rotate_left; (focus (intro w hSw; (try dsimp only at hSw); go_simp; (try with_reducible rfl))); (simp only [Act.put, List.setIfInBounds_toArray, List.set_cons_zero, List.set_cons_succ]))
  (refine wpTake (i := 3) (some 28) (v := ?_) rfl (by rfl) (by kernel_rfl) (by kernel_rfl) (by kernel_rfl) (fun _ _ _ h => h) (Or.inl ⟨by rfl, ?_⟩) (by assumption) ?_; rotate_left; (focus (intro w hSw; (try dsimp only at hSw); go_simp; (try with_reducible rfl))); (simp only [Act.put, List.setIfInBounds_toArray, List.set_cons_zero, List.set_cons_succ]))
  (refine wpTake (i := 5) (some 30) (v := ?_) rfl (by rfl) (by kernel_rfl) (by kernel_rfl) (by kernel_rfl) (fun _ _ _ h => h) (Or.inl ⟨by rfl, ?_⟩) (by assumption) ?_; rotate_left; (focus (intro w hSw; (try dsimp only at hSw); go_simp; (try with_reducible rfl))); (simp only [Act.put, List.setIfInBounds_toArray, List.set_cons_zero, List.set_cons_succ]))
  (refine wpTake (i := 6) (some 31) (v := ?_) rfl (by rfl) (by kernel_rfl) (by kernel_rfl) (by kernel_rfl) (fun _ _ _ h => h) (Or.inl ⟨by rfl, ?_⟩) (by assumption) ?_; rotate_left; (focus (intro w hSw; (try dsimp only at hSw); go_simp; (try with_reducible rfl))); (simp only [Act.put, List.setIfInBounds_toArray, List.set_cons_zero, List.set_cons_succ]))
  (refine wpAnyH_ready (rs := [4]) (by kernel_rfl) (by simp) ?_; refine AllReadyH.cons rfl (fun K hK => ?_) AllReadyH.nil; go_simp)
  (go_at_call 28; (with_reducible refine (iAngT g1 g0 _).mono ?_); rintro eq wq hret; obtain ⟨⟨rA, rfl, iA⟩, hbs⟩ := hret.belowF)
  (go_wp2_with fail; refine hK.out _ _ (KeepS.at hHeld hbs) (fun hHeld => ?_); clear hK K; try (simp only [Act.put, List.setIfInBounds_toArray, List.set_cons_zero, List.set_cons_succ]))
  (refine wpAnyH_ready (rs := [7]) (by kernel_rfl) (by simp) ?_; refine AllReadyH.cons rfl (fun K hK => ?_) AllReadyH.nil; go_simp)
  (go_at_call 29; (with_reducible refine (iFace h0 h1 h2 h3 it _).mono ?_); rintro eq wq ⟨⟨rF, rfl, iF⟩, hbs⟩)
  (go_wp2_with fail; refine hK.out _ _ (KeepS.at hHeld hbs) (fun hHeld => ?_); clear hK K; try (simp only [Act.put, List.setIfInBounds_toArray, List.set_cons_zero, List.set_cons_succ]))
  (apply wpTakeA (i := 8) (some 33); rfl; rfl; rfl; kernel_rfl; rfl; simp [Arith]; rfl; rfl; exact iA; exact iF; (intro nq; exact KeepS.drewN hHeld nq); intro rq nq hq hHeld; (simp only [Act.put, List.setIfInBounds_toArray, List.set_cons_zero, List.set_cons_succ]))
  have iR := hq
  rw [← HR.out] at iR
  (refine wpAnyH_ready (rs := [9]) (by kernel_rfl) (by simp) ?_; refine AllReadyH.cons rfl (fun K hK => ?_) AllReadyH.nil; go_simp)
  (go_at_call 13; (with_reducible refine (WR iR _).mono ?_); rintro eq wq ⟨⟨rE, rfl, iE⟩, hbs⟩)
  (go_wp2_with fail; refine hK.out _ _ (KeepS.at hHeld hbs) (fun hHeld => ?_); clear hK K; try (simp only [Act.put, List.setIfInBounds_toArray, List.set_cons_zero, List.set_cons_succ]))
  (refine wpTake (i := 10) (some 24) (v := ?_) rfl (by rfl) (by kernel_rfl) (by kernel_rfl) (by kernel_rfl) (fun _ _ _ h => h) (Or.inl ⟨by rfl, ?_⟩) (by assumption) ?_; rotate_left; (focus (intro w hSw; (try dsimp only at hSw); go_simp; (try with_reducible rfl))); (simp only [Act.put, List.setIfInBounds_toArray, List.set_cons_zero, List.set_cons_succ]))
  (refine wpTake (i := 11) (some 35) (v := ?_) rfl (by rfl) (by kernel_rfl) (by kernel_rfl) (by kernel_rfl) (fun _ _ _ h => h) (Or.inl ⟨by rfl, ?_⟩) (by assumption) ?_; rotate_left; (focus (intro w hSw; (try dsimp only at hSw); go_simp; (try with_reducible rfl))); (simp only [Act.put, List.setIfInBounds_toArray, List.set_cons_zero, List.set_cons_succ]))
  (refine wpTake (i := 12) (some 36) (v := ?_) rfl (by rfl) (by kernel_rfl) (by kernel_rfl) (by kernel_rfl) (fun _ _ _ h => h) (Or.inl ⟨by rfl, ?_⟩) (by assumption) ?_; rotate_left; (focus (intro w hSw; (try dsimp only at hSw); go_simp; (try with_reducible rfl))); (simp only [Act.put, List.setIfInBounds_toArray, List.set_cons_zero, List.set_cons_succ]))
  (refine wpTake (i := 13) (some 8) (v := ?_) rfl (by rfl) (by kernel_rfl) (by kernel_rfl) (by kernel_rfl) (fun _ _ _ h => h) (Or.inl ⟨by rfl, ?_⟩) (by assumption) ?_; rotate_left; (focus (intro w hSw; (try dsimp only at hSw); go_simp; (try with_reducible rfl))); (simp only [Act.put, List.setIfInBounds_toArray, List.set_cons_zero, List.set_cons_succ]))
  (refine wpTake (i := 14) (some 9) (v := ?_) rfl (by rfl) (by kernel_rfl) (by kernel_rfl) (by kernel_rfl) (fun _ _ _ h => h) (Or.inl ⟨by rfl, ?_⟩) (by assumption) ?_; rotate_left; (focus (intro w hSw; (try dsimp only at hSw); go_simp; (try with_reducible rfl))); (simp only [Act.put, List.setIfInBounds_toArray, List.set_cons_zero, List.set_cons_succ]))
  (refine wpAnyH_done (by kernel_rfl) ?_ _)
  clear q2 q3 e2 WR iA iF iR hq HR
  cases fr with
  | false =>
    obtain rfl : some 0 = vN := by simpa using HN.out
    obtain rfl : some 0 = vE := by simpa using HE.out
    obtain rfl : some 0 = vH := by simpa using HH.out
    obtain ⟨c0, c1, c2, cf⟩ := hHeld.cells
    clear q0 q1 e0 e1 HN HE HH HW CK'
    go_wp2_with fail
    refine bodyPost_ret (v := .tuple #[vecV 0 0 0, .bool false]) (by simp [results, Try.results10, go_sem, c0, c1, c2]) rfl ⟨⟨_, _, _, rfl, zeroW, zeroW, zeroW⟩, ?_⟩
    exact stMk_below (hHeld.set3 (by omega) _ _ _)
  | true =>
    obtain rfl : wv = vW := by simpa using HW.out
    have H4 := hHeld
    clear hHeld hbs HW
    have e2 : ∀ w', KeepS (w.heap.size + 2) (stMk w a0 a1 a2 a3 p0 p1 p2) (w.heap.size + 1 + 1) w' → w'.cell? ⟨w.heap.size + 1, 2, none⟩ = some (.float .f32 p2) := fun w' h => by obtain ⟨-, c0, c1, c2⟩ := stMk_at h; assumption
    go_wp2_with fail
    (refine wp_region_held_drew (S := (KeepS (w.heap.size + 2) (stMk w a0 a1 a2 a3 p0 p1 p2) (w.heap.size + 1 + 1))) (by kernel_rfl) H4.drew (fun hHeld => ?_))
    (refine wpTake (i := 0) (some 40) (v := ?_) rfl (by rfl) (by kernel_rfl) (by kernel_rfl) (by kernel_rfl) (fun _ _ _ h => h) (Or.inl ⟨by rfl, ?_⟩) (by assumption) ?_; rotate_left; (focus (intro w hSw; (try dsimp only at hSw); go_simp; (try with_reducible rfl))); (simp only [Act.put, List.setIfInBounds_toArray, List.set_cons_zero, List.set_cons_succ]))
    (refine wpTake (i := 1) (some 41) (v := ?_) rfl (by rfl) (by kernel_rfl) (by kernel_rfl) (by kernel_rfl) (fun _ _ _ h => h) (Or.inl ⟨by rfl, ?_⟩) (by assumption) ?_; rotate_left; (focus (intro w hSw; (try dsimp only at hSw); go_simp; (try with_reducible rfl))); (simp only [Act.put, List.setIfInBounds_toArray, List.set_cons_zero, List.set_cons_succ]))
    (refine wpTake (i := 2) (some 42) (v := ?_) rfl (by rfl) (by kernel_rfl) (by kernel_rfl) (by kernel_rfl) (fun _ _ _ h => h) (Or.inl ⟨by rfl, ?_⟩) (by assumption) ?_; rotate_left; (focus (intro w hSw; (try dsimp only at hSw); go_simp; (try with_reducible rfl))); (simp only [Act.put, List.setIfInBounds_toArray, List.set_cons_zero, List.set_cons_succ]))
    (refine wpTake (i := 5) (some 45) (v := ?_) rfl (by rfl) (by kernel_rfl) (by kernel_rfl) (by kernel_rfl) (fun _ _ _ h => h) (Or.inl ⟨by rfl, ?_⟩) (by assumption) ?_; rotate_left; (focus (intro w hSw; (try dsimp only at hSw); go_simp; (try with_reducible rfl))); (simp only [Act.put, List.setIfInBounds_toArray, List.set_cons_zero, List.set_cons_succ]))
    (refine wpTake (i := 6) (some 46) (v := ?_) rfl (by rfl) (by kernel_rfl) (by kernel_rfl) (by kernel_rfl) (fun _ _ _ h => h) (Or.inl ⟨by rfl, ?_⟩) (by assumption) ?_; rotate_left; (focus (intro w hSw; (try dsimp only at hSw); go_simp; (try with_reducible rfl))); (simp only [Act.put, List.setIfInBounds_toArray, List.set_cons_zero, List.set_cons_succ]))
    (refine wpTake (i := 8) (some 48) (v := ?_) rfl (by rfl) (by kernel_rfl) (by kernel_rfl) (by kernel_rfl) (fun _ _ _ h => h) (Or.inl ⟨by rfl, ?_⟩) (by assumption) ?_; rotate_left; (focus (intro w hSw; (try dsimp only at hSw); go_simp; (try with_reducible rfl))); (simp only [Act.put, List.setIfInBounds_toArray, List.set_cons_zero, List.set_cons_succ]))
    (refine wpTake (i := 9) (some 49) (v := ?_) rfl (by rfl) (by kernel_rfl) (by kernel_rfl) (by kernel_rfl) (fun _ _ _ h => h) (Or.inl ⟨by rfl, ?_⟩) (by assumption) ?_; rotate_left; (focus (intro w hSw; (try dsimp only at hSw); go_simp; (try with_reducible rfl))); (simp only [Act.put, List.setIfInBounds_toArray, List.set_cons_zero, List.set_cons_succ]))
    (refine wpAnyH_ready (rs := [3]) (by kernel_rfl) (by simp) ?_; refine AllReadyH.cons rfl (fun K hK => ?_) AllReadyH.nil; go_simp)
    (go_at_call 31; (with_reducible refine (iBesd g0 g1 g2 _).mono ?_); rintro eq wq ⟨⟨rW, rfl, iW⟩, hbs⟩)
    (go_wp2_with fail; refine hK.out _ _ (KeepS.at hHeld hbs) (fun hHeld => ?_); clear hK K; try (simp only [Act.put, List.setIfInBounds_toArray, List.set_cons_zero, List.set_cons_succ]))
    (refine wpAnyH_ready (rs := [4]) (by kernel_rfl) (by simp) ?_; refine AllReadyH.cons rfl (fun K hK => ?_) AllReadyH.nil; go_simp)
    (go_at_call 28; (with_reducible refine (iAngT g2 iW _).mono ?_); rintro eq wq hret; obtain ⟨⟨rN, rfl, iN⟩, hbs⟩ := hret.belowF)
    (go_wp2_with fail; refine hK.out _ _ (KeepS.at hHeld hbs) (fun hHeld => ?_); clear hK K; try (simp only [Act.put, List.setIfInBounds_toArray, List.set_cons_zero, List.set_cons_succ]))
    (refine wpAnyH_ready (rs := [7]) (by kernel_rfl) (by simp) ?_; refine AllReadyH.cons rfl (fun K hK => ?_) AllReadyH.nil; go_simp)
    (go_at_call 32; (with_reducible refine (iLenB g0 g1 g2 _).mono ?_); rintro eq wq ⟨⟨rL, rfl, iL⟩, hbs⟩)
    (go_wp2_with fail; refine hK.out _ _ (KeepS.at hHeld hbs) (fun hHeld => ?_); clear hK K; try (simp only [Act.put, List.setIfInBounds_toArray, List.set_cons_zero, List.set_cons_succ]))
    (apply wpTakeA (i := 10) (some 50); rfl; rfl; rfl; kernel_rfl; rfl; simp [Arith]; rfl; rfl; exact iL; exact h1; (intro nq; exact KeepS.drewN hHeld nq); intro rq nq hq hHeld; (simp only [Act.put, List.setIfInBounds_toArray, List.set_cons_zero, List.set_cons_succ]))
    have iH : Is .f32 rq (mkH x1 y0 y1 y2) := hq
    have jN : Is .f32 rN (mkN y0 y1 y2) := iN
    have CC := fun W => CK'.out _ _ _ jN iE iH W
    generalize mkN y0 y1 y2 = nv at *
    generalize mkH x1 y0 y1 y2 = hv at *
    have CC' := fun W => show Calls Try.prog 30 #[vecV rN rE rq] W (RetVB vN vE vH (true && gg) W) from by
      have h := CC W
      have a1 := HN.out
      have a2 := HE.out
      have a3 := HH.out
      rw [Bool.true_and] at a1 a2 a3 ⊢
      rw [a1, a2, a3] at h
      exact h
    clear CC CK' HN HE HH
    (refine wpTake (i := 11) (some 51) (v := ?_) rfl (by rfl) (by kernel_rfl) (by kernel_rfl) (by kernel_rfl) (fun _ _ _ h => h) (Or.inl ⟨by rfl, ?_⟩) (by assumption) ?_; rotate_left; (focus (intro w hSw; (try dsimp only at hSw); go_simp; (try with_reducible rfl))); (simp only [Act.put, List.setIfInBounds_toArray, List.set_cons_zero, List.set_cons_succ]))
    (refine wpAnyH_ready (rs := [12]) (by kernel_rfl) (by simp) ?_; refine AllReadyH.cons rfl (fun K hK => ?_) AllReadyH.nil; go_simp)
    (go_at_call 30; (with_reducible refine (CC' _).mono ?_); rintro eq wq ⟨⟨s0, s1, s2, rfl, j0, j1, j2⟩, hbs⟩)
    (go_wp2_with fail; refine hK.out _ _ (KeepS.at hHeld hbs) (fun hHeld => ?_); clear hK K; try (simp only [Act.put, List.setIfInBounds_toArray, List.set_cons_zero, List.set_cons_succ]))
    (refine wpTake (i := 13) (some 53) (v := ?_) rfl (by rfl) (by kernel_rfl) (by kernel_rfl) (by kernel_rfl) (fun _ _ _ h => h) (Or.inl ⟨by rfl, ?_⟩) (by assumption) ?_; rotate_left; (focus (intro w hSw; (try dsimp only at hSw); go_simp; (try with_reducible rfl))); (simp only [Act.put, List.setIfInBounds_toArray, List.set_cons_zero, List.set_cons_succ]))
    (refine wpTake (i := 14) (some 54) (v := ?_) rfl (by rfl) (by kernel_rfl) (by kernel_rfl) (by kernel_rfl) (fun _ _ _ h => h) (Or.inl ⟨by rfl, ?_⟩) (by assumption) ?_; rotate_left; (focus (intro w hSw; (try dsimp only at hSw); go_simp; (try with_reducible rfl))); (simp only [Act.put, List.setIfInBounds_toArray, List.set_cons_zero, List.set_cons_succ]))
    obtain ⟨c0, c1, c2, cf⟩ := hHeld.cells
    (refine wpAnyH_ready (rs := [15]) (by kernel_rfl) (by simp) ?_; refine AllReadyH.cons rfl (fun K hK => ?_) AllReadyH.nil; go_simp)
    refine hK.out _ _ (hHeld.set3 (by omega) _ _ _) (fun hHeld => ?_)
    clear hK K
    (try simp only [Act.put, List.setIfInBounds_toArray, List.set_cons_zero, List.set_cons_succ])
    (refine wpTake (i := 16) (some 7) (v := ?_) rfl (by rfl) (by kernel_rfl) (by kernel_rfl) (by kernel_rfl) (fun _ _ _ h => h) (Or.inl ⟨by rfl, ?_⟩) (by assumption) ?_; rotate_left; (focus (intro w hSw; (try dsimp only at hSw); go_simp; (try with_reducible rfl))); (simp only [Act.put, List.setIfInBounds_toArray, List.set_cons_zero, List.set_cons_succ]))
    (refine wpAnyH_done (by kernel_rfl) ?_ _)
    go_wp2_with fail
    refine bodyPost_ret (v := .tuple #[vecV s0 s1 s2, .bool (true && gg)]) (by simp [results, Try.results10, go_sem, c0, c1, c2]) rfl ⟨⟨_, _, _, rfl, j0, j1, j2⟩, ?_⟩
    exact stMk_below hHeld
end
end Go.Proofs.Ytngjpbfiijkibaa
