/-
  The mark of a place, of the model. No condition.
-/
import Derived.Test.YtngjpbfiijkibaaMko
namespace Go.Proofs.Ytngjpbfiijkibaa
open Go.RowKit

theorem wrapA_none : wrapA none = none := by decide
theorem wrapA_inf : wrapA (some 2139095040) = none := by decide
theorem wrapA_ninf : wrapA (some 4286578688) = none := by decide
theorem flr_inf : Fit .f64 .f32 (floorO (cv .f32 .f64 (fo .add .f32 (some 2139095040) (some 1056964608)))) := fun x h => by revert h; revert x; decide
theorem flr_ninf : Fit .f64 .f32 (floorO (cv .f32 .f64 (fo .add .f32 (some 4286578688) (some 1056964608)))) := fun x h => by revert h; revert x; decide

theorem not_fin {x : Nat} {v : Option Nat} (ix : Is .f32 x v) (h : finS v = false) : wrapA v = none ∧ Fit .f64 .f32 (floorO (cv .f32 .f64 (fo .add .f32 v (some 1056964608)))) := by
  cases v with
  | none => exact ⟨wrapA_none, fun x h => by cases h⟩
  | some z =>
    obtain rfl := ix.notNaN
    rcases single_low ix.dec with ⟨s, hd⟩ | ⟨s, m, e, hd, -⟩
    · have hw := write_read32 ix
      unfold FloatKind.decode at hd
      rw [hd] at hw
      cases s with
      | false =>
        have : x = 2139095040 := hw.symm
        subst this
        exact ⟨wrapA_inf, fun y hy => flr_inf y hy⟩
      | true =>
        have : x = 4286578688 := hw.symm
        subst this
        exact ⟨wrapA_ninf, fun y hy => flr_ninf y hy⟩
    · exfalso
      obtain ⟨-, -, -, f4, f5⟩ := read_facts32 ix.2 hd
      rw [f4, word_fin s f5] at h
      cases h

/-- A turn without whole ones, of the model, whatever is given. -/
def wrpM (v : Option Nat) : Option Nat := if finS v then wrapV v else some 3204448256
theorem sWrapM {x : Nat} {v : Option Nat} (ix : Is .f32 x v) (w : World) : Calls Try.prog 34 #[.float .f32 x] w (RetF .f32 (wrpM v) w) := by
  unfold wrpM
  cases hF : finS v with
  | true => exact sWrap ix hF w
  | false =>
    simp only [Bool.false_eq_true, if_false]
    obtain ⟨hA, hf⟩ := not_fin ix hF
    have SF := fun {a : Nat} (ia : Is .f32 a (fo .add .f32 v (some 1056964608))) (w : World) => sFlr ia hf w
    unfold wrapA at hA
    have c1 : cmpB .lss .f32 none (some 3204448256) = false := by decide
    have c2 : cmpB .lss .f32 none (some 1056964608) = false := by decide
    clear hF hf
    go_enter Try.func34, Try.ntmps34
    go_wp2_with (first | (apply wpList_cmp; rfl; simp [Cmp]; rfl; rfl; (first | assumption | exact is_lit64 _ (by decide) | exact is_lit32 _ (by decide)); (first | assumption | exact is_lit64 _ (by decide) | exact is_lit32 _ (by decide)); intro Kq hKq; go_simp) | (apply wpList_arith; rfl; simp [Arith]; rfl; rfl; (first | assumption | exact is_lit64 _ (by decide) | exact is_lit32 _ (by decide)); (first | assumption | exact is_lit64 _ (by decide) | exact is_lit32 _ (by decide)); intro Kq hKq rq nq hq; (try rw [hA] at hq); go_simp) | (go_at_call 56; refine (SF (by assumption) _).mono ?_; rintro eq wq ⟨rq, nq, rfl, hq, rfl⟩))
    go_ret
    exact ⟨_, _, rfl, is_lit32 _ (by decide), rfl⟩

theorem mkG_wrp (x1 x2 x3 y0 y1 y2 t : Option Nat) : (finS (mkR x2 x3 y0 y1 t) && mrkB (mkN y0 y1 y2) (wrpM (mkR x2 x3 y0 y1 t)) (mkH x1 y0 y1 y2)) = (finS (mkR x2 x3 y0 y1 t) && mkG x1 x2 x3 y0 y1 y2 t) := by
  unfold mkG wrpM
  cases finS (mkR x2 x3 y0 y1 t) <;> rfl

/-- The world behind the boxing of the place and the result's block. -/
abbrev stMs (w : World) (p0 p1 p2 : Nat) : World := (w.alloc (Obj.cells #[.float .f32 p0, .float .f32 p1, .float .f32 p2] 33)).alloc (Obj.cells #[.float .f32 0, .float .f32 0, .float .f32 0] 28)

theorem stMs_at {w : World} {p0 p1 p2 R : Nat} {w' : World} (h : KeepS (w.heap.size + 1) (stMs w p0 p1 p2) R w') :
    (∀ b o, b < w.heap.size → w'.cell? ⟨b, o, none⟩ = w.cell? ⟨b, o, none⟩) ∧ w'.cell? ⟨w.heap.size, 0, none⟩ = some (.float .f32 p0) ∧ w'.cell? ⟨w.heap.size, 1, none⟩ = some (.float .f32 p1) ∧ w'.cell? ⟨w.heap.size, 2, none⟩ = some (.float .f32 p2) := by
  have hb := h.2.1
  exact ⟨fun b o hl => (hb.cell (p := ⟨b, o, none⟩) (by dsimp only; omega)).trans (by rw [World.cell?_alloc_lt _ _ _ (by simp; omega), World.cell?_alloc_lt _ _ _ hl]), (hb.cell (p := ⟨w.heap.size, 0, none⟩) (by dsimp only; omega)).trans (by rw [World.cell?_alloc_lt _ _ _ (by simp)]; simp), (hb.cell (p := ⟨w.heap.size, 1, none⟩) (by dsimp only; omega)).trans (by rw [World.cell?_alloc_lt _ _ _ (by simp)]; simp), (hb.cell (p := ⟨w.heap.size, 2, none⟩) (by dsimp only; omega)).trans (by rw [World.cell?_alloc_lt _ _ _ (by simp)]; simp)⟩

theorem stMs_start (w : World) (p0 p1 p2 : Nat) : KeepS (w.heap.size + 1) (stMs w p0 p1 p2) (w.heap.size + 1) (stMs w p0 p1 p2) :=
  ⟨by simp, Below.refl _ _, by simpa using has_alloc3 (w.alloc (Obj.cells #[.float .f32 p0, .float .f32 p1, .float .f32 p2] 33)) (.float .f32 0) (.float .f32 0) (.float .f32 0) 28⟩

theorem stMs_below {w : World} {p0 p1 p2 R : Nat} {w' : World} (h : KeepS (w.heap.size + 1) (stMs w p0 p1 p2) R w') : Below w.heap.size w w' :=
  (((Below.refl w.heap.size w).alloc (Nat.le_refl _) _).alloc (by simp) _).trans (h.2.1.mono (by omega))

section
variable {a1 a2 a3 p0 p1 p2 tw : Nat} {x1 x2 x3 y0 y1 y2 t : Option Nat} (h1 : Is .f32 a1 x1) (h2 : Is .f32 a2 x2) (h3 : Is .f32 a3 x3) (g0 : Is .f32 p0 y0) (g1 : Is .f32 p1 y1) (g2 : Is .f32 p2 y2) (it : Is .f32 tw t)
include h1 h2 h3 g0 g1 g2 it

set_option maxRecDepth 100000 in
set_option maxHeartbeats 6400000 in
theorem sMkoP (bb : Nat) (w : World) (hb : bb < w.heap.size) (b1 : w.cell? ⟨bb, 1, none⟩ = some (.float .f32 a1)) (b2 : w.cell? ⟨bb, 2, none⟩ = some (.float .f32 a2)) (b3 : w.cell? ⟨bb, 3, none⟩ = some (.float .f32 a3)) :
    Calls Try.prog 24 #[.pointer (some ⟨bb, 0, none⟩), vecV p0 p1 p2, .float .f32 tw] w
      (RetVB (if finS (mkR x2 x3 y0 y1 t) && mkG x1 x2 x3 y0 y1 y2 t then mkN y0 y1 y2 else some 0) (if finS (mkR x2 x3 y0 y1 t) && mkG x1 x2 x3 y0 y1 y2 t then wrapV (mkR x2 x3 y0 y1 t) else some 0) (if finS (mkR x2 x3 y0 y1 t) && mkG x1 x2 x3 y0 y1 y2 t then mkH x1 y0 y1 y2 else some 0) (finS (mkR x2 x3 y0 y1 t) && mkG x1 x2 x3 y0 y1 y2 t) w) := by
  have hst := run_store_float Try.prog
  have hS := stMs_start w p0 p1 p2
  have hNN : ∀ z : Nat, Is .f32 z (mkW y0 y1) → cmpB .gtr .f32 (mkN y0 y1 y2) (some 1048576000) = false ∧ cmpB .lss .f32 (mkN y0 y1 y2) (some 3196059648) = false := fun _ iw => angT_front g2 iw nn_rootO
  have WM := fun (r : Nat) (ir : Is .f32 r (mkR x2 x3 y0 y1 t)) (W : World) => sWrapM ir W
  have eG := mkG_wrp x1 x2 x3 y0 y1 y2 t
  have eE : (if finS (mkR x2 x3 y0 y1 t) && mkG x1 x2 x3 y0 y1 y2 t then wrapV (mkR x2 x3 y0 y1 t) else some 0) = (if finS (mkR x2 x3 y0 y1 t) && mkG x1 x2 x3 y0 y1 y2 t then wrpM (mkR x2 x3 y0 y1 t) else some 0) := by
    unfold wrpM
    cases finS (mkR x2 x3 y0 y1 t) <;> rfl
  rw [eE]
  clear eE
  rw [← eG]
  clear eG
  have hR : mkR x2 x3 y0 y1 t = fo .sub .f32 (angT y1 y0) (faceO x2 x3 t) := rfl
  have HR := Lib.hid hR
  have FR := fun (r : Nat) (ir : Is .f32 r (mkR x2 x3 y0 y1 t)) (W : World) => finite_any ir W
  generalize hE : (if finS (mkR x2 x3 y0 y1 t) && mrkB (mkN y0 y1 y2) (wrpM (mkR x2 x3 y0 y1 t)) (mkH x1 y0 y1 y2) then wrpM (mkR x2 x3 y0 y1 t) else some 0) = vE
  generalize hN : (if finS (mkR x2 x3 y0 y1 t) && mrkB (mkN y0 y1 y2) (wrpM (mkR x2 x3 y0 y1 t)) (mkH x1 y0 y1 y2) then mkN y0 y1 y2 else some 0) = vN
  generalize hH : (if finS (mkR x2 x3 y0 y1 t) && mrkB (mkN y0 y1 y2) (wrpM (mkR x2 x3 y0 y1 t)) (mkH x1 y0 y1 y2) then mkH x1 y0 y1 y2 else some 0) = vH
  generalize hG : mrkB (mkN y0 y1 y2) (wrpM (mkR x2 x3 y0 y1 t)) (mkH x1 y0 y1 y2) = gg at hE hN hH ⊢
  generalize finS (mkR x2 x3 y0 y1 t) = fr at hE hN hH FR ⊢
  generalize wrpM (mkR x2 x3 y0 y1 t) = wv at *
  have HE := Lib.hid hE
  have HN := Lib.hid hN
  have HH := Lib.hid hH
  have HG := Lib.hid hG
  have HF := Lib.hid FR
  have HNN := Lib.hid hNN
  clear hR hE hN hH hG FR
  go_enter Try.func24, Try.ntmps24
  go_upto_region 2 with (first | (apply wpList_arith; rfl; simp [Arith]; rfl; rfl; (first | assumption | exact is_lit64 _ (by decide) | exact is_lit32 _ (by decide)); (first | assumption | exact is_lit64 _ (by decide) | exact is_lit32 _ (by decide)); intro Kq hKq rq nq hq; go_simp) | (go_at_call 47; refine (l01Sqrt_any (by assumption) _).mono ?_; rintro eq wq ⟨rq, nq, rfl, hq, rfl⟩))
  have iW : Is .f32 rq (mkW y0 y1) := hq
  generalize hZ : World.drewN _ _ = Z
  have H1 : KeepS (w.heap.size + 1) (stMs w p0 p1 p2) (w.heap.size + 1) Z := by rw [← hZ]; exact hS.drewN _
  have bs : bb < w.heap.size + 1 := by omega
  have KB := Lib.hid (fun (w' : World) (h : KeepS (w.heap.size + 1) (stMs w p0 p1 p2) (w.heap.size + 1) w') => show w.heap.size + 2 ≤ w'.heap.size ∧ w'.cell? ⟨bb, 1, none⟩ = some (.float .f32 a1) ∧ w'.cell? ⟨bb, 2, none⟩ = some (.float .f32 a2) ∧ w'.cell? ⟨bb, 3, none⟩ = some (.float .f32 a3) ∧ w'.cell? ⟨w.heap.size, 0, none⟩ = some (.float .f32 p0) ∧ w'.cell? ⟨w.heap.size, 1, none⟩ = some (.float .f32 p1) ∧ w'.cell? ⟨w.heap.size, 2, none⟩ = some (.float .f32 p2) from by
    obtain ⟨hc, hv⟩ := stMs_at h
    have hsz := h.2.1.size
    simp at hsz
    exact ⟨by omega, (hc bb 1 hb).trans b1, (hc bb 2 hb).trans b2, (hc bb 3 hb).trans b3, hv⟩)
  clear hZ hq hS b1 b2 b3
  obtain ⟨hz1, -, -, -, -, -, k2⟩ := KB.out Z H1
  go_wp2_with fail
  (go_at_call 48; refine (sAngT g2 iW _).mono ?_; rintro _ W2 hret; obtain ⟨⟨rN, rfl, iN⟩, hbs⟩ := hret.belowF)
  have H2 := H1.at hbs
  obtain ⟨n1, n2⟩ := HNN.out _ iW
  have jN : Is .f32 rN (mkN y0 y1 y2) := iN
  clear iN hret hbs k2 H1 HNN hz1
  generalize mkN y0 y1 y2 = nv at *
  obtain ⟨hz2, -, c2, c3, k0, k1, -⟩ := KB.out W2 H2
  go_wp2_with (apply wpList_cmp; rfl; simp [Cmp]; rfl; rfl; (first | assumption | exact is_lit64 _ (by decide) | exact is_lit32 _ (by decide)); (first | assumption | exact is_lit64 _ (by decide) | exact is_lit32 _ (by decide)); intro Kq hKq; go_simp)
  (go_at_call 48; refine (sAngT g1 g0 _).mono ?_; rintro _ W3 hret; obtain ⟨⟨rA, rfl, iA⟩, hbs⟩ := hret.belowF)
  have H3 := H2.at hbs
  clear hret hbs k0 k1 c2 c3 H2 n1 n2
  obtain ⟨hz3, -, c2, c3, -⟩ := KB.out W3 H3
  go_wp2_with fail
  (go_at_call 49; refine (sFaceP h2 h3 it bb _ (by omega) c2 c3).mono ?_; rintro _ W4 ⟨⟨rF, rfl, iF⟩, hbs⟩)
  have H4 := H3.at hbs
  clear hbs c2 c3 H3
  go_upto_region 8 with (apply wpList_arith; rfl; simp [Arith]; rfl; rfl; (first | assumption | exact is_lit64 _ (by decide) | exact is_lit32 _ (by decide)); (first | assumption | exact is_lit64 _ (by decide) | exact is_lit32 _ (by decide)); intro Kq hKq rq nq hq; go_simp)
  have iR := hq
  rw [← HR.out] at iR
  generalize hZ : World.drewN _ _ = W5
  have H5 : KeepS (w.heap.size + 1) (stMs w p0 p1 p2) (w.heap.size + 1) W5 := by rw [← hZ]; exact H4.drewN _
  clear hZ hq H4 iA iF HR
  have e0 : ∀ w', KeepS (w.heap.size + 1) (stMs w p0 p1 p2) (w.heap.size + 1) w' → w'.cell? ⟨w.heap.size, 0, none⟩ = some (.float .f32 p0) := fun w' h => (KB.out w' h).2.2.2.2.1
  have e1 : ∀ w', KeepS (w.heap.size + 1) (stMs w p0 p1 p2) (w.heap.size + 1) w' → w'.cell? ⟨w.heap.size, 1, none⟩ = some (.float .f32 p1) := fun w' h => (KB.out w' h).2.2.2.2.2.1
  have e2 : ∀ w', KeepS (w.heap.size + 1) (stMs w p0 p1 p2) (w.heap.size + 1) w' → w'.cell? ⟨w.heap.size, 2, none⟩ = some (.float .f32 p2) := fun w' h => (KB.out w' h).2.2.2.2.2.2
  have eb : ∀ w', KeepS (w.heap.size + 1) (stMs w p0 p1 p2) (w.heap.size + 1) w' → w'.cell? ⟨bb, 1, none⟩ = some (.float .f32 a1) := fun w' h => (KB.out w' h).2.1
  go_cut [11] (fun s11 wx => ∃ M rE rH, s11 = .pointer (some ⟨M, 0, none⟩) ∧ VecIn wx M rN rE rH ∧ Is .f32 rE wv ∧ Is .f32 rH (mkH x1 y0 y1 y2) ∧ KeepS (w.heap.size + 1) (stMs w p0 p1 p2) (w.heap.size + 1) wx ∧ w.heap.size + 1 ≤ M)
  case first =>
    (refine wp_region_held_drew (S := (KeepS (w.heap.size + 1) (stMs w p0 p1 p2) (w.heap.size + 1))) (by kernel_rfl) H5.drew (fun hHeld => ?_))
    (refine wpTake (i := 0) (some 41) (v := ?_) rfl (by rfl) (by kernel_rfl) (by kernel_rfl) (by kernel_rfl) (fun _ _ _ h => h) (Or.inl ⟨by rfl, ?_⟩) (by assumption) ?_; rotate_left; (focus (intro w hSw; (try dsimp only at hSw); go_simp; (try with_reducible rfl))); (simp only [Act.put, List.setIfInBounds_toArray, List.set_cons_zero, List.set_cons_succ]))
    (refine wpTake (i := 1) (some 42) (v := ?_) rfl (by rfl) (by kernel_rfl) (by kernel_rfl) (by kernel_rfl) (fun _ _ _ h => h) (Or.inl ⟨by rfl, ?_⟩) (by assumption) ?_; rotate_left; (focus (intro w hSw; (try dsimp only at hSw); go_simp; (try with_reducible rfl))); (simp only [Act.put, List.setIfInBounds_toArray, List.set_cons_zero, List.set_cons_succ]))
    (refine wpTake (i := 3) (some 44) (v := ?_) rfl (by rfl) (by kernel_rfl) (by kernel_rfl) (by kernel_rfl) (fun _ _ _ h => h) (Or.inl ⟨by rfl, ?_⟩) (by assumption) ?_; rotate_left; (focus (intro w hSw; (try dsimp only at hSw); go_simp; (try with_reducible rfl))); (simp only [Act.put, List.setIfInBounds_toArray, List.set_cons_zero, List.set_cons_succ]))
    (refine wpTake (i := 5) (some 46) (v := ?_) rfl (by rfl) (by kernel_rfl) (by kernel_rfl) (by kernel_rfl) (fun _ _ _ h => h) (Or.inl ⟨by rfl, ?_⟩) (by assumption) ?_; rotate_left; (focus (intro w hSw; (try dsimp only at hSw); go_simp; (try with_reducible rfl))); (simp only [Act.put, List.setIfInBounds_toArray, List.set_cons_zero, List.set_cons_succ]))
    (refine wpTake (i := 6) (some 47) (v := ?_) rfl (by rfl) (by kernel_rfl) (by kernel_rfl) (by kernel_rfl) (fun _ _ _ h => h) (Or.inl ⟨by rfl, ?_⟩) (by assumption) ?_; rotate_left; (focus (intro w hSw; (try dsimp only at hSw); go_simp; (try with_reducible rfl))); (simp only [Act.put, List.setIfInBounds_toArray, List.set_cons_zero, List.set_cons_succ]))
    (refine wpTake (i := 7) (some 48) (v := ?_) rfl (by rfl) (by kernel_rfl) (by kernel_rfl) (by kernel_rfl) (fun _ _ _ h => h) (Or.inl ⟨by rfl, ?_⟩) (by assumption) ?_; rotate_left; (focus (intro w hSw; (try dsimp only at hSw); go_simp; (try with_reducible rfl))); (simp only [Act.put, List.setIfInBounds_toArray, List.set_cons_zero, List.set_cons_succ]))
    (refine wpTake (i := 8) (some 49) (v := ?_) rfl (by rfl) (by kernel_rfl) (by kernel_rfl) (by kernel_rfl) (fun _ _ _ h => h) (Or.inl ⟨by rfl, ?_⟩) (by assumption) ?_; rotate_left; (focus (intro w hSw; (try dsimp only at hSw); go_simp; (try with_reducible rfl))); (simp only [Act.put, List.setIfInBounds_toArray, List.set_cons_zero, List.set_cons_succ]))
    (refine wpAnyH_ready (rs := [2, 11]) (by kernel_rfl) (by simp) ?_; refine AllReadyH.cons rfl (fun K hK => ?_) (AllReadyH.cons rfl (fun K hK => ?_) AllReadyH.nil))
    · go_simp
      (go_at_call 34; (with_reducible refine (WM _ iR _).mono ?_); rintro eq wq hret; obtain ⟨⟨rE, rfl, iE⟩, hbs⟩ := hret.belowF)
      (go_wp2_with fail; refine hK.out _ _ (KeepS.at hHeld hbs) (fun hHeld => ?_); clear hK K; try (simp only [Act.put, List.setIfInBounds_toArray, List.set_cons_zero, List.set_cons_succ]))
      (refine wpAnyH_ready (rs := [4, 11]) (by kernel_rfl) (by simp) ?_; refine AllReadyH.cons rfl (fun K hK => ?_) (AllReadyH.cons rfl (fun K hK => ?_) AllReadyH.nil))
      · go_simp
        (go_at_call 50; (with_reducible refine (sLenB g0 g1 g2 _).mono ?_); rintro eq wq ⟨⟨rL, rfl, iL⟩, hbs⟩)
        (go_wp2_with fail; refine hK.out _ _ (KeepS.at hHeld hbs) (fun hHeld => ?_); clear hK K; try (simp only [Act.put, List.setIfInBounds_toArray, List.set_cons_zero, List.set_cons_succ]))
        (refine wpAnyH_ready (rs := [9, 11]) (by kernel_rfl) (by simp) ?_; refine AllReadyH.cons rfl (fun K hK => ?_) (AllReadyH.cons rfl (fun K hK => ?_) AllReadyH.nil))
        · go_simp
          (refine upon_arith (by simp [Arith]) (by first | assumption | exact is_lit64 _ (by decide) | exact is_lit32 _ (by decide)) (by first | assumption | exact is_lit64 _ (by decide) | exact is_lit32 _ (by decide)) ?_; intro rq nq hq; go_simp)
          refine hK.out _ _ (hHeld.drewN _) (fun hHeld => ?_)
          clear hK K
          (try simp only [Act.put, List.setIfInBounds_toArray, List.set_cons_zero, List.set_cons_succ])
          have iH : Is .f32 rq (mkH x1 y0 y1 y2) := hq
          (refine wpTake (i := 10) (some 51) (v := ?_) rfl (by rfl) (by kernel_rfl) (by kernel_rfl) (by kernel_rfl) (fun _ _ _ h => h) (Or.inl ⟨by rfl, ?_⟩) (by assumption) ?_; rotate_left; (focus (intro w hSw; (try dsimp only at hSw); go_simp; (try with_reducible rfl))); (simp only [Act.put, List.setIfInBounds_toArray, List.set_cons_zero, List.set_cons_succ]))
          (refine wpAnyH_ready (rs := [11]) (by kernel_rfl) (by simp) ?_; refine AllReadyH.cons rfl (fun K hK => ?_) AllReadyH.nil; go_simp)
          obtain ⟨hM, hMle, hA⟩ := hHeld.fresh3 (.float .f32 0) (.float .f32 0) (.float .f32 0) 28
          refine hK.out _ _ hA (fun hHeld => ?_)
          clear hK K hA
          (try simp only [Act.put, List.setIfInBounds_toArray, List.set_cons_zero, List.set_cons_succ])
          generalize hXA : World.alloc _ _ = XA at hM hHeld ⊢
          clear hXA
          replace hM : Has wq.heap.size 3 XA := hM
          replace hMle : w.heap.size + 1 ≤ wq.heap.size := hMle
          have c0 := hM.cell (o := 0) (by decide)
          have c1 := hM.cell (o := 1) (by decide)
          have c2 := hM.cell (o := 2) (by decide)
          have cf := hM.frz
          (refine wpAnyH_ready (rs := [12]) (by kernel_rfl) (by simp) ?_; refine AllReadyH.cons rfl (fun K hK => ?_) AllReadyH.nil; go_simp)
          refine hK.out _ _ (hHeld.setb hMle _ _ _) (fun hHeld => ?_)
          clear hK K
          (try simp only [Act.put, List.setIfInBounds_toArray, List.set_cons_zero, List.set_cons_succ])
          (refine wpAnyH_done (by kernel_rfl) ?_ _)
          go_wp2_with fail
          go_meet
          exact ⟨_, _, _, rfl, vec_put hM _ _ _, iE, iH, hHeld, hMle⟩
        · go_simp
          obtain ⟨hM, hMle, hA⟩ := hHeld.fresh3 (.float .f32 0) (.float .f32 0) (.float .f32 0) 28
          refine hK.out _ _ hA (fun hHeld => ?_)
          clear hK K hA
          (try simp only [Act.put, List.setIfInBounds_toArray, List.set_cons_zero, List.set_cons_succ])
          (apply wpTakeA (i := 9) (some 50); rfl; rfl; rfl; kernel_rfl; rfl; simp [Arith]; rfl; rfl; exact iL; exact h1; (intro nq; exact KeepS.drewN hHeld nq); intro rq nq hq hHeld; (simp only [Act.put, List.setIfInBounds_toArray, List.set_cons_zero, List.set_cons_succ]))
          have iH : Is .f32 rq (mkH x1 y0 y1 y2) := hq
          replace hM := hM.drewN nq
          (refine wpTake (i := 10) (some 51) (v := ?_) rfl (by rfl) (by kernel_rfl) (by kernel_rfl) (by kernel_rfl) (fun _ _ _ h => h) (Or.inl ⟨by rfl, ?_⟩) (by assumption) ?_; rotate_left; (focus (intro w hSw; (try dsimp only at hSw); go_simp; (try with_reducible rfl))); (simp only [Act.put, List.setIfInBounds_toArray, List.set_cons_zero, List.set_cons_succ]))
          have c0 := hM.cell (o := 0) (by decide)
          have c1 := hM.cell (o := 1) (by decide)
          have c2 := hM.cell (o := 2) (by decide)
          have cf := hM.frz
          (refine wpAnyH_ready (rs := [12]) (by kernel_rfl) (by simp) ?_; refine AllReadyH.cons rfl (fun K hK => ?_) AllReadyH.nil; go_simp)
          refine hK.out _ _ (hHeld.setb hMle _ _ _) (fun hHeld => ?_)
          clear hK K
          (try simp only [Act.put, List.setIfInBounds_toArray, List.set_cons_zero, List.set_cons_succ])
          (refine wpAnyH_done (by kernel_rfl) ?_ _)
          go_wp2_with fail
          go_meet
          exact ⟨_, _, _, rfl, vec_put hM _ _ _, iE, iH, hHeld, hMle⟩
      · go_simp
        obtain ⟨hM, hMle, hA⟩ := hHeld.fresh3 (.float .f32 0) (.float .f32 0) (.float .f32 0) 28
        refine hK.out _ _ hA (fun hHeld => ?_)
        clear hK K hA
        (try simp only [Act.put, List.setIfInBounds_toArray, List.set_cons_zero, List.set_cons_succ])
        (refine wpAnyH_ready (rs := [4]) (by kernel_rfl) (by simp) ?_; refine AllReadyH.cons rfl (fun K hK => ?_) AllReadyH.nil; go_simp)
        (go_at_call 50; (with_reducible refine (sLenB g0 g1 g2 _).mono ?_); rintro eq wq ⟨⟨rL, rfl, iL⟩, hbs⟩)
        replace hM := hM.at hbs
        (go_wp2_with fail; refine hK.out _ _ (KeepS.at hHeld hbs) (fun hHeld => ?_); clear hK K; try (simp only [Act.put, List.setIfInBounds_toArray, List.set_cons_zero, List.set_cons_succ]))
        (apply wpTakeA (i := 9) (some 50); rfl; rfl; rfl; kernel_rfl; rfl; simp [Arith]; rfl; rfl; exact iL; exact h1; (intro nq; exact KeepS.drewN hHeld nq); intro rq nq hq hHeld; (simp only [Act.put, List.setIfInBounds_toArray, List.set_cons_zero, List.set_cons_succ]))
        have iH : Is .f32 rq (mkH x1 y0 y1 y2) := hq
        replace hM := hM.drewN nq
        (refine wpTake (i := 10) (some 51) (v := ?_) rfl (by rfl) (by kernel_rfl) (by kernel_rfl) (by kernel_rfl) (fun _ _ _ h => h) (Or.inl ⟨by rfl, ?_⟩) (by assumption) ?_; rotate_left; (focus (intro w hSw; (try dsimp only at hSw); go_simp; (try with_reducible rfl))); (simp only [Act.put, List.setIfInBounds_toArray, List.set_cons_zero, List.set_cons_succ]))
        have c0 := hM.cell (o := 0) (by decide)
        have c1 := hM.cell (o := 1) (by decide)
        have c2 := hM.cell (o := 2) (by decide)
        have cf := hM.frz
        (refine wpAnyH_ready (rs := [12]) (by kernel_rfl) (by simp) ?_; refine AllReadyH.cons rfl (fun K hK => ?_) AllReadyH.nil; go_simp)
        refine hK.out _ _ (hHeld.setb hMle _ _ _) (fun hHeld => ?_)
        clear hK K
        (try simp only [Act.put, List.setIfInBounds_toArray, List.set_cons_zero, List.set_cons_succ])
        (refine wpAnyH_done (by kernel_rfl) ?_ _)
        go_wp2_with fail
        go_meet
        exact ⟨_, _, _, rfl, vec_put hM _ _ _, iE, iH, hHeld, hMle⟩
    · go_simp
      obtain ⟨hM, hMle, hA⟩ := hHeld.fresh3 (.float .f32 0) (.float .f32 0) (.float .f32 0) 28
      refine hK.out _ _ hA (fun hHeld => ?_)
      clear hK K hA
      (try simp only [Act.put, List.setIfInBounds_toArray, List.set_cons_zero, List.set_cons_succ])
      replace hM : Has W5.heap.size 3 _ := hM
      replace hMle : w.heap.size + 1 ≤ W5.heap.size := hMle
      (refine wpAnyH_ready (rs := [2]) (by kernel_rfl) (by simp) ?_; refine AllReadyH.cons rfl (fun K hK => ?_) AllReadyH.nil; go_simp)
      (go_at_call 34; (with_reducible refine (WM _ iR _).mono ?_); rintro eq wq hret; obtain ⟨⟨rE, rfl, iE⟩, hbs⟩ := hret.belowF)
      replace hM := hM.at hbs
      (go_wp2_with fail; refine hK.out _ _ (KeepS.at hHeld hbs) (fun hHeld => ?_); clear hK K; try (simp only [Act.put, List.setIfInBounds_toArray, List.set_cons_zero, List.set_cons_succ]))
      (refine wpAnyH_ready (rs := [4]) (by kernel_rfl) (by simp) ?_; refine AllReadyH.cons rfl (fun K hK => ?_) AllReadyH.nil; go_simp)
      (go_at_call 50; (with_reducible refine (sLenB g0 g1 g2 _).mono ?_); rintro eq wq ⟨⟨rL, rfl, iL⟩, hbs⟩)
      replace hM := hM.at hbs
      (go_wp2_with fail; refine hK.out _ _ (KeepS.at hHeld hbs) (fun hHeld => ?_); clear hK K; try (simp only [Act.put, List.setIfInBounds_toArray, List.set_cons_zero, List.set_cons_succ]))
      (apply wpTakeA (i := 9) (some 50); rfl; rfl; rfl; kernel_rfl; rfl; simp [Arith]; rfl; rfl; exact iL; exact h1; (intro nq; exact KeepS.drewN hHeld nq); intro rq nq hq hHeld; (simp only [Act.put, List.setIfInBounds_toArray, List.set_cons_zero, List.set_cons_succ]))
      have iH : Is .f32 rq (mkH x1 y0 y1 y2) := hq
      replace hM := hM.drewN nq
      (refine wpTake (i := 10) (some 51) (v := ?_) rfl (by rfl) (by kernel_rfl) (by kernel_rfl) (by kernel_rfl) (fun _ _ _ h => h) (Or.inl ⟨by rfl, ?_⟩) (by assumption) ?_; rotate_left; (focus (intro w hSw; (try dsimp only at hSw); go_simp; (try with_reducible rfl))); (simp only [Act.put, List.setIfInBounds_toArray, List.set_cons_zero, List.set_cons_succ]))
      have c0 := hM.cell (o := 0) (by decide)
      have c1 := hM.cell (o := 1) (by decide)
      have c2 := hM.cell (o := 2) (by decide)
      have cf := hM.frz
      (refine wpAnyH_ready (rs := [12]) (by kernel_rfl) (by simp) ?_; refine AllReadyH.cons rfl (fun K hK => ?_) AllReadyH.nil; go_simp)
      refine hK.out _ _ (hHeld.setb hMle _ _ _) (fun hHeld => ?_)
      clear hK K
      (try simp only [Act.put, List.setIfInBounds_toArray, List.set_cons_zero, List.set_cons_succ])
      (refine wpAnyH_done (by kernel_rfl) ?_ _)
      go_wp2_with fail
      go_meet
      exact ⟨_, _, _, rfl, vec_put hM _ _ _, iE, iH, hHeld, hMle⟩
  case rest =>
    obtain ⟨M, rE, rH, rfl, hV, iE, iH, hS, hMle⟩ := hcut
    obtain ⟨W, rfl⟩ : ∃ W, W = wc := ⟨wc, rfl⟩
    have F0 := fun W => HF.out _ iR W
    clear e0 e1 e2 eb H5 HF WM iR
    cases fr with
    | false =>
      obtain rfl : some 0 = vN := by simpa using HN.out
      obtain rfl : some 0 = vE := by simpa using HE.out
      obtain rfl : some 0 = vH := by simpa using HH.out
      obtain ⟨c0, c1, c2, cf⟩ := hS.cells
      clear HN HE HH HG KB hV
      go_wp2_with (go_at_call 23; refine (F0 _).mono ?_; rintro _ _ ⟨n1, rfl, rfl⟩)
      refine bodyPost_ret (v := .tuple #[vecV 0 0 0, .bool false]) (by simp [results, Try.results24, go_sem, c0, c1, c2]) rfl ⟨⟨_, _, _, rfl, zeroW, zeroW, zeroW⟩, ?_⟩
      exact stMs_below ((hS.drewN n1).set3 (Nat.le_refl _) _ _ _)
    | true =>
      have MK := fun W hb c0 c1 c2 => sMrkP jN iE iH M 0 W hb c0 c1 c2
      rw [HG.out] at MK
      have hVM := hV.1
      cases gg with
      | false =>
        obtain rfl : some 0 = vN := by simpa using HN.out
        obtain rfl : some 0 = vE := by simpa using HE.out
        obtain rfl : some 0 = vH := by simpa using HH.out
        clear HN HE HH HG KB
        go_wp2_with (go_at_call 23; refine (F0 _).mono ?_; rintro _ _ ⟨n1, rfl, rfl⟩)
        (go_at_call 36; refine (MK (W.drewN n1) hVM hV.2.1 hV.2.2.1 hV.2.2.2).mono ?_; rintro _ W6 ⟨rfl, b6⟩)
        have H6 := (hS.drewN n1).at b6
        obtain ⟨c0, c1, c2, cf⟩ := H6.cells
        clear b6
        go_wp2_with fail
        refine bodyPost_ret (v := .tuple #[vecV 0 0 0, .bool false]) (by simp [results, Try.results24, go_sem, c0, c1, c2]) rfl ⟨⟨_, _, _, rfl, zeroW, zeroW, zeroW⟩, ?_⟩
        exact stMs_below (H6.set3 (Nat.le_refl _) _ _ _)
      | true =>
        obtain rfl : nv = vN := by simpa using HN.out
        obtain rfl : wv = vE := by simpa using HE.out
        obtain rfl : mkH x1 y0 y1 y2 = vH := by simpa using HH.out
        clear HN HE HH HG KB
        go_wp2_with (go_at_call 23; refine (F0 _).mono ?_; rintro _ _ ⟨n1, rfl, rfl⟩)
        (go_at_call 36; refine (MK (W.drewN n1) hVM hV.2.1 hV.2.2.1 hV.2.2.2).mono ?_; rintro _ W6 ⟨rfl, b6⟩)
        have H6 := (hS.drewN n1).at b6
        obtain ⟨-, m0, m1, m2⟩ := VecIn.at (X := W.drewN n1) hV b6
        obtain ⟨c0, c1, c2, cf⟩ := H6.cells
        clear b6
        go_wp2_with fail
        refine bodyPost_ret (v := .tuple #[vecV rN rE rH, .bool true]) (by simp [results, Try.results24, go_sem, c0, c1, c2]) rfl ⟨⟨_, _, _, rfl, jN, iE, iH⟩, ?_⟩
        exact stMs_below (H6.set3 (Nat.le_refl _) _ _ _)
end
end Go.Proofs.Ytngjpbfiijkibaa
