/-
  The pull at a place: for every list, place and core the law's text returns true, and writes nothing that was there. No condition.
-/
import Derived.Test.YtmljacpmmnngkaaPulT
import Derived.Test.YtmljacpmmnngkaaVecI
namespace Go.Proofs.Ytmljacpmmnngkaa
open Go.RowKit

/-- Three values, counted. -/
def three3 (a b c : Option Nat) (j : Nat) : Option Nat := if j = 0 then a else if j = 1 then b else c
theorem hasAs {B R n : Nat} {st X : World} (h : Below B st X) (g : Has R n X) : ∃ XA, XA = X ∧ Has R n XA ∧ Below B st XA := ⟨X, rfl, g, h⟩
theorem heldAlloc {B : Nat} {st X : World} (h : Below B st X) (hB : B ≤ st.heap.size) (a b c : Value) (T : TypeId) : Has X.heap.size 3 (X.alloc (.cells #[a, b, c] T)) ∧ Below B st (X.alloc (.cells #[a, b, c] T)) ∧ B ≤ X.heap.size :=
  ⟨has_alloc3 X a b c T, h.alloc (Nat.le_trans hB h.size) _, Nat.le_trans hB h.size⟩
abbrev stPA (w : World) (p0 p1 p2 : Nat) : World := w.alloc (.cells #[.float .f32 p0, .float .f32 p1, .float .f32 p2] 25)

set_option maxHeartbeats 6400000 in
theorem walk_FnExactPullAt (a : Option Addr) (n cap : Nat) (f : Nat → Nat) (p0 p1 p2 x : Nat) (w : World) (hg : GoodBd w a n f) (k0 : p0 < 2 ^ 32) (k1 : p1 < 2 ^ 32) (k2 : p2 < 2 ^ 32) (kx : x < 2 ^ 32) :
    Calls Try.prog 3 #[.slice a n cap, vecV p0 p1 p2, .float .f32 x] w fun e w' => e = .returned (.bool true) ∧ Below w.heap.size w w' := by
  obtain ⟨hw, hm, h⟩ := hg
  by_cases hn : n ≤ 1048576
  · have hl : decide (1048576 - (n : Int) < 0) = false := by simp; omega
    have hi : ∀ i, i < 7 * n → Is .f32 (f i) (nrm .f32 (f i)) := fun i h => Is.self (hw i h)
    have H := Lib.hid (fun (W : World) (b : Below w.heap.size w W) => h.below b)
    have HI := Lib.hid hi
    have g0 := Is.self (k := .f32) k0
    have g1 := Is.self (k := .f32) k1
    have g2 := Is.self (k := .f32) k2
    have ic := Is.self (k := .f32) kx
    clear h hi hw
    have hst := run_store_float Try.prog
    have SP := fun (B : Nat) (W : World) (hr : W.rowIs B 43 (7 * n) (wordV f)) => sPullAt B 0 n n f (fun i => nrm .f32 (f i)) (three3 (nrm .f32 p0) (nrm .f32 p1) (nrm .f32 p2)) (nrm .f32 x) W hn hr.lt (rowCells hr) HI.out g0 g1 g2 ic
    have IP := fun (B : Nat) (W : World) (hr : W.rowIs B 43 (7 * n) (wordV f)) => iPullAt B 0 n n f (fun i => nrm .f32 (f i)) (three3 (nrm .f32 p0) (nrm .f32 p1) (nrm .f32 p2)) (nrm .f32 x) W hn hr.lt (rowCells hr) HI.out g0 g1 g2 ic
    generalize pulV (fun i => nrm .f32 (f i)) (three3 (nrm .f32 p0) (nrm .f32 p1) (nrm .f32 p2)) (nrm .f32 x) n 0 = v0 at SP IP
    generalize pulV (fun i => nrm .f32 (f i)) (three3 (nrm .f32 p0) (nrm .f32 p1) (nrm .f32 p2)) (nrm .f32 x) n 1 = v1 at SP IP
    generalize pulV (fun i => nrm .f32 (f i)) (three3 (nrm .f32 p0) (nrm .f32 p1) (nrm .f32 p2)) (nrm .f32 x) n 2 = v2 at SP IP
    generalize pulF (fun i => nrm .f32 (f i)) (three3 (nrm .f32 p0) (nrm .f32 p1) (nrm .f32 p2)) (nrm .f32 x) n = ok at SP IP
    clear g0 g1 g2 ic k0 k1 k2 kx
    have bS : Below w.heap.size w (stPA w p0 p1 p2) := (Below.refl _ _).alloc (Nat.le_refl _) _
    have hSs : (stPA w p0 p1 p2).heap.size = w.heap.size + 1 := by simp [stPA]
    have q0 : ∀ w', Below (w.heap.size + 1) (stPA w p0 p1 p2) w' → w'.cell? ⟨w.heap.size, 0, none⟩ = some (.float .f32 p0) := fun w' h => by rw [h.cell (by simp)]; simp [stPA]
    have q1 : ∀ w', Below (w.heap.size + 1) (stPA w p0 p1 p2) w' → w'.cell? ⟨w.heap.size, 1, none⟩ = some (.float .f32 p1) := fun w' h => by rw [h.cell (by simp)]; simp [stPA]
    have q2 : ∀ w', Below (w.heap.size + 1) (stPA w p0 p1 p2) w' → w'.cell? ⟨w.heap.size, 2, none⟩ = some (.float .f32 p2) := fun w' h => by rw [h.cell (by simp)]; simp [stPA]
    go_enter Try.func3, Try.ntmps3
    go_wp2_with (go_at_call 5; refine (szB _ _ _ _ hn).mono ?_; rintro eq wq ⟨rfl, rfl⟩)
    unfold RetVB at SP IP
    have hBS : w.heap.size + 1 ≤ (stPA w p0 p1 p2).heap.size := Nat.le_of_eq hSs.symm
    go_cut [8, 9] (fun s8 s9 wx => (∃ R c0 c1 c2, s8 = .pointer (some ⟨R, 0, none⟩) ∧ s9 = .bool ok ∧ VecIn wx R c0 c1 c2 ∧ Is .f32 c0 v0 ∧ Is .f32 c1 v1 ∧ Is .f32 c2 v2) ∧ Below (w.heap.size + 1) (stPA w p0 p1 p2) wx)
    case first =>
      (refine wp_region_held_drew (S := fun w' => Below (w.heap.size + 1) (stPA w p0 p1 p2) w') (by kernel_rfl) (Below.refl _ _).drew (fun hHeld => ?_))
      (refine wpTake (i := 0) (some 19) (v := ?_) rfl (by rfl) (by kernel_rfl) (by kernel_rfl) (by kernel_rfl) (fun _ _ _ h => h) (Or.inl ⟨by rfl, ?_⟩) (by assumption) ?_; rotate_left; (focus (intro w hSw; (try dsimp only at hSw); go_simp; (try with_reducible rfl))); (simp only [Act.put, List.setIfInBounds_toArray, List.set_cons_zero, List.set_cons_succ]))
      (refine wpTake (i := 2) (some 21) (v := ?_) rfl (by rfl) (by kernel_rfl) (by kernel_rfl) (by kernel_rfl) (fun _ _ _ h => h) (Or.inl ⟨by rfl, ?_⟩) (by assumption) ?_; rotate_left; (focus (intro w hSw; (try dsimp only at hSw); go_simp; (try with_reducible rfl))); (simp only [Act.put, List.setIfInBounds_toArray, List.set_cons_zero, List.set_cons_succ]))
      (refine wpTake (i := 4) (some 23) (v := ?_) rfl (by rfl) (by kernel_rfl) (by kernel_rfl) (by kernel_rfl) (fun _ _ _ h => h) (Or.inl ⟨by rfl, ?_⟩) (by assumption) ?_; rotate_left; (focus (intro w hSw; (try dsimp only at hSw); go_simp; (try with_reducible rfl))); (simp only [Act.put, List.setIfInBounds_toArray, List.set_cons_zero, List.set_cons_succ]))
      (refine wpAnyH_ready (rs := [1, 9]) (by kernel_rfl) (by simp) ?_; refine AllReadyH.cons rfl (fun K hK => ?_) (AllReadyH.cons rfl (fun K hK => ?_) AllReadyH.nil))
      · go_simp
        (go_at_call 7; refine Calls.mono (toB_any _ hn (H.out _ (bS.trans (hHeld.mono (by omega))))) ?_; rintro _ W1 ⟨rfl, hbs, r1⟩)
        (first | (replace r1 : W1.rowIs (w.heap.size + 1) 43 (7 * n) (wordV f) := (by simpa using r1)) | skip)
        (go_wp2_with fail; refine hK.out _ _ (keepW hHeld hbs hBS) (fun hHeld => ?_); clear hK K; (try simp only [Act.put, List.setIfInBounds_toArray, List.set_cons_zero, List.set_cons_succ]))
        (refine wpAnyH_ready (rs := [3, 9]) (by kernel_rfl) (by simp) ?_; refine AllReadyH.cons rfl (fun K hK => ?_) (AllReadyH.cons rfl (fun K hK => ?_) AllReadyH.nil))
        · go_simp
          (go_at_call 8; refine (toVec_any _).mono ?_; rintro _ W2 ⟨rfl, hbs⟩)
          replace r1 := rt r1 hbs.1
          (go_wp2_with fail; refine hK.out _ _ (keepW hHeld hbs.1 hBS) (fun hHeld => ?_); clear hK K; (try simp only [Act.put, List.setIfInBounds_toArray, List.set_cons_zero, List.set_cons_succ]))
          (refine wpAnyH_ready (rs := [5, 9]) (by kernel_rfl) (by simp) ?_; refine AllReadyH.cons rfl (fun K hK => ?_) (AllReadyH.cons rfl (fun K hK => ?_) AllReadyH.nil))
          · go_simp
            (go_at_call 6; ((with_reducible refine (SP _ _ r1).mono ?_)); rintro _ W3 ⟨⟨c0, c1, c2, rfl, i0, i1, i2⟩, hbs⟩)
            replace r1 := rt r1 hbs
            (go_wp2_with fail; refine hK.out _ _ (keepW hHeld hbs hBS) (fun hHeld => ?_); clear hK K; (try simp only [Act.put, List.setIfInBounds_toArray, List.set_cons_zero, List.set_cons_succ]))
            (refine wpTake (i := 6) (some 18) (v := ?_) rfl (by rfl) (by kernel_rfl) (by kernel_rfl) (by kernel_rfl) (fun _ _ _ h => h) (Or.inl ⟨by rfl, ?_⟩) (by assumption) ?_; rotate_left; (focus (intro w hSw; (try dsimp only at hSw); go_simp; (try with_reducible rfl))); (simp only [Act.put, List.setIfInBounds_toArray, List.set_cons_zero, List.set_cons_succ]))
            (refine wpTake (i := 7) (some 25) (v := ?_) rfl (by rfl) (by kernel_rfl) (by kernel_rfl) (by kernel_rfl) (fun _ _ _ h => h) (Or.inl ⟨by rfl, ?_⟩) (by assumption) ?_; rotate_left; (focus (intro w hSw; (try dsimp only at hSw); go_simp; (try with_reducible rfl))); (simp only [Act.put, List.setIfInBounds_toArray, List.set_cons_zero, List.set_cons_succ]))
            (refine wpTake (i := 8) (some 26) (v := ?_) rfl (by rfl) (by kernel_rfl) (by kernel_rfl) (by kernel_rfl) (fun _ _ _ h => h) (Or.inl ⟨by rfl, ?_⟩) (by assumption) ?_; rotate_left; (focus (intro w hSw; (try dsimp only at hSw); go_simp; (try with_reducible rfl))); (simp only [Act.put, List.setIfInBounds_toArray, List.set_cons_zero, List.set_cons_succ]))
            obtain ⟨hR, hA, hle⟩ := heldAlloc hHeld hBS (.float .f32 0) (.float .f32 0) (.float .f32 0) 27
            replace r1 := r1.alloc (.cells #[.float .f32 0, .float .f32 0, .float .f32 0] 27)
            (refine wpAnyH_ready (rs := [9]) (by kernel_rfl) (by simp) ?_; refine AllReadyH.cons rfl (fun K hK => ?_) AllReadyH.nil; go_simp)
            refine hK.out _ _ hA (fun hHeld => ?_)
            clear hK K hA
            (try simp only [Act.put, List.setIfInBounds_toArray, List.set_cons_zero, List.set_cons_succ])
            generalize hXA : World.alloc _ (.cells #[.float .f32 0, .float .f32 0, .float .f32 0] 27) = XA at hR hHeld r1 ⊢
            clear hXA
            have z0 := hR.cell (o := 0) (by decide)
            have z1 := hR.cell (o := 1) (by decide)
            have z2 := hR.cell (o := 2) (by decide)
            have zf := hR.frz
            (refine wpAnyH_ready (rs := [10]) (by kernel_rfl) (by simp) ?_; refine AllReadyH.cons rfl (fun K hK => ?_) AllReadyH.nil; go_simp)
            refine hK.out _ _ (((hHeld.setCell (by exact hle) _).setCell (by exact hle) _).setCell (by exact hle) _) (fun hHeld => ?_)
            clear hK K
            (try simp only [Act.put, List.setIfInBounds_toArray, List.set_cons_zero, List.set_cons_succ])
            (refine wpTake (i := 11) (some 9) (v := ?_) rfl (by rfl) (by kernel_rfl) (by kernel_rfl) (by kernel_rfl) (fun _ _ _ h => h) (Or.inl ⟨by rfl, ?_⟩) (by assumption) ?_; rotate_left; (focus (intro w hSw; (try dsimp only at hSw); go_simp; (try with_reducible rfl))); (simp only [Act.put, List.setIfInBounds_toArray, List.set_cons_zero, List.set_cons_succ]))
            (refine wpAnyH_done (by kernel_rfl) ?_ _)
            go_wp2_with fail
            go_meet
            exact ⟨⟨_, _, _, _, rfl, rfl, vec_put hR _ _ _, i0, i1, i2⟩, hHeld⟩
          · obtain ⟨hR, hA, hle⟩ := heldAlloc hHeld hBS (.float .f32 0) (.float .f32 0) (.float .f32 0) 27
            replace r1 := r1.alloc (.cells #[.float .f32 0, .float .f32 0, .float .f32 0] 27)
            go_simp
            refine hK.out _ _ hA (fun hHeld => ?_)
            clear hK K hA
            (try simp only [Act.put, List.setIfInBounds_toArray, List.set_cons_zero, List.set_cons_succ])
            generalize hXA : World.alloc _ (.cells #[.float .f32 0, .float .f32 0, .float .f32 0] 27) = XA at hR hHeld r1 ⊢
            clear hXA
            (refine wpAnyH_ready (rs := [5]) (by kernel_rfl) (by simp) ?_; refine AllReadyH.cons rfl (fun K hK => ?_) AllReadyH.nil; go_simp)
            (go_at_call 6; ((with_reducible refine (SP _ _ r1).mono ?_)); rintro _ W3 ⟨⟨c0, c1, c2, rfl, i0, i1, i2⟩, hbs⟩)
            replace r1 := rt r1 hbs
            replace hR := hR.at hbs
            (go_wp2_with fail; refine hK.out _ _ (keepW hHeld hbs hBS) (fun hHeld => ?_); clear hK K; (try simp only [Act.put, List.setIfInBounds_toArray, List.set_cons_zero, List.set_cons_succ]))
            (refine wpTake (i := 6) (some 18) (v := ?_) rfl (by rfl) (by kernel_rfl) (by kernel_rfl) (by kernel_rfl) (fun _ _ _ h => h) (Or.inl ⟨by rfl, ?_⟩) (by assumption) ?_; rotate_left; (focus (intro w hSw; (try dsimp only at hSw); go_simp; (try with_reducible rfl))); (simp only [Act.put, List.setIfInBounds_toArray, List.set_cons_zero, List.set_cons_succ]))
            (refine wpTake (i := 7) (some 25) (v := ?_) rfl (by rfl) (by kernel_rfl) (by kernel_rfl) (by kernel_rfl) (fun _ _ _ h => h) (Or.inl ⟨by rfl, ?_⟩) (by assumption) ?_; rotate_left; (focus (intro w hSw; (try dsimp only at hSw); go_simp; (try with_reducible rfl))); (simp only [Act.put, List.setIfInBounds_toArray, List.set_cons_zero, List.set_cons_succ]))
            (refine wpTake (i := 8) (some 26) (v := ?_) rfl (by rfl) (by kernel_rfl) (by kernel_rfl) (by kernel_rfl) (fun _ _ _ h => h) (Or.inl ⟨by rfl, ?_⟩) (by assumption) ?_; rotate_left; (focus (intro w hSw; (try dsimp only at hSw); go_simp; (try with_reducible rfl))); (simp only [Act.put, List.setIfInBounds_toArray, List.set_cons_zero, List.set_cons_succ]))
            have z0 := hR.cell (o := 0) (by decide)
            have z1 := hR.cell (o := 1) (by decide)
            have z2 := hR.cell (o := 2) (by decide)
            have zf := hR.frz
            (refine wpAnyH_ready (rs := [10]) (by kernel_rfl) (by simp) ?_; refine AllReadyH.cons rfl (fun K hK => ?_) AllReadyH.nil; go_simp)
            refine hK.out _ _ (((hHeld.setCell (by exact hle) _).setCell (by exact hle) _).setCell (by exact hle) _) (fun hHeld => ?_)
            clear hK K
            (try simp only [Act.put, List.setIfInBounds_toArray, List.set_cons_zero, List.set_cons_succ])
            (refine wpTake (i := 11) (some 9) (v := ?_) rfl (by rfl) (by kernel_rfl) (by kernel_rfl) (by kernel_rfl) (fun _ _ _ h => h) (Or.inl ⟨by rfl, ?_⟩) (by assumption) ?_; rotate_left; (focus (intro w hSw; (try dsimp only at hSw); go_simp; (try with_reducible rfl))); (simp only [Act.put, List.setIfInBounds_toArray, List.set_cons_zero, List.set_cons_succ]))
            (refine wpAnyH_done (by kernel_rfl) ?_ _)
            go_wp2_with fail
            go_meet
            exact ⟨⟨_, _, _, _, rfl, rfl, vec_put hR _ _ _, i0, i1, i2⟩, hHeld⟩
        · obtain ⟨hR, hA, hle⟩ := heldAlloc hHeld hBS (.float .f32 0) (.float .f32 0) (.float .f32 0) 27
          replace r1 := r1.alloc (.cells #[.float .f32 0, .float .f32 0, .float .f32 0] 27)
          go_simp
          refine hK.out _ _ hA (fun hHeld => ?_)
          clear hK K hA
          (try simp only [Act.put, List.setIfInBounds_toArray, List.set_cons_zero, List.set_cons_succ])
          generalize hXA : World.alloc _ (.cells #[.float .f32 0, .float .f32 0, .float .f32 0] 27) = XA at hR hHeld r1 ⊢
          clear hXA
          (refine wpAnyH_ready (rs := [3]) (by kernel_rfl) (by simp) ?_; refine AllReadyH.cons rfl (fun K hK => ?_) AllReadyH.nil; go_simp)
          (go_at_call 8; refine (toVec_any _).mono ?_; rintro _ W2 ⟨rfl, hbs⟩)
          replace r1 := rt r1 hbs.1
          replace hR := hR.at hbs.1
          (go_wp2_with fail; refine hK.out _ _ (keepW hHeld hbs.1 hBS) (fun hHeld => ?_); clear hK K; (try simp only [Act.put, List.setIfInBounds_toArray, List.set_cons_zero, List.set_cons_succ]))
          (refine wpAnyH_ready (rs := [5]) (by kernel_rfl) (by simp) ?_; refine AllReadyH.cons rfl (fun K hK => ?_) AllReadyH.nil; go_simp)
          (go_at_call 6; ((with_reducible refine (SP _ _ r1).mono ?_)); rintro _ W3 ⟨⟨c0, c1, c2, rfl, i0, i1, i2⟩, hbs⟩)
          replace r1 := rt r1 hbs
          replace hR := hR.at hbs
          (go_wp2_with fail; refine hK.out _ _ (keepW hHeld hbs hBS) (fun hHeld => ?_); clear hK K; (try simp only [Act.put, List.setIfInBounds_toArray, List.set_cons_zero, List.set_cons_succ]))
          (refine wpTake (i := 6) (some 18) (v := ?_) rfl (by rfl) (by kernel_rfl) (by kernel_rfl) (by kernel_rfl) (fun _ _ _ h => h) (Or.inl ⟨by rfl, ?_⟩) (by assumption) ?_; rotate_left; (focus (intro w hSw; (try dsimp only at hSw); go_simp; (try with_reducible rfl))); (simp only [Act.put, List.setIfInBounds_toArray, List.set_cons_zero, List.set_cons_succ]))
          (refine wpTake (i := 7) (some 25) (v := ?_) rfl (by rfl) (by kernel_rfl) (by kernel_rfl) (by kernel_rfl) (fun _ _ _ h => h) (Or.inl ⟨by rfl, ?_⟩) (by assumption) ?_; rotate_left; (focus (intro w hSw; (try dsimp only at hSw); go_simp; (try with_reducible rfl))); (simp only [Act.put, List.setIfInBounds_toArray, List.set_cons_zero, List.set_cons_succ]))
          (refine wpTake (i := 8) (some 26) (v := ?_) rfl (by rfl) (by kernel_rfl) (by kernel_rfl) (by kernel_rfl) (fun _ _ _ h => h) (Or.inl ⟨by rfl, ?_⟩) (by assumption) ?_; rotate_left; (focus (intro w hSw; (try dsimp only at hSw); go_simp; (try with_reducible rfl))); (simp only [Act.put, List.setIfInBounds_toArray, List.set_cons_zero, List.set_cons_succ]))
          have z0 := hR.cell (o := 0) (by decide)
          have z1 := hR.cell (o := 1) (by decide)
          have z2 := hR.cell (o := 2) (by decide)
          have zf := hR.frz
          (refine wpAnyH_ready (rs := [10]) (by kernel_rfl) (by simp) ?_; refine AllReadyH.cons rfl (fun K hK => ?_) AllReadyH.nil; go_simp)
          refine hK.out _ _ (((hHeld.setCell (by exact hle) _).setCell (by exact hle) _).setCell (by exact hle) _) (fun hHeld => ?_)
          clear hK K
          (try simp only [Act.put, List.setIfInBounds_toArray, List.set_cons_zero, List.set_cons_succ])
          (refine wpTake (i := 11) (some 9) (v := ?_) rfl (by rfl) (by kernel_rfl) (by kernel_rfl) (by kernel_rfl) (fun _ _ _ h => h) (Or.inl ⟨by rfl, ?_⟩) (by assumption) ?_; rotate_left; (focus (intro w hSw; (try dsimp only at hSw); go_simp; (try with_reducible rfl))); (simp only [Act.put, List.setIfInBounds_toArray, List.set_cons_zero, List.set_cons_succ]))
          (refine wpAnyH_done (by kernel_rfl) ?_ _)
          go_wp2_with fail
          go_meet
          exact ⟨⟨_, _, _, _, rfl, rfl, vec_put hR _ _ _, i0, i1, i2⟩, hHeld⟩
      · obtain ⟨hR, hA, hle⟩ := heldAlloc hHeld hBS (.float .f32 0) (.float .f32 0) (.float .f32 0) 27
        go_simp
        refine hK.out _ _ hA (fun hHeld => ?_)
        clear hK K hA
        (try simp only [Act.put, List.setIfInBounds_toArray, List.set_cons_zero, List.set_cons_succ])
        obtain ⟨XA, hXA, hR, hHeld⟩ := hasAs hHeld hR
        rw [← hXA]
        clear hXA
        replace hR : Has (w.heap.size + 1) 3 XA := (by simpa [stPA] using hR)
        replace hle : w.heap.size + 1 ≤ w.heap.size + 1 := Nat.le_refl _
        (refine wpAnyH_ready (rs := [1]) (by kernel_rfl) (by simp) ?_; refine AllReadyH.cons rfl (fun K hK => ?_) AllReadyH.nil; go_simp)
        (go_at_call 7; refine Calls.mono (toB_any _ hn (H.out _ (bS.trans (hHeld.mono (by omega))))) ?_; rintro _ W1 ⟨rfl, hbs, r1⟩)
        (first | (replace r1 : W1.rowIs (w.heap.size + 1) 43 (7 * n) (wordV f) := (by simpa using r1)) | skip)
        replace hR := hR.at hbs
        (go_wp2_with fail; refine hK.out _ _ (keepW hHeld hbs hBS) (fun hHeld => ?_); clear hK K; (try simp only [Act.put, List.setIfInBounds_toArray, List.set_cons_zero, List.set_cons_succ]))
        (refine wpAnyH_ready (rs := [3]) (by kernel_rfl) (by simp) ?_; refine AllReadyH.cons rfl (fun K hK => ?_) AllReadyH.nil; go_simp)
        (go_at_call 8; refine (toVec_any _).mono ?_; rintro _ W2 ⟨rfl, hbs⟩)
        replace r1 := rt r1 hbs.1
        replace hR := hR.at hbs.1
        (go_wp2_with fail; refine hK.out _ _ (keepW hHeld hbs.1 hBS) (fun hHeld => ?_); clear hK K; (try simp only [Act.put, List.setIfInBounds_toArray, List.set_cons_zero, List.set_cons_succ]))
        (refine wpAnyH_ready (rs := [5]) (by kernel_rfl) (by simp) ?_; refine AllReadyH.cons rfl (fun K hK => ?_) AllReadyH.nil; go_simp)
        (go_at_call 6; ((with_reducible refine (SP _ _ r1).mono ?_)); rintro _ W3 ⟨⟨c0, c1, c2, rfl, i0, i1, i2⟩, hbs⟩)
        replace r1 := rt r1 hbs
        replace hR := hR.at hbs
        (go_wp2_with fail; refine hK.out _ _ (keepW hHeld hbs hBS) (fun hHeld => ?_); clear hK K; (try simp only [Act.put, List.setIfInBounds_toArray, List.set_cons_zero, List.set_cons_succ]))
        (refine wpTake (i := 6) (some 18) (v := ?_) rfl (by rfl) (by kernel_rfl) (by kernel_rfl) (by kernel_rfl) (fun _ _ _ h => h) (Or.inl ⟨by rfl, ?_⟩) (by assumption) ?_; rotate_left; (focus (intro w hSw; (try dsimp only at hSw); go_simp; (try with_reducible rfl))); (simp only [Act.put, List.setIfInBounds_toArray, List.set_cons_zero, List.set_cons_succ]))
        (refine wpTake (i := 7) (some 25) (v := ?_) rfl (by rfl) (by kernel_rfl) (by kernel_rfl) (by kernel_rfl) (fun _ _ _ h => h) (Or.inl ⟨by rfl, ?_⟩) (by assumption) ?_; rotate_left; (focus (intro w hSw; (try dsimp only at hSw); go_simp; (try with_reducible rfl))); (simp only [Act.put, List.setIfInBounds_toArray, List.set_cons_zero, List.set_cons_succ]))
        (refine wpTake (i := 8) (some 26) (v := ?_) rfl (by rfl) (by kernel_rfl) (by kernel_rfl) (by kernel_rfl) (fun _ _ _ h => h) (Or.inl ⟨by rfl, ?_⟩) (by assumption) ?_; rotate_left; (focus (intro w hSw; (try dsimp only at hSw); go_simp; (try with_reducible rfl))); (simp only [Act.put, List.setIfInBounds_toArray, List.set_cons_zero, List.set_cons_succ]))
        have z0 := hR.cell (o := 0) (by decide)
        have z1 := hR.cell (o := 1) (by decide)
        have z2 := hR.cell (o := 2) (by decide)
        have zf := hR.frz
        (refine wpAnyH_ready (rs := [10]) (by kernel_rfl) (by simp) ?_; refine AllReadyH.cons rfl (fun K hK => ?_) AllReadyH.nil; go_simp)
        refine hK.out _ _ (((hHeld.setCell (by exact hle) _).setCell (by exact hle) _).setCell (by exact hle) _) (fun hHeld => ?_)
        clear hK K
        (try simp only [Act.put, List.setIfInBounds_toArray, List.set_cons_zero, List.set_cons_succ])
        (refine wpTake (i := 11) (some 9) (v := ?_) rfl (by rfl) (by kernel_rfl) (by kernel_rfl) (by kernel_rfl) (fun _ _ _ h => h) (Or.inl ⟨by rfl, ?_⟩) (by assumption) ?_; rotate_left; (focus (intro w hSw; (try dsimp only at hSw); go_simp; (try with_reducible rfl))); (simp only [Act.put, List.setIfInBounds_toArray, List.set_cons_zero, List.set_cons_succ]))
        (refine wpAnyH_done (by kernel_rfl) ?_ _)
        go_wp2_with fail
        go_meet
        exact ⟨⟨_, _, _, _, rfl, rfl, vec_put hR _ _ _, i0, i1, i2⟩, hHeld⟩
    case rest =>
      obtain ⟨⟨R, c0, c1, c2, rfl, rfl, hV, i0, i1, i2⟩, hX⟩ := hcut
      obtain ⟨X, rfl⟩ : ∃ X, X = wc := ⟨wc, rfl⟩
      have bX : Below w.heap.size w X := bS.trans (hX.mono (by omega))
      go_wp2_with fail
      (go_at_call 7; refine Calls.mono (toB_any _ hn (H.out _ bX)) ?_; rintro _ Y ⟨rfl, b4, r4⟩)
      have hV4 := hV.at b4
      have hXY : Below (w.heap.size + 1) (stPA w p0 p1 p2) Y := hX.trans (b4.mono (by have := hX.size; omega))
      have bY : Below w.heap.size w Y := bX.trans (b4.mono bX.size)
      have hYs : w.heap.size + 1 ≤ Y.heap.size := by have := hXY.size; omega
      have q0' : ∀ w', Below Y.heap.size Y w' → w'.cell? ⟨w.heap.size, 0, none⟩ = some (.float .f32 p0) := fun w' h => q0 w' (hXY.trans (h.mono hYs))
      have q1' : ∀ w', Below Y.heap.size Y w' → w'.cell? ⟨w.heap.size, 1, none⟩ = some (.float .f32 p1) := fun w' h => q1 w' (hXY.trans (h.mono hYs))
      have q2' : ∀ w', Below Y.heap.size Y w' → w'.cell? ⟨w.heap.size, 2, none⟩ = some (.float .f32 p2) := fun w' h => q2 w' (hXY.trans (h.mono hYs))
      have hBS2 : Y.heap.size ≤ Y.heap.size := Nat.le_refl _
      generalize hD : X.heap.size = D at r4 ⊢
      clear q0 q1 q2 hX hV b4 hBS SP hD
      have r1 := r4
      have e0 := q0' Y (Below.refl _ _)
      have e1 := q1' Y (Below.refl _ _)
      have e2 := q2' Y (Below.refl _ _)
      clear q0' q1' q2'
      go_wp2_with fail
      (go_at_call 8; refine (toVec_any _).mono ?_; rintro _ W2 ⟨rfl, hbs⟩)
      replace r1 := rt r1 hbs.1
      have hW2 : Below Y.heap.size Y W2 := hbs.1
      go_wp2_with fail
      (go_at_call 9; ((with_reducible refine (IP _ _ r1).mono ?_)); rintro _ W3 ⟨⟨d0, d1, d2, rfl, j0, j1, j2⟩, hb3⟩)
      have hZ : Below Y.heap.size Y W3 := hW2.trans (hb3.mono hW2.size)
      have hZA : Below Y.heap.size Y (W3.alloc (.cells #[.float .f32 d0, .float .f32 d1, .float .f32 d2] 27)) := hZ.alloc hZ.size _
      have hV5 := hV4.at hZA
      obtain ⟨-, t0, t1, t2⟩ := hV5
      have r5 := rt r4 hZA
      have bZ := bY.trans (hZA.mono bY.size)
      clear r1 r4 hV4 hZ hZA IP e0 e1 e2
      go_wp2_with fail
      (go_at_call 10; refine (eqV_any j0 j1 j2 i0 i1 i2 _).mono ?_; rintro _ W6 ⟨rfl, b6⟩)
      replace r5 := rt r5 b6.1
      have bW6 := bZ.trans (b6.1.mono bZ.size)
      go_wp2_with fail
      (go_at_call 7; refine Calls.mono (toB_any _ hn (H.out _ bW6)) ?_; rintro _ W7 ⟨rfl, b7, r7⟩)
      replace r5 := rt r5 b7
      have bW7 := bW6.trans (b7.mono bW6.size)
      go_wp2_with fail
      (go_at_call 11; refine (eqRow hn r5 r7 HI.out HI.out).mono ?_; rintro _ W8 ⟨rfl, b8⟩)
      go_wp2_with fail
      go_ret
      exact ⟨rfl, bW7.trans (b8.mono bW7.size)⟩
  · have hl : 1048576 < n := by omega
    clear h hw
    go_enter Try.func3, Try.ntmps3
    go_wp2_with (go_at_call 5; refine (szB_out _ _ _ _ hl hm).mono ?_; rintro eq wq ⟨rfl, rfl⟩)
    go_ret
    exact ⟨rfl, by repeat' (first | with_reducible exact Below.refl _ _ | with_reducible assumption | (with_reducible refine Below.setCell ?_ (by first | omega | (simp; done) | (simp; omega)) _) | (with_reducible refine Below.alloc ?_ (by first | omega | (simp; done) | (simp; omega)) _) | (with_reducible refine below_drewN ?_ _) | (with_reducible refine Below.drew ?_) | (with_reducible refine Below.trans ?_ (Below.mono (by first | (with_reducible assumption) | exact Grow.below (by assumption)) (by first | omega | (simp; done) | (simp; omega)))))⟩
end Go.Proofs.Ytmljacpmmnngkaa
