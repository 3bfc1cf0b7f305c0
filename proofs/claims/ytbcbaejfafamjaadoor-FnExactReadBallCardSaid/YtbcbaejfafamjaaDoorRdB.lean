/-
  A ball with a text: for every text the law returns true, and writes nothing that was there. Conditions: as for lists of numbers.
-/
import Derived.Test.YtbcbaejfafamjaaDoorSom
import Derived.Test.YtbcbaejfafamjaaDoorBal
namespace Go.Proofs.YtbcbaejfafamjaaDoor
open Go.RowKit

/-- Whether a text has the numbers of a ball. -/
def okRB (s : ByteArray) : Bool := someB s 4 && balB (nrm .f32 ((valsN s).getD 0 0)) (nrm .f32 ((valsN s).getD 1 0)) (nrm .f32 ((valsN s).getD 2 0)) (nrm .f32 ((valsN s).getD 3 0))
def cRB (s : ByteArray) (i : Nat) : Nat := if okRB s then (valsN s).getD i 0 else 0
def RetRB (s : ByteArray) (w : World) (e : Ending) (w' : World) : Prop :=
  e = .returned (.tuple #[balV (cRB s 0) (cRB s 1) (cRB s 2) (cRB s 3), .bool (okRB s)]) ∧ Below w.heap.size w w'
theorem okRB_no {s : ByteArray} (h : okRB s = false) (w : World) : RetRB s w = fun e w' => e = .returned (.tuple #[balV 0 0 0 0, .bool false]) ∧ Below w.heap.size w w' := by
  have h0 : ∀ i, cRB s i = 0 := fun i => by unfold cRB; rw [h]; rfl
  funext e w'
  unfold RetRB
  rw [h0 0, h0 1, h0 2, h0 3, h]
theorem okRB_some {s : ByteArray} (h : someB s 4 = false) : okRB s = false := by unfold okRB; rw [h]; rfl
theorem okRB_is {s : ByteArray} (h : someB s 4 = true) : ∃ a b c d, valsN s = [a, b, c, d] ∧ a < 2 ^ 32 ∧ b < 2 ^ 32 ∧ c < 2 ^ 32 ∧ d < 2 ^ 32 ∧ okRB s = balB (nrm .f32 a) (nrm .f32 b) (nrm .f32 c) (nrm .f32 d) ∧ (okRB s = true → ∀ w, RetRB s w = fun e w' => e = .returned (.tuple #[balV a b c d, .bool true]) ∧ Below w.heap.size w w') := by
  obtain ⟨-, h3⟩ := someV_t h
  have hlt := vals_lt s
  have he : okRB s = (someB s 4 && balB (nrm .f32 ((valsN s).getD 0 0)) (nrm .f32 ((valsN s).getD 1 0)) (nrm .f32 ((valsN s).getD 2 0)) (nrm .f32 ((valsN s).getD 3 0))) := rfl
  have hc : okRB s = true → ∀ i, cRB s i = (valsN s).getD i 0 := fun e i => by unfold cRB; rw [e]; rfl
  rw [h] at he
  generalize valsN s = xs at h3 hlt he hc ⊢
  match xs, h3 with
  | [a, b, c, d], _ =>
    refine ⟨a, b, c, d, rfl, hlt _ (by simp), hlt _ (by simp), hlt _ (by simp), hlt _ (by simp), by rw [he]; rfl, fun e w => ?_⟩
    funext e' w'
    unfold RetRB
    rw [hc e 0, hc e 1, hc e 2, hc e 3, e]
    rfl
theorem cRB_lt (s : ByteArray) (i : Nat) : cRB s i < 2 ^ 32 := by
  unfold cRB
  split
  · rw [List.getD_eq_getElem?_getD]
    cases h : (valsN s)[i]? with
    | none => decide
    | some x => exact vals_lt s x (List.mem_of_getElem? h)
  · decide

set_option maxHeartbeats 3200000 in
theorem iRB (s : ByteArray) (hs : s.size ≤ 1048576) (w : World) (hL : LibM w) : Calls Tryd.prog 22 #[.string s] w (RetRB s w) := by
  have HC := fun (W : World) (hB : Below w.heap.size w W) => iSome 4 (by decide) s hs W (hL.stays hB)
  have hst := run_store_float Tryd.prog
  clear hL
  cases hV : someB s 4 with
  | false =>
    rw [hV, someV_f hV] at HC
    rw [okRB_no (okRB_some hV)]
    clear hV
    go_enter Tryd.func22, Tryd.ntmps22
    go_wp2_with (go_at_call 35; refine (HC _ ((Below.refl _ _).alloc (Nat.le_refl _) _)).mono ?_; rintro _ wq ⟨v, rfl, hr, hb⟩; have HQ := Lib.hid hb; obtain ⟨hc, hf⟩ := bcell hb; have hl : w.heap.size < wq.heap.size := (by have := hb.size; simp at this; omega); have HB := Lib.hid (((Below.refl w.heap.size w).alloc (Nat.le_refl _) _).trans (hb.mono (by simp))); obtain ⟨a, c, rfl⟩ := row_any hr; clear hr hb)
    have hB := HB.out
    refine bodyPost_ret (v := .tuple #[balV 0 0 0 0, .bool false]) (by simp [results, Tryd.results22, go_sem, hc, hl]) rfl ⟨rfl, ?_⟩
    repeat' (first | with_reducible exact Below.refl _ _ | with_reducible assumption | (with_reducible refine Below.setCell ?_ (by first | omega | (simp; done) | (simp; omega)) _) | (with_reducible refine Below.alloc ?_ (by first | omega | (simp; done) | (simp; omega)) _) | (with_reducible refine below_drewN ?_ _) | (with_reducible refine Below.drew ?_) | (with_reducible refine Below.trans ?_ (Below.mono (by first | (with_reducible assumption) | exact Grow.below (by assumption)) (by first | omega | (simp; done) | (simp; omega)))))
  | true =>
    obtain ⟨e1, -⟩ := someV_t hV
    obtain ⟨a, b, c, d, ex, ka, kb, kc, kd, eo, er⟩ := okRB_is hV
    rw [hV, e1, ex] at HC
    have HI := fun (W : World) => iBal (Is.self (k := .f32) ka) (Is.self (k := .f32) kb) (Is.self (k := .f32) kc) (Is.self (k := .f32) kd) W
    rw [← eo] at HI
    clear e1 ex eo ka kb kc kd hV
    cases ho : okRB s with
    | false =>
      rw [okRB_no ho]
      rw [ho] at HI
      clear er ho
      go_enter Tryd.func22, Tryd.ntmps22
      go_wp2_with (go_at_call 35; refine (HC _ ((Below.refl _ _).alloc (Nat.le_refl _) _)).mono ?_; rintro _ wq ⟨v, rfl, hr, hb⟩; have HQ := Lib.hid hb; obtain ⟨hc, hf⟩ := bcell hb; have hl : w.heap.size < wq.heap.size := (by have := hb.size; simp at this; omega); have HB := Lib.hid (((Below.refl w.heap.size w).alloc (Nat.le_refl _) _).trans (hb.mono (by simp)));  obtain ⟨g, cap, rfl, hg, hgl⟩ := hr.form (by simp); have k0 := row_cell hr (k := 0) rfl; have k1 := row_cell hr (k := 1) rfl; have k2 := row_cell hr (k := 2) rfl; have k3 := row_cell hr (k := 3) rfl; clear hr hb)
      go_region
      go_wp2_with (go_at_call 37; refine (HI _).mono ?_; rintro _ w5 ⟨rfl, hb5⟩; obtain ⟨hc5, hf5⟩ := bcell hb5; have hz5 := hb5.size; simp at hz5; have hl5 : wq.heap.size < w5.heap.size := (by omega); have y0 : w5.cell? ⟨wq.heap.size, 0, none⟩ = some (.float .f32 a) := (by rw [hc5 _ _ (by simp)]; first | done | simp); have y1 : w5.cell? ⟨wq.heap.size, 1, none⟩ = some (.float .f32 b) := (by rw [hc5 _ _ (by simp)]; first | done | simp); have y2 : w5.cell? ⟨wq.heap.size, 2, none⟩ = some (.float .f32 c) := (by rw [hc5 _ _ (by simp)]; first | done | simp); have y3 : w5.cell? ⟨wq.heap.size, 3, none⟩ = some (.float .f32 d) := (by rw [hc5 _ _ (by simp)]; first | done | simp); have hbb := HQ.out.trans ((((Below.refl wq.heap.size wq).alloc (Nat.le_refl _) _).drew.trans (hb5.mono (by simp))).mono HQ.out.size); obtain ⟨hc6, hf6⟩ := bcell hbb; have z0 : w5.cell? ⟨w.heap.size, 0, none⟩ = some (.float .f32 0) := (by rw [hc6 _ _ (by simp)]; first | done | simp); have z1 : w5.cell? ⟨w.heap.size, 1, none⟩ = some (.float .f32 0) := (by rw [hc6 _ _ (by simp)]; first | done | simp); have z2 : w5.cell? ⟨w.heap.size, 2, none⟩ = some (.float .f32 0) := (by rw [hc6 _ _ (by simp)]; first | done | simp); have z3 : w5.cell? ⟨w.heap.size, 3, none⟩ = some (.float .f32 0) := (by rw [hc6 _ _ (by simp)]; first | done | simp); have fz : ∀ o, w5.frozen? ⟨w.heap.size, o, none⟩ = false := (fun o => by rw [hf6 _ _ (by simp)]; first | done | simp); have HB5 := Lib.hid (((Below.refl w.heap.size w).alloc (Nat.le_refl _) _).trans (hbb.mono (by simp)) : Below w.heap.size w w5); clear hb5 hc5 hf5 hbb hc6 hf6)
      have hB := HB5.out
      refine bodyPost_ret (v := .tuple #[balV 0 0 0 0, .bool false]) (by simp [results, Tryd.results22, go_sem, z0, z1, z2, z3]) rfl ⟨rfl, ?_⟩
      repeat' (first | with_reducible exact Below.refl _ _ | with_reducible assumption | (with_reducible refine Below.setCell ?_ (by first | omega | (simp; done) | (simp; omega)) _) | (with_reducible refine Below.alloc ?_ (by first | omega | (simp; done) | (simp; omega)) _) | (with_reducible refine below_drewN ?_ _) | (with_reducible refine Below.drew ?_) | (with_reducible refine Below.trans ?_ (Below.mono (by first | (with_reducible assumption) | exact Grow.below (by assumption)) (by first | omega | (simp; done) | (simp; omega)))))
    | true =>
      rw [er ho]
      rw [ho] at HI
      clear er ho
      go_enter Tryd.func22, Tryd.ntmps22
      go_wp2_with (go_at_call 35; refine (HC _ ((Below.refl _ _).alloc (Nat.le_refl _) _)).mono ?_; rintro _ wq ⟨v, rfl, hr, hb⟩; have HQ := Lib.hid hb; obtain ⟨hc, hf⟩ := bcell hb; have hl : w.heap.size < wq.heap.size := (by have := hb.size; simp at this; omega); have HB := Lib.hid (((Below.refl w.heap.size w).alloc (Nat.le_refl _) _).trans (hb.mono (by simp)));  obtain ⟨g, cap, rfl, hg, hgl⟩ := hr.form (by simp); have k0 := row_cell hr (k := 0) rfl; have k1 := row_cell hr (k := 1) rfl; have k2 := row_cell hr (k := 2) rfl; have k3 := row_cell hr (k := 3) rfl; clear hr hb)
      go_region
      go_wp2_with (go_at_call 37; refine (HI _).mono ?_; rintro _ w5 ⟨rfl, hb5⟩; obtain ⟨hc5, hf5⟩ := bcell hb5; have hz5 := hb5.size; simp at hz5; have hl5 : wq.heap.size < w5.heap.size := (by omega); have y0 : w5.cell? ⟨wq.heap.size, 0, none⟩ = some (.float .f32 a) := (by rw [hc5 _ _ (by simp)]; first | done | simp); have y1 : w5.cell? ⟨wq.heap.size, 1, none⟩ = some (.float .f32 b) := (by rw [hc5 _ _ (by simp)]; first | done | simp); have y2 : w5.cell? ⟨wq.heap.size, 2, none⟩ = some (.float .f32 c) := (by rw [hc5 _ _ (by simp)]; first | done | simp); have y3 : w5.cell? ⟨wq.heap.size, 3, none⟩ = some (.float .f32 d) := (by rw [hc5 _ _ (by simp)]; first | done | simp); have hbb := HQ.out.trans ((((Below.refl wq.heap.size wq).alloc (Nat.le_refl _) _).drew.trans (hb5.mono (by simp))).mono HQ.out.size); obtain ⟨hc6, hf6⟩ := bcell hbb; have z0 : w5.cell? ⟨w.heap.size, 0, none⟩ = some (.float .f32 0) := (by rw [hc6 _ _ (by simp)]; first | done | simp); have z1 : w5.cell? ⟨w.heap.size, 1, none⟩ = some (.float .f32 0) := (by rw [hc6 _ _ (by simp)]; first | done | simp); have z2 : w5.cell? ⟨w.heap.size, 2, none⟩ = some (.float .f32 0) := (by rw [hc6 _ _ (by simp)]; first | done | simp); have z3 : w5.cell? ⟨w.heap.size, 3, none⟩ = some (.float .f32 0) := (by rw [hc6 _ _ (by simp)]; first | done | simp); have fz : ∀ o, w5.frozen? ⟨w.heap.size, o, none⟩ = false := (fun o => by rw [hf6 _ _ (by simp)]; first | done | simp); have HB5 := Lib.hid (((Below.refl w.heap.size w).alloc (Nat.le_refl _) _).trans (hbb.mono (by simp)) : Below w.heap.size w w5); clear hb5 hc5 hf5 hbb hc6 hf6)
      have hB := HB5.out
      refine bodyPost_ret (v := .tuple #[balV a b c d, .bool true]) (by simp [results, Tryd.results22, go_sem, z0, z1, z2, z3]) rfl ⟨rfl, ?_⟩
      repeat' (first | with_reducible exact Below.refl _ _ | with_reducible assumption | (with_reducible refine Below.setCell ?_ (by first | omega | (simp; done) | (simp; omega)) _) | (with_reducible refine Below.alloc ?_ (by first | omega | (simp; done) | (simp; omega)) _) | (with_reducible refine below_drewN ?_ _) | (with_reducible refine Below.drew ?_) | (with_reducible refine Below.trans ?_ (Below.mono (by first | (with_reducible assumption) | exact Grow.below (by assumption)) (by first | omega | (simp; done) | (simp; omega)))))

set_option maxHeartbeats 3200000 in
theorem sRB0 (s : ByteArray) (hs : s.size ≤ 1048576) (w : World) : Calls Tryd.prog 36 #[.string s] w (RetRB s w) := by
  have HC := fun (W : World) => specNRd s hs W
  have hst := run_store_float Tryd.prog
  cases hV : someB s 4 with
  | false =>
    rw [okRB_no (okRB_some hV)]
    have hx : okN s = false ∨ okN s = true ∧ (((valsN s).length : Int) != 4) = true := by
      unfold someB at hV
      cases ho : okN s with
      | false => exact .inl rfl
      | true => rw [ho] at hV; simp at hV; exact .inr ⟨rfl, by simp; omega⟩
    clear hV
    rcases hx with hx | ⟨hx, hl4⟩ <;> rw [hx] at HC <;> clear hx <;> generalize valsN s = xs at * <;>
      (go_enter Tryd.func36, Tryd.ntmps36
       go_wp2_with (go_at_call 30; refine (HC _).mono ?_; rintro _ wq ⟨v, rfl, hr, hb⟩; have HQ := Lib.hid hb; obtain ⟨hc, hf⟩ := bcell hb; have hl : w.heap.size < wq.heap.size := (by have := hb.size; simp at this; omega); have HB := Lib.hid (((Below.refl w.heap.size w).alloc (Nat.le_refl _) _).trans (hb.mono (by simp))); obtain ⟨a, c, rfl⟩ := row_any hr; clear hr hb)
       have hB := HB.out
       refine bodyPost_ret (v := .tuple #[balV 0 0 0 0, .bool false]) (by simp [results, Tryd.results36, go_sem, hc, hl]) rfl ⟨rfl, ?_⟩
       repeat' (first | with_reducible exact Below.refl _ _ | with_reducible assumption | (with_reducible refine Below.setCell ?_ (by first | omega | (simp; done) | (simp; omega)) _) | (with_reducible refine Below.alloc ?_ (by first | omega | (simp; done) | (simp; omega)) _) | (with_reducible refine below_drewN ?_ _) | (with_reducible refine Below.drew ?_) | (with_reducible refine Below.trans ?_ (Below.mono (by first | (with_reducible assumption) | exact Grow.below (by assumption)) (by first | omega | (simp; done) | (simp; omega))))))
  | true =>
    obtain ⟨e1, h4⟩ := someV_t hV
    obtain ⟨a, b, c, d, ex, ka, kb, kc, kd, eo, er⟩ := okRB_is hV
    have hx : okN s = true := by unfold someB at hV; simp only [Bool.and_eq_true] at hV; exact hV.1
    rw [hx, ex] at HC
    have HI := fun (B : Nat) (W : World) (hB : B < W.heap.size) c0 c1 c2 c3 => sBalP (Is.self (k := .f32) ka) (Is.self (k := .f32) kb) (Is.self (k := .f32) kc) (Is.self (k := .f32) kd) B 0 W hB c0 c1 c2 c3
    simp only [Nat.zero_add] at HI
    rw [← eo] at HI
    clear e1 ex eo ka kb kc kd hV h4 hx
    cases ho : okRB s with
    | false =>
      rw [okRB_no ho]
      rw [ho] at HI
      clear er ho
      go_enter Tryd.func36, Tryd.ntmps36
      go_wp2_with (go_at_call 30; refine (HC _).mono ?_; rintro _ wq ⟨v, rfl, hr, hb⟩; have HQ := Lib.hid hb; obtain ⟨hc, hf⟩ := bcell hb; have hl : w.heap.size < wq.heap.size := (by have := hb.size; simp at this; omega); have HB := Lib.hid (((Below.refl w.heap.size w).alloc (Nat.le_refl _) _).trans (hb.mono (by simp)));  obtain ⟨g, cap, rfl, hg, hgl⟩ := hr.form (by simp); have k0 := row_cell hr (k := 0) rfl; have k1 := row_cell hr (k := 1) rfl; have k2 := row_cell hr (k := 2) rfl; have k3 := row_cell hr (k := 3) rfl; clear hr hb)
      go_region
      go_wp2_with (go_at_call 51; refine (HI wq.heap.size _ (by simp) (by simp) (by simp) (by simp) (by simp)).mono ?_; rintro _ w5 ⟨rfl, hb5⟩; obtain ⟨hc5, hf5⟩ := bcell hb5; have hz5 := hb5.size; simp at hz5; have hl5 : wq.heap.size < w5.heap.size := (by omega); have y0 : w5.cell? ⟨wq.heap.size, 0, none⟩ = some (.float .f32 a) := (by rw [hc5 _ _ (by simp)]; first | done | simp); have y1 : w5.cell? ⟨wq.heap.size, 1, none⟩ = some (.float .f32 b) := (by rw [hc5 _ _ (by simp)]; first | done | simp); have y2 : w5.cell? ⟨wq.heap.size, 2, none⟩ = some (.float .f32 c) := (by rw [hc5 _ _ (by simp)]; first | done | simp); have y3 : w5.cell? ⟨wq.heap.size, 3, none⟩ = some (.float .f32 d) := (by rw [hc5 _ _ (by simp)]; first | done | simp); have hbb := HQ.out.trans ((((Below.refl wq.heap.size wq).alloc (Nat.le_refl _) _).drew.trans (hb5.mono (by simp))).mono HQ.out.size); obtain ⟨hc6, hf6⟩ := bcell hbb; have z0 : w5.cell? ⟨w.heap.size, 0, none⟩ = some (.float .f32 0) := (by rw [hc6 _ _ (by simp)]; first | done | simp); have z1 : w5.cell? ⟨w.heap.size, 1, none⟩ = some (.float .f32 0) := (by rw [hc6 _ _ (by simp)]; first | done | simp); have z2 : w5.cell? ⟨w.heap.size, 2, none⟩ = some (.float .f32 0) := (by rw [hc6 _ _ (by simp)]; first | done | simp); have z3 : w5.cell? ⟨w.heap.size, 3, none⟩ = some (.float .f32 0) := (by rw [hc6 _ _ (by simp)]; first | done | simp); have fz : ∀ o, w5.frozen? ⟨w.heap.size, o, none⟩ = false := (fun o => by rw [hf6 _ _ (by simp)]; first | done | simp); have HB5 := Lib.hid (((Below.refl w.heap.size w).alloc (Nat.le_refl _) _).trans (hbb.mono (by simp)) : Below w.heap.size w w5); clear hb5 hc5 hf5 hbb hc6 hf6)
      have hB := HB5.out
      refine bodyPost_ret (v := .tuple #[balV 0 0 0 0, .bool false]) (by simp [results, Tryd.results36, go_sem, z0, z1, z2, z3]) rfl ⟨rfl, ?_⟩
      repeat' (first | with_reducible exact Below.refl _ _ | with_reducible assumption | (with_reducible refine Below.setCell ?_ (by first | omega | (simp; done) | (simp; omega)) _) | (with_reducible refine Below.alloc ?_ (by first | omega | (simp; done) | (simp; omega)) _) | (with_reducible refine below_drewN ?_ _) | (with_reducible refine Below.drew ?_) | (with_reducible refine Below.trans ?_ (Below.mono (by first | (with_reducible assumption) | exact Grow.below (by assumption)) (by first | omega | (simp; done) | (simp; omega)))))
    | true =>
      rw [er ho]
      rw [ho] at HI
      clear er ho
      go_enter Tryd.func36, Tryd.ntmps36
      go_wp2_with (go_at_call 30; refine (HC _).mono ?_; rintro _ wq ⟨v, rfl, hr, hb⟩; have HQ := Lib.hid hb; obtain ⟨hc, hf⟩ := bcell hb; have hl : w.heap.size < wq.heap.size := (by have := hb.size; simp at this; omega); have HB := Lib.hid (((Below.refl w.heap.size w).alloc (Nat.le_refl _) _).trans (hb.mono (by simp)));  obtain ⟨g, cap, rfl, hg, hgl⟩ := hr.form (by simp); have k0 := row_cell hr (k := 0) rfl; have k1 := row_cell hr (k := 1) rfl; have k2 := row_cell hr (k := 2) rfl; have k3 := row_cell hr (k := 3) rfl; clear hr hb)
      go_region
      go_wp2_with (go_at_call 51; refine (HI wq.heap.size _ (by simp) (by simp) (by simp) (by simp) (by simp)).mono ?_; rintro _ w5 ⟨rfl, hb5⟩; obtain ⟨hc5, hf5⟩ := bcell hb5; have hz5 := hb5.size; simp at hz5; have hl5 : wq.heap.size < w5.heap.size := (by omega); have y0 : w5.cell? ⟨wq.heap.size, 0, none⟩ = some (.float .f32 a) := (by rw [hc5 _ _ (by simp)]; first | done | simp); have y1 : w5.cell? ⟨wq.heap.size, 1, none⟩ = some (.float .f32 b) := (by rw [hc5 _ _ (by simp)]; first | done | simp); have y2 : w5.cell? ⟨wq.heap.size, 2, none⟩ = some (.float .f32 c) := (by rw [hc5 _ _ (by simp)]; first | done | simp); have y3 : w5.cell? ⟨wq.heap.size, 3, none⟩ = some (.float .f32 d) := (by rw [hc5 _ _ (by simp)]; first | done | simp); have hbb := HQ.out.trans ((((Below.refl wq.heap.size wq).alloc (Nat.le_refl _) _).drew.trans (hb5.mono (by simp))).mono HQ.out.size); obtain ⟨hc6, hf6⟩ := bcell hbb; have z0 : w5.cell? ⟨w.heap.size, 0, none⟩ = some (.float .f32 0) := (by rw [hc6 _ _ (by simp)]; first | done | simp); have z1 : w5.cell? ⟨w.heap.size, 1, none⟩ = some (.float .f32 0) := (by rw [hc6 _ _ (by simp)]; first | done | simp); have z2 : w5.cell? ⟨w.heap.size, 2, none⟩ = some (.float .f32 0) := (by rw [hc6 _ _ (by simp)]; first | done | simp); have z3 : w5.cell? ⟨w.heap.size, 3, none⟩ = some (.float .f32 0) := (by rw [hc6 _ _ (by simp)]; first | done | simp); have fz : ∀ o, w5.frozen? ⟨w.heap.size, o, none⟩ = false := (fun o => by rw [hf6 _ _ (by simp)]; first | done | simp); have HB5 := Lib.hid (((Below.refl w.heap.size w).alloc (Nat.le_refl _) _).trans (hbb.mono (by simp)) : Below w.heap.size w w5); clear hb5 hc5 hf5 hbb hc6 hf6)
      have hB := HB5.out
      refine bodyPost_ret (v := .tuple #[balV a b c d, .bool true]) (by simp [results, Tryd.results36, go_sem, z0, z1, z2, z3]) rfl ⟨rfl, ?_⟩
      repeat' (first | with_reducible exact Below.refl _ _ | with_reducible assumption | (with_reducible refine Below.setCell ?_ (by first | omega | (simp; done) | (simp; omega)) _) | (with_reducible refine Below.alloc ?_ (by first | omega | (simp; done) | (simp; omega)) _) | (with_reducible refine below_drewN ?_ _) | (with_reducible refine Below.drew ?_) | (with_reducible refine Below.trans ?_ (Below.mono (by first | (with_reducible assumption) | exact Grow.below (by assumption)) (by first | omega | (simp; done) | (simp; omega)))))

theorem sRB (s : ByteArray) (hs : s.size ≤ 1048576) (w : World) : Calls Tryd.prog 21 #[.string s] w (RetRB s w) := by
  have hst := run_store_float Tryd.prog
  go_enter Tryd.func21, Tryd.ntmps21
  go_wp2_with (go_at_call 36; refine (sRB0 s hs _).mono ?_; rintro _ wq ⟨rfl, hb⟩; obtain ⟨hc, hf⟩ := bcell hb; have hl : w.heap.size ≤ wq.heap.size := (by have := hb.size; simp at this; omega))
  have hB : Below w.heap.size w wq := ((Below.refl w.heap.size w).alloc (Nat.le_refl _) _).trans (hb.mono (by simp))
  refine bodyPost_ret (v := .tuple #[balV (cRB s 0) (cRB s 1) (cRB s 2) (cRB s 3), .bool (okRB s)]) (by simp [results, Tryd.results21, go_sem, hc]) rfl ⟨rfl, ?_⟩
  repeat' (first | with_reducible exact Below.refl _ _ | with_reducible assumption | (with_reducible refine Below.setCell ?_ (by first | omega | (simp; done) | (simp; omega)) _) | (with_reducible refine Below.alloc ?_ (by first | omega | (simp; done) | (simp; omega)) _) | (with_reducible refine below_drewN ?_ _) | (with_reducible refine Below.drew ?_) | (with_reducible refine Below.trans ?_ (Below.mono (by first | (with_reducible assumption) | exact Grow.below (by assumption)) (by first | omega | (simp; done) | (simp; omega)))))

theorem eqBal_any {a0 a1 a2 a3 b0 b1 b2 b3 : Nat} {x0 x1 x2 x3 : Option Nat} (h0 : Is .f32 a0 x0) (h1 : Is .f32 a1 x1) (h2 : Is .f32 a2 x2) (h3 : Is .f32 a3 x3) (g0 : Is .f32 b0 x0) (g1 : Is .f32 b1 x1) (g2 : Is .f32 b2 x2) (g3 : Is .f32 b3 x3) (w : World) :
    Calls Tryd.prog 23 #[balV a0 a1 a2 a3, balV b0 b1 b2 b3] w fun e w' => e = .returned (.bool true) ∧ Below w.heap.size w w' := by
  go_enter Tryd.func23, Tryd.ntmps23
  go_wp2_with (first | (apply wpList_wide und32 Tryd.underlying54; rfl; rfl; (first | assumption | exact is_lit64 _ (by decide) | exact is_lit32 _ (by decide)); intro Kq hKq rq nq hq; go_simp) | (go_at_call 33; refine (sameFloat_any (by assumption) (by assumption) _).mono ?_; rintro eq wq ⟨nq, rfl, rfl⟩))
  go_ret
  refine ⟨rfl, ?_⟩
  repeat' (first | with_reducible exact Below.refl _ _ | with_reducible assumption | (with_reducible refine Below.setCell ?_ (by first | omega | (simp; done) | (simp; omega)) _) | (with_reducible refine Below.alloc ?_ (by first | omega | (simp; done) | (simp; omega)) _) | (with_reducible refine below_drewN ?_ _) | (with_reducible refine Below.drew ?_) | (with_reducible refine Below.trans ?_ (Below.mono (by first | (with_reducible assumption) | exact Grow.below (by assumption)) (by first | omega | (simp; done) | (simp; omega)))))

set_option maxHeartbeats 1600000 in
theorem walk_FnExactReadBall (s : ByteArray) (w : World) (_hw : s.size ≤ maxLen) (hLL : laidMetH Tryd.prog Rows.fnExactReadBallRow.laid w) (hsh : w.ShapedOpen Tryd.prog) :
    Calls Tryd.prog 6 #[.string s] w fun e w' => e = .returned (.bool true) ∧ Below w.heap.size w w' := by
  have hL : LibM w := ⟨lib_of_laidN (a := ("math/bits.deBruijn32tab", Rows.laid_math_bits_deBruijn32tab)) (b := ("internal/strconv.uint64pow10", Rows.laid_internal_strconv_uint64pow10)) (c := ("unicode/utf8.acceptRanges", Rows.laid_unicode_utf8_acceptRanges)) (rest := [("unicode/utf8.first", Rows.laid_unicode_utf8_first)]) (by rw [MakeChecks.laidMetH_plain _ _ _ (by kernel_rfl)]) rfl hLL,
    cell_of_shapedOpen_int (zero := #[.int .i64 0]) (t := 3) hsh (of_decide_eq_true (by kernel_rfl)) (by kernel_rfl) rfl (by kernel_rfl) (by kernel_rfl) Tryd.underlying3⟩
  clear hLL hsh _hw
  by_cases hs : s.size ≤ 1048576
  · have hn' : decide (1048576 < ((s.size : Nat) : Int)) = false := by simp; omega
    have HS := fun w => sRB s hs w
    have HI := fun (w' : World) (hb : Below w.heap.size w w') => iRB s hs w' (hL.stays hb)
    have i0 := Is.self (k := .f32) (b := cRB s 0) (cRB_lt s 0)
    have i1 := Is.self (k := .f32) (b := cRB s 1) (cRB_lt s 1)
    have i2 := Is.self (k := .f32) (b := cRB s 2) (cRB_lt s 2)
    have i3 := Is.self (k := .f32) (b := cRB s 3) (cRB_lt s 3)
    unfold RetRB at HS HI
    generalize cRB s 0 = a at HS HI i0
    generalize cRB s 1 = b at HS HI i1
    generalize cRB s 2 = c at HS HI i2
    generalize cRB s 3 = d at HS HI i3
    generalize okRB s = ok at HS HI
    clear hL
    have hst := run_store_float Tryd.prog
    go_enter Tryd.func6, Tryd.ntmps6
    go_wp2_with (go_at_call 21; refine (HS _).mono ?_; rintro _ w1 ⟨rfl, hb0⟩; have B0 := Lib.hid hb0; have z0 := hb0.size; clear hb0)
    have A0 : Below w.heap.size w (w1.alloc (.cells #[.float .f32 a, .float .f32 b, .float .f32 c, .float .f32 d] 40)) := B0.out.alloc z0 _
    refine (HI _ A0).mono ?_
    rintro _ w2 ⟨rfl, hb1⟩
    obtain ⟨hc, hf⟩ := bcell hb1
    have hl : w1.heap.size < w2.heap.size := (by have := hb1.size; simp at this; omega)
    have hn : ¬ w1.heap.size = w2.heap.size := by omega
    have B1 := Lib.hid (A0.trans (hb1.mono A0.size))
    clear hb1 A0
    go_wp2_with (go_at_call 23; refine (eqBal_any i0 i1 i2 i3 i0 i1 i2 i3 _).mono ?_; rintro _ w3 ⟨rfl, hb2⟩)
    go_ret
    have B2 := B1.out.alloc B1.out.size (.cells #[.float .f32 a, .float .f32 b, .float .f32 c, .float .f32 d] 40)
    exact ⟨rfl, B2.trans (hb2.mono B2.size)⟩
  · have hn' : decide (1048576 < ((s.size : Nat) : Int)) = true := by simp; omega
    clear hL
    go_enter Tryd.func6, Tryd.ntmps6
    go_wp2
    go_ret
    exact ⟨rfl, Below.refl _ _⟩

end Go.Proofs.YtbcbaejfafamjaaDoor
