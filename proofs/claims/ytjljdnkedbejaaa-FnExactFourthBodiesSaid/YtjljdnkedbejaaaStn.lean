/-
  Bodies behind a step, of the model. No condition.
-/
import Derived.Test.YtjljdnkedbejaaaPll
import Derived.Test.YtjljdnkedbejaaaSet3
import Derived.Test.YtjljdnkedbejaaaSin0
import Derived.Lib.SliceRun
import Derived.Test.YtjljdnkedbejaaaPlm
namespace Go.Proofs.Ytjljdnkedbejaaa
open Go.RowKit

/-- Bodies whose speeds are changed by pulls that are taken times h. -/
def kickV (v : Nat → Option Nat) (c h : Option Nat) (n j : Nat) : Option Nat := if j % 7 < 3 then v j else if j % 7 = 6 then v j else fo .add .f32 (v j) (fo .mul .f32 (plV v c n (3 * (j / 7) + (j % 7 - 3))) h)
theorem kickV_3 (v : Nat → Option Nat) (c h : Option Nat) (n k : Nat) : kickV v c h n (7 * k + 3) = fo .add .f32 (v (7 * k + 3)) (fo .mul .f32 (plV v c n (3 * k)) h) := by
  unfold kickV
  rw [show (7 * k + 3) % 7 = 3 by omega, show (7 * k + 3) / 7 = k by omega]
  rfl
theorem kickV_4 (v : Nat → Option Nat) (c h : Option Nat) (n k : Nat) : kickV v c h n (7 * k + 4) = fo .add .f32 (v (7 * k + 4)) (fo .mul .f32 (plV v c n (3 * k + 1)) h) := by
  unfold kickV
  rw [show (7 * k + 4) % 7 = 4 by omega, show (7 * k + 4) / 7 = k by omega]
  rfl
theorem kickV_5 (v : Nat → Option Nat) (c h : Option Nat) (n k : Nat) : kickV v c h n (7 * k + 5) = fo .add .f32 (v (7 * k + 5)) (fo .mul .f32 (plV v c n (3 * k + 2)) h) := by
  unfold kickV
  rw [show (7 * k + 5) % 7 = 5 by omega, show (7 * k + 5) / 7 = k by omega]
  rfl
theorem kickV_o (v : Nat → Option Nat) (c h : Option Nat) (n : Nat) {j : Nat} (hj : j % 7 < 3 ∨ j % 7 = 6) : kickV v c h n j = v j := by
  unfold kickV
  rcases hj with hj | hj
  · rw [if_pos hj]
  · rw [if_neg (by omega), if_pos hj]
/-- The same of the first numbers alone. -/
def kickP (v : Nat → Option Nat) (c h : Option Nat) (n m j : Nat) : Option Nat := if j < m then kickV v c h n j else v j
theorem kickP_t {v : Nat → Option Nat} {c h : Option Nat} {n m j : Nat} (hj : j < m) : kickP v c h n m j = kickV v c h n j := if_pos hj
theorem kickP_f {v : Nat → Option Nat} {c h : Option Nat} {n m j : Nat} (hj : ¬ j < m) : kickP v c h n m j = v j := if_neg hj
theorem kickP_step {v : Nat → Option Nat} {c h : Option Nat} {n k i : Nat} (hi : i < 7 * k + 3 ∨ 7 * k + 3 + 3 ≤ i) : kickP v c h n (7 * (k + 1)) i = kickP v c h n (7 * k) i := by
  by_cases h0 : i < 7 * k
  · rw [kickP_t h0, kickP_t (by omega)]
  · rw [kickP_f h0]
    by_cases h1 : i < 7 * (k + 1)
    · rw [kickP_t h1, kickV_o v c h n (by omega)]
    · rw [kickP_f h1]
/-- Half of a tick. -/
def halfT (t : Option Nat) : Option Nat := fo .mul .f32 (some 1056964608) t
/-- Whether bodies have speeds that are changed so. -/
def kickB (v : Nat → Option Nat) (c h : Option Nat) (n : Nat) : Bool := plB v c n && areB (kickV v c h n) n

theorem mul_finK {a b : Nat} {u v : Option Nat} (ia : Is .f32 a u) (ib : Is .f32 b v) (ha : finS u = true) (hb : finS v = true) : ∃ r, fo .mul .f32 u v = some r ∧ Is .f32 r (some r) := by
  obtain ⟨rfl, s, m, i, h1⟩ := fin_num32 ia ha
  obtain ⟨rfl, t, n, j, h2⟩ := fin_num32 ib hb
  have h : ∃ r, fo .mul .f32 (some a) (some b) = some r := by
    simp [fo, floatBits, Ieee.Format.mul, h1, h2, Ieee.Datum.product]
  obtain ⟨r, hr⟩ := h
  exact ⟨r, hr, is_fo32 hr⟩
/-- The words of half of a finite tick. -/
theorem half_words {y : Nat} {t : Option Nat} (iy : Is .f32 y t) (ht : finS t = true) : ∃ r, Is .f32 r (halfT t) ∧ fo .quo .f32 (some y) (some 1073741824) = some r ∧ fo .mul .f32 (some 1056964608) (some y) = some r := by
  obtain ⟨e, -⟩ := fin_num32 iy ht
  subst e
  obtain ⟨r, e1, ir⟩ := mul_finK (is_lit32 1056964608 (by decide)) iy (by decide) ht
  exact ⟨r, by unfold halfT; rw [e1]; exact ir, by rw [half_mul32 iy]; exact e1, e1⟩

theorem row_caps {w : World} {b : Nat} {e : TypeId} {size g n cap : Nat} {xs : List Value} (h : w.ownsRow b e size (.slice (some ⟨g, 0, none⟩) n cap) n xs) : n ≤ cap ∧ cap ≤ maxLen := by
  obtain ⟨_, ⟨h, _⟩ | ⟨g', cap', cur, h, _, _, h5, h6, _⟩⟩ := h
  · cases h
  · cases h; exact ⟨h5, h6⟩

/-- A list of m bodies with room behind it; where it has bodies, it is of its own. -/
def RowC (lo : Nat) (w : World) (v : Value) (m : Nat) (u : Nat → Option Nat) : Prop :=
  ∃ g o c, v = .slice (some ⟨g, o, none⟩) m c ∧ m ≤ c ∧ c ≤ maxLen ∧ g < w.heap.size ∧ (0 < m → o = 0 ∧ lo ≤ g ∧ ∃ r, Own w g (7 * m) (wordV r) ∧ ∀ i, i < 7 * m → Is .f32 (r i) (u i))
/-- Such a list is handed back, or none. -/
def RetC (u : Nat → Option Nat) (n : Nat) (ok : Bool) (w : World) (e : Ending) (w' : World) : Prop :=
  (∃ v, e = .returned (.tuple #[v, .bool ok]) ∧ (ok = true → RowC w.heap.size w' v n u) ∧ (ok = false → v = .slice none 0 0)) ∧ Below w.heap.size w w'
theorem RetC.no {u : Nat → Option Nat} {n : Nat} {w w' : World} (h : Below w.heap.size w w') : RetC u n false w (.returned (.tuple #[.slice none 0 0, .bool false])) w' := ⟨⟨_, rfl, fun h => (Bool.false_ne_true h).elim, fun _ => rfl⟩, h⟩
theorem RetC.list {u : Nat → Option Nat} {n : Nat} {ok : Bool} {w w' : World} {e : Ending} (h : RetC u n ok w e w') : RetList u n ok w e w' := by
  obtain ⟨⟨v, rfl, ht, hf⟩, hb⟩ := h
  refine ⟨⟨v, rfl, ?_⟩, hb⟩
  cases ok with
  | false => exact .inl ⟨by simp, _, _, hf rfl⟩
  | true =>
    obtain ⟨g, o, c, rfl, -, -, hg, h⟩ := ht rfl
    rcases Nat.eq_zero_or_pos n with rfl | hp
    · exact .inl ⟨by simp, _, _, rfl⟩
    · obtain ⟨rfl, hl, r, ho, hi⟩ := h hp
      exact .inr ⟨g, c, r, by simp, hl, hg, by simpa using ho, by simpa using hi⟩
theorem RowC.cells {lo : Nat} {w : World} {v : Value} {m : Nat} {u : Nat → Option Nat} (h : RowC lo w v m u) : ∃ g o c r, v = .slice (some ⟨g, o, none⟩) m c ∧ m ≤ c ∧ c ≤ maxLen ∧ g < w.heap.size ∧ (∀ i, i < 7 * m → w.cell? ⟨g, o + i, none⟩ = some (.float .f32 (r i))) ∧ (∀ i, i < 7 * m → Is .f32 (r i) (u i)) ∧ (0 < m → o = 0 ∧ lo ≤ g ∧ Own w g (7 * m) (wordV r)) := by
  obtain ⟨g, o, c, e, h1, h2, hg, h⟩ := h
  rcases Nat.eq_zero_or_pos m with rfl | hp
  · exact ⟨g, o, c, fun _ => 0, e, h1, h2, hg, fun i hi => by omega, fun i hi => by omega, fun h0 => by omega⟩
  · obtain ⟨rfl, hl, r, ho, hi⟩ := h hp
    exact ⟨g, 0, c, r, e, h1, h2, hg, ownCells ho, hi, fun _ => ⟨rfl, hl, ho⟩⟩

set_option maxHeartbeats 1600000 in
theorem iCloneB (b off n cap : Nat) (f : Nat → Nat) (w : World) (h0 : 0 < n) (hn : n ≤ 1048576) (hb : b < w.heap.size) (hr : ∀ i, i < 7 * n → w.cell? ⟨b, off + i, none⟩ = some (.float .f32 (f i))) :
    Calls Try.prog 55 #[.slice (some ⟨b, off, none⟩) n cap] w fun e w' => (∃ g c, e = .returned (.slice (some ⟨g, 0, none⟩) n c) ∧ w.heap.size ≤ g ∧ n ≤ c ∧ c ≤ maxLen ∧ Own w' g (7 * n) (wordV f)) ∧ Below w.heap.size w w' := by
  have HR := Lib.hid hr
  clear hr
  obtain ⟨i, hi, he⟩ := Option.map_eq_some_iff.1 infoB
  obtain ⟨i', hi', hz⟩ := Option.map_eq_some_iff.1 zeroB
  obtain rfl : i' = i := by rw [hi] at hi'; cases hi'; rfl
  simp only [Prod.mk.injEq] at he
  obtain ⟨hs, hbt⟩ := he
  obtain ⟨z, hzz, hzc⟩ := Option.map_eq_some_iff.1 hz
  have hcz : z.cells.size = 7 := by rw [hzc]; rfl
  clear hz
  have hnil := fun (w : World) (a : Option Addr) (n c n' c' : Nat) => Lib.run_eql_slice_nil w 25 42 a n c n' c' Try.underlying25
  go_enter Try.func55, Try.ntmps55
  go_wp2_with (at_builtin; go_loud (refine wpList_append_form (by rfl) (.tmp 5) (.tmp 6) 25 (by rfl) w.heap.size 42 i' z 7 28 Try.underlying25 hi hzz hs hbt hcz (by decide) _ 0 [] (by rfl) (World.ownsRow_made w #[] 0 (Nat.le_refl _) (Nat.zero_le _) rfl) ⟨b, off, none⟩ n cap ((List.range (7 * n)).map (wordV f)) (by rfl) (by simp; omega) ?_ ?_ (by unfold maxLen; omega) (by omega) (by simp) (by omega) ?_); rotate_left 2; intro g c w1 hown hgrow)
  · go_ret
    have hlt := hown.lt g rfl
    have hcp := row_caps (by simpa using hown)
    refine ⟨⟨g, c, rfl, hlt.1, hcp.1, hcp.2, hlt.2, fun i hi => ?_, fun i => hown.frozenAt i⟩, ((Below.refl w.heap.size w).alloc (Nat.le_refl _) _).grown hgrow (by simp) (fun k hk => by cases hk; exact Nat.le_refl _)⟩
    have h1 := hown.cells (g := g) rfl i (wordV f i) (by simp [hi])
    rw [add0] at h1
    exact h1
  · intro j u hu
    have hj : j < 7 * n := by
      have := (List.getElem?_eq_some_iff.1 hu).1
      simpa using this
    have hu' : wordV f j = u := by simpa [hj] using hu
    rw [← hu', addK]
    exact (((Below.refl w.heap.size w).alloc (Nat.le_refl _) _).cell (p := ⟨b, off + j, none⟩) hb).trans (HR.out j hj)
  · intro u hu
    obtain ⟨j, _, rfl⟩ := List.mem_map.1 hu
    rfl

theorem iCloneB0 (b off cap : Nat) (w : World) :
    Calls Try.prog 55 #[.slice (some ⟨b, off, none⟩) 0 cap] w fun e w' => (∃ a c, e = .returned (.slice a 0 c)) ∧ Below w.heap.size w w' := by
  have hnil := fun (w : World) (a : Option Addr) (n c n' c' : Nat) => Lib.run_eql_slice_nil w 25 42 a n c n' c' Try.underlying25
  go_enter Try.func55, Try.ntmps55
  go_wp2_with fail
  go_ret
  exact ⟨⟨_, _, rfl⟩, by repeat' (first | with_reducible exact Below.refl _ _ | with_reducible assumption | (with_reducible refine Below.setCell ?_ (by first | omega | (simp; done) | (simp; omega)) _) | (with_reducible refine Below.alloc ?_ (by first | omega | (simp; done) | (simp; omega)) _) | (with_reducible refine below_drewN ?_ _) | (with_reducible refine Below.drew ?_) | (with_reducible refine Below.trans ?_ (Below.mono (by first | (with_reducible assumption) | exact Grow.below (by assumption)) (by first | omega | (simp; done) | (simp; omega)))))⟩

theorem iCheckR (b off n cap : Nat) (r : Nat → Nat) (u : Nat → Option Nat) (w : World) (hn : n ≤ 1048576) (hb : b < w.heap.size) (hr : ∀ i, i < 7 * n → w.cell? ⟨b, off + i, none⟩ = some (.float .f32 (r i))) (hu : ∀ i, i < 7 * n → Is .f32 (r i) (u i)) :
    Calls Try.prog 56 #[.slice (some ⟨b, off, none⟩) n cap] w fun e w' => (∃ v, e = .returned (.tuple #[v, .bool (areB u n)]) ∧ (areB u n = true → v = .slice (some ⟨b, off, none⟩) n cap) ∧ (areB u n = false → v = .slice none 0 0)) ∧ Below w.heap.size w w' := by
  have HA := iAre b off n cap r u w hn hb hr hu
  clear hr hu
  cases ha : areB u n with
  | false =>
    rw [ha] at HA
    go_enter Try.func56, Try.ntmps56
    go_wp2_with (go_at_call 16; refine (HA).mono ?_; rintro _ W1 ⟨rfl, b1⟩)
    go_ret2
    exact ⟨⟨_, rfl, by simp, by simp⟩, b1⟩
  | true =>
    rw [ha] at HA
    go_enter Try.func56, Try.ntmps56
    go_wp2_with (go_at_call 16; refine (HA).mono ?_; rintro _ W1 ⟨rfl, b1⟩)
    go_ret2
    exact ⟨⟨_, rfl, by simp, by simp⟩, b1⟩

/-- What a region holds that ends in a store into a row of the call's own: what was there is as it was, and so are seven cells. -/
def KckS (w : World) (b o D M a0 a1 a2 x0 x1 x2 y : Nat) (w' : World) : Prop := (Below w.heap.size w w' ∧ D < w'.heap.size ∧ M < w'.heap.size) ∧ (w'.cell? ⟨b, o + 3, none⟩ = some (.float .f32 a0) ∧ w'.cell? ⟨b, o + 4, none⟩ = some (.float .f32 a1) ∧ w'.cell? ⟨b, o + 5, none⟩ = some (.float .f32 a2) ∧ w'.cell? ⟨D, 0, none⟩ = some (.float .f32 x0) ∧ w'.cell? ⟨D, 1, none⟩ = some (.float .f32 x1) ∧ w'.cell? ⟨D, 2, none⟩ = some (.float .f32 x2) ∧ w'.cell? ⟨M, 1, none⟩ = some (.float .f32 y))
section
variable {w X Y : World} {b o D M a0 a1 a2 x0 x1 x2 y : Nat}
theorem KckS.drew (h : KckS w b o D M a0 a1 a2 x0 x1 x2 y X) : KckS w b o D M a0 a1 a2 x0 x1 x2 y X.drew := ⟨⟨h.1.1.drew, h.1.2⟩, h.2⟩
theorem KckS.at (h : KckS w b o D M a0 a1 a2 x0 x1 x2 y X) (e : Below X.heap.size X Y) (hb : b < w.heap.size) : KckS w b o D M a0 a1 a2 x0 x1 x2 y Y := by
  obtain ⟨⟨a, hD, hM⟩, c0, c1, c2, c3, c4, c5, c6⟩ := h
  have hb' : b < X.heap.size := Nat.lt_of_lt_of_le hb a.size
  exact ⟨⟨a.trans (e.mono a.size), Nat.lt_of_lt_of_le hD e.size, Nat.lt_of_lt_of_le hM e.size⟩, (e.cell (p := ⟨b, o + 3, none⟩) hb').trans c0, (e.cell (p := ⟨b, o + 4, none⟩) hb').trans c1, (e.cell (p := ⟨b, o + 5, none⟩) hb').trans c2, (e.cell (p := ⟨D, 0, none⟩) hD).trans c3, (e.cell (p := ⟨D, 1, none⟩) hD).trans c4, (e.cell (p := ⟨D, 2, none⟩) hD).trans c5, (e.cell (p := ⟨M, 1, none⟩) hM).trans c6⟩
theorem KckS.set {g : Nat} (h : KckS w b o D M a0 a1 a2 x0 x1 x2 y X) (hg : w.heap.size ≤ g) (nb : g ≠ b) (nD : g ≠ D) (nM : g ≠ M) (q : Nat) (v : Value) : KckS w b o D M a0 a1 a2 x0 x1 x2 y (X.setCell ⟨g, q, none⟩ v) := by
  obtain ⟨⟨a, hD, hM⟩, c0, c1, c2, c3, c4, c5, c6⟩ := h
  have ne : ∀ {t : Nat}, g ≠ t → ∀ z, (⟨g, q, none⟩ : Addr) ≠ ⟨t, z, none⟩ := fun h z e => h (by cases e; rfl)
  exact ⟨⟨a.setCell hg _, by simpa using hD, by simpa using hM⟩, by rw [World.cell?_setCell_other _ _ _ _ (ne nb _), c0], by rw [World.cell?_setCell_other _ _ _ _ (ne nb _), c1], by rw [World.cell?_setCell_other _ _ _ _ (ne nb _), c2], by rw [World.cell?_setCell_other _ _ _ _ (ne nD _), c3], by rw [World.cell?_setCell_other _ _ _ _ (ne nD _), c4], by rw [World.cell?_setCell_other _ _ _ _ (ne nD _), c5], by rw [World.cell?_setCell_other _ _ _ _ (ne nM _), c6]⟩
end

theorem iAdd3 {a0 a1 a2 b0 b1 b2 : Nat} {x0 x1 x2 y0 y1 y2 : Option Nat} (h0 : Is .f32 a0 x0) (h1 : Is .f32 a1 x1) (h2 : Is .f32 a2 x2) (g0 : Is .f32 b0 y0) (g1 : Is .f32 b1 y1) (g2 : Is .f32 b2 y2) (W : World) :
    Calls Try.prog 48 #[vecV a0 a1 a2, vecV b0 b1 b2] W fun e w' => (∃ r0 r1 r2, e = .returned (vecV r0 r1 r2) ∧ Is .f32 r0 (fo .add .f32 x0 y0) ∧ Is .f32 r1 (fo .add .f32 x1 y1) ∧ Is .f32 r2 (fo .add .f32 x2 y2)) ∧ Below W.heap.size W w' := by
  refine (implAdd h0 h1 h2 g0 g1 g2 W).mono ?_
  rintro _ w' ⟨r0, r1, r2, rfl, k0, k1, k2, hg⟩
  exact ⟨⟨r0, r1, r2, rfl, k0, k1, k2⟩, hg.below⟩

theorem iCloneN (b off cap : Nat) (w : World) :
    Calls Try.prog 55 #[.slice (some ⟨b, off, none⟩) 0 cap] w fun e w' => (∃ g o c, e = .returned (.slice (some ⟨g, o, none⟩) 0 c) ∧ c ≤ maxLen ∧ g < w'.heap.size) ∧ Below w.heap.size w w' := by
  have hnil := fun (w : World) (a : Option Addr) (n c n' c' : Nat) => Lib.run_eql_slice_nil w 25 42 a n c n' c' Try.underlying25
  go_enter Try.func55, Try.ntmps55
  go_wp2_with fail
  go_ret
  exact ⟨⟨w.heap.size, 0, 0, rfl, Nat.zero_le _, by simp⟩, by repeat' (first | with_reducible exact Below.refl _ _ | with_reducible assumption | (with_reducible refine Below.setCell ?_ (by first | omega | (simp; done) | (simp; omega)) _) | (with_reducible refine Below.alloc ?_ (by first | omega | (simp; done) | (simp; omega)) _) | (with_reducible refine below_drewN ?_ _) | (with_reducible refine Below.drew ?_) | (with_reducible refine Below.trans ?_ (Below.mono (by first | (with_reducible assumption) | exact Grow.below (by assumption)) (by first | omega | (simp; done) | (simp; omega)))))⟩

set_option maxHeartbeats 3200000 in
theorem iKick (b off n cap : Nat) (f : Nat → Nat) (v : Nat → Option Nat) (hc : n ≤ cap) (hc2 : cap ≤ maxLen) {x y : Nat} {c t : Option Nat} (ix : Is .f32 x c) (iy : Is .f32 y t) (ht : finS t = true) (w : World) (hn : n ≤ 1048576) (hb : b < w.heap.size) (hr : ∀ i, i < 7 * n → w.cell? ⟨b, off + i, none⟩ = some (.float .f32 (f i))) (hv : ∀ i, i < 7 * n → Is .f32 (f i) (v i)) :
    Calls Try.prog 47 #[.agg #[.float .f32 x, .float .f32 y], .slice (some ⟨b, off, none⟩) n cap] w (RetC (kickV v c (halfT t) n) n (kickB v c (halfT t) n) w) := by
  obtain ⟨hh, ih, eq1, -⟩ := half_words iy ht
  have AQ := fun w => run_fo32 eq1 23 w
  have hst := run_store_float Try.prog
  have HP := fun (W : World) (hW : Below w.heap.size w W) => iPulls b off n cap f v hc hc2 ix W hn (Nat.lt_of_lt_of_le hb hW.size) (fun i hi => (hW.cell (p := ⟨b, off + i, none⟩) hb).trans (hr i hi)) hv
  have HR := Lib.hid hr
  have HV := Lib.hid hv
  have bM : Below w.heap.size w (w.alloc (.cells #[.float .f32 x, .float .f32 y] 57)) := (Below.refl _ _).alloc (Nat.le_refl _) _
  clear hr hv iy ht eq1
  cases hB : plB v c n with
  | false =>
    rw [hB] at HP
    rw [show kickB v c (halfT t) n = false by simp [kickB, hB]]
    go_enter Try.func47, Try.ntmps47
    go_wp2_with fail
    (go_at_call 54; refine (HP _ bM).mono ?_; rintro _ W2 ⟨⟨s, rfl, -⟩, b2⟩)
    go_wp2_with fail
    go_ret2
    exact RetC.no (bM.trans (b2.mono bM.size))
  | true =>
    rw [hB] at HP
    rw [show kickB v c (halfT t) n = areB (kickV v c (halfT t) n) n by simp [kickB, hB]]
    clear hB
    go_enter Try.func47, Try.ntmps47
    go_wp2_with fail
    (go_at_call 54; refine (HP _ bM).mono ?_; rintro _ W2 ⟨⟨s, rfl, hs⟩, b2⟩)
    have bW2 : Below w.heap.size w W2 := bM.trans (b2.mono bM.size)
    have hz2 : w.heap.size < W2.heap.size := by have := b2.size; simp at this; omega
    have m1 : W2.cell? ⟨w.heap.size, 1, none⟩ = some (.float .f32 y) := (b2.cell (p := ⟨w.heap.size, 1, none⟩) (by simp)).trans (by simp)
    rcases Nat.eq_zero_or_pos n with rfl | h0
    · obtain ⟨a, cp, rfl⟩ : ∃ a cp, s = .slice a 0 cp := by
        rcases hs with ⟨_, h⟩ | ⟨g, cc, r, h, _⟩
        · exact h
        · exact ⟨_, _, h⟩
      clear hs
      go_wp2_with fail
      (go_at_call 55; refine (iCloneN b off cap W2).mono ?_; rintro _ W3 ⟨⟨g, o, cf, rfl, hcf, hg⟩, b3⟩)
      have b3w : Below w.heap.size w W3 := bW2.trans (b3.mono bW2.size)
      go_wp2_with fail
      go_loopw [24] (fun i wr => i = .int .i64 0 ∧ wr = W3) (fun i _ => 0)
      case atStart => exact ⟨rfl, rfl⟩
      case round =>
        obtain ⟨rfl, rfl⟩ := hrel
        go_wp2_with fail
        (go_at_call 56; refine (iCheckR g o 0 cf f (kickV v c (halfT t) 0) wr (by omega) hg (fun i hi => by omega) (fun i hi => by omega)).mono ?_; rintro _ W6 ⟨⟨u, rfl, ht, hf⟩, b6⟩)
        go_wp2_with fail
        go_ret2
        refine ⟨⟨u, rfl, fun h => ?_, fun h => hf h⟩, b3w.trans (b6.mono b3w.size)⟩
        exact ⟨g, o, cf, ht h, Nat.zero_le _, hcf, Nat.lt_of_lt_of_le hg b6.size, fun h => absurd h (by omega)⟩
    · obtain ⟨gp, cp, rp, rfl, hgl, hgh, hop, hip⟩ : ∃ g c' r, s = .slice (some ⟨g, 0, none⟩) n c' ∧ w.heap.size ≤ g ∧ g < W2.heap.size ∧ Own W2 g (3 * n) (wordV r) ∧ ∀ i, i < 3 * n → Is .f32 (r i) (plV v c n i) := by
        rcases hs with ⟨h, _⟩ | ⟨g, cc, r, h1, h2, h3, h4, h5⟩
        · simp at h; omega
        · exact ⟨g, cc, r, by simpa using h1, by simp at h2; omega, h3, by simpa using h4, by simpa using h5⟩
      clear hs
      go_wp2_with fail
      (go_at_call 55; refine (iCloneB b off n cap f W2 h0 hn (Nat.lt_of_lt_of_le hb bW2.size) (fun i hi => (bW2.cell (p := ⟨b, off + i, none⟩) hb).trans (HR.out i hi))).mono ?_; rintro _ W3 ⟨⟨g, cf, rfl, hg, hcf, hcf2, ho⟩, b3⟩)
      have b3w : Below w.heap.size w W3 := bW2.trans (b3.mono bW2.size)
      have HPR := Lib.hid hop.1
      have HPC := Lib.hid (ownCells hop)
      have HPI := Lib.hid hip
      clear hop hip
      have hz3 := b3.size
      go_wp2_with fail
      go_loopw [24] (fun i wr => ∃ (k : Nat) (r : Nat → Nat), k ≤ n ∧ i = .int .i64 k ∧ Own wr g (7 * n) (wordV r) ∧ (∀ i, i < 7 * n → Is .f32 (r i) (kickP v c (halfT t) n (7 * k) i)) ∧ Below w.heap.size w wr ∧ Below W2.heap.size W2 wr) (fun i _ => n - (intOf i).toNat)
      case atStart => exact ⟨0, f, Nat.zero_le _, rfl, ho, fun i hi => by rw [kickP_f (by omega)]; exact HV.out i hi, b3w, b3⟩
      case round =>
        clear ho b3 b3w hz3
        obtain ⟨k, r, hk, rfl, ho, hi, hbel, hbl2⟩ := hrel
        have HO := Lib.hid ho
        have HI := Lib.hid hi
        obtain ⟨X, rfl⟩ : ∃ X, X = wr := ⟨wr, rfl⟩
        have hgX := ho.1
        have hzX := hbl2.size
        clear ho hi
        by_cases hlt : k < n
        · obtain ⟨c0, c1, c2, c3, c4, c5, c6⟩ := cells7 HR.out hlt
          rw [← hbel.cell (by exact hb)] at c0 c1 c2 c3 c4 c5 c6
          obtain ⟨d0, d1, d2⟩ := cells3 (off := 0) (fun i hi => HPC.out i hi) hlt
          simp only [Nat.zero_add] at d0 d1 d2
          rw [← hbl2.cell (by exact hgh)] at d0 d1 d2
          have hgpX : gp < X.heap.size := by omega
          go_wp2_with fail
          have j3 : Is .f32 (f (7 * k + 3)) (v (7 * k + 3)) := HV.out _ (by omega)
          have j4 : Is .f32 (f (7 * k + 4)) (v (7 * k + 4)) := HV.out _ (by omega)
          have j5 : Is .f32 (f (7 * k + 5)) (v (7 * k + 5)) := HV.out _ (by omega)
          have i0 : Is .f32 (rp (3 * k)) (plV v c n (3 * k)) := HPI.out _ (by omega)
          have i1 : Is .f32 (rp (3 * k + 1)) (plV v c n (3 * k + 1)) := HPI.out _ (by omega)
          have i2 : Is .f32 (rp (3 * k + 2)) (plV v c n (3 * k + 2)) := HPI.out _ (by omega)
          have mX : X.cell? ⟨w.heap.size, 1, none⟩ = some (.float .f32 y) := (hbl2.cell (p := ⟨w.heap.size, 1, none⟩) hz2).trans m1
          have hwX : w.heap.size < X.heap.size := by omega
          generalize hW : X.alloc (Obj.cells #[.float .f32 (rp (3 * k)), .float .f32 (rp (3 * k + 1)), .float .f32 (rp (3 * k + 2))] 40) = W
          have bXW : Below X.heap.size X W := by rw [← hW]; exact (Below.refl _ _).alloc (Nat.le_refl _) _
          have hDW : X.heap.size < W.heap.size := by rw [← hW]; simp
          have x0 : W.cell? ⟨X.heap.size, 0, none⟩ = some (.float .f32 (rp (3 * k))) := by rw [← hW]; simp
          have x1 : W.cell? ⟨X.heap.size, 1, none⟩ = some (.float .f32 (rp (3 * k + 1))) := by rw [← hW]; simp
          have x2 : W.cell? ⟨X.heap.size, 2, none⟩ = some (.float .f32 (rp (3 * k + 2))) := by rw [← hW]; simp
          have hOW := HO.out.step bXW
          clear hW
          have hb2 : b < X.heap.size := by have := hbel.size; omega
          have hS0 : KckS w b (off + k * 7) X.heap.size w.heap.size (f (7 * k + 3)) (f (7 * k + 4)) (f (7 * k + 5)) (rp (3 * k)) (rp (3 * k + 1)) (rp (3 * k + 2)) y W := ⟨⟨hbel.trans (bXW.mono hbel.size), hDW, by omega⟩, (bXW.cell (p := ⟨b, off + k * 7 + 3, none⟩) hb2).trans c3, (bXW.cell (p := ⟨b, off + k * 7 + 4, none⟩) hb2).trans c4, (bXW.cell (p := ⟨b, off + k * 7 + 5, none⟩) hb2).trans c5, x0, x1, x2, (bXW.cell (p := ⟨w.heap.size, 1, none⟩) hwX).trans mX⟩
          clear c0 c1 c2 c3 c4 c5 c6 d0 d1 d2 x0 x1 x2 mX
          refine wp_region_held_drew (S := KckS w b (off + k * 7) X.heap.size w.heap.size (f (7 * k + 3)) (f (7 * k + 4)) (f (7 * k + 5)) (rp (3 * k)) (rp (3 * k + 1)) (rp (3 * k + 2)) y) (by kernel_rfl) hS0.drew (fun hHeld => ?_)
          (refine wpTake (i := 0) (some 29) (v := ?_) rfl (by rfl) (by kernel_rfl) (by kernel_rfl) (by kernel_rfl) (fun _ _ _ h => h) (Or.inl ⟨by rfl, ?_⟩) hHeld ?_; rotate_left; (focus (intro wx hSw; obtain ⟨hSA, ⟨hS0, hS1, hS2, hS3, hS4, hS5, hS6⟩⟩ := hSw; (try dsimp only); go_simp; (try with_reducible rfl))); (simp only [Act.put, List.setIfInBounds_toArray, List.set_cons_zero, List.set_cons_succ]))
          (refine wpTake (i := 1) (some 30) (v := ?_) rfl (by rfl) (by kernel_rfl) (by kernel_rfl) (by kernel_rfl) (fun _ _ _ h => h) (Or.inl ⟨by rfl, ?_⟩) hHeld ?_; rotate_left; (focus (intro wx hSw; obtain ⟨hSA, ⟨hS0, hS1, hS2, hS3, hS4, hS5, hS6⟩⟩ := hSw; (try dsimp only); go_simp; (try with_reducible rfl))); (simp only [Act.put, List.setIfInBounds_toArray, List.set_cons_zero, List.set_cons_succ]))
          (refine wpTake (i := 2) (some 31) (v := ?_) rfl (by rfl) (by kernel_rfl) (by kernel_rfl) (by kernel_rfl) (fun _ _ _ h => h) (Or.inl ⟨by rfl, ?_⟩) hHeld ?_; rotate_left; (focus (intro wx hSw; obtain ⟨hSA, ⟨hS0, hS1, hS2, hS3, hS4, hS5, hS6⟩⟩ := hSw; (try dsimp only); go_simp; (try with_reducible rfl))); (simp only [Act.put, List.setIfInBounds_toArray, List.set_cons_zero, List.set_cons_succ]))
          (refine wpTake (i := 3) (some 32) (v := ?_) rfl (by rfl) (by kernel_rfl) (by kernel_rfl) (by kernel_rfl) (fun _ _ _ h => h) (Or.inl ⟨by rfl, ?_⟩) hHeld ?_; rotate_left; (focus (intro wx hSw; obtain ⟨hSA, ⟨hS0, hS1, hS2, hS3, hS4, hS5, hS6⟩⟩ := hSw; (try dsimp only); go_simp; (try with_reducible rfl))); (simp only [Act.put, List.setIfInBounds_toArray, List.set_cons_zero, List.set_cons_succ]))
          (refine wpTake (i := 4) (some 33) (v := ?_) rfl (by rfl) (by kernel_rfl) (by kernel_rfl) (by kernel_rfl) (fun _ _ _ h => h) (Or.inl ⟨by rfl, ?_⟩) hHeld ?_; rotate_left; (focus (intro wx hSw; obtain ⟨hSA, ⟨hS0, hS1, hS2, hS3, hS4, hS5, hS6⟩⟩ := hSw; (try dsimp only); go_simp; (try with_reducible rfl))); (simp only [Act.put, List.setIfInBounds_toArray, List.set_cons_zero, List.set_cons_succ]))
          (refine wpTake (i := 5) (some 34) (v := ?_) rfl (by rfl) (by kernel_rfl) (by kernel_rfl) (by kernel_rfl) (fun _ _ _ h => h) (Or.inl ⟨by rfl, ?_⟩) hHeld ?_; rotate_left; (focus (intro wx hSw; obtain ⟨hSA, ⟨hS0, hS1, hS2, hS3, hS4, hS5, hS6⟩⟩ := hSw; (try dsimp only); go_simp; (try with_reducible rfl))); (simp only [Act.put, List.setIfInBounds_toArray, List.set_cons_zero, List.set_cons_succ]))
          (refine wpTake (i := 6) (some 35) (v := ?_) rfl (by rfl) (by kernel_rfl) (by kernel_rfl) (by kernel_rfl) (fun _ _ _ h => h) (Or.inl ⟨by rfl, ?_⟩) hHeld ?_; rotate_left; (focus (intro wx hSw; obtain ⟨hSA, ⟨hS0, hS1, hS2, hS3, hS4, hS5, hS6⟩⟩ := hSw; (try dsimp only); go_simp; (try with_reducible rfl))); (simp only [Act.put, List.setIfInBounds_toArray, List.set_cons_zero, List.set_cons_succ]))
          (refine wpTake (i := 7) (some 36) (v := ?_) rfl (by rfl) (by kernel_rfl) (by kernel_rfl) (by kernel_rfl) (fun _ _ _ h => h) (Or.inl ⟨by rfl, ?_⟩) hHeld ?_; rotate_left; (focus (intro wx hSw; obtain ⟨hSA, ⟨hS0, hS1, hS2, hS3, hS4, hS5, hS6⟩⟩ := hSw; (try dsimp only); go_simp; (try with_reducible rfl))); (simp only [Act.put, List.setIfInBounds_toArray, List.set_cons_zero, List.set_cons_succ]))
          (refine wpTake (i := 8) (some 37) (v := ?_) rfl (by rfl) (by kernel_rfl) (by kernel_rfl) (by kernel_rfl) (fun _ _ _ h => h) (Or.inl ⟨by rfl, ?_⟩) hHeld ?_; rotate_left; (focus (intro wx hSw; obtain ⟨hSA, ⟨hS0, hS1, hS2, hS3, hS4, hS5, hS6⟩⟩ := hSw; (try dsimp only); go_simp; (try with_reducible rfl))); (simp only [Act.put, List.setIfInBounds_toArray, List.set_cons_zero, List.set_cons_succ]))
          (refine wpTake (i := 9) (some 38) (v := ?_) rfl (by rfl) (by kernel_rfl) (by kernel_rfl) (by kernel_rfl) (fun _ _ _ h => h) (Or.inl ⟨by rfl, ?_⟩) hHeld ?_; rotate_left; (focus (intro wx hSw; obtain ⟨hSA, ⟨hS0, hS1, hS2, hS3, hS4, hS5, hS6⟩⟩ := hSw; (try dsimp only); go_simp; (try with_reducible rfl))); (simp only [Act.put, List.setIfInBounds_toArray, List.set_cons_zero, List.set_cons_succ]))
          (refine wpTake (i := 10) (some 39) (v := ?_) rfl (by rfl) (by kernel_rfl) (by kernel_rfl) (by kernel_rfl) (fun _ _ _ h => h) (Or.inl ⟨by rfl, ?_⟩) hHeld ?_; rotate_left; (focus (intro wx hSw; obtain ⟨hSA, ⟨hS0, hS1, hS2, hS3, hS4, hS5, hS6⟩⟩ := hSw; (try dsimp only); go_simp; (try with_reducible rfl))); (simp only [Act.put, List.setIfInBounds_toArray, List.set_cons_zero, List.set_cons_succ]))
          (refine wpAnyH_ready (rs := [11]) (by kernel_rfl) (by simp) ?_; refine AllReadyH.cons rfl (fun K hK => ?_) AllReadyH.nil; go_simp)
          (go_at_call 49; (with_reducible refine (iScale3 i0 i1 i2 ih _).mono ?_); rintro _ W4 ⟨⟨q0, q1, q2, rfl, k0, k1, k2⟩, e4⟩)
          (go_wp2_with fail; refine hK.out _ _ (hHeld.at e4 hb) (fun hHeld => ?_); clear hK K; (try simp only [Act.put, List.setIfInBounds_toArray, List.set_cons_zero, List.set_cons_succ]))
          (refine wpAnyH_ready (rs := [12]) (by kernel_rfl) (by simp) ?_; refine AllReadyH.cons rfl (fun K hK => ?_) AllReadyH.nil; go_simp)
          (go_at_call 48; (with_reducible refine (iAdd3 j3 j4 j5 k0 k1 k2 _).mono ?_); rintro _ W5 ⟨⟨t0, t1, t2, rfl, l0, l1, l2⟩, e5⟩)
          (go_wp2_with fail; refine hK.out _ _ (hHeld.at e5 hb) (fun hHeld => ?_); clear hK K; (try simp only [Act.put, List.setIfInBounds_toArray, List.set_cons_zero, List.set_cons_succ]))
          (refine wpTake (i := 13) (some 42) (v := ?_) rfl (by rfl) (by kernel_rfl) (by kernel_rfl) (by kernel_rfl) (fun _ _ _ h => h) (Or.inl ⟨by rfl, ?_⟩) hHeld ?_; rotate_left; (focus (intro wx hSw; obtain ⟨hSA, ⟨hS0, hS1, hS2, hS3, hS4, hS5, hS6⟩⟩ := hSw; (try dsimp only); go_simp; (try with_reducible rfl))); (simp only [Act.put, List.setIfInBounds_toArray, List.set_cons_zero, List.set_cons_succ]))
          (refine wpTake (i := 14) (some 43) (v := ?_) rfl (by rfl) (by kernel_rfl) (by kernel_rfl) (by kernel_rfl) (fun _ _ _ h => h) (Or.inl ⟨by rfl, ?_⟩) hHeld ?_; rotate_left; (focus (intro wx hSw; obtain ⟨hSA, ⟨hS0, hS1, hS2, hS3, hS4, hS5, hS6⟩⟩ := hSw; (try dsimp only); go_simp; (try with_reducible rfl))); (simp only [Act.put, List.setIfInBounds_toArray, List.set_cons_zero, List.set_cons_succ]))
          have hO5 : Own W5 g (7 * n) (wordV r) := (((hOW.step (Below.refl _ _).drew).step e4).step e5)
          obtain ⟨p0, p1, p2, p3, p4, p5, p6⟩ := own7 hO5 hlt
          have fz : ∀ o, W5.frozen? ⟨g, o, none⟩ = false := hO5.2.2
          have nb : g ≠ b := by omega
          have nD : g ≠ X.heap.size := by omega
          have nM : g ≠ w.heap.size := by omega
          have hgw : w.heap.size ≤ g := by omega
          (refine wpAnyH_ready (rs := [15]) (by kernel_rfl) (by simp) ?_; refine AllReadyH.cons rfl (fun K hK => ?_) AllReadyH.nil; go_simp)
          refine hK.out _ _ (((hHeld.set hgw nb nD nM _ _).set hgw nb nD nM _ _).set hgw nb nD nM _ _) (fun hHeld => ?_)
          clear hK K
          (try simp only [Act.put, List.setIfInBounds_toArray, List.set_cons_zero, List.set_cons_succ])
          (refine wpAnyH_done (by kernel_rfl) ?_ _)
          have e2 : Below W2.heap.size W2 W5 := (hbl2.trans ((bXW.drew).mono hzX)).trans ((e4.mono (by simp; omega)).trans (e5.mono (by have := e4.size; simp at this; omega)))
          have e1 : Below w.heap.size w W5 := bW2.trans (e2.mono bW2.size)
          go_wp2_with fail
          go_roundw
          case rel =>
            refine ⟨k + 1, put3 r (7 * k + 3) t0 t1 t2, by omega, by go_num, own3 hO5 (7 * k + 3) (by omega) t0 t1 t2 (by omega) (by omega) (by omega), ?_, ((e1.setCell hgw _).setCell hgw _).setCell hgw _, ((e2.setCell hg _).setCell hg _).setCell hg _⟩
            exact is_put3 HI.out (by rw [kickP_t (by omega), kickV_3]; exact l0) (by rw [kickP_t (by omega), show 7 * k + 3 + 1 = 7 * k + 4 from rfl, kickV_4]; exact l1) (by rw [kickP_t (by omega), show 7 * k + 3 + 2 = 7 * k + 5 from rfl, kickV_5]; exact l2) (fun i _ hi => kickP_step hi)
          case measure => simp [intOf]; omega
        · have hkn : Hid (k = n) := (show k = n by omega)
          have hI : ∀ i, i < 7 * n → Is .f32 (r i) (kickV v c (halfT t) n i) := fun i h => by have := HI.out i h; rwa [kickP_t (by rw [hkn.out]; exact h)] at this
          go_wp2_with fail
          (go_at_call 56; refine (iCheckR g 0 n cf r (kickV v c (halfT t) n) X hn HO.out.1 (ownCells HO.out) hI).mono ?_; rintro _ W6 ⟨⟨u, rfl, ht, hf⟩, b6⟩)
          go_wp2_with fail
          go_ret2
          refine ⟨⟨u, rfl, fun h => ?_, fun h => hf h⟩, hbel.trans (b6.mono hbel.size)⟩
          exact ⟨g, 0, cf, ht h, hcf, hcf2, Nat.lt_of_lt_of_le HO.out.1 b6.size, fun _ => ⟨rfl, by omega, r, HO.out.step b6, hI⟩⟩

/-- Bodies that have moved on with their speeds for a time t. -/
def moveT (u : Nat → Option Nat) (t : Option Nat) (j : Nat) : Option Nat := if j % 7 < 3 then fo .add .f32 (u j) (fo .mul .f32 (u (j + 3)) t) else u j
theorem moveT_at (u : Nat → Option Nat) (t : Option Nat) (k d : Nat) (hd : d < 3) : moveT u t (7 * k + d) = fo .add .f32 (u (7 * k + d)) (fo .mul .f32 (u (7 * k + d + 3)) t) := if_pos (by omega)
theorem moveT_o (u : Nat → Option Nat) (t : Option Nat) {j : Nat} (hj : ¬ j % 7 < 3) : moveT u t j = u j := if_neg hj
/-- The same of the first numbers alone. -/
def moveQ (u : Nat → Option Nat) (t : Option Nat) (m j : Nat) : Option Nat := if j < m then moveT u t j else u j
theorem moveQ_t {u : Nat → Option Nat} {t : Option Nat} {m j : Nat} (hj : j < m) : moveQ u t m j = moveT u t j := if_pos hj
theorem moveQ_f {u : Nat → Option Nat} {t : Option Nat} {m j : Nat} (hj : ¬ j < m) : moveQ u t m j = u j := if_neg hj
theorem moveQ_step {u : Nat → Option Nat} {t : Option Nat} {k i : Nat} (hi : i < 7 * k ∨ 7 * k + 3 ≤ i) : moveQ u t (7 * (k + 1)) i = moveQ u t (7 * k) i := by
  rcases hi with h0 | h0
  · rw [moveQ_t h0, moveQ_t (by omega)]
  · have e : moveQ u t (7 * k) i = u i := moveQ_f (by omega)
    rw [e]
    by_cases h1 : i < 7 * (k + 1)
    · rw [moveQ_t h1, moveT_o u t (by omega : ¬ i % 7 < 3)]
    · rw [moveQ_f h1]
/-- Bodies behind a step, and whether there are such. -/
def stepM (v : Nat → Option Nat) (c t : Option Nat) (n : Nat) : Nat → Option Nat := moveT (kickV v c (halfT t) n) t
def stepV (v : Nat → Option Nat) (c t : Option Nat) (n : Nat) : Nat → Option Nat := kickV (stepM v c t n) c (halfT t) n
def stepB (v : Nat → Option Nat) (c t : Option Nat) (n : Nat) : Bool := finS t && (kickB v c (halfT t) n && kickB (stepM v c t n) c (halfT t) n)

theorem RowC.lo {lo lo' : Nat} {w : World} {v : Value} {m : Nat} {u : Nat → Option Nat} (h : RowC lo' w v m u) (hl : lo ≤ lo') : RowC lo w v m u := by
  obtain ⟨g, o, c, e, h1, h2, hg, h⟩ := h
  exact ⟨g, o, c, e, h1, h2, hg, fun hp => ⟨(h hp).1, Nat.le_trans hl (h hp).2.1, (h hp).2.2⟩⟩
theorem RetC.up {u : Nat → Option Nat} {n : Nat} {ok : Bool} {w W w' : World} {e : Ending} (h : RetC u n ok W e w') (hb : Below w.heap.size w W) : RetC u n ok w e w' := by
  obtain ⟨⟨v, he, ht, hf⟩, hb2⟩ := h
  exact ⟨⟨v, he, fun h => (ht h).lo hb.size, hf⟩, hb.trans (hb2.mono hb.size)⟩

/-- What a region holds that ends in a store into a row of the call's own: what was there is as it was, and so are seven cells. -/
def StpS (w : World) (D M x0 x1 x2 x3 x4 x5 y : Nat) (w' : World) : Prop := (Below w.heap.size w w' ∧ D < w'.heap.size ∧ M < w'.heap.size) ∧ (w'.cell? ⟨D, 0, none⟩ = some (.float .f32 x0) ∧ w'.cell? ⟨D, 1, none⟩ = some (.float .f32 x1) ∧ w'.cell? ⟨D, 2, none⟩ = some (.float .f32 x2) ∧ w'.cell? ⟨D, 3, none⟩ = some (.float .f32 x3) ∧ w'.cell? ⟨D, 4, none⟩ = some (.float .f32 x4) ∧ w'.cell? ⟨D, 5, none⟩ = some (.float .f32 x5) ∧ w'.cell? ⟨M, 1, none⟩ = some (.float .f32 y))
section
variable {w X Y : World} {D M x0 x1 x2 x3 x4 x5 y : Nat}
theorem StpS.drew (h : StpS w D M x0 x1 x2 x3 x4 x5 y X) : StpS w D M x0 x1 x2 x3 x4 x5 y X.drew := ⟨⟨h.1.1.drew, h.1.2⟩, h.2⟩
theorem StpS.at (h : StpS w D M x0 x1 x2 x3 x4 x5 y X) (e : Below X.heap.size X Y) : StpS w D M x0 x1 x2 x3 x4 x5 y Y := by
  obtain ⟨⟨a, hD, hM⟩, c0, c1, c2, c3, c4, c5, c6⟩ := h
  exact ⟨⟨a.trans (e.mono a.size), Nat.lt_of_lt_of_le hD e.size, Nat.lt_of_lt_of_le hM e.size⟩, (e.cell (p := ⟨D, 0, none⟩) hD).trans c0, (e.cell (p := ⟨D, 1, none⟩) hD).trans c1, (e.cell (p := ⟨D, 2, none⟩) hD).trans c2, (e.cell (p := ⟨D, 3, none⟩) hD).trans c3, (e.cell (p := ⟨D, 4, none⟩) hD).trans c4, (e.cell (p := ⟨D, 5, none⟩) hD).trans c5, (e.cell (p := ⟨M, 1, none⟩) hM).trans c6⟩
theorem StpS.set {g : Nat} (h : StpS w D M x0 x1 x2 x3 x4 x5 y X) (hg : w.heap.size ≤ g) (nD : g ≠ D) (nM : g ≠ M) (q : Nat) (v : Value) : StpS w D M x0 x1 x2 x3 x4 x5 y (X.setCell ⟨g, q, none⟩ v) := by
  obtain ⟨⟨a, hD, hM⟩, c0, c1, c2, c3, c4, c5, c6⟩ := h
  have ne : ∀ {t : Nat}, g ≠ t → ∀ z, (⟨g, q, none⟩ : Addr) ≠ ⟨t, z, none⟩ := fun h z e => h (by cases e; rfl)
  exact ⟨⟨a.setCell hg _, by simpa using hD, by simpa using hM⟩, by rw [World.cell?_setCell_other _ _ _ _ (ne nD _), c0], by rw [World.cell?_setCell_other _ _ _ _ (ne nD _), c1], by rw [World.cell?_setCell_other _ _ _ _ (ne nD _), c2], by rw [World.cell?_setCell_other _ _ _ _ (ne nD _), c3], by rw [World.cell?_setCell_other _ _ _ _ (ne nD _), c4], by rw [World.cell?_setCell_other _ _ _ _ (ne nD _), c5], by rw [World.cell?_setCell_other _ _ _ _ (ne nM _), c6]⟩
end

theorem iFinT {x : Nat} {v : Option Nat} (ix : Is .f32 x v) (w : World) :
    Calls Try.prog 46 #[.float .f32 x] w (RetV (.bool (finS v)) w) := by
  have h := implFinite_any ix w
  rw [fin_same ix] at h
  exact h

set_option maxHeartbeats 3200000 in
theorem iStep (b off n cap : Nat) (f : Nat → Nat) (v : Nat → Option Nat) (hc : n ≤ cap) (hc2 : cap ≤ maxLen) {x y : Nat} {c t : Option Nat} (ix : Is .f32 x c) (iy : Is .f32 y t) (w : World) (hn : n ≤ 1048576) (hb : b < w.heap.size) (hr : ∀ i, i < 7 * n → w.cell? ⟨b, off + i, none⟩ = some (.float .f32 (f i))) (hv : ∀ i, i < 7 * n → Is .f32 (f i) (v i)) :
    Calls Try.prog 34 #[.agg #[.float .f32 x, .float .f32 y], .slice (some ⟨b, off, none⟩) n cap] w (RetC (stepV v c t n) n (stepB v c t n) w) := by
  have hst := run_store_float Try.prog
  have FT := fun W => iFinT iy W
  have bM : Below w.heap.size w (w.alloc (.cells #[.float .f32 x, .float .f32 y] 57)) := (Below.refl _ _).alloc (Nat.le_refl _) _
  cases hT : finS t with
  | false =>
    rw [hT] at FT
    rw [show stepB v c t n = false by simp [stepB, hT]]
    clear hr hv
    go_enter Try.func34, Try.ntmps34
    go_wp2_with (go_at_call 46; refine (FT _).mono ?_; rintro _ _ ⟨nq, rfl, rfl⟩)
    go_ret2
    exact RetC.no (below_drewN bM _)
  | true =>
    have KP := fun (W : World) (hW : Below w.heap.size w W) => iKick b off n cap f v hc hc2 ix iy hT W hn (Nat.lt_of_lt_of_le hb hW.size) (fun i hi => (hW.cell (p := ⟨b, off + i, none⟩) hb).trans (hr i hi)) hv
    have KP2 := fun (g o cf : Nat) (r : Nat → Nat) (u : Nat → Option Nat) (h1 : n ≤ cf) (h2 : cf ≤ maxLen) (W : World) (hg : g < W.heap.size) hr hv => iKick g o n cf r u h1 h2 ix iy hT W hn hg hr hv
    rw [hT] at FT
    clear hr hv
    cases hB : kickB v c (halfT t) n with
    | false =>
      rw [hB] at KP
      rw [show stepB v c t n = false by simp [stepB, hB]]
      go_enter Try.func34, Try.ntmps34
      go_wp2_with (first | (go_at_call 46; refine (FT _).mono ?_; rintro _ _ ⟨nq, rfl, rfl⟩) | (go_at_call 47; refine (KP _ (below_drewN bM _)).mono ?_; rintro _ W2 ⟨⟨s, rfl, -, -⟩, b2⟩))
      go_ret2
      exact RetC.no ((below_drewN bM nq).trans (b2.mono (below_drewN bM nq).size))
    | true =>
      rw [hB] at KP
      rw [show stepB v c t n = kickB (stepM v c t n) c (halfT t) n by simp [stepB, hT, hB]]
      clear hT hB
      go_enter Try.func34, Try.ntmps34
      go_wp2_with (go_at_call 46; refine (FT _).mono ?_; rintro _ _ ⟨nq, rfl, rfl⟩)
      (go_at_call 47; refine (KP _ (below_drewN bM _)).mono ?_; rintro _ W2 ⟨⟨s, rfl, hs, -⟩, b2⟩)
      obtain ⟨g, o, cf, r0, rfl, hcf, hcf2, hg, hcell, his, hown⟩ := (hs (by first | rfl | trivial)).cells
      have hzM := (below_drewN bM nq).size
      have bW2 : Below w.heap.size w W2 := (below_drewN bM nq).trans (b2.mono hzM)
      have hz2 : w.heap.size < W2.heap.size := by have := b2.size; simp at this; omega
      have m0 : W2.cell? ⟨w.heap.size, 0, none⟩ = some (.float .f32 x) := (b2.cell (p := ⟨w.heap.size, 0, none⟩) (by simp)).trans (by simp)
      have m1 : W2.cell? ⟨w.heap.size, 1, none⟩ = some (.float .f32 y) := (b2.cell (p := ⟨w.heap.size, 1, none⟩) (by simp)).trans (by simp)
      have HOWN := Lib.hid hown
      have HCELL := Lib.hid hcell
      have HIS := Lib.hid his
      clear hs b2 hown hcell his
      rcases Nat.eq_zero_or_pos n with rfl | h0
      · go_wp2_with fail
        go_loopw [24] (fun i wr => i = .int .i64 0 ∧ wr = W2) (fun i _ => 0)
        case atStart => exact ⟨rfl, rfl⟩
        case round =>
          obtain ⟨rfl, rfl⟩ := hrel
          go_wp2_with fail
          (go_at_call 47; refine (KP2 g o cf r0 (stepM v c t 0) hcf hcf2 wr hg (fun i hi => by omega) (fun i hi => by omega)).mono ?_; rintro _ W5 ⟨⟨u, rfl, ht, hf⟩, b5⟩)
          go_wp2_with fail
          go_ret2
          exact RetC.up (W := wr) ⟨⟨u, rfl, ht, hf⟩, b5⟩ bW2
      · obtain ⟨rfl, hgl, ho⟩ := HOWN.out h0
        have hgl2 : w.heap.size + 1 ≤ g := by simpa using hgl
        have HU := Lib.hid HIS.out
        clear HOWN HCELL HIS hgl
        go_wp2_with fail
        go_loopw [24] (fun i wr => ∃ (k : Nat) (r : Nat → Nat), k ≤ n ∧ i = .int .i64 k ∧ Own wr g (7 * n) (wordV r) ∧ (∀ i, i < 7 * n → Is .f32 (r i) (moveQ (kickV v c (halfT t) n) t (7 * k) i)) ∧ Below w.heap.size w wr ∧ Below (w.heap.size + 1) W2 wr) (fun i _ => n - (intOf i).toNat)
        case atStart => exact ⟨0, r0, Nat.zero_le _, rfl, ho, fun i hi => by rw [moveQ_f (by omega)]; exact HU.out i hi, bW2, Below.refl _ _⟩
        case round =>
          clear ho
          obtain ⟨k, r, hk, rfl, ho, hi, hbel, hbl2⟩ := hrel
          have HO := Lib.hid ho
          have HI := Lib.hid hi
          obtain ⟨X, rfl⟩ : ∃ X, X = wr := ⟨wr, rfl⟩
          have hgX := ho.1
          have hzX := hbl2.size
          by_cases hlt : k < n
          · obtain ⟨c0, c1, c2, c3, c4, c5, c6⟩ := own7 ho hlt
            clear ho hi
            go_wp2_with fail
            have i0 : Is .f32 (r (7 * k)) (kickV v c (halfT t) n (7 * k)) := by have := HI.out (7 * k) (by omega); rwa [moveQ_f (by omega)] at this
            have i1 : Is .f32 (r (7 * k + 1)) (kickV v c (halfT t) n (7 * k + 1)) := by have := HI.out (7 * k + 1) (by omega); rwa [moveQ_f (by omega)] at this
            have i2 : Is .f32 (r (7 * k + 2)) (kickV v c (halfT t) n (7 * k + 2)) := by have := HI.out (7 * k + 2) (by omega); rwa [moveQ_f (by omega)] at this
            have i3 : Is .f32 (r (7 * k + 3)) (kickV v c (halfT t) n (7 * k + 3)) := by have := HI.out (7 * k + 3) (by omega); rwa [moveQ_f (by omega)] at this
            have i4 : Is .f32 (r (7 * k + 4)) (kickV v c (halfT t) n (7 * k + 4)) := by have := HI.out (7 * k + 4) (by omega); rwa [moveQ_f (by omega)] at this
            have i5 : Is .f32 (r (7 * k + 5)) (kickV v c (halfT t) n (7 * k + 5)) := by have := HI.out (7 * k + 5) (by omega); rwa [moveQ_f (by omega)] at this
            have mX : X.cell? ⟨w.heap.size, 1, none⟩ = some (.float .f32 y) := (hbl2.cell (p := ⟨w.heap.size, 1, none⟩) (by simp)).trans m1
            have hwX : w.heap.size < X.heap.size := by omega
            generalize hW : X.alloc (Obj.cells #[.float .f32 (r (7 * k)), .float .f32 (r (7 * k + 1)), .float .f32 (r (7 * k + 2)), .float .f32 (r (7 * k + 3)), .float .f32 (r (7 * k + 4)), .float .f32 (r (7 * k + 5)), .float .f32 (r (7 * k + 6))] 42) = W
            have bXW : Below X.heap.size X W := by rw [← hW]; exact (Below.refl _ _).alloc (Nat.le_refl _) _
            have hDW : X.heap.size < W.heap.size := by rw [← hW]; simp
            have x0 : W.cell? ⟨X.heap.size, 0, none⟩ = some (.float .f32 (r (7 * k))) := by rw [← hW]; simp
            have x1 : W.cell? ⟨X.heap.size, 1, none⟩ = some (.float .f32 (r (7 * k + 1))) := by rw [← hW]; simp
            have x2 : W.cell? ⟨X.heap.size, 2, none⟩ = some (.float .f32 (r (7 * k + 2))) := by rw [← hW]; simp
            have x3 : W.cell? ⟨X.heap.size, 3, none⟩ = some (.float .f32 (r (7 * k + 3))) := by rw [← hW]; simp
            have x4 : W.cell? ⟨X.heap.size, 4, none⟩ = some (.float .f32 (r (7 * k + 4))) := by rw [← hW]; simp
            have x5 : W.cell? ⟨X.heap.size, 5, none⟩ = some (.float .f32 (r (7 * k + 5))) := by rw [← hW]; simp
            have hOW := HO.out.step bXW
            clear hW
            have hS0 : StpS w X.heap.size w.heap.size (r (7 * k)) (r (7 * k + 1)) (r (7 * k + 2)) (r (7 * k + 3)) (r (7 * k + 4)) (r (7 * k + 5)) y W := ⟨⟨hbel.trans (bXW.mono hbel.size), hDW, by omega⟩, x0, x1, x2, x3, x4, x5, (bXW.cell (p := ⟨w.heap.size, 1, none⟩) hwX).trans mX⟩
            clear c0 c1 c2 c3 c4 c5 c6 x0 x1 x2 x3 x4 x5 mX
            refine wp_region_held_drew (S := StpS w X.heap.size w.heap.size (r (7 * k)) (r (7 * k + 1)) (r (7 * k + 2)) (r (7 * k + 3)) (r (7 * k + 4)) (r (7 * k + 5)) y) (by kernel_rfl) hS0.drew (fun hHeld => ?_)
            (refine wpTake (i := 0) (some 29) (v := ?_) rfl (by rfl) (by kernel_rfl) (by kernel_rfl) (by kernel_rfl) (fun _ _ _ h => h) (Or.inl ⟨by rfl, ?_⟩) hHeld ?_; rotate_left; (focus (intro wx hSw; obtain ⟨hSA, ⟨hS0, hS1, hS2, hS3, hS4, hS5, hS6⟩⟩ := hSw; (try dsimp only); go_simp; (try with_reducible rfl))); (simp only [Act.put, List.setIfInBounds_toArray, List.set_cons_zero, List.set_cons_succ]))
            (refine wpTake (i := 1) (some 30) (v := ?_) rfl (by rfl) (by kernel_rfl) (by kernel_rfl) (by kernel_rfl) (fun _ _ _ h => h) (Or.inl ⟨by rfl, ?_⟩) hHeld ?_; rotate_left; (focus (intro wx hSw; obtain ⟨hSA, ⟨hS0, hS1, hS2, hS3, hS4, hS5, hS6⟩⟩ := hSw; (try dsimp only); go_simp; (try with_reducible rfl))); (simp only [Act.put, List.setIfInBounds_toArray, List.set_cons_zero, List.set_cons_succ]))
            (refine wpTake (i := 2) (some 31) (v := ?_) rfl (by rfl) (by kernel_rfl) (by kernel_rfl) (by kernel_rfl) (fun _ _ _ h => h) (Or.inl ⟨by rfl, ?_⟩) hHeld ?_; rotate_left; (focus (intro wx hSw; obtain ⟨hSA, ⟨hS0, hS1, hS2, hS3, hS4, hS5, hS6⟩⟩ := hSw; (try dsimp only); go_simp; (try with_reducible rfl))); (simp only [Act.put, List.setIfInBounds_toArray, List.set_cons_zero, List.set_cons_succ]))
            (refine wpTake (i := 3) (some 32) (v := ?_) rfl (by rfl) (by kernel_rfl) (by kernel_rfl) (by kernel_rfl) (fun _ _ _ h => h) (Or.inl ⟨by rfl, ?_⟩) hHeld ?_; rotate_left; (focus (intro wx hSw; obtain ⟨hSA, ⟨hS0, hS1, hS2, hS3, hS4, hS5, hS6⟩⟩ := hSw; (try dsimp only); go_simp; (try with_reducible rfl))); (simp only [Act.put, List.setIfInBounds_toArray, List.set_cons_zero, List.set_cons_succ]))
            (refine wpTake (i := 4) (some 33) (v := ?_) rfl (by rfl) (by kernel_rfl) (by kernel_rfl) (by kernel_rfl) (fun _ _ _ h => h) (Or.inl ⟨by rfl, ?_⟩) hHeld ?_; rotate_left; (focus (intro wx hSw; obtain ⟨hSA, ⟨hS0, hS1, hS2, hS3, hS4, hS5, hS6⟩⟩ := hSw; (try dsimp only); go_simp; (try with_reducible rfl))); (simp only [Act.put, List.setIfInBounds_toArray, List.set_cons_zero, List.set_cons_succ]))
            (refine wpTake (i := 5) (some 34) (v := ?_) rfl (by rfl) (by kernel_rfl) (by kernel_rfl) (by kernel_rfl) (fun _ _ _ h => h) (Or.inl ⟨by rfl, ?_⟩) hHeld ?_; rotate_left; (focus (intro wx hSw; obtain ⟨hSA, ⟨hS0, hS1, hS2, hS3, hS4, hS5, hS6⟩⟩ := hSw; (try dsimp only); go_simp; (try with_reducible rfl))); (simp only [Act.put, List.setIfInBounds_toArray, List.set_cons_zero, List.set_cons_succ]))
            (refine wpTake (i := 6) (some 35) (v := ?_) rfl (by rfl) (by kernel_rfl) (by kernel_rfl) (by kernel_rfl) (fun _ _ _ h => h) (Or.inl ⟨by rfl, ?_⟩) hHeld ?_; rotate_left; (focus (intro wx hSw; obtain ⟨hSA, ⟨hS0, hS1, hS2, hS3, hS4, hS5, hS6⟩⟩ := hSw; (try dsimp only); go_simp; (try with_reducible rfl))); (simp only [Act.put, List.setIfInBounds_toArray, List.set_cons_zero, List.set_cons_succ]))
            (refine wpTake (i := 7) (some 36) (v := ?_) rfl (by rfl) (by kernel_rfl) (by kernel_rfl) (by kernel_rfl) (fun _ _ _ h => h) (Or.inl ⟨by rfl, ?_⟩) hHeld ?_; rotate_left; (focus (intro wx hSw; obtain ⟨hSA, ⟨hS0, hS1, hS2, hS3, hS4, hS5, hS6⟩⟩ := hSw; (try dsimp only); go_simp; (try with_reducible rfl))); (simp only [Act.put, List.setIfInBounds_toArray, List.set_cons_zero, List.set_cons_succ]))
            (refine wpAnyH_ready (rs := [8]) (by kernel_rfl) (by simp) ?_; refine AllReadyH.cons rfl (fun K hK => ?_) AllReadyH.nil; go_simp)
            (go_at_call 49; (with_reducible refine (iScale3 i3 i4 i5 iy _).mono ?_); rintro _ W4 ⟨⟨q0, q1, q2, rfl, k0, k1, k2⟩, e4⟩)
            (go_wp2_with fail; refine hK.out _ _ (hHeld.at e4) (fun hHeld => ?_); clear hK K; (try simp only [Act.put, List.setIfInBounds_toArray, List.set_cons_zero, List.set_cons_succ]))
            (refine wpAnyH_ready (rs := [9]) (by kernel_rfl) (by simp) ?_; refine AllReadyH.cons rfl (fun K hK => ?_) AllReadyH.nil; go_simp)
            (go_at_call 48; (with_reducible refine (iAdd3 i0 i1 i2 k0 k1 k2 _).mono ?_); rintro _ W5 ⟨⟨t0, t1, t2, rfl, l0, l1, l2⟩, e5⟩)
            (go_wp2_with fail; refine hK.out _ _ (hHeld.at e5) (fun hHeld => ?_); clear hK K; (try simp only [Act.put, List.setIfInBounds_toArray, List.set_cons_zero, List.set_cons_succ]))
            (refine wpTake (i := 10) (some 39) (v := ?_) rfl (by rfl) (by kernel_rfl) (by kernel_rfl) (by kernel_rfl) (fun _ _ _ h => h) (Or.inl ⟨by rfl, ?_⟩) hHeld ?_; rotate_left; (focus (intro wx hSw; obtain ⟨hSA, ⟨hS0, hS1, hS2, hS3, hS4, hS5, hS6⟩⟩ := hSw; (try dsimp only); go_simp; (try with_reducible rfl))); (simp only [Act.put, List.setIfInBounds_toArray, List.set_cons_zero, List.set_cons_succ]))
            (refine wpTake (i := 11) (some 40) (v := ?_) rfl (by rfl) (by kernel_rfl) (by kernel_rfl) (by kernel_rfl) (fun _ _ _ h => h) (Or.inl ⟨by rfl, ?_⟩) hHeld ?_; rotate_left; (focus (intro wx hSw; obtain ⟨hSA, ⟨hS0, hS1, hS2, hS3, hS4, hS5, hS6⟩⟩ := hSw; (try dsimp only); go_simp; (try with_reducible rfl))); (simp only [Act.put, List.setIfInBounds_toArray, List.set_cons_zero, List.set_cons_succ]))
            have hO5 : Own W5 g (7 * n) (wordV r) := (((hOW.step (Below.refl _ _).drew).step e4).step e5)
            obtain ⟨p0, p1, p2, p3, p4, p5, p6⟩ := own7 hO5 hlt
            have fz : ∀ o, W5.frozen? ⟨g, o, none⟩ = false := hO5.2.2
            have nD : g ≠ X.heap.size := by omega
            have nM : g ≠ w.heap.size := by omega
            have hgw : w.heap.size ≤ g := by omega
            (refine wpAnyH_ready (rs := [12]) (by kernel_rfl) (by simp) ?_; refine AllReadyH.cons rfl (fun K hK => ?_) AllReadyH.nil; go_simp)
            refine hK.out _ _ (((hHeld.set hgw nD nM _ _).set hgw nD nM _ _).set hgw nD nM _ _) (fun hHeld => ?_)
            clear hK K
            (try simp only [Act.put, List.setIfInBounds_toArray, List.set_cons_zero, List.set_cons_succ])
            (refine wpAnyH_done (by kernel_rfl) ?_ _)
            have e2 : Below (w.heap.size + 1) W2 W5 := (hbl2.trans ((bXW.drew).mono (by omega))).trans ((e4.mono (by simp; omega)).trans (e5.mono (by have := e4.size; simp at this; omega)))
            have e1 : Below w.heap.size w W5 := bW2.trans (e2.mono (by omega))
            go_wp2_with fail
            go_roundw
            case rel =>
              refine ⟨k + 1, put3 r (7 * k) t0 t1 t2, by omega, by go_num, own3 hO5 (7 * k) (by omega) t0 t1 t2 (by omega) (by omega) (by omega), ?_, ((e1.setCell hgw _).setCell hgw _).setCell hgw _, ((e2.setCell hgl2 _).setCell hgl2 _).setCell hgl2 _⟩
              exact is_put3 HI.out (by rw [moveQ_t (by omega)]; have h := moveT_at (kickV v c (halfT t) n) t k 0 (by decide); rw [Nat.add_zero] at h; rw [h]; exact l0) (by rw [moveQ_t (by omega), moveT_at _ _ k 1 (by decide)]; exact l1) (by rw [moveQ_t (by omega), moveT_at _ _ k 2 (by decide)]; exact l2) (fun i _ hi => moveQ_step hi)
            case measure => simp [intOf]; omega
          · have hkn : Hid (k = n) := (show k = n by omega)
            have hI : ∀ i, i < 7 * n → Is .f32 (r i) (stepM v c t n i) := fun i h => by have := HI.out i h; rwa [moveQ_t (by rw [hkn.out]; exact h)] at this
            have n0 : X.cell? ⟨w.heap.size, 0, none⟩ = some (.float .f32 x) := (hbl2.cell (p := ⟨w.heap.size, 0, none⟩) (by simp)).trans m0
            have n1 : X.cell? ⟨w.heap.size, 1, none⟩ = some (.float .f32 y) := (hbl2.cell (p := ⟨w.heap.size, 1, none⟩) (by simp)).trans m1
            have hwX : w.heap.size < X.heap.size := by omega
            clear ho hi
            go_wp2_with fail
            (go_at_call 47; refine (KP2 g 0 cf r (stepM v c t n) hcf hcf2 X HO.out.1 (ownCells HO.out) hI).mono ?_; rintro _ W5 ⟨⟨u, rfl, ht, hf⟩, b5⟩)
            go_wp2_with fail
            go_ret2
            exact RetC.up (W := X) ⟨⟨u, rfl, ht, hf⟩, b5⟩ hbel
theorem iStepBodies (b off n cap : Nat) (f : Nat → Nat) (v : Nat → Option Nat) (hc : n ≤ cap) (hc2 : cap ≤ maxLen) {x y : Nat} {c t : Option Nat} (ix : Is .f32 x c) (iy : Is .f32 y t) (w : World) (hn : n ≤ 1048576) (hb : b < w.heap.size) (hr : ∀ i, i < 7 * n → w.cell? ⟨b, off + i, none⟩ = some (.float .f32 (f i))) (hv : ∀ i, i < 7 * n → Is .f32 (f i) (v i)) :
    Calls Try.prog 21 #[.slice (some ⟨b, off, none⟩) n cap, .float .f32 x, .float .f32 y] w (RetC (stepV v c t n) n (stepB v c t n) w) := by
  have hS := iStep b off n cap f v hc hc2 ix iy w hn hb hr hv
  clear hr hv
  go_enter Try.func21, Try.ntmps21
  go_wp2_with (go_at_call 34; refine hS.mono ?_; rintro _ W2 ⟨⟨s, rfl, ht, hf⟩, b2⟩)
  go_ret2
  exact ⟨⟨s, rfl, ht, hf⟩, b2⟩

/-- A list of m bodies; where it has bodies, it is of its own. -/
def RowD (lo : Nat) (w : World) (v : Value) (m : Nat) (u : Nat → Option Nat) : Prop :=
  ∃ g o c, v = .slice (some ⟨g, o, none⟩) m c ∧ g < w.heap.size ∧ (0 < m → o = 0 ∧ lo ≤ g ∧ ∃ r, Own w g (7 * m) (wordV r) ∧ ∀ i, i < 7 * m → Is .f32 (r i) (u i))
def RetD (u : Nat → Option Nat) (n : Nat) (ok : Bool) (w : World) (e : Ending) (w' : World) : Prop :=
  (∃ v, e = .returned (.tuple #[v, .bool ok]) ∧ (ok = true → RowD w.heap.size w' v n u) ∧ (ok = false → v = .slice none 0 0)) ∧ Below w.heap.size w w'
theorem RetD.no {u : Nat → Option Nat} {n : Nat} {w w' : World} (h : Below w.heap.size w w') : RetD u n false w (.returned (.tuple #[.slice none 0 0, .bool false])) w' := ⟨⟨_, rfl, fun h => (Bool.false_ne_true h).elim, fun _ => rfl⟩, h⟩
theorem RowD.lo {lo lo' : Nat} {w : World} {v : Value} {m : Nat} {u : Nat → Option Nat} (h : RowD lo' w v m u) (hl : lo ≤ lo') : RowD lo w v m u := by
  obtain ⟨g, o, c, e, hg, h⟩ := h
  exact ⟨g, o, c, e, hg, fun hp => ⟨(h hp).1, Nat.le_trans hl (h hp).2.1, (h hp).2.2⟩⟩
theorem RetD.up {u : Nat → Option Nat} {n : Nat} {ok : Bool} {w W w' : World} {e : Ending} (h : RetD u n ok W e w') (hb : Below w.heap.size w W) : RetD u n ok w e w' := by
  obtain ⟨⟨v, he, ht, hf⟩, hb2⟩ := h
  exact ⟨⟨v, he, fun h => (ht h).lo hb.size, hf⟩, hb.trans (hb2.mono hb.size)⟩
theorem RetD.list {u : Nat → Option Nat} {n : Nat} {ok : Bool} {w w' : World} {e : Ending} (h : RetD u n ok w e w') : RetList u n ok w e w' := by
  obtain ⟨⟨v, rfl, ht, hf⟩, hb⟩ := h
  refine ⟨⟨v, rfl, ?_⟩, hb⟩
  cases ok with
  | false => exact .inl ⟨by simp, _, _, hf rfl⟩
  | true =>
    obtain ⟨g, o, c, rfl, hg, h⟩ := ht rfl
    rcases Nat.eq_zero_or_pos n with rfl | hp
    · exact .inl ⟨by simp, _, _, rfl⟩
    · obtain ⟨rfl, hl, r, ho, hi⟩ := h hp
      exact .inr ⟨g, c, r, by simp, hl, hg, by simpa using ho, by simpa using hi⟩
theorem RowD.cells {lo : Nat} {w : World} {v : Value} {m : Nat} {u : Nat → Option Nat} (h : RowD lo w v m u) : ∃ g o c r, v = .slice (some ⟨g, o, none⟩) m c ∧ g < w.heap.size ∧ (∀ i, i < 7 * m → w.cell? ⟨g, o + i, none⟩ = some (.float .f32 (r i))) ∧ (∀ i, i < 7 * m → Is .f32 (r i) (u i)) ∧ (0 < m → o = 0 ∧ lo ≤ g ∧ Own w g (7 * m) (wordV r)) := by
  obtain ⟨g, o, c, e, hg, h⟩ := h
  rcases Nat.eq_zero_or_pos m with rfl | hp
  · exact ⟨g, o, c, fun _ => 0, e, hg, fun i hi => by omega, fun i hi => by omega, fun h0 => by omega⟩
  · obtain ⟨rfl, hl, r, ho, hi⟩ := h hp
    exact ⟨g, 0, c, r, e, hg, ownCells ho, hi, fun _ => ⟨rfl, hl, ho⟩⟩

/-- What a region holds that ends in a store into a row of the call's own: what was there is as it was, and so are three cells. -/
def KcmS (w : World) (D q0 q1 q2 x0 x1 x2 : Nat) (w' : World) : Prop := (Below w.heap.size w w' ∧ D < w'.heap.size) ∧ (w'.cell? ⟨D, q0, none⟩ = some (.float .f32 x0) ∧ w'.cell? ⟨D, q1, none⟩ = some (.float .f32 x1) ∧ w'.cell? ⟨D, q2, none⟩ = some (.float .f32 x2))
section
variable {w X Y : World} {D q0 q1 q2 x0 x1 x2 : Nat}
theorem KcmS.drew (h : KcmS w D q0 q1 q2 x0 x1 x2 X) : KcmS w D q0 q1 q2 x0 x1 x2 X.drew := ⟨⟨h.1.1.drew, h.1.2⟩, h.2⟩
theorem KcmS.at (h : KcmS w D q0 q1 q2 x0 x1 x2 X) (e : Below X.heap.size X Y) : KcmS w D q0 q1 q2 x0 x1 x2 Y := by
  obtain ⟨⟨a, hD⟩, c0, c1, c2⟩ := h
  exact ⟨⟨a.trans (e.mono a.size), Nat.lt_of_lt_of_le hD e.size⟩, (e.cell (p := ⟨D, q0, none⟩) hD).trans c0, (e.cell (p := ⟨D, q1, none⟩) hD).trans c1, (e.cell (p := ⟨D, q2, none⟩) hD).trans c2⟩
theorem KcmS.set {g z : Nat} (h : KcmS w D q0 q1 q2 x0 x1 x2 X) (hg : w.heap.size ≤ g) (n0 : g ≠ D ∨ z ≠ q0) (n1 : g ≠ D ∨ z ≠ q1) (n2 : g ≠ D ∨ z ≠ q2) (v : Value) : KcmS w D q0 q1 q2 x0 x1 x2 (X.setCell ⟨g, z, none⟩ v) := by
  obtain ⟨⟨a, hD⟩, c0, c1, c2⟩ := h
  have ne : ∀ {q : Nat}, g ≠ D ∨ z ≠ q → (⟨g, z, none⟩ : Addr) ≠ ⟨D, q, none⟩ := fun h e => by cases e; simp at h
  exact ⟨⟨a.setCell hg _, by simpa using hD⟩, by rw [World.cell?_setCell_other _ _ _ _ (ne n0), c0], by rw [World.cell?_setCell_other _ _ _ _ (ne n1), c1], by rw [World.cell?_setCell_other _ _ _ _ (ne n2), c2]⟩
end

theorem sOwnN (b off cap : Nat) (w : World) :
    Calls Try.prog 44 #[.slice (some ⟨b, off, none⟩) 0 cap] w fun e w' => (∃ g o c, e = .returned (.slice (some ⟨g, o, none⟩) 0 c) ∧ g < w'.heap.size) ∧ Below w.heap.size w w' := by
  go_enter Try.func44, Try.ntmps44
  go_wp2_with fail
  go_ret
  exact ⟨⟨w.heap.size, 0, 0, rfl, by simp⟩, by repeat' (first | with_reducible exact Below.refl _ _ | with_reducible assumption | (with_reducible refine Below.setCell ?_ (by first | omega | (simp; done) | (simp; omega)) _) | (with_reducible refine Below.alloc ?_ (by first | omega | (simp; done) | (simp; omega)) _) | (with_reducible refine below_drewN ?_ _) | (with_reducible refine Below.drew ?_) | (with_reducible refine Below.trans ?_ (Below.mono (by first | (with_reducible assumption) | exact Grow.below (by assumption)) (by first | omega | (simp; done) | (simp; omega)))))⟩

theorem sGiveN (b off n cap : Nat) (r : Nat → Nat) (u : Nat → Option Nat) (w : World) (hn : n ≤ 1048576) (hb : b < w.heap.size) (hr : ∀ i, i < 7 * n → w.cell? ⟨b, off + i, none⟩ = some (.float .f32 (r i))) (hu : ∀ i, i < 7 * n → Is .f32 (r i) (u i)) :
    Calls Try.prog 45 #[.slice (some ⟨b, off, none⟩) n cap] w fun e w' => (∃ v, e = .returned (.tuple #[v, .bool (areB u n)]) ∧ (areB u n = true → v = .slice (some ⟨b, off, none⟩) n cap) ∧ (areB u n = false → v = .slice none 0 0)) ∧ Below w.heap.size w w' := by
  have HA := sAre b off n cap r u w hn hb hr hu
  clear hr hu
  cases ha : areB u n with
  | false =>
    rw [ha] at HA
    go_enter Try.func45, Try.ntmps45
    go_wp2_with (go_at_call 26; refine (HA).mono ?_; rintro _ W1 ⟨rfl, b1⟩)
    go_ret2
    exact ⟨⟨_, rfl, by simp, by simp⟩, b1⟩
  | true =>
    rw [ha] at HA
    go_enter Try.func45, Try.ntmps45
    go_wp2_with (go_at_call 26; refine (HA).mono ?_; rintro _ W1 ⟨rfl, b1⟩)
    go_ret2
    exact ⟨⟨_, rfl, by simp, by simp⟩, b1⟩

set_option maxHeartbeats 3200000 in
theorem sKick (b off n cap : Nat) (f : Nat → Nat) (v : Nat → Option Nat) {x y : Nat} {c h : Option Nat} (ix : Is .f32 x c) (iy : Is .f32 y h) (hA : areB v n = true) (hL : leastB c = true) (w : World) (hn : n ≤ 1048576) (hb : b < w.heap.size) (hr : ∀ i, i < 7 * n → w.cell? ⟨b, off + i, none⟩ = some (.float .f32 (f i))) (hv : ∀ i, i < 7 * n → Is .f32 (f i) (v i)) :
    Calls Try.prog 30 #[.slice (some ⟨b, off, none⟩) n cap, .float .f32 x, .float .f32 y] w (RetD (kickV v c h n) n (kickB v c h n) w) := by
  have hst := run_store_float Try.prog
  have HP := sPullsL b off n cap f v ix hA hL w hn hb hr hv
  have HR := Lib.hid hr
  have HV := Lib.hid hv
  clear hr hv
  have hk : kickB v c h n = (plAll v c n n && areB (kickV v c h n) n) := by simp [kickB, plB, hA, hL]
  rw [hk]
  clear hk hA hL
  cases hB : plAll v c n n with
  | false =>
    rw [hB] at HP
    rw [Bool.false_and]
    go_enter Try.func30, Try.ntmps30
    go_wp2_with fail
    (go_at_call 43; refine HP.mono ?_; rintro _ W2 ⟨⟨s, rfl, -⟩, b2⟩)
    go_wp2_with fail
    go_ret2
    exact RetD.no b2
  | true =>
    rw [hB] at HP
    rw [Bool.true_and]
    clear hB
    go_enter Try.func30, Try.ntmps30
    go_wp2_with fail
    (go_at_call 43; refine HP.mono ?_; rintro _ W2 ⟨⟨s, rfl, hs⟩, b2⟩)
    have hz2 := b2.size
    rcases Nat.eq_zero_or_pos n with rfl | h0
    · obtain ⟨a, cp, rfl⟩ : ∃ a cp, s = .slice a 0 cp := by
        rcases hs with ⟨_, h⟩ | ⟨g, cc, r, h, _⟩
        · exact h
        · exact ⟨_, _, h⟩
      clear hs
      go_wp2_with fail
      (go_at_call 44; refine (sOwnN b off cap W2).mono ?_; rintro _ W3 ⟨⟨g, o, cf, rfl, hg⟩, b3⟩)
      have b3w : Below w.heap.size w W3 := b2.trans (b3.mono hz2)
      go_wp2_with fail
      go_loopw [11] (fun i wr => i = .int .i64 0 ∧ wr = W3) (fun i _ => 0)
      case atStart => exact ⟨rfl, rfl⟩
      case round =>
        obtain ⟨rfl, rfl⟩ := hrel
        go_wp2_with fail
        (go_at_call 45; refine (sGiveN g o 0 cf (fun _ => 0) (kickV v c h 0) wr (by omega) hg (fun i hi => by omega) (fun i hi => by omega)).mono ?_; rintro _ W6 ⟨⟨u, rfl, ht, hf⟩, b6⟩)
        go_wp2_with fail
        go_ret2
        refine ⟨⟨u, rfl, fun h => ?_, fun h => hf h⟩, b3w.trans (b6.mono b3w.size)⟩
        exact ⟨g, o, cf, ht h, Nat.lt_of_lt_of_le hg b6.size, fun h => absurd h (by omega)⟩
    · obtain ⟨gp, cp, rp, rfl, hgl, hgh, hop, hip⟩ : ∃ g c' r, s = .slice (some ⟨g, 0, none⟩) n c' ∧ w.heap.size ≤ g ∧ g < W2.heap.size ∧ Own W2 g (3 * n) (wordV r) ∧ ∀ i, i < 3 * n → Is .f32 (r i) (plV v c n i) := by
        rcases hs with ⟨h, _⟩ | ⟨g, cc, r, h1, h2, h3, h4, h5⟩
        · simp at h; omega
        · exact ⟨g, cc, r, by simpa using h1, h2, h3, by simpa using h4, by simpa using h5⟩
      clear hs
      go_wp2_with fail
      (go_at_call 44; refine (sOwn b off n cap f W2 h0 hn (Nat.lt_of_lt_of_le hb hz2) (fun i hi => (b2.cell (p := ⟨b, off + i, none⟩) hb).trans (HR.out i hi))).mono ?_; rintro _ W3 ⟨⟨g, cf, rfl, hg, ho⟩, b3⟩)
      have b3w : Below w.heap.size w W3 := b2.trans (b3.mono hz2)
      have HPC := Lib.hid (ownCells hop)
      have HPI := Lib.hid hip
      clear hop hip
      go_wp2_with fail
      go_loopw [11] (fun i wr => ∃ (k : Nat) (r : Nat → Nat), k ≤ n ∧ i = .int .i64 k ∧ Own wr g (7 * n) (wordV r) ∧ (∀ i, i < 7 * n → Is .f32 (r i) (kickP v c h n (7 * k) i)) ∧ Below w.heap.size w wr ∧ Below W2.heap.size W2 wr) (fun i _ => n - (intOf i).toNat)
      case atStart => exact ⟨0, f, Nat.zero_le _, rfl, ho, fun i hi => by rw [kickP_f (by omega)]; exact HV.out i hi, b3w, b3⟩
      case round =>
        clear ho b3 b3w
        obtain ⟨k, r, hk, rfl, ho, hi, hbel, hbl2⟩ := hrel
        have HO := Lib.hid ho
        have HI := Lib.hid hi
        obtain ⟨X, rfl⟩ : ∃ X, X = wr := ⟨wr, rfl⟩
        have hgX := ho.1
        have hzX := hbl2.size
        clear ho hi
        by_cases hlt : k < n
        · obtain ⟨d0, d1, d2⟩ := cells3 (off := 0) (fun i hi => HPC.out i hi) hlt
          simp only [Nat.zero_add] at d0 d1 d2
          rw [← hbl2.cell (by exact hgh)] at d0 d1 d2
          have hgpX : gp < X.heap.size := by omega
          have hkI : Hid ((k : Int) < n) := (show (k : Int) < n by omega)
          go_wp2_with fail
          have j3 : Is .f32 (r (7 * k + 3)) (v (7 * k + 3)) := by have := HI.out (7 * k + 3) (by omega); rwa [kickP_f (by omega)] at this
          have j4 : Is .f32 (r (7 * k + 4)) (v (7 * k + 4)) := by have := HI.out (7 * k + 4) (by omega); rwa [kickP_f (by omega)] at this
          have j5 : Is .f32 (r (7 * k + 5)) (v (7 * k + 5)) := by have := HI.out (7 * k + 5) (by omega); rwa [kickP_f (by omega)] at this
          have i0 : Is .f32 (rp (3 * k)) (plV v c n (3 * k)) := HPI.out _ (by omega)
          have i1 : Is .f32 (rp (3 * k + 1)) (plV v c n (3 * k + 1)) := HPI.out _ (by omega)
          have i2 : Is .f32 (rp (3 * k + 2)) (plV v c n (3 * k + 2)) := HPI.out _ (by omega)
          have hS0 : KcmS w gp (k * 3) (k * 3 + 1) (k * 3 + 2) (rp (3 * k)) (rp (3 * k + 1)) (rp (3 * k + 2)) X := ⟨⟨hbel, hgpX⟩, d0, d1, d2⟩
          have hOD : Own X.drew g (7 * n) (wordV r) := HO.out.step (Below.refl _ _).drew
          have hgn : g ≠ gp := by omega
          have hgw : w.heap.size ≤ g := by omega
          clear d0 d1 d2
          refine wp_region_held_drew (S := KcmS w gp (k * 3) (k * 3 + 1) (k * 3 + 2) (rp (3 * k)) (rp (3 * k + 1)) (rp (3 * k + 2))) (by kernel_rfl) hS0.drew (fun hHeld => ?_)
          (refine wpTake (i := 0) (some 28) (v := ?_) rfl (by rfl) (by kernel_rfl) (by kernel_rfl) (by kernel_rfl) (fun _ _ _ h => h) (Or.inl ⟨by rfl, ?_⟩) hHeld ?_; rotate_left; (focus (intro wx hSw; obtain ⟨hSA, ⟨hS0, hS1, hS2⟩⟩ := hSw; (try dsimp only); go_simp; (try with_reducible rfl))); (simp only [Act.put, List.setIfInBounds_toArray, List.set_cons_zero, List.set_cons_succ]))
          (refine wpTake (i := 1) (some 29) (v := ?_) rfl (by rfl) (by kernel_rfl) (by kernel_rfl) (by kernel_rfl) (fun _ _ _ h => h) (Or.inl ⟨by rfl, ?_⟩) hHeld ?_; rotate_left; (focus (intro wx hSw; obtain ⟨hSA, ⟨hS0, hS1, hS2⟩⟩ := hSw; (try dsimp only); go_simp; (try with_reducible rfl))); (simp only [Act.put, List.setIfInBounds_toArray, List.set_cons_zero, List.set_cons_succ]))
          (refine wpTake (i := 2) (some 30) (v := ?_) rfl (by rfl) (by kernel_rfl) (by kernel_rfl) (by kernel_rfl) (fun _ _ _ h => h) (Or.inl ⟨by rfl, ?_⟩) hHeld ?_; rotate_left; (focus (intro wx hSw; obtain ⟨hSA, ⟨hS0, hS1, hS2⟩⟩ := hSw; (try dsimp only); go_simp; (try with_reducible rfl))); (simp only [Act.put, List.setIfInBounds_toArray, List.set_cons_zero, List.set_cons_succ]))
          (refine wpTake (i := 3) (some 31) (v := ?_) rfl (by rfl) (by kernel_rfl) (by kernel_rfl) (by kernel_rfl) (fun _ _ _ h => h) (Or.inl ⟨by rfl, ?_⟩) hHeld ?_; rotate_left; (focus (intro wx hSw; obtain ⟨hSA, ⟨hS0, hS1, hS2⟩⟩ := hSw; (try dsimp only); go_simp; (try with_reducible rfl))); (simp only [Act.put, List.setIfInBounds_toArray, List.set_cons_zero, List.set_cons_succ]))
          (refine wpTake (i := 4) (some 32) (v := ?_) rfl (by rfl) (by kernel_rfl) (by kernel_rfl) (by kernel_rfl) (fun _ _ _ h => h) (Or.inl ⟨by rfl, ?_⟩) hHeld ?_; rotate_left; (focus (intro wx hSw; obtain ⟨hSA, ⟨hS0, hS1, hS2⟩⟩ := hSw; (try dsimp only); go_simp; (try with_reducible rfl))); (simp only [Act.put, List.setIfInBounds_toArray, List.set_cons_zero, List.set_cons_succ]))
          (refine wpTake (i := 5) (some 33) (v := ?_) rfl (by rfl) (by kernel_rfl) (by kernel_rfl) (by kernel_rfl) (fun _ _ _ h => h) (Or.inl ⟨by rfl, ?_⟩) hHeld ?_; rotate_left; (focus (intro wx hSw; obtain ⟨hSA, ⟨hS0, hS1, hS2⟩⟩ := hSw; (try dsimp only); go_simp; (try with_reducible rfl))); (simp only [Act.put, List.setIfInBounds_toArray, List.set_cons_zero, List.set_cons_succ]))
          (refine wpTake (i := 7) (some 35) (v := ?_) rfl (by rfl) (by kernel_rfl) (by kernel_rfl) (by kernel_rfl) (fun _ _ _ h => h) (Or.inl ⟨by rfl, ?_⟩) hHeld ?_; rotate_left; (focus (intro wx hSw; obtain ⟨hSA, ⟨hS0, hS1, hS2⟩⟩ := hSw; (try dsimp only); go_simp; (try with_reducible rfl))); (simp only [Act.put, List.setIfInBounds_toArray, List.set_cons_zero, List.set_cons_succ]))
          (refine wpTake (i := 8) (some 36) (v := ?_) rfl (by rfl) (by kernel_rfl) (by kernel_rfl) (by kernel_rfl) (fun _ _ _ h => h) (Or.inl ⟨by rfl, ?_⟩) hHeld ?_; rotate_left; (focus (intro wx hSw; obtain ⟨hSA, ⟨hS0, hS1, hS2⟩⟩ := hSw; (try dsimp only); go_simp; (try with_reducible rfl))); (simp only [Act.put, List.setIfInBounds_toArray, List.set_cons_zero, List.set_cons_succ]))
          (refine wpTake (i := 9) (some 37) (v := ?_) rfl (by rfl) (by kernel_rfl) (by kernel_rfl) (by kernel_rfl) (fun _ _ _ h => h) (Or.inl ⟨by rfl, ?_⟩) hHeld ?_; rotate_left; (focus (intro wx hSw; obtain ⟨hSA, ⟨hS0, hS1, hS2⟩⟩ := hSw; (try dsimp only); go_simp; (try with_reducible rfl))); (simp only [Act.put, List.setIfInBounds_toArray, List.set_cons_zero, List.set_cons_succ]))
          (refine wpTake (i := 10) (some 38) (v := ?_) rfl (by rfl) (by kernel_rfl) (by kernel_rfl) (by kernel_rfl) (fun _ _ _ h => h) (Or.inl ⟨by rfl, ?_⟩) hHeld ?_; rotate_left; (focus (intro wx hSw; obtain ⟨hSA, ⟨hS0, hS1, hS2⟩⟩ := hSw; (try dsimp only); go_simp; (try with_reducible rfl))); (simp only [Act.put, List.setIfInBounds_toArray, List.set_cons_zero, List.set_cons_succ]))
          (refine wpTake (i := 11) (some 39) (v := ?_) rfl (by rfl) (by kernel_rfl) (by kernel_rfl) (by kernel_rfl) (fun _ _ _ h => h) (Or.inl ⟨by rfl, ?_⟩) hHeld ?_; rotate_left; (focus (intro wx hSw; obtain ⟨hSA, ⟨hS0, hS1, hS2⟩⟩ := hSw; (try dsimp only); go_simp; (try with_reducible rfl))); (simp only [Act.put, List.setIfInBounds_toArray, List.set_cons_zero, List.set_cons_succ]))
          (refine wpAnyH_ready (rs := [6, 12]) (by kernel_rfl) (by simp) ?_; refine AllReadyH.cons rfl (fun K hK => ?_) (AllReadyH.cons rfl (fun K hK => ?_) AllReadyH.nil))
          · obtain ⟨u0, u1, u2, u3, u4, u5, u6⟩ := own7 hOD hlt
            go_simp
            refine hK.out _ _ hHeld (fun hHeld => ?_); clear hK K; (try simp only [Act.put, List.setIfInBounds_toArray, List.set_cons_zero, List.set_cons_succ])
            clear u0 u1 u2 u3 u4 u5 u6
            (refine wpAnyH_ready (rs := [12]) (by kernel_rfl) (by simp) ?_; refine AllReadyH.cons rfl (fun K hK => ?_) AllReadyH.nil; go_simp)
            (go_at_call 32; (with_reducible refine (sScale3 i0 i1 i2 iy _).mono ?_); rintro _ W4 ⟨⟨q0, q1, q2, rfl, k0, k1, k2⟩, e4⟩)
            (go_wp2_with fail; refine hK.out _ _ (hHeld.at e4) (fun hHeld => ?_); clear hK K; (try simp only [Act.put, List.setIfInBounds_toArray, List.set_cons_zero, List.set_cons_succ]))
            (refine wpAnyH_ready (rs := [13]) (by kernel_rfl) (by simp) ?_; refine AllReadyH.cons rfl (fun K hK => ?_) AllReadyH.nil; go_simp)
            (go_at_call 31; (with_reducible refine (sAdd3 j3 j4 j5 k0 k1 k2 _).mono ?_); rintro _ W5 ⟨⟨t0, t1, t2, rfl, l0, l1, l2⟩, e5⟩)
            (go_wp2_with fail; refine hK.out _ _ (hHeld.at e5) (fun hHeld => ?_); clear hK K; (try simp only [Act.put, List.setIfInBounds_toArray, List.set_cons_zero, List.set_cons_succ]))
            (refine wpTake (i := 14) (some 42) (v := ?_) rfl (by rfl) (by kernel_rfl) (by kernel_rfl) (by kernel_rfl) (fun _ _ _ h => h) (Or.inl ⟨by rfl, ?_⟩) hHeld ?_; rotate_left; (focus (intro wx hSw; obtain ⟨hSA, ⟨hS0, hS1, hS2⟩⟩ := hSw; (try dsimp only); go_simp; (try with_reducible rfl))); (simp only [Act.put, List.setIfInBounds_toArray, List.set_cons_zero, List.set_cons_succ]))
            (refine wpTake (i := 15) (some 43) (v := ?_) rfl (by rfl) (by kernel_rfl) (by kernel_rfl) (by kernel_rfl) (fun _ _ _ h => h) (Or.inl ⟨by rfl, ?_⟩) hHeld ?_; rotate_left; (focus (intro wx hSw; obtain ⟨hSA, ⟨hS0, hS1, hS2⟩⟩ := hSw; (try dsimp only); go_simp; (try with_reducible rfl))); (simp only [Act.put, List.setIfInBounds_toArray, List.set_cons_zero, List.set_cons_succ]))
            have hO5 : Own W5 g (7 * n) (wordV r) := (hOD.step e4).step e5
            obtain ⟨p0, p1, p2, p3, p4, p5, p6⟩ := own7 hO5 hlt
            have fz : ∀ o, W5.frozen? ⟨g, o, none⟩ = false := hO5.2.2
            (refine wpAnyH_ready (rs := [16]) (by kernel_rfl) (by simp) ?_; refine AllReadyH.cons rfl (fun K hK => ?_) AllReadyH.nil; go_simp)
            refine hK.out _ _ (((hHeld.set hgw (.inl hgn) (.inl hgn) (.inl hgn) _).set hgw (.inl hgn) (.inl hgn) (.inl hgn) _).set hgw (.inl hgn) (.inl hgn) (.inl hgn) _) (fun hHeld => ?_); clear hK K; (try simp only [Act.put, List.setIfInBounds_toArray, List.set_cons_zero, List.set_cons_succ])
            (refine wpAnyH_done (by kernel_rfl) ?_ _)
            have e2 : Below W2.heap.size W2 W5 := (hbl2.drew).trans ((e4.mono hzX).trans (e5.mono (by have := e4.size; simp at this; omega)))
            have e1 : Below w.heap.size w W5 := b2.trans (e2.mono hz2)
            go_wp2_with fail
            go_roundw
            case rel =>
              refine ⟨k + 1, put3 r (7 * k + 3) t0 t1 t2, by omega, by go_num, own3 hO5 (7 * k + 3) (by omega) t0 t1 t2 (by omega) (by omega) (by omega), ?_, ((e1.setCell hgw _).setCell hgw _).setCell hgw _, ((e2.setCell hg _).setCell hg _).setCell hg _⟩
              exact is_put3 HI.out (by rw [kickP_t (by omega), kickV_3]; exact l0) (by rw [kickP_t (by omega), show 7 * k + 3 + 1 = 7 * k + 4 from rfl, kickV_4]; exact l1) (by rw [kickP_t (by omega), show 7 * k + 3 + 2 = 7 * k + 5 from rfl, kickV_5]; exact l2) (fun i _ hi => kickP_step hi)
            case measure => simp [intOf]; omega
          · go_simp
            (go_at_call 32; (with_reducible refine (sScale3 i0 i1 i2 iy _).mono ?_); rintro _ W4 ⟨⟨q0, q1, q2, rfl, k0, k1, k2⟩, e4⟩)
            (go_wp2_with fail; refine hK.out _ _ (hHeld.at e4) (fun hHeld => ?_); clear hK K; (try simp only [Act.put, List.setIfInBounds_toArray, List.set_cons_zero, List.set_cons_succ]))
            obtain ⟨u0, u1, u2, u3, u4, u5, u6⟩ := own7 (hOD.step e4) hlt
            (refine wpAnyH_ready (rs := [6]) (by kernel_rfl) (by simp) ?_; refine AllReadyH.cons rfl (fun K hK => ?_) AllReadyH.nil; go_simp)
            refine hK.out _ _ hHeld (fun hHeld => ?_); clear hK K; (try simp only [Act.put, List.setIfInBounds_toArray, List.set_cons_zero, List.set_cons_succ])
            clear u0 u1 u2 u3 u4 u5 u6
            (refine wpAnyH_ready (rs := [13]) (by kernel_rfl) (by simp) ?_; refine AllReadyH.cons rfl (fun K hK => ?_) AllReadyH.nil; go_simp)
            (go_at_call 31; (with_reducible refine (sAdd3 j3 j4 j5 k0 k1 k2 _).mono ?_); rintro _ W5 ⟨⟨t0, t1, t2, rfl, l0, l1, l2⟩, e5⟩)
            (go_wp2_with fail; refine hK.out _ _ (hHeld.at e5) (fun hHeld => ?_); clear hK K; (try simp only [Act.put, List.setIfInBounds_toArray, List.set_cons_zero, List.set_cons_succ]))
            (refine wpTake (i := 14) (some 42) (v := ?_) rfl (by rfl) (by kernel_rfl) (by kernel_rfl) (by kernel_rfl) (fun _ _ _ h => h) (Or.inl ⟨by rfl, ?_⟩) hHeld ?_; rotate_left; (focus (intro wx hSw; obtain ⟨hSA, ⟨hS0, hS1, hS2⟩⟩ := hSw; (try dsimp only); go_simp; (try with_reducible rfl))); (simp only [Act.put, List.setIfInBounds_toArray, List.set_cons_zero, List.set_cons_succ]))
            (refine wpTake (i := 15) (some 43) (v := ?_) rfl (by rfl) (by kernel_rfl) (by kernel_rfl) (by kernel_rfl) (fun _ _ _ h => h) (Or.inl ⟨by rfl, ?_⟩) hHeld ?_; rotate_left; (focus (intro wx hSw; obtain ⟨hSA, ⟨hS0, hS1, hS2⟩⟩ := hSw; (try dsimp only); go_simp; (try with_reducible rfl))); (simp only [Act.put, List.setIfInBounds_toArray, List.set_cons_zero, List.set_cons_succ]))
            have hO5 : Own W5 g (7 * n) (wordV r) := (hOD.step e4).step e5
            obtain ⟨p0, p1, p2, p3, p4, p5, p6⟩ := own7 hO5 hlt
            have fz : ∀ o, W5.frozen? ⟨g, o, none⟩ = false := hO5.2.2
            (refine wpAnyH_ready (rs := [16]) (by kernel_rfl) (by simp) ?_; refine AllReadyH.cons rfl (fun K hK => ?_) AllReadyH.nil; go_simp)
            refine hK.out _ _ (((hHeld.set hgw (.inl hgn) (.inl hgn) (.inl hgn) _).set hgw (.inl hgn) (.inl hgn) (.inl hgn) _).set hgw (.inl hgn) (.inl hgn) (.inl hgn) _) (fun hHeld => ?_); clear hK K; (try simp only [Act.put, List.setIfInBounds_toArray, List.set_cons_zero, List.set_cons_succ])
            (refine wpAnyH_done (by kernel_rfl) ?_ _)
            have e2 : Below W2.heap.size W2 W5 := (hbl2.drew).trans ((e4.mono hzX).trans (e5.mono (by have := e4.size; simp at this; omega)))
            have e1 : Below w.heap.size w W5 := b2.trans (e2.mono hz2)
            go_wp2_with fail
            go_roundw
            case rel =>
              refine ⟨k + 1, put3 r (7 * k + 3) t0 t1 t2, by omega, by go_num, own3 hO5 (7 * k + 3) (by omega) t0 t1 t2 (by omega) (by omega) (by omega), ?_, ((e1.setCell hgw _).setCell hgw _).setCell hgw _, ((e2.setCell hg _).setCell hg _).setCell hg _⟩
              exact is_put3 HI.out (by rw [kickP_t (by omega), kickV_3]; exact l0) (by rw [kickP_t (by omega), show 7 * k + 3 + 1 = 7 * k + 4 from rfl, kickV_4]; exact l1) (by rw [kickP_t (by omega), show 7 * k + 3 + 2 = 7 * k + 5 from rfl, kickV_5]; exact l2) (fun i _ hi => kickP_step hi)
            case measure => simp [intOf]; omega
        · have hkn : Hid (k = n) := (show k = n by omega)
          have hI : ∀ i, i < 7 * n → Is .f32 (r i) (kickV v c h n i) := fun i h => by have := HI.out i h; rwa [kickP_t (by rw [hkn.out]; exact h)] at this
          go_wp2_with fail
          (go_at_call 45; refine (sGiveN g 0 n cf r (kickV v c h n) X hn HO.out.1 (ownCells HO.out) hI).mono ?_; rintro _ W6 ⟨⟨u, rfl, ht, hf⟩, b6⟩)
          go_wp2_with fail
          go_ret2
          refine ⟨⟨u, rfl, fun h => ?_, fun h => hf h⟩, hbel.trans (b6.mono hbel.size)⟩
          exact ⟨g, 0, cf, ht h, Nat.lt_of_lt_of_le HO.out.1 b6.size, fun _ => ⟨rfl, by omega, r, HO.out.step b6, hI⟩⟩

/-- Whether there are bodies behind a step, but for the tick. -/
def stepC (v : Nat → Option Nat) (c t : Option Nat) (n : Nat) : Bool := kickB v c (halfT t) n && kickB (stepM v c t n) c (halfT t) n

set_option maxHeartbeats 3200000 in
theorem sStepG (b off n cap : Nat) (f : Nat → Nat) (v : Nat → Option Nat) {x y : Nat} {c t : Option Nat} (ix : Is .f32 x c) (iy : Is .f32 y t) (hA : areB v n = true) (hL : leastB c = true) (w : World) (hn : n ≤ 1048576) (hb : b < w.heap.size) (hr : ∀ i, i < 7 * n → w.cell? ⟨b, off + i, none⟩ = some (.float .f32 (f i))) (hv : ∀ i, i < 7 * n → Is .f32 (f i) (v i)) :
    Calls Try.prog 18 #[.slice (some ⟨b, off, none⟩) n cap, .float .f32 x, .float .f32 y] w (RetD (stepV v c t n) n (stepC v c t n) w) := by
  have hst := run_store_float Try.prog
  have HK := fun (hh : Nat) (ih : Is .f32 hh (halfT t)) (W : World) (hW : Below w.heap.size w W) => sKick b off n cap f v ix ih hA hL W hn (Nat.lt_of_lt_of_le hb hW.size) (fun i hi => (hW.cell (p := ⟨b, off + i, none⟩) hb).trans (hr i hi)) hv
  have HK2 := fun (hh : Nat) (ih : Is .f32 hh (halfT t)) (g o cf : Nat) (r : Nat → Nat) (u : Nat → Option Nat) (h1 : areB u n = true) (W : World) (hg : g < W.heap.size) hr hv => sKick g o n cf r u ix ih h1 hL W hn hg hr hv
  clear hr hv
  cases hB : kickB v c (halfT t) n with
  | false =>
    rw [hB] at HK
    rw [show stepC v c t n = false by simp [stepC, hB]]
    go_enter Try.func18, Try.ntmps18
    go_wp2_with (apply wpList_arith; rfl; simp [Arith]; rfl; rfl; (first | assumption | exact is_lit64 _ (by decide) | exact is_lit32 _ (by decide)); (first | assumption | exact is_lit64 _ (by decide) | exact is_lit32 _ (by decide)); intro Kq hKq rq nq hq; go_simp)
    (go_at_call 30; refine (HK rq hq _ (below_drewN (Below.refl _ _) _)).mono ?_; rintro _ W2 ⟨⟨s, rfl, -, hf⟩, b2⟩)
    replace b2 : Below w.heap.size w W2 := (below_drewN (Below.refl _ _) nq).trans (b2.mono (by simp))
    go_wp2_with fail
    go_ret2
    exact RetD.no b2
  | true =>
    rw [hB] at HK
    rw [show stepC v c t n = kickB (stepM v c t n) c (halfT t) n by simp [stepC, hB]]
    clear hB hA
    go_enter Try.func18, Try.ntmps18
    go_wp2_with (apply wpList_arith; rfl; simp [Arith]; rfl; rfl; (first | assumption | exact is_lit64 _ (by decide) | exact is_lit32 _ (by decide)); (first | assumption | exact is_lit64 _ (by decide) | exact is_lit32 _ (by decide)); intro Kq hKq rq nq hq; go_simp)
    (go_at_call 30; refine (HK rq hq _ (below_drewN (Below.refl _ _) _)).mono ?_; rintro _ W2 ⟨⟨s, rfl, hs, -⟩, b2⟩)
    replace b2 : Below w.heap.size w W2 := (below_drewN (Below.refl _ _) nq).trans (b2.mono (by simp))
    obtain ⟨g, o, cf, r0, rfl, hg, hcell, his, hown⟩ := (hs (by first | rfl | trivial)).cells
    have hz2 := b2.size
    clear hs
    rcases Nat.eq_zero_or_pos n with rfl | h0
    · clear hcell his hown
      go_wp2_with fail
      go_loopw [11] (fun i wr => i = .int .i64 0 ∧ wr = W2) (fun i _ => 0)
      case atStart => exact ⟨rfl, rfl⟩
      case round =>
        obtain ⟨rfl, rfl⟩ := hrel
        have HA2 := sAre g o 0 cf r0 (stepM v c t 0) wr hn hg (fun i hi => by omega) (fun i hi => by omega)
        rw [show areB (stepM v c t 0) 0 = true from rfl] at HA2
        go_wp2_with fail
        (go_at_call 26; refine HA2.mono ?_; rintro _ W4 ⟨rfl, b4⟩)
        go_wp2_with fail
        (go_at_call 30; refine (HK2 rq hq g o cf r0 (stepM v c t 0) rfl W4 (Nat.lt_of_lt_of_le hg b4.size) (fun i hi => by omega) (fun i hi => by omega)).mono ?_; rintro _ W5 ⟨⟨u, rfl, ht, hf⟩, b5⟩)
        go_wp2_with fail
        go_ret2
        exact RetD.up (W := W4) ⟨⟨u, rfl, ht, hf⟩, b5⟩ (b2.trans (b4.mono hz2))
    · obtain ⟨rfl, hgw, ho⟩ := hown h0
      replace hgw : w.heap.size ≤ g := by simpa using hgw
      have HU := Lib.hid his
      clear hcell his hown
      go_wp2_with fail
      go_loopw [11] (fun i wr => ∃ (k : Nat) (r : Nat → Nat), k ≤ n ∧ i = .int .i64 k ∧ Own wr g (7 * n) (wordV r) ∧ (∀ i, i < 7 * n → Is .f32 (r i) (moveQ (kickV v c (halfT t) n) t (7 * k) i)) ∧ Below w.heap.size w wr) (fun i _ => n - (intOf i).toNat)
      case atStart => exact ⟨0, r0, Nat.zero_le _, rfl, ho, fun i hi => by rw [moveQ_f (by omega)]; exact HU.out i hi, b2⟩
      case round =>
        clear ho b2 hz2 hg
        obtain ⟨k, r, hk, rfl, ho, hi, hbel⟩ := hrel
        have HO := Lib.hid ho
        have HI := Lib.hid hi
        obtain ⟨X, rfl⟩ : ∃ X, X = wr := ⟨wr, rfl⟩
        have hgX := ho.1
        clear ho hi
        by_cases hlt : k < n
        · have hkI : Hid ((k : Int) < n) := (show (k : Int) < n by omega)
          go_wp2_with fail
          have i0 : Is .f32 (r (7 * k)) (kickV v c (halfT t) n (7 * k)) := by have := HI.out (7 * k) (by omega); rwa [moveQ_f (by omega)] at this
          have i1 : Is .f32 (r (7 * k + 1)) (kickV v c (halfT t) n (7 * k + 1)) := by have := HI.out (7 * k + 1) (by omega); rwa [moveQ_f (by omega)] at this
          have i2 : Is .f32 (r (7 * k + 2)) (kickV v c (halfT t) n (7 * k + 2)) := by have := HI.out (7 * k + 2) (by omega); rwa [moveQ_f (by omega)] at this
          have i3 : Is .f32 (r (7 * k + 3)) (kickV v c (halfT t) n (7 * k + 3)) := by have := HI.out (7 * k + 3) (by omega); rwa [moveQ_f (by omega)] at this
          have i4 : Is .f32 (r (7 * k + 4)) (kickV v c (halfT t) n (7 * k + 4)) := by have := HI.out (7 * k + 4) (by omega); rwa [moveQ_f (by omega)] at this
          have i5 : Is .f32 (r (7 * k + 5)) (kickV v c (halfT t) n (7 * k + 5)) := by have := HI.out (7 * k + 5) (by omega); rwa [moveQ_f (by omega)] at this
          obtain ⟨c0, c1, c2, c3, c4, c5, c6⟩ := own7 HO.out hlt
          have hS0 : KcmS w g (k * 7 + 3) (k * 7 + 4) (k * 7 + 5) (r (7 * k + 3)) (r (7 * k + 4)) (r (7 * k + 5)) X := ⟨⟨hbel, hgX⟩, c3, c4, c5⟩
          have hOD : Own X.drew g (7 * n) (wordV r) := HO.out.step (Below.refl _ _).drew
          clear c0 c1 c2 c3 c4 c5 c6
          refine wp_region_held_drew (S := KcmS w g (k * 7 + 3) (k * 7 + 4) (k * 7 + 5) (r (7 * k + 3)) (r (7 * k + 4)) (r (7 * k + 5))) (by kernel_rfl) hS0.drew (fun hHeld => ?_)
          (refine wpTake (i := 0) (some 29) (v := ?_) rfl (by rfl) (by kernel_rfl) (by kernel_rfl) (by kernel_rfl) (fun _ _ _ h => h) (Or.inl ⟨by rfl, ?_⟩) hHeld ?_; rotate_left; (focus (intro wx hSw; obtain ⟨hSA, ⟨hS0, hS1, hS2⟩⟩ := hSw; (try dsimp only); go_simp; (try with_reducible rfl))); (simp only [Act.put, List.setIfInBounds_toArray, List.set_cons_zero, List.set_cons_succ]))
          (refine wpTake (i := 1) (some 30) (v := ?_) rfl (by rfl) (by kernel_rfl) (by kernel_rfl) (by kernel_rfl) (fun _ _ _ h => h) (Or.inl ⟨by rfl, ?_⟩) hHeld ?_; rotate_left; (focus (intro wx hSw; obtain ⟨hSA, ⟨hS0, hS1, hS2⟩⟩ := hSw; (try dsimp only); go_simp; (try with_reducible rfl))); (simp only [Act.put, List.setIfInBounds_toArray, List.set_cons_zero, List.set_cons_succ]))
          (refine wpTake (i := 2) (some 31) (v := ?_) rfl (by rfl) (by kernel_rfl) (by kernel_rfl) (by kernel_rfl) (fun _ _ _ h => h) (Or.inl ⟨by rfl, ?_⟩) hHeld ?_; rotate_left; (focus (intro wx hSw; obtain ⟨hSA, ⟨hS0, hS1, hS2⟩⟩ := hSw; (try dsimp only); go_simp; (try with_reducible rfl))); (simp only [Act.put, List.setIfInBounds_toArray, List.set_cons_zero, List.set_cons_succ]))
          (refine wpTake (i := 3) (some 32) (v := ?_) rfl (by rfl) (by kernel_rfl) (by kernel_rfl) (by kernel_rfl) (fun _ _ _ h => h) (Or.inl ⟨by rfl, ?_⟩) hHeld ?_; rotate_left; (focus (intro wx hSw; obtain ⟨hSA, ⟨hS0, hS1, hS2⟩⟩ := hSw; (try dsimp only); go_simp; (try with_reducible rfl))); (simp only [Act.put, List.setIfInBounds_toArray, List.set_cons_zero, List.set_cons_succ]))
          (refine wpTake (i := 4) (some 33) (v := ?_) rfl (by rfl) (by kernel_rfl) (by kernel_rfl) (by kernel_rfl) (fun _ _ _ h => h) (Or.inl ⟨by rfl, ?_⟩) hHeld ?_; rotate_left; (focus (intro wx hSw; obtain ⟨hSA, ⟨hS0, hS1, hS2⟩⟩ := hSw; (try dsimp only); go_simp; (try with_reducible rfl))); (simp only [Act.put, List.setIfInBounds_toArray, List.set_cons_zero, List.set_cons_succ]))
          (refine wpTake (i := 5) (some 34) (v := ?_) rfl (by rfl) (by kernel_rfl) (by kernel_rfl) (by kernel_rfl) (fun _ _ _ h => h) (Or.inl ⟨by rfl, ?_⟩) hHeld ?_; rotate_left; (focus (intro wx hSw; obtain ⟨hSA, ⟨hS0, hS1, hS2⟩⟩ := hSw; (try dsimp only); go_simp; (try with_reducible rfl))); (simp only [Act.put, List.setIfInBounds_toArray, List.set_cons_zero, List.set_cons_succ]))
          (refine wpTake (i := 7) (some 36) (v := ?_) rfl (by rfl) (by kernel_rfl) (by kernel_rfl) (by kernel_rfl) (fun _ _ _ h => h) (Or.inl ⟨by rfl, ?_⟩) hHeld ?_; rotate_left; (focus (intro wx hSw; obtain ⟨hSA, ⟨hS0, hS1, hS2⟩⟩ := hSw; (try dsimp only); go_simp; (try with_reducible rfl))); (simp only [Act.put, List.setIfInBounds_toArray, List.set_cons_zero, List.set_cons_succ]))
          (refine wpTake (i := 8) (some 37) (v := ?_) rfl (by rfl) (by kernel_rfl) (by kernel_rfl) (by kernel_rfl) (fun _ _ _ h => h) (Or.inl ⟨by rfl, ?_⟩) hHeld ?_; rotate_left; (focus (intro wx hSw; obtain ⟨hSA, ⟨hS0, hS1, hS2⟩⟩ := hSw; (try dsimp only); go_simp; (try with_reducible rfl))); (simp only [Act.put, List.setIfInBounds_toArray, List.set_cons_zero, List.set_cons_succ]))
          (refine wpTake (i := 9) (some 38) (v := ?_) rfl (by rfl) (by kernel_rfl) (by kernel_rfl) (by kernel_rfl) (fun _ _ _ h => h) (Or.inl ⟨by rfl, ?_⟩) hHeld ?_; rotate_left; (focus (intro wx hSw; obtain ⟨hSA, ⟨hS0, hS1, hS2⟩⟩ := hSw; (try dsimp only); go_simp; (try with_reducible rfl))); (simp only [Act.put, List.setIfInBounds_toArray, List.set_cons_zero, List.set_cons_succ]))
          (refine wpTake (i := 10) (some 39) (v := ?_) rfl (by rfl) (by kernel_rfl) (by kernel_rfl) (by kernel_rfl) (fun _ _ _ h => h) (Or.inl ⟨by rfl, ?_⟩) hHeld ?_; rotate_left; (focus (intro wx hSw; obtain ⟨hSA, ⟨hS0, hS1, hS2⟩⟩ := hSw; (try dsimp only); go_simp; (try with_reducible rfl))); (simp only [Act.put, List.setIfInBounds_toArray, List.set_cons_zero, List.set_cons_succ]))
          (refine wpTake (i := 11) (some 40) (v := ?_) rfl (by rfl) (by kernel_rfl) (by kernel_rfl) (by kernel_rfl) (fun _ _ _ h => h) (Or.inl ⟨by rfl, ?_⟩) hHeld ?_; rotate_left; (focus (intro wx hSw; obtain ⟨hSA, ⟨hS0, hS1, hS2⟩⟩ := hSw; (try dsimp only); go_simp; (try with_reducible rfl))); (simp only [Act.put, List.setIfInBounds_toArray, List.set_cons_zero, List.set_cons_succ]))
          (refine wpTake (i := 12) (some 41) (v := ?_) rfl (by rfl) (by kernel_rfl) (by kernel_rfl) (by kernel_rfl) (fun _ _ _ h => h) (Or.inl ⟨by rfl, ?_⟩) hHeld ?_; rotate_left; (focus (intro wx hSw; obtain ⟨hSA, ⟨hS0, hS1, hS2⟩⟩ := hSw; (try dsimp only); go_simp; (try with_reducible rfl))); (simp only [Act.put, List.setIfInBounds_toArray, List.set_cons_zero, List.set_cons_succ]))
          (refine wpAnyH_ready (rs := [6, 13]) (by kernel_rfl) (by simp) ?_; refine AllReadyH.cons rfl (fun K hK => ?_) (AllReadyH.cons rfl (fun K hK => ?_) AllReadyH.nil))
          · obtain ⟨u0, u1, u2, u3, u4, u5, u6⟩ := own7 hOD hlt
            go_simp
            refine hK.out _ _ hHeld (fun hHeld => ?_); clear hK K; (try simp only [Act.put, List.setIfInBounds_toArray, List.set_cons_zero, List.set_cons_succ])
            clear u0 u1 u2 u3 u4 u5 u6
            (refine wpAnyH_ready (rs := [13]) (by kernel_rfl) (by simp) ?_; refine AllReadyH.cons rfl (fun K hK => ?_) AllReadyH.nil; go_simp)
            (go_at_call 32; (with_reducible refine (sScale3 i3 i4 i5 iy _).mono ?_); rintro _ W4 ⟨⟨q0, q1, q2, rfl, k0, k1, k2⟩, e4⟩)
            (go_wp2_with fail; refine hK.out _ _ (hHeld.at e4) (fun hHeld => ?_); clear hK K; (try simp only [Act.put, List.setIfInBounds_toArray, List.set_cons_zero, List.set_cons_succ]))
            (refine wpAnyH_ready (rs := [14]) (by kernel_rfl) (by simp) ?_; refine AllReadyH.cons rfl (fun K hK => ?_) AllReadyH.nil; go_simp)
            (go_at_call 31; (with_reducible refine (sAdd3 i0 i1 i2 k0 k1 k2 _).mono ?_); rintro _ W5 ⟨⟨t0, t1, t2, rfl, l0, l1, l2⟩, e5⟩)
            (go_wp2_with fail; refine hK.out _ _ (hHeld.at e5) (fun hHeld => ?_); clear hK K; (try simp only [Act.put, List.setIfInBounds_toArray, List.set_cons_zero, List.set_cons_succ]))
            (refine wpTake (i := 15) (some 44) (v := ?_) rfl (by rfl) (by kernel_rfl) (by kernel_rfl) (by kernel_rfl) (fun _ _ _ h => h) (Or.inl ⟨by rfl, ?_⟩) hHeld ?_; rotate_left; (focus (intro wx hSw; obtain ⟨hSA, ⟨hS0, hS1, hS2⟩⟩ := hSw; (try dsimp only); go_simp; (try with_reducible rfl))); (simp only [Act.put, List.setIfInBounds_toArray, List.set_cons_zero, List.set_cons_succ]))
            (refine wpTake (i := 16) (some 45) (v := ?_) rfl (by rfl) (by kernel_rfl) (by kernel_rfl) (by kernel_rfl) (fun _ _ _ h => h) (Or.inl ⟨by rfl, ?_⟩) hHeld ?_; rotate_left; (focus (intro wx hSw; obtain ⟨hSA, ⟨hS0, hS1, hS2⟩⟩ := hSw; (try dsimp only); go_simp; (try with_reducible rfl))); (simp only [Act.put, List.setIfInBounds_toArray, List.set_cons_zero, List.set_cons_succ]))
            have hO5 : Own W5 g (7 * n) (wordV r) := (hOD.step e4).step e5
            obtain ⟨p0, p1, p2, p3, p4, p5, p6⟩ := own7 hO5 hlt
            have fz : ∀ o, W5.frozen? ⟨g, o, none⟩ = false := hO5.2.2
            (refine wpAnyH_ready (rs := [17]) (by kernel_rfl) (by simp) ?_; refine AllReadyH.cons rfl (fun K hK => ?_) AllReadyH.nil; go_simp)
            refine hK.out _ _ (((hHeld.set hgw (.inr (by omega)) (.inr (by omega)) (.inr (by omega)) _).set hgw (.inr (by omega)) (.inr (by omega)) (.inr (by omega)) _).set hgw (.inr (by omega)) (.inr (by omega)) (.inr (by omega)) _) (fun hHeld => ?_); clear hK K; (try simp only [Act.put, List.setIfInBounds_toArray, List.set_cons_zero, List.set_cons_succ])
            (refine wpAnyH_done (by kernel_rfl) ?_ _)
            have e1 : Below w.heap.size w W5 := (hbel.drew).trans ((e4.mono hbel.size).trans (e5.mono (by have := e4.size; have := hbel.size; simp at *; omega)))
            go_wp2_with fail
            go_roundw
            case rel =>
              refine ⟨k + 1, put3 r (7 * k) t0 t1 t2, by omega, by go_num, own3 hO5 (7 * k) (by omega) t0 t1 t2 (by omega) (by omega) (by omega), ?_, ((e1.setCell hgw _).setCell hgw _).setCell hgw _⟩
              exact is_put3 HI.out (by rw [moveQ_t (by omega)]; have h := moveT_at (kickV v c (halfT t) n) t k 0 (by decide); rw [Nat.add_zero] at h; rw [h]; exact l0) (by rw [moveQ_t (by omega), moveT_at _ _ k 1 (by decide)]; exact l1) (by rw [moveQ_t (by omega), moveT_at _ _ k 2 (by decide)]; exact l2) (fun i _ hi => moveQ_step hi)
            case measure => simp [intOf]; omega
          · go_simp
            (go_at_call 32; (with_reducible refine (sScale3 i3 i4 i5 iy _).mono ?_); rintro _ W4 ⟨⟨q0, q1, q2, rfl, k0, k1, k2⟩, e4⟩)
            (go_wp2_with fail; refine hK.out _ _ (hHeld.at e4) (fun hHeld => ?_); clear hK K; (try simp only [Act.put, List.setIfInBounds_toArray, List.set_cons_zero, List.set_cons_succ]))
            obtain ⟨u0, u1, u2, u3, u4, u5, u6⟩ := own7 (hOD.step e4) hlt
            (refine wpAnyH_ready (rs := [6]) (by kernel_rfl) (by simp) ?_; refine AllReadyH.cons rfl (fun K hK => ?_) AllReadyH.nil; go_simp)
            refine hK.out _ _ hHeld (fun hHeld => ?_); clear hK K; (try simp only [Act.put, List.setIfInBounds_toArray, List.set_cons_zero, List.set_cons_succ])
            clear u0 u1 u2 u3 u4 u5 u6
            (refine wpAnyH_ready (rs := [14]) (by kernel_rfl) (by simp) ?_; refine AllReadyH.cons rfl (fun K hK => ?_) AllReadyH.nil; go_simp)
            (go_at_call 31; (with_reducible refine (sAdd3 i0 i1 i2 k0 k1 k2 _).mono ?_); rintro _ W5 ⟨⟨t0, t1, t2, rfl, l0, l1, l2⟩, e5⟩)
            (go_wp2_with fail; refine hK.out _ _ (hHeld.at e5) (fun hHeld => ?_); clear hK K; (try simp only [Act.put, List.setIfInBounds_toArray, List.set_cons_zero, List.set_cons_succ]))
            (refine wpTake (i := 15) (some 44) (v := ?_) rfl (by rfl) (by kernel_rfl) (by kernel_rfl) (by kernel_rfl) (fun _ _ _ h => h) (Or.inl ⟨by rfl, ?_⟩) hHeld ?_; rotate_left; (focus (intro wx hSw; obtain ⟨hSA, ⟨hS0, hS1, hS2⟩⟩ := hSw; (try dsimp only); go_simp; (try with_reducible rfl))); (simp only [Act.put, List.setIfInBounds_toArray, List.set_cons_zero, List.set_cons_succ]))
            (refine wpTake (i := 16) (some 45) (v := ?_) rfl (by rfl) (by kernel_rfl) (by kernel_rfl) (by kernel_rfl) (fun _ _ _ h => h) (Or.inl ⟨by rfl, ?_⟩) hHeld ?_; rotate_left; (focus (intro wx hSw; obtain ⟨hSA, ⟨hS0, hS1, hS2⟩⟩ := hSw; (try dsimp only); go_simp; (try with_reducible rfl))); (simp only [Act.put, List.setIfInBounds_toArray, List.set_cons_zero, List.set_cons_succ]))
            have hO5 : Own W5 g (7 * n) (wordV r) := (hOD.step e4).step e5
            obtain ⟨p0, p1, p2, p3, p4, p5, p6⟩ := own7 hO5 hlt
            have fz : ∀ o, W5.frozen? ⟨g, o, none⟩ = false := hO5.2.2
            (refine wpAnyH_ready (rs := [17]) (by kernel_rfl) (by simp) ?_; refine AllReadyH.cons rfl (fun K hK => ?_) AllReadyH.nil; go_simp)
            refine hK.out _ _ (((hHeld.set hgw (.inr (by omega)) (.inr (by omega)) (.inr (by omega)) _).set hgw (.inr (by omega)) (.inr (by omega)) (.inr (by omega)) _).set hgw (.inr (by omega)) (.inr (by omega)) (.inr (by omega)) _) (fun hHeld => ?_); clear hK K; (try simp only [Act.put, List.setIfInBounds_toArray, List.set_cons_zero, List.set_cons_succ])
            (refine wpAnyH_done (by kernel_rfl) ?_ _)
            have e1 : Below w.heap.size w W5 := (hbel.drew).trans ((e4.mono hbel.size).trans (e5.mono (by have := e4.size; have := hbel.size; simp at *; omega)))
            go_wp2_with fail
            go_roundw
            case rel =>
              refine ⟨k + 1, put3 r (7 * k) t0 t1 t2, by omega, by go_num, own3 hO5 (7 * k) (by omega) t0 t1 t2 (by omega) (by omega) (by omega), ?_, ((e1.setCell hgw _).setCell hgw _).setCell hgw _⟩
              exact is_put3 HI.out (by rw [moveQ_t (by omega)]; have h := moveT_at (kickV v c (halfT t) n) t k 0 (by decide); rw [Nat.add_zero] at h; rw [h]; exact l0) (by rw [moveQ_t (by omega), moveT_at _ _ k 1 (by decide)]; exact l1) (by rw [moveQ_t (by omega), moveT_at _ _ k 2 (by decide)]; exact l2) (fun i _ hi => moveQ_step hi)
            case measure => simp [intOf]; omega
        · have hkn : Hid (k = n) := (show k = n by omega)
          have hI : ∀ i, i < 7 * n → Is .f32 (r i) (stepM v c t n i) := fun i h => by have := HI.out i h; rwa [moveQ_t (by rw [hkn.out]; exact h)] at this
          have HA2 := sAre g 0 n cf r (stepM v c t n) X hn hgX (ownCells HO.out) hI
          cases hA2 : areB (stepM v c t n) n with
          | false =>
            rw [hA2] at HA2
            have HN := Lib.hid (show kickB (stepM v c t n) c (halfT t) n = false by simp [kickB, plB, hA2])
            go_wp2_with fail
            (go_at_call 26; refine HA2.mono ?_; rintro _ W4 ⟨rfl, b4⟩)
            go_wp2_with fail
            go_ret2
            rw [HN.out]
            exact RetD.no (hbel.trans (b4.mono hbel.size))
          | true =>
            rw [hA2] at HA2
            have HN := Lib.hid hA2
            clear hA2
            go_wp2_with fail
            (go_at_call 26; refine HA2.mono ?_; rintro _ W4 ⟨rfl, b4⟩)
            go_wp2_with fail
            (go_at_call 30; refine (HK2 rq hq g 0 cf r (stepM v c t n) HN.out W4 (Nat.lt_of_lt_of_le hgX b4.size) (ownCells (HO.out.step b4)) hI).mono ?_; rintro _ W5 ⟨⟨u, rfl, ht, hf⟩, b5⟩)
            go_wp2_with fail
            go_ret2
            exact RetD.up (W := W4) ⟨⟨u, rfl, ht, hf⟩, b5⟩ (hbel.trans (b4.mono hbel.size))

theorem sCan (b off n cap : Nat) (f : Nat → Nat) (v : Nat → Option Nat) {x y : Nat} {c t : Option Nat} (ix : Is .f32 x c) (iy : Is .f32 y t) (w : World) (hn : n ≤ 1048576) (hb : b < w.heap.size) (hr : ∀ i, i < 7 * n → w.cell? ⟨b, off + i, none⟩ = some (.float .f32 (f i))) (hv : ∀ i, i < 7 * n → Is .f32 (f i) (v i)) :
    Calls Try.prog 17 #[.slice (some ⟨b, off, none⟩) n cap, .float .f32 x, .float .f32 y] w fun e w' => e = .returned (.bool (areB v n && leastB c && finS t)) ∧ Below w.heap.size w w' := by
  have HA := sAre b off n cap f v w hn hb hr hv
  have CL := fun W => sLeast ix W
  clear hr hv
  cases hA : areB v n with
  | false =>
    rw [hA] at HA
    go_enter Try.func17, Try.ntmps17
    go_wp2_with (first | (go_at_call 26; refine (HA).mono ?_; rintro _ W1 ⟨rfl, b1⟩) | (go_at_call 29; refine (CL _).mono ?_; rintro eq wq ⟨nq, rfl, rfl⟩) | (go_at_call 19; refine (finite_any iy _).mono ?_; rintro eq wq ⟨nq, rfl, rfl⟩))
    go_ret
    exact ⟨rfl, b1⟩
  | true =>
    rw [hA] at HA
    cases hL : leastB c with
    | false =>
      rw [hL] at CL
      go_enter Try.func17, Try.ntmps17
      go_wp2_with (first | (go_at_call 26; refine (HA).mono ?_; rintro _ W1 ⟨rfl, b1⟩) | (go_at_call 29; refine (CL _).mono ?_; rintro eq wq ⟨nq, rfl, rfl⟩) | (go_at_call 19; refine (finite_any iy _).mono ?_; rintro eq wq ⟨nq, rfl, rfl⟩))
      go_ret
      exact ⟨rfl, below_drewN b1 _⟩
    | true =>
      rw [hL] at CL
      go_enter Try.func17, Try.ntmps17
      go_wp2_with (first | (go_at_call 26; refine (HA).mono ?_; rintro _ W1 ⟨rfl, b1⟩) | (go_at_call 29; refine (CL _).mono ?_; rintro eq wq ⟨nq, rfl, rfl⟩) | (go_at_call 19; refine (finite_any iy _).mono ?_; rintro eq wq ⟨nr, rfl, rfl⟩))
      go_ret
      exact ⟨by simp, by repeat' (first | with_reducible exact Below.refl _ _ | with_reducible assumption | (with_reducible refine Below.setCell ?_ (by first | omega | (simp; done) | (simp; omega)) _) | (with_reducible refine Below.alloc ?_ (by first | omega | (simp; done) | (simp; omega)) _) | (with_reducible refine below_drewN ?_ _) | (with_reducible refine Below.drew ?_) | (with_reducible refine Below.trans ?_ (Below.mono (by first | (with_reducible assumption) | exact Grow.below (by assumption)) (by first | omega | (simp; done) | (simp; omega)))))⟩
end Go.Proofs.Ytjljdnkedbejaaa
