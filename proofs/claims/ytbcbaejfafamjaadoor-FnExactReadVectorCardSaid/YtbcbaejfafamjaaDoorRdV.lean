/-
  The vector with a text: for every text the law returns true, and writes nothing that was there. Conditions: as for lists of numbers.
-/
import Derived.Test.YtbcbaejfafamjaaDoorSom
import Derived.Test.YtbcbaejfafamjaaDoorMem
namespace Go.Proofs.YtbcbaejfafamjaaDoor
open Go.RowKit

theorem eqVec_any {a0 a1 a2 b0 b1 b2 : Nat} {x0 x1 x2 : Option Nat} (h0 : Is .f32 a0 x0) (h1 : Is .f32 a1 x1) (h2 : Is .f32 a2 x2) (g0 : Is .f32 b0 x0) (g1 : Is .f32 b1 x1) (g2 : Is .f32 b2 x2) (w : World) :
    Calls Tryd.prog 20 #[vecV a0 a1 a2, vecV b0 b1 b2] w fun e w' => e = .returned (.bool true) ∧ Grow 2 w w' := by
  go_enter Tryd.func20, Tryd.ntmps20
  go_wp2_with (first | (apply wpList_wide und32 Tryd.underlying54; rfl; rfl; (first | assumption | exact is_lit64 _ (by decide) | exact is_lit32 _ (by decide)); intro Kq hKq rq nq hq; go_simp) | (go_at_call 33; refine (sameFloat_any (by assumption) (by assumption) _).mono ?_; rintro eq wq ⟨nq, rfl, rfl⟩))
  go_ret
  refine ⟨rfl, ?_, by simp [*]⟩
  repeat' (first | with_reducible exact Below.refl _ _ | with_reducible assumption | (with_reducible refine Below.setCell ?_ (by first | omega | (simp; done) | (simp; omega)) _) | (with_reducible refine Below.alloc ?_ (by first | omega | (simp; done) | (simp; omega)) _) | (with_reducible refine below_drewN ?_ _) | (with_reducible refine Below.drew ?_) | (with_reducible refine Below.trans ?_ (Below.mono (by first | (with_reducible assumption) | exact Grow.below (by assumption)) (by first | omega | (simp; done) | (simp; omega)))))

def okVec (s : ByteArray) : Bool := okN s && ((valsN s).length == 3)
def cV (s : ByteArray) (i : Nat) : Nat := if okVec s then (valsN s).getD i 0 else 0
def RetVV (s : ByteArray) (w : World) (e : Ending) (w' : World) : Prop :=
  e = .returned (.tuple #[vecV (cV s 0) (cV s 1) (cV s 2), .bool (okVec s)]) ∧ Below w.heap.size w w'

set_option maxHeartbeats 1600000 in
theorem implRV (s : ByteArray) (hs : s.size ≤ 1048576) (w : World) (hL : LibM w) : Calls Tryd.prog 19 #[.string s] w (RetVV s w) := by
  have HC := fun (W : World) (hB : Below w.heap.size w W) => iSome 3 (by decide) s hs W (hL.stays hB)
  have hst := run_store_float Tryd.prog
  clear hL
  cases hV : someB s 3 with
  | false =>
    rw [hV, someV_f hV] at HC
    have HE := Lib.hid (show (∀ i, cV s i = 0) ∧ okVec s = false from ⟨fun i => by unfold cV; rw [show okVec s = false from hV]; rfl, hV⟩)
    clear hV
    unfold RetVV
    rw [HE.out.1, HE.out.1, HE.out.1, HE.out.2]
    go_enter Tryd.func19, Tryd.ntmps19
    go_wp2_with (go_at_call 35; refine (HC _ ((Below.refl _ _).alloc (Nat.le_refl _) _)).mono ?_; rintro _ wq ⟨v, rfl, hr, hb⟩; obtain ⟨hc, hf⟩ := bcell hb; have hl : w.heap.size < wq.heap.size := (by have := hb.size; simp at this; omega); have HB := Lib.hid (((Below.refl w.heap.size w).alloc (Nat.le_refl _) _).trans (hb.mono (by simp))); obtain ⟨a, c, rfl⟩ := row_any hr; clear hr; clear hb)
    have hB := HB.out
    refine bodyPost_ret (v := .tuple #[vecV 0 0 0, .bool false]) (by simp [results, Tryd.results19, go_sem, hc, hl]) rfl ⟨rfl, ?_⟩
    repeat' (first | with_reducible exact Below.refl _ _ | with_reducible assumption | (with_reducible refine Below.setCell ?_ (by first | omega | (simp; done) | (simp; omega)) _) | (with_reducible refine Below.alloc ?_ (by first | omega | (simp; done) | (simp; omega)) _) | (with_reducible refine below_drewN ?_ _) | (with_reducible refine Below.drew ?_) | (with_reducible refine Below.trans ?_ (Below.mono (by first | (with_reducible assumption) | exact Grow.below (by assumption)) (by first | omega | (simp; done) | (simp; omega)))))
  | true =>
    have e : okVec s = true := hV
    obtain ⟨e1, h3⟩ := someV_t hV
    rw [hV, e1] at HC
    have hcv : ∀ i, cV s i = if okVec s then (valsN s).getD i 0 else 0 := fun _ => rfl
    clear hV e1
    generalize valsN s = xs at HC h3 hcv
    obtain ⟨a, b, c, rfl⟩ : ∃ a b c, xs = [a, b, c] := by
      match xs, h3 with
      | [a, b, c], _ => exact ⟨a, b, c, rfl⟩
    have HE := Lib.hid (show cV s 0 = a ∧ cV s 1 = b ∧ cV s 2 = c ∧ okVec s = true from ⟨by rw [hcv, e]; rfl, by rw [hcv, e]; rfl, by rw [hcv, e]; rfl, e⟩)
    clear e hcv h3
    unfold RetVV
    rw [HE.out.1, HE.out.2.1, HE.out.2.2.1, HE.out.2.2.2]
    go_enter Tryd.func19, Tryd.ntmps19
    go_wp2_with (go_at_call 35; refine (HC _ ((Below.refl _ _).alloc (Nat.le_refl _) _)).mono ?_; rintro _ wq ⟨v, rfl, hr, hb⟩; obtain ⟨hc, hf⟩ := bcell hb; have hl : w.heap.size < wq.heap.size := (by have := hb.size; simp at this; omega); have HB := Lib.hid (((Below.refl w.heap.size w).alloc (Nat.le_refl _) _).trans (hb.mono (by simp))); obtain ⟨g, cap, rfl, hg, hgl⟩ := hr.form (by simp); have k0 := row_cell hr (k := 0) rfl; have k1 := row_cell hr (k := 1) rfl; have k2 := row_cell hr (k := 2) rfl; clear hr; clear hb)
    go_region
    go_wp2_with fail
    have hB := HB.out
    refine bodyPost_ret (v := .tuple #[vecV a b c, .bool true]) (by simp [results, Tryd.results19, go_sem, hc, hl]) rfl ⟨rfl, ?_⟩
    repeat' (first | with_reducible exact Below.refl _ _ | with_reducible assumption | (with_reducible refine Below.setCell ?_ (by first | omega | (simp; done) | (simp; omega)) _) | (with_reducible refine Below.alloc ?_ (by first | omega | (simp; done) | (simp; omega)) _) | (with_reducible refine below_drewN ?_ _) | (with_reducible refine Below.drew ?_) | (with_reducible refine Below.trans ?_ (Below.mono (by first | (with_reducible assumption) | exact Grow.below (by assumption)) (by first | omega | (simp; done) | (simp; omega)))))
set_option maxHeartbeats 1600000 in
theorem specRV0 (s : ByteArray) (hs : s.size ≤ 1048576) (w : World) : Calls Tryd.prog 34 #[.string s] w (RetVV s w) := by
  have HC := fun (W : World) (hB : Below w.heap.size w W) => specNRd s hs W
  have HO := Lib.hid (show ∀ xs ok, valsN s = xs → okN s = ok → (okVec s = (ok && (xs.length == 3)) ∧ ∀ i, cV s i = if okVec s then xs.getD i 0 else 0) from fun xs ok h1 h2 => by subst h1; subst h2; exact ⟨rfl, fun _ => rfl⟩)
  generalize hxs : valsN s = xs at HC
  generalize hok : okN s = ok at HC
  obtain ⟨hV, hcv⟩ := HO.out xs ok hxs hok
  have hst := run_store_float Tryd.prog
  clear HO hxs hok
  have hbad : okVec s = false → Hid ((∀ i, cV s i = 0) ∧ okVec s = false) := fun e => Lib.hid ⟨fun i => by rw [hcv, e]; rfl, e⟩
  cases ok with
  | false =>
    have HE := hbad hV
    clear hV hcv hbad
    unfold RetVV
    rw [HE.out.1, HE.out.1, HE.out.1, HE.out.2]
    go_enter Tryd.func34, Tryd.ntmps34
    go_wp2_with (go_at_call 30; refine (HC _ ((Below.refl _ _).alloc (Nat.le_refl _) _)).mono ?_; rintro _ wq ⟨v, rfl, hr, hb⟩; obtain ⟨hc, hf⟩ := bcell hb; have hl : w.heap.size < wq.heap.size := (by have := hb.size; simp at this; omega); have HB := Lib.hid (((Below.refl w.heap.size w).alloc (Nat.le_refl _) _).trans (hb.mono (by simp))); obtain ⟨a, c, rfl⟩ := row_any hr; clear hr; clear hb)
    have hB := HB.out
    refine bodyPost_ret (v := .tuple #[vecV 0 0 0, .bool false]) (by simp [results, Tryd.results34, go_sem, hc, hl]) rfl ⟨rfl, ?_⟩
    repeat' (first | with_reducible exact Below.refl _ _ | with_reducible assumption | (with_reducible refine Below.setCell ?_ (by first | omega | (simp; done) | (simp; omega)) _) | (with_reducible refine Below.alloc ?_ (by first | omega | (simp; done) | (simp; omega)) _) | (with_reducible refine below_drewN ?_ _) | (with_reducible refine Below.drew ?_) | (with_reducible refine Below.trans ?_ (Below.mono (by first | (with_reducible assumption) | exact Grow.below (by assumption)) (by first | omega | (simp; done) | (simp; omega)))))
  | true =>
    by_cases h3 : xs.length = 3
    · obtain ⟨a, b, c, rfl⟩ : ∃ a b c, xs = [a, b, c] := by
        match xs, h3 with
        | [a, b, c], _ => exact ⟨a, b, c, rfl⟩
      have e : okVec s = true := hV
      have HE := Lib.hid (show cV s 0 = a ∧ cV s 1 = b ∧ cV s 2 = c ∧ okVec s = true from ⟨by rw [hcv, e]; rfl, by rw [hcv, e]; rfl, by rw [hcv, e]; rfl, e⟩)
      clear hV hcv e h3 hbad
      unfold RetVV
      rw [HE.out.1, HE.out.2.1, HE.out.2.2.1, HE.out.2.2.2]
      go_enter Tryd.func34, Tryd.ntmps34
      go_wp2_with (go_at_call 30; refine (HC _ ((Below.refl _ _).alloc (Nat.le_refl _) _)).mono ?_; rintro _ wq ⟨v, rfl, hr, hb⟩; obtain ⟨hc, hf⟩ := bcell hb; have hl : w.heap.size < wq.heap.size := (by have := hb.size; simp at this; omega); have HB := Lib.hid (((Below.refl w.heap.size w).alloc (Nat.le_refl _) _).trans (hb.mono (by simp))); obtain ⟨g, cap, rfl, hg, hgl⟩ := hr.form (by simp); have k0 := row_cell hr (k := 0) rfl; have k1 := row_cell hr (k := 1) rfl; have k2 := row_cell hr (k := 2) rfl; clear hr; clear hb)
      go_region
      go_wp2_with fail
      have hB := HB.out
      refine bodyPost_ret (v := .tuple #[vecV a b c, .bool true]) (by simp [results, Tryd.results34, go_sem, hc, hl]) rfl ⟨rfl, ?_⟩
      repeat' (first | with_reducible exact Below.refl _ _ | with_reducible assumption | (with_reducible refine Below.setCell ?_ (by first | omega | (simp; done) | (simp; omega)) _) | (with_reducible refine Below.alloc ?_ (by first | omega | (simp; done) | (simp; omega)) _) | (with_reducible refine below_drewN ?_ _) | (with_reducible refine Below.drew ?_) | (with_reducible refine Below.trans ?_ (Below.mono (by first | (with_reducible assumption) | exact Grow.below (by assumption)) (by first | omega | (simp; done) | (simp; omega)))))
    · have hl3 : ((xs.length : Int) != 3) = true := by simp; omega
      have HE := hbad (by rw [hV]; simp [h3])
      clear hV hcv hbad h3
      unfold RetVV
      rw [HE.out.1, HE.out.1, HE.out.1, HE.out.2]
      go_enter Tryd.func34, Tryd.ntmps34
      go_wp2_with (go_at_call 30; refine (HC _ ((Below.refl _ _).alloc (Nat.le_refl _) _)).mono ?_; rintro _ wq ⟨v, rfl, hr, hb⟩; obtain ⟨hc, hf⟩ := bcell hb; have hl : w.heap.size < wq.heap.size := (by have := hb.size; simp at this; omega); have HB := Lib.hid (((Below.refl w.heap.size w).alloc (Nat.le_refl _) _).trans (hb.mono (by simp))); obtain ⟨a, c, rfl⟩ := row_any hr; clear hr; clear hb)
      have hB := HB.out
      refine bodyPost_ret (v := .tuple #[vecV 0 0 0, .bool false]) (by simp [results, Tryd.results34, go_sem, hc, hl]) rfl ⟨rfl, ?_⟩
      repeat' (first | with_reducible exact Below.refl _ _ | with_reducible assumption | (with_reducible refine Below.setCell ?_ (by first | omega | (simp; done) | (simp; omega)) _) | (with_reducible refine Below.alloc ?_ (by first | omega | (simp; done) | (simp; omega)) _) | (with_reducible refine below_drewN ?_ _) | (with_reducible refine Below.drew ?_) | (with_reducible refine Below.trans ?_ (Below.mono (by first | (with_reducible assumption) | exact Grow.below (by assumption)) (by first | omega | (simp; done) | (simp; omega)))))

theorem specRV (s : ByteArray) (hs : s.size ≤ 1048576) (w : World) : Calls Tryd.prog 18 #[.string s] w (RetVV s w) := by
  have hst := run_store_float Tryd.prog
  go_enter Tryd.func18, Tryd.ntmps18
  go_wp2_with (go_at_call 34; refine (specRV0 s hs _).mono ?_; rintro _ wq ⟨rfl, hb⟩; obtain ⟨hc, hf⟩ := bcell hb; have hl : w.heap.size ≤ wq.heap.size := (by have := hb.size; simp at this; omega))
  have hB : Below w.heap.size w wq := ((Below.refl w.heap.size w).alloc (Nat.le_refl _) _).trans (hb.mono (by simp))
  refine bodyPost_ret (v := .tuple #[vecV (cV s 0) (cV s 1) (cV s 2), .bool (okVec s)]) (by simp [results, Tryd.results18, go_sem, hc]) rfl ⟨rfl, ?_⟩
  repeat' (first | with_reducible exact Below.refl _ _ | with_reducible assumption | (with_reducible refine Below.setCell ?_ (by first | omega | (simp; done) | (simp; omega)) _) | (with_reducible refine Below.alloc ?_ (by first | omega | (simp; done) | (simp; omega)) _) | (with_reducible refine below_drewN ?_ _) | (with_reducible refine Below.drew ?_) | (with_reducible refine Below.trans ?_ (Below.mono (by first | (with_reducible assumption) | exact Grow.below (by assumption)) (by first | omega | (simp; done) | (simp; omega)))))

theorem cV_lt (s : ByteArray) (i : Nat) : cV s i < 2 ^ 32 := by
  unfold cV
  split
  · rw [List.getD_eq_getElem?_getD]
    cases h : (valsN s)[i]? with
    | none => decide
    | some x => exact vals_lt s x (List.mem_of_getElem? h)
  · decide

set_option maxHeartbeats 1600000 in
theorem walk_vec (s : ByteArray) (w : World) (hL : LibM w) :
    Calls Tryd.prog 5 #[.string s] w fun e w' => e = .returned (.bool true) ∧ Below w.heap.size w w' := by
  by_cases hs : s.size ≤ 1048576
  · have hn' : decide (1048576 < ((s.size : Nat) : Int)) = false := by simp; omega
    have HS := fun w => specRV s hs w
    have HI := fun (w' : World) (hb : Below w.heap.size w w') => implRV s hs w' (hL.stays hb)
    have i0 := Is.self (k := .f32) (b := cV s 0) (cV_lt s 0)
    have i1 := Is.self (k := .f32) (b := cV s 1) (cV_lt s 1)
    have i2 := Is.self (k := .f32) (b := cV s 2) (cV_lt s 2)
    unfold RetVV at HS HI
    generalize cV s 0 = a at HS HI i0
    generalize cV s 1 = b at HS HI i1
    generalize cV s 2 = c at HS HI i2
    generalize okVec s = ok at HS HI
    clear hL
    have hst := run_store_float Tryd.prog
    go_enter Tryd.func5, Tryd.ntmps5
    go_wp2_with (go_at_call 18; refine (HS _).mono ?_; rintro _ w1 ⟨rfl, hb0⟩; have B0 := Lib.hid hb0; have z0 := hb0.size; clear hb0)
    have A0 : Below w.heap.size w (w1.alloc (.cells #[.float .f32 a, .float .f32 b, .float .f32 c] 35)) := B0.out.alloc z0 _
    refine (HI _ A0).mono ?_
    rintro _ w2 ⟨rfl, hb1⟩
    obtain ⟨hc, hf⟩ := bcell hb1
    have hl : w1.heap.size < w2.heap.size := (by have := hb1.size; simp at this; omega)
    have hn : ¬ w1.heap.size = w2.heap.size := by omega
    have B1 := Lib.hid (A0.trans (hb1.mono A0.size))
    clear hb1 A0
    go_wp2_with (go_at_call 20; refine (eqVec_any i0 i1 i2 i0 i1 i2 _).mono ?_; rintro _ w3 ⟨rfl, hb2⟩)
    go_ret
    have B2 := B1.out.alloc B1.out.size (.cells #[.float .f32 a, .float .f32 b, .float .f32 c] 35)
    exact ⟨rfl, B2.trans (hb2.1.mono B2.size)⟩
  · have hn' : decide (1048576 < ((s.size : Nat) : Int)) = true := by simp; omega
    clear hL
    go_enter Tryd.func5, Tryd.ntmps5
    go_wp2
    go_ret
    exact ⟨rfl, Below.refl _ _⟩

theorem walk_FnExactReadVector (s : ByteArray) (W : World) (_hw : s.size ≤ maxLen) (hL : laidMetH Tryd.prog Rows.fnExactReadVectorRow.laid W) (hsh : W.ShapedOpen Tryd.prog) :
    Calls Tryd.prog 5 #[.string s] W fun e w' => e = .returned (.bool true) ∧ Below W.heap.size W w' :=
  walk_vec s W ⟨lib_of_laidN (a := ("math/bits.deBruijn32tab", Rows.laid_math_bits_deBruijn32tab)) (b := ("internal/strconv.uint64pow10", Rows.laid_internal_strconv_uint64pow10)) (c := ("unicode/utf8.acceptRanges", Rows.laid_unicode_utf8_acceptRanges)) (rest := [("unicode/utf8.first", Rows.laid_unicode_utf8_first)]) (by rw [MakeChecks.laidMetH_plain _ _ _ (by kernel_rfl)]) rfl hL,
    cell_of_shapedOpen_int (zero := #[.int .i64 0]) (t := 3) hsh (of_decide_eq_true (by kernel_rfl)) (by kernel_rfl) rfl (by kernel_rfl) (by kernel_rfl) Tryd.underlying3⟩
end Go.Proofs.YtbcbaejfafamjaaDoor
