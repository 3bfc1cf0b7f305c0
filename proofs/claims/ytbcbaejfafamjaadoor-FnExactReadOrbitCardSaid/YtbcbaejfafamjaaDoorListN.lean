/-
  The numbers with a text: for every text the law returns true, and writes nothing that was there. Conditions: what the library's tables and errors hold, and that its limit is a number.
-/
import Derived.Test.YtbcbaejfafamjaaDoorRows
import Derived.Test.YtbcbaejfafamjaaDoorNumJ
import Derived.Test.YtbcbaejfafamjaaDoorNumS2
import Derived.Test.YtbcbaejfafamjaaDoorSame
import Derived.Deep.RegionHeld3
import Derived.Deep.RegionWith
import Derived.Shelf.Vars
import Derived.LaidMore
import Derived.Stop.Joined
import Derived.Stop.LaidErr
import Derived.Lib.SmallJoins
import Derived.Lib.LaidTab
namespace Go.Proofs.YtbcbaejfafamjaaDoor
open Go.RowKit

/-- The word that the conversion of a NaN draws. -/
def nw (x : Nat) (w : World) : Nat := (Question.nanConv .f64 x).cut (w.tape w.drawn (.nanConv .f64 x))
theorem is_nw (x : Nat) (w : World) : Is .f64 (nw x w) none := is_nanConv ..

theorem conv_nan {x : Nat} (h : nrm .f32 x = none) (w : World) : (convert 33 54 (.float .f32 x)).run Tryd.prog w = .ok (.float .f64 (nw x w)) (w.drewN 1) := by
  have hn : (FloatKind.f32.decode x).isNaN = true := by
    unfold nrm at h; split at h
    · assumption
    · cases h
  obtain ⟨sg, f, hd'⟩ := nan_cases hn
  have hs' := Tryd.underlying33
  have hd := Tryd.underlying54
  simp [convert, run_underlying hs', run_underlying hd, Conv.floatToFloat, hd', Question.forced, World.drew_is_drewN, nw]

theorem conv_num {x y : Nat} (hx : x < 2 ^ 32) (h : nrm .f32 x = some y) : ∃ z, (∀ w : World, (convert 33 54 (.float .f32 x)).run Tryd.prog w = .ok (.float .f64 z) w) ∧ Is .f64 z (cv .f32 .f64 (nrm .f32 x)) := by
  have ix : Is .f32 x (some y) := ⟨h, hx⟩
  have hf := fit_widen ix
  obtain rfl := ix.notNaN
  obtain ⟨r, hr⟩ := Option.isSome_iff_exists.1 (hf x rfl)
  exact ⟨r, fun w => run_convert_float_float w 33 54 .f32 .f64 x r und32 Tryd.underlying54 hr, by rw [h]; unfold cv; simp only [Option.bind_some, hr]; exact cv_notNaN (by decide) hr⟩

set_option maxHeartbeats 1600000 in
theorem eqF (b1 o1 c1 b2 o2 c2 n : Nat) (f : Nat → Nat) (w : World) (hn : n ≤ 1048576) (hw : ∀ i, i < n → f i < 2 ^ 32)
    (hr1 : ∀ i, i < n → w.cell? ⟨b1, o1 + i, none⟩ = some (.float .f32 (f i))) (hr2 : ∀ i, i < n → w.cell? ⟨b2, o2 + i, none⟩ = some (.float .f32 (f i))) :
    Calls Tryd.prog 15 #[.slice (some ⟨b1, o1, none⟩) n c1, .slice (some ⟨b2, o2, none⟩) n c2] w (RetV (.bool true) w) := by
  have HR1 := Lib.hid hr1
  have HR2 := Lib.hid hr2
  have HW := Lib.hid hw
  clear hr1 hr2 hw
  go_enter Tryd.func15, Tryd.ntmps15
  go_wp2
  go_loopw [5] (fun i wr => ∃ k m : Nat, k ≤ n ∧ i = .int .i64 k ∧ wr = w.drewN m) (fun i _ => n - (intOf i).toNat)
  case atStart => exact ⟨0, 0, Nat.zero_le _, rfl, rfl⟩
  case round =>
    obtain ⟨k, m, hk, rfl, rfl⟩ := hrel
    by_cases hlt : k < n
    · have hc1 := HR1.out k hlt
      have hc2 := HR2.out k hlt
      have hi : Is .f32 (f k) (nrm .f32 (f k)) := Is.self (HW.out k hlt)
      have hlt' : ((k : Nat) : Int) < (n : Int) := by omega
      have hk0 : (0 : Int) ≤ (k : Int) := by omega
      cases hv : nrm .f32 (f k) with
      | some y =>
        obtain ⟨z, hcv, hz⟩ := conv_num (HW.out k hlt) hv
        clear hv hi
        go_wp2_with fail
        go_region_with (go_at_call 33; refine (sameFloat_any hz hz _).mono ?_; rintro eq wq ⟨nq, rfl, rfl⟩)
        all_goals
          go_wp2
          go_roundw
          case rel => exact ⟨k + 1, _, by omega, by go_num, rfl⟩
          case measure => simp [intOf]; omega
      | none =>
        have hcv := conv_nan hv
        clear hv hi
        go_wp2_with fail
        go_region_with (go_at_call 33; refine (sameFloat_any (is_nw _ _) (is_nw _ _) _).mono ?_; rintro eq wq ⟨nq, rfl, rfl⟩)
        all_goals
          go_wp2
          go_roundw
          case rel => exact ⟨k + 1, _, by omega, by go_num, rfl⟩
          case measure => simp [intOf]; omega
    · go_wp2
      go_ret
      exact RetV.mk _

def ifS (n : Int) : Option Nat := some (FloatKind.f32.nearest n)
theorem is_ifS (n : Int) : Is .f32 (FloatKind.f32.nearest n) (ifS n) := by
  refine ⟨?_, (show FloatKind.f32.format.write (.number (n < 0) n.natAbs 0) < _ from Ieee.Format.write_lt _ _)⟩
  have := write_notNaN .f32 (.number (n < 0) n.natAbs 0) rfl
  unfold nrm FloatKind.nearest ifS
  rw [if_neg (by rw [this]; decide)]
  rfl

theorem eqI0 (a1 a2 : Option Addr) (c1 c2 : Nat) (w : World) :
    Calls Tryd.prog 15 #[.slice a1 0 c1, .slice a2 0 c2] w (RetV (.bool true) w) := by
  go_enter Tryd.func15, Tryd.ntmps15
  go_wp2
  go_loopw [5] (fun i wr => i = .int .i64 0 ∧ wr = w) (fun i _ => 0)
  case atStart => exact ⟨rfl, rfl⟩
  case round =>
    obtain ⟨rfl, rfl⟩ := hrel
    go_wp2
    go_ret
    exact RetV.mk0

theorem row_zero {w : World} {b : Nat} {e : TypeId} {size : Nat} {v : Value} {xs : List Value} (h : w.ownsRow b e size v 0 xs) : ∃ a c, v = .slice a 0 c := by
  obtain ⟨_, ⟨rfl, _⟩ | ⟨g, cap, _, rfl, _⟩⟩ := h
  · exact ⟨_, _, rfl⟩
  · exact ⟨_, _, rfl⟩

theorem row_int {w : World} {b g cap : Nat} {xs : List Nat} (h : w.ownsRow b 33 1 (.slice (some ⟨g, 0, none⟩) xs.length cap) xs.length (xs.map (Value.float .f32))) (i : Nat) (hi : i < xs.length) : w.cell? ⟨g, i, none⟩ = some (.float .f32 (xs.getD i 0)) :=
  row_cell h (by rw [List.getElem?_map, List.getElem?_eq_getElem hi]; simp [hi])

/-- Two rows of the same numbers are found equal. -/
theorem eqO {w : World} {b1 b2 : Nat} {v1 v2 : Value} {xs : List Nat} (hn : xs.length ≤ 1048576) (hx : ∀ x ∈ xs, x < 4294967296) (h1 : w.ownsRow b1 33 1 v1 xs.length (xs.map (Value.float .f32))) (h2 : w.ownsRow b2 33 1 v2 xs.length (xs.map (Value.float .f32))) :
    Calls Tryd.prog 15 #[v1, v2] w (RetV (.bool true) w) := by
  rcases Nat.eq_zero_or_pos xs.length with h0 | h0
  · rw [h0] at h1 h2
    obtain ⟨a1, c1, rfl⟩ := row_zero h1
    obtain ⟨a2, c2, rfl⟩ := row_zero h2
    exact eqI0 a1 a2 c1 c2 w
  · obtain ⟨g1, c1, rfl, _⟩ := h1.form h0
    obtain ⟨g2, c2, rfl, _⟩ := h2.form h0
    exact eqF g1 0 c1 g2 0 c2 xs.length (fun i => xs.getD i 0) w hn (fun i hi => by rw [List.getD_eq_getElem?_getD, List.getElem?_eq_getElem hi]; exact hx _ (List.getElem_mem hi)) (fun i hi => by rw [Nat.zero_add]; exact row_int h1 i hi) (fun i hi => by rw [Nat.zero_add]; exact row_int h2 i hi)

/-- The word of a mark. -/
def mw (i : Nat) : Nat := floatOfInt .f32 (1 + (i : Int))
/-- The marks: the first k of the numbers are marked. -/
def marks (xs : List Nat) (k : Nat) : List Value := (List.range xs.length).map fun i => Value.float .f32 (if i < k then mw i else xs.getD i 0)
theorem marks_zero (xs : List Nat) : xs.map (Value.float .f32) = marks xs 0 := by
  unfold marks
  apply List.ext_getElem
  · simp
  · intro i h1 h2
    simp at h1
    simp [h1]
theorem marks_set (xs : List Nat) (k : Nat) : (marks xs k).set k (.float .f32 (mw k)) = marks xs (k + 1) := by
  unfold marks
  apply List.ext_getElem
  · simp
  · intro i h1 h2
    simp at h1
    simp only [List.getElem_set, List.getElem_map, List.getElem_range]
    by_cases e : k = i
    · subst e; simp
    · have : (i < k + 1) ↔ (i < k) := by omega
      simp [e, this]
theorem marks_get (xs : List Nat) (k i : Nat) (h : i < xs.length) : (marks xs k)[i]? = some (.float .f32 (if i < k then mw i else xs.getD i 0)) := by
  unfold marks; rw [List.getElem?_map, List.getElem?_range h]; rfl

theorem markO {w : World} {b : Nat} {v : Value} {xs : List Nat} (hn : xs.length ≤ 1048576) (hb : b ≤ w.heap.size) (h : w.ownsRow b 33 1 v xs.length (xs.map (Value.float .f32))) :
    Calls Tryd.prog 16 #[v, .int .i64 1] w fun e w' => e = .returned (.int .i64 (1 + (xs.length : Int))) ∧ w'.ownsRow b 33 1 v xs.length (marks xs xs.length) ∧ Below b w w' := by
  rcases Nat.eq_zero_or_pos xs.length with h0 | h0
  · obtain rfl : xs = [] := List.length_eq_zero_iff.1 h0
    obtain ⟨a, c, rfl⟩ := row_zero h
    have HR := Lib.hid h
    clear h
    go_enter Tryd.func16, Tryd.ntmps16
    go_wp2
    go_loopw [1, 5] (fun q i wr => q = .int .i64 1 ∧ i = .int .i64 0 ∧ wr = w) (fun _ i _ => 0)
    case atStart => exact ⟨rfl, rfl, rfl⟩
    case round =>
      obtain ⟨rfl, rfl, rfl⟩ := hrel
      go_wp2
      go_ret
      exact ⟨rfl, HR.out, Below.refl _ _⟩
  · obtain ⟨g, cap, rfl, hg, hgl⟩ := h.form h0
    rw [marks_zero] at h
    have HR := Lib.hid h
    clear h
    go_enter Tryd.func16, Tryd.ntmps16
    go_wp2
    go_loopw [1, 5] (fun q i wr => ∃ k : Nat, k ≤ xs.length ∧ q = .int .i64 (1 + (k : Int)) ∧ i = .int .i64 (k : Nat) ∧ wr.ownsRow b 33 1 (.slice (some ⟨g, 0, none⟩) xs.length cap) xs.length (marks xs k) ∧ Below b w wr) (fun _ i _ => xs.length - (intOf i).toNat)
    case atStart => exact ⟨0, Nat.zero_le _, rfl, rfl, HR.out, Below.refl _ _⟩
    case round =>
      obtain ⟨k, hk, rfl, rfl, hrow, hbw⟩ := hrel
      have HO := Lib.hid hrow
      have HB := Lib.hid hbw
      by_cases hlt : k < xs.length
      · have hc := row_cell hrow (marks_get xs k k hlt)
        have hf := hrow.frozenAt k
        have hgk : g < wr.heap.size := World.block_lt_of_cell? _ _ hc
        have hst := run_store_float Tryd.prog
        have hmw := Lib.hid (show floatOfInt .f32 (1 + (k : Int)) = mw k from rfl)
        have hw1 : wrap64 (1 + (k : Int) + 1) = 1 + ((k + 1 : Nat) : Int) := by unfold wrap64; omega
        have HW := Lib.hid hw1
        clear hrow hbw hw1
        go_wp2
        go_roundw
        case rel => exact ⟨k + 1, by omega, by go_num, by go_num, by rw [← marks_set xs k, ← hmw.out]; exact (HO.out.stored k _).1, HB.out.setCell hg _⟩
        case measure => simp [intOf]; omega
      · have hkn : k = xs.length := by omega
        subst hkn
        clear hrow hbw
        go_wp2
        go_ret
        exact ⟨rfl, HO.out, HB.out⟩

theorem heldO {w : World} {b : Nat} {v : Value} {xs : List Nat} (hn : xs.length ≤ 1048576) (h : w.ownsRow b 33 1 v xs.length (marks xs xs.length)) :
    Calls Tryd.prog 17 #[v, .int .i64 1] w (RetV (.int .i64 (1 + (xs.length : Int))) w) := by
  rcases Nat.eq_zero_or_pos xs.length with h0 | h0
  · obtain rfl : xs = [] := List.length_eq_zero_iff.1 h0
    obtain ⟨a, c, rfl⟩ := row_zero h
    clear h
    go_enter Tryd.func17, Tryd.ntmps17
    go_wp2
    go_loopw [1, 5] (fun q i wr => q = .int .i64 1 ∧ i = .int .i64 0 ∧ wr = w) (fun _ i _ => 0)
    case atStart => exact ⟨rfl, rfl, rfl⟩
    case round =>
      obtain ⟨rfl, rfl, rfl⟩ := hrel
      go_wp2
      go_ret
      exact RetV.mk0
  · obtain ⟨g, cap, rfl, _, _⟩ := h.form h0
    have HO := Lib.hid h
    clear h
    go_enter Tryd.func17, Tryd.ntmps17
    go_wp2
    go_loopw [1, 5] (fun q i wr => ∃ k : Nat, k ≤ xs.length ∧ q = .int .i64 (1 + (k : Int)) ∧ i = .int .i64 (k : Nat) ∧ wr = w) (fun _ i _ => xs.length - (intOf i).toNat)
    case atStart => exact ⟨0, Nat.zero_le _, rfl, rfl, rfl⟩
    case round =>
      obtain ⟨k, hk, rfl, rfl, rfl⟩ := hrel
      by_cases hlt : k < xs.length
      · have hc := row_cell HO.out (marks_get xs xs.length k hlt)
        rw [if_pos hlt] at hc
        have ix : Is .f32 (floatOfInt .f32 (1 + (k : Int))) (ifS (1 + (k : Int))) := is_ifS _
        have hcmp := neq_of ix
        have hsome : (ifS (1 + (k : Int))).isNone = false := rfl
        unfold mw at hc
        go_wp2_with (apply wpList_cmp; rfl; simp [Cmp]; rfl; rfl; (first | assumption | exact is_lit64 _ (by decide) | exact is_lit32 _ (by decide)); (first | assumption | exact is_lit64 _ (by decide) | exact is_lit32 _ (by decide)); intro Kq hKq; go_simp)
        go_roundw
        case rel => exact ⟨k + 1, by omega, by go_num, by go_num, trivial⟩
        case measure => simp [intOf]; omega
      · have hkn : k = xs.length := by omega
        subst hkn
        go_wp2
        go_ret
        exact RetV.mk0

theorem vals_len (s : ByteArray) : (valsN s).length ≤ 256 := by
  unfold valsN
  split
  · simp
  · split
    · rename_i h1 h2
      unfold okN at h2
      rw [List.length_map]
      rcases Bool.or_eq_true_iff.1 h2 with h | h
      · exact absurd h h1
      · exact of_decide_eq_true (Bool.and_eq_true_iff.1 h).1
    · simp
theorem vals_lt (s : ByteArray) : ∀ x ∈ valsN s, x < 4294967296 := by
  unfold valsN
  split
  · simp
  · split
    · rename_i h1 h2
      unfold okN at h2
      intro x hx
      obtain ⟨p, hp, rfl⟩ := List.mem_map.1 hx
      rcases Bool.or_eq_true_iff.1 h2 with h | h
      · exact absurd h h1
      · have hq := List.all_eq_true.1 (Bool.and_eq_true_iff.1 h).2 p hp
        have hk := okXB_okH hq
        have h3 := spH_lt p hk 8 (Nat.le_refl _)
        have h4 : (16 : Nat) ^ 8 = 4294967296 := by decide
        rw [List.take_of_length_le (by have := hk.1; simp; omega), h4] at h3
        exact h3
    · simp

theorem ownsRow_drew {w : World} {base : Nat} {e : TypeId} {size : Nat} {v : Value} {n : Nat} {xs : List Value} (m : Nat) (h : w.ownsRow base e size v n xs) : (w.drewN m).ownsRow base e size v n xs := ownsRow_below h (below_drewN (Below.refl _ _) _)

set_option maxHeartbeats 1600000 in
theorem walk_list (s : ByteArray) (w : World) (hL : LibM w) :
    Calls Tryd.prog 4 #[.string s] w fun e w' => e = .returned (.bool true) ∧ Below w.heap.size w w' := by
  by_cases hs : s.size ≤ 1048576
  · have hn' : decide (1048576 < ((s.size : Nat) : Int)) = false := by simp; omega
    have HS := fun w => specNRd s hs w
    have HI := fun (w' : World) (hb : Below w.heap.size w w') => implNumsN s hs w' (hL.stays hb)
    have hl := vals_len s
    have hx2 := vals_lt s
    generalize valsN s = xs at HS HI hl hx2
    generalize okN s = ok at HS HI
    have hx : xs.length ≤ 1048576 := by omega
    have hneg : decide (1 + (xs.length : Int) < 0) = false := by simp; omega
    clear hL hl
    go_enter Tryd.func4, Tryd.ntmps4
    go_wp2_with (first
      | (go_at_call 13; go_in)
      | (go_at_call 30; refine (HS _).mono ?_; rintro eq w1 ⟨v0, rfl, hr0, hb0⟩; have R0 := Lib.hid hr0; have B0 := Lib.hid hb0; clear hr0 hb0)
      | (go_at_call 14; refine (HI _ (B0.out.trans ((below_drewN B4.out n5).mono B0.out.size))).mono ?_; rintro eq w6 ⟨v2, rfl, hr2, hb2⟩; have R2 := Lib.hid hr2; have R6 := Lib.hid (ownsRow_below (ownsRow_drew n5 R4.out) hb2); have B6 := Lib.hid ((below_drewN B4.out n5).trans (hb2.mono (below_drewN B4.out n5).size)); clear hr2 hb2)
      | (go_at_call 14; refine (HI _ B0.out).mono ?_; rintro eq w2 ⟨v1, rfl, hr1, hb1⟩; have R1 := Lib.hid hr1; have B2 := Lib.hid hb1; clear hr1 hb1)
      | (go_at_call 15; refine (eqO hx hx2 R2.out (ownsRow_below R0.out B6.out)).mono ?_; rintro eq wq ⟨n7, rfl, rfl⟩)
      | (go_at_call 15; refine (eqO hx hx2 R1.out (ownsRow_below R0.out B2.out)).mono ?_; rintro eq wq ⟨n3, rfl, rfl⟩)
      | (go_at_call 16; refine (markO hx (below_drewN B2.out n3).size (ownsRow_drew n3 R1.out)).mono ?_; rintro eq w4 ⟨rfl, hr4, hb4⟩; have R4 := Lib.hid hr4; have B4 := Lib.hid ((below_drewN B2.out n3).trans hb4); clear hr4 hb4)
      | (go_at_call 17; refine (heldO hx (ownsRow_drew n7 R6.out)).mono ?_; rintro eq wq ⟨n8, rfl, rfl⟩)
      | (go_at_call 17; refine (heldO hx R4.out).mono ?_; rintro eq wq ⟨n5, rfl, rfl⟩))
    go_ret
    exact ⟨rfl, B0.out.trans ((below_drewN B6.out (n7 + n8)).mono B0.out.size)⟩
  · have hn' : decide (1048576 < ((s.size : Nat) : Int)) = true := by simp; omega
    go_enter Tryd.func4, Tryd.ntmps4
    go_wp2_with fail
    go_ret
    exact ⟨rfl, Below.refl _ _⟩


theorem gTz : Tryd.prog.globalNamed "math/bits.deBruijn64tab" = some 8 := by kernel_rfl
def tzTab : List Int := [0, 1, 56, 2, 57, 49, 28, 3, 61, 58, 42, 50, 38, 29, 17, 4, 62, 47, 59, 36, 45, 43, 51, 22, 53, 39, 33, 30, 24, 18, 12, 5, 63, 55, 48, 27, 60, 41, 37, 16, 46, 35, 44, 21, 52, 32, 23, 11, 54, 26, 40, 15, 34, 20, 31, 10, 25, 14, 19, 9, 13, 8, 7, 6]
theorem gSynN : Tryd.prog.globalNamed "strconv.ErrSyntax" = some 2 := by kernel_rfl
theorem gRngN : Tryd.prog.globalNamed "strconv.ErrRange" = some 3 := by kernel_rfl
theorem star_nameN : "*" ++ "errors.errorString" = "*errors.errorString" := by decide
/-- From the row's condition to what the library reads. -/
theorem lib_of_laidN {l : List (String × DataW Unit)} {W : World} (hH : laidMetH Tryd.prog l W ↔ laidMet Tryd.prog l W) {a b c : String × DataW Unit} {t1 t2 : List UInt8} {rest : List (String × DataW Unit)}
    (hl : l = a :: ("math/bits.deBruijn64tab", Lib.tabData .u8 tzTab) :: b :: c :: ("strconv.ErrRange", .iface "*errors.errorString" (.ptr (.agg [.lit (.string t1)]))) :: ("strconv.ErrSyntax", .iface "*errors.errorString" (.ptr (.agg [.lit (.string t2)]))) :: rest)
    (h : laidMetH Tryd.prog l W) : LibN W := by
  have h := hH.1 h
  rw [hl] at h
  have h2 := laidMet.tail h
  have h4 := laidMet.tail (laidMet.tail (laidMet.tail h2))
  have h5 := laidMet.tail h4
  have hrow : ∀ u, Tryd.prog.typeName? 3 u = some "*errors.errorString" → u = 135 := fun u hu =>
    typeName_ptr_named (nm := "errors.errorString") (by rw [star_nameN]; kernel_rfl) (by kernel_rfl) (by decide) u (by rw [star_nameN]; exact hu)
  obtain ⟨a1, s1, hv1, -, -, -⟩ := laid_sentinel h4 gRngN (by kernel_rfl) Tryd.underlying64 hrow Tryd.underlying135 Tryd.underlying137 rfl rfl Tryd.underlying9 (by kernel_rfl) (by kernel_rfl)
  obtain ⟨a2, s2, hv2, -, -, -⟩ := laid_sentinel h5 gSynN (by kernel_rfl) Tryd.underlying64 hrow Tryd.underlying135 Tryd.underlying137 rfl rfl Tryd.underlying9 (by kernel_rfl) (by kernel_rfl)
  have ht : Lib.TabIs Tryd.prog W "math/bits.deBruijn64tab" .u8 tzTab := Lib.tabIs_of_head gTz (by kernel_rfl) Tryd.underlying155 Tryd.underlying5 (by kernel_rfl) (by kernel_rfl) h2
  have hc := ht.cell gTz 15 (by decide)
  exact ⟨⟨⟨_, _, by rw [World.var?_cell gSynN hv2 0]; rfl⟩, ⟨_, _, by rw [World.var?_cell gRngN hv1 0]; rfl⟩⟩, hc, World.block_lt_of_cell? _ _ hc⟩

theorem walk_FnExactReadNumbers (s : ByteArray) (W : World) (_hw : s.size ≤ maxLen) (hL : laidMetH Tryd.prog Rows.fnExactReadNumbersRow.laid W) (hsh : W.ShapedOpen Tryd.prog) :
    Calls Tryd.prog 4 #[.string s] W fun e w' => e = .returned (.bool true) ∧ Below W.heap.size W w' :=
  walk_list s W ⟨lib_of_laidN (a := ("math/bits.deBruijn32tab", Rows.laid_math_bits_deBruijn32tab)) (b := ("internal/strconv.uint64pow10", Rows.laid_internal_strconv_uint64pow10)) (c := ("unicode/utf8.acceptRanges", Rows.laid_unicode_utf8_acceptRanges)) (rest := [("unicode/utf8.first", Rows.laid_unicode_utf8_first)]) (by rw [MakeChecks.laidMetH_plain _ _ _ (by kernel_rfl)]) rfl hL,
    cell_of_shapedOpen_int (zero := #[.int .i64 0]) (t := 3) hsh (of_decide_eq_true (by kernel_rfl)) (by kernel_rfl) rfl (by kernel_rfl) (by kernel_rfl) Tryd.underlying3⟩
end Go.Proofs.YtbcbaejfafamjaaDoor
