/-
  The list with a text: for every text the law returns true, and writes nothing that was there. Conditions: what the library's tables and errors hold, and that its limit is a number.
-/
import Derived.Test.YtbcbaejfafamjaaDoorRows
import Derived.Test.YtbcbaejfafamjaaDoorNumI
import Derived.Deep.RegionHeld3
import Derived.Deep.RegionWith
import Derived.Shelf.Vars
namespace Go.Proofs.YtbcbaejfafamjaaDoor
open Go.RowKit

set_option maxHeartbeats 1600000 in
theorem eqI (b1 o1 c1 b2 o2 c2 n : Nat) (f : Nat → Int) (w : World) (hn : n ≤ 1048576)
    (hr1 : ∀ i, i < n → w.cell? ⟨b1, o1 + i, none⟩ = some (.int .i64 (f i))) (hr2 : ∀ i, i < n → w.cell? ⟨b2, o2 + i, none⟩ = some (.int .i64 (f i))) :
    Calls Tryd.prog 10 #[.slice (some ⟨b1, o1, none⟩) n c1, .slice (some ⟨b2, o2, none⟩) n c2] w (RetV (.bool true) w) := by
  have HR1 := Lib.hid hr1
  have HR2 := Lib.hid hr2
  clear hr1 hr2
  go_enter Tryd.func10, Tryd.ntmps10
  go_wp2
  go_loopw [5] (fun i wr => ∃ k m : Nat, k ≤ n ∧ i = .int .i64 k ∧ wr = w.drewN m) (fun i _ => n - (intOf i).toNat)
  case atStart => exact ⟨0, 0, Nat.zero_le _, rfl, rfl⟩
  case round =>
    obtain ⟨k, m, hk, rfl, rfl⟩ := hrel
    by_cases hlt : k < n
    · have hc1 := HR1.out k hlt
      have hc2 := HR2.out k hlt
      have hlt' : ((k : Nat) : Int) < (n : Int) := by omega
      have hk0 : (0 : Int) ≤ (k : Int) := by omega
      go_wp2_with fail
      go_region
      all_goals
        go_wp2
        go_roundw
        case rel => exact ⟨k + 1, _, by omega, by go_num, rfl⟩
        case measure => simp [intOf]; omega
    · go_wp2
      go_ret
      exact RetV.mk _

theorem eqI0 (a1 a2 : Option Addr) (c1 c2 : Nat) (w : World) :
    Calls Tryd.prog 10 #[.slice a1 0 c1, .slice a2 0 c2] w (RetV (.bool true) w) := by
  go_enter Tryd.func10, Tryd.ntmps10
  go_wp2
  go_loopw [5] (fun i wr => i = .int .i64 0 ∧ wr = w) (fun i _ => 0)
  case atStart => exact ⟨rfl, rfl⟩
  case round =>
    obtain ⟨rfl, rfl⟩ := hrel
    go_wp2
    go_ret
    exact RetV.mk0

theorem row_zero {w : World} {b : Nat} {e : TypeId} {size : Nat} {v : Value} {xs : List Value} (h : w.ownsRow b e size v 0 xs) : ∃ a c, v = .slice a 0 c := by
  obtain ⟨_, ⟨rfl, _⟩ | ⟨g, cap, _, rfl, _⟩⟩ := h
  · exact ⟨_, _, rfl⟩
  · exact ⟨_, _, rfl⟩

theorem row_int {w : World} {b g cap : Nat} {xs : List Int} (h : w.ownsRow b 2 1 (.slice (some ⟨g, 0, none⟩) xs.length cap) xs.length (xs.map (Value.int .i64))) (i : Nat) (hi : i < xs.length) : w.cell? ⟨g, i, none⟩ = some (.int .i64 (xs.getD i 0)) :=
  row_cell h (by rw [List.getElem?_map, List.getElem?_eq_getElem hi]; simp [hi])

/-- Two rows of the same numbers are found equal. -/
theorem eqO {w : World} {b1 b2 : Nat} {v1 v2 : Value} {xs : List Int} (hn : xs.length ≤ 1048576) (h1 : w.ownsRow b1 2 1 v1 xs.length (xs.map (Value.int .i64))) (h2 : w.ownsRow b2 2 1 v2 xs.length (xs.map (Value.int .i64))) :
    Calls Tryd.prog 10 #[v1, v2] w (RetV (.bool true) w) := by
  rcases Nat.eq_zero_or_pos xs.length with h0 | h0
  · rw [h0] at h1 h2
    obtain ⟨a1, c1, rfl⟩ := row_zero h1
    obtain ⟨a2, c2, rfl⟩ := row_zero h2
    exact eqI0 a1 a2 c1 c2 w
  · obtain ⟨g1, c1, rfl, _⟩ := h1.form h0
    obtain ⟨g2, c2, rfl, _⟩ := h2.form h0
    exact eqI g1 0 c1 g2 0 c2 xs.length (fun i => xs.getD i 0) w hn (fun i hi => by rw [Nat.zero_add]; exact row_int h1 i hi) (fun i hi => by rw [Nat.zero_add]; exact row_int h2 i hi)

/-- The marks: the first k of the numbers are marked. -/
def marks (xs : List Int) (k : Nat) : List Value := (List.range xs.length).map fun i => Value.int .i64 (if i < k then 1 + (i : Int) else xs.getD i 0)
theorem marks_zero (xs : List Int) : xs.map (Value.int .i64) = marks xs 0 := by
  unfold marks
  apply List.ext_getElem
  · simp
  · intro i h1 h2
    simp at h1
    simp [h1]
theorem marks_set (xs : List Int) (k : Nat) : (marks xs k).set k (.int .i64 (1 + (k : Int))) = marks xs (k + 1) := by
  unfold marks
  apply List.ext_getElem
  · simp
  · intro i h1 h2
    simp at h1
    simp only [List.getElem_set, List.getElem_map, List.getElem_range]
    by_cases e : k = i
    · subst e; simp
    · have : (i < k + 1) ↔ (i < k) := by omega
      simp [e, this]
theorem marks_get (xs : List Int) (k i : Nat) (h : i < xs.length) : (marks xs k)[i]? = some (.int .i64 (if i < k then 1 + (i : Int) else xs.getD i 0)) := by
  unfold marks; rw [List.getElem?_map, List.getElem?_range h]; rfl

theorem markO {w : World} {b : Nat} {v : Value} {xs : List Int} (hn : xs.length ≤ 1048576) (hb : b ≤ w.heap.size) (h : w.ownsRow b 2 1 v xs.length (xs.map (Value.int .i64))) :
    Calls Tryd.prog 11 #[v, .int .i64 1] w fun e w' => e = .returned (.int .i64 (1 + (xs.length : Int))) ∧ w'.ownsRow b 2 1 v xs.length (marks xs xs.length) ∧ Below b w w' := by
  rcases Nat.eq_zero_or_pos xs.length with h0 | h0
  · obtain rfl : xs = [] := List.length_eq_zero_iff.1 h0
    obtain ⟨a, c, rfl⟩ := row_zero h
    have HR := Lib.hid h
    clear h
    go_enter Tryd.func11, Tryd.ntmps11
    go_wp2
    go_loopw [1, 5] (fun q i wr => q = .int .i64 1 ∧ i = .int .i64 0 ∧ wr = w) (fun _ i _ => 0)
    case atStart => exact ⟨rfl, rfl, rfl⟩
    case round =>
      obtain ⟨rfl, rfl, rfl⟩ := hrel
      go_wp2
      go_ret
      exact ⟨rfl, HR.out, Below.refl _ _⟩
  · obtain ⟨g, cap, rfl, hg, hgl⟩ := h.form h0
    rw [marks_zero] at h
    have HR := Lib.hid h
    clear h
    go_enter Tryd.func11, Tryd.ntmps11
    go_wp2
    go_loopw [1, 5] (fun q i wr => ∃ k : Nat, k ≤ xs.length ∧ q = .int .i64 (1 + (k : Int)) ∧ i = .int .i64 (k : Nat) ∧ wr.ownsRow b 2 1 (.slice (some ⟨g, 0, none⟩) xs.length cap) xs.length (marks xs k) ∧ Below b w wr) (fun _ i _ => xs.length - (intOf i).toNat)
    case atStart => exact ⟨0, Nat.zero_le _, rfl, rfl, HR.out, Below.refl _ _⟩
    case round =>
      obtain ⟨k, hk, rfl, rfl, hrow, hbw⟩ := hrel
      have HO := Lib.hid hrow
      have HB := Lib.hid hbw
      by_cases hlt : k < xs.length
      · have hc := row_cell hrow (marks_get xs k k hlt)
        have hf := hrow.frozenAt k
        have hgk : g < wr.heap.size := World.block_lt_of_cell? _ _ hc
        have hw1 : wrap64 (1 + (k : Int) + 1) = 1 + ((k + 1 : Nat) : Int) := by unfold wrap64; omega
        have HW := Lib.hid hw1
        clear hrow hbw hw1
        go_wp2
        go_roundw
        case rel => exact ⟨k + 1, by omega, by go_num, by go_num, by rw [← marks_set xs k]; exact (HO.out.stored k _).1, HB.out.setCell hg _⟩
        case measure => simp [intOf]; omega
      · have hkn : k = xs.length := by omega
        subst hkn
        clear hrow hbw
        go_wp2
        go_ret
        exact ⟨rfl, HO.out, HB.out⟩

theorem heldO {w : World} {b : Nat} {v : Value} {xs : List Int} (hn : xs.length ≤ 1048576) (h : w.ownsRow b 2 1 v xs.length (marks xs xs.length)) :
    Calls Tryd.prog 12 #[v, .int .i64 1] w (RetV (.int .i64 (1 + (xs.length : Int))) w) := by
  rcases Nat.eq_zero_or_pos xs.length with h0 | h0
  · obtain rfl : xs = [] := List.length_eq_zero_iff.1 h0
    obtain ⟨a, c, rfl⟩ := row_zero h
    clear h
    go_enter Tryd.func12, Tryd.ntmps12
    go_wp2
    go_loopw [1, 5] (fun q i wr => q = .int .i64 1 ∧ i = .int .i64 0 ∧ wr = w) (fun _ i _ => 0)
    case atStart => exact ⟨rfl, rfl, rfl⟩
    case round =>
      obtain ⟨rfl, rfl, rfl⟩ := hrel
      go_wp2
      go_ret
      exact RetV.mk0
  · obtain ⟨g, cap, rfl, _, _⟩ := h.form h0
    have HO := Lib.hid h
    clear h
    go_enter Tryd.func12, Tryd.ntmps12
    go_wp2
    go_loopw [1, 5] (fun q i wr => ∃ k : Nat, k ≤ xs.length ∧ q = .int .i64 (1 + (k : Int)) ∧ i = .int .i64 (k : Nat) ∧ wr = w) (fun _ i _ => xs.length - (intOf i).toNat)
    case atStart => exact ⟨0, Nat.zero_le _, rfl, rfl, rfl⟩
    case round =>
      obtain ⟨k, hk, rfl, rfl, rfl⟩ := hrel
      by_cases hlt : k < xs.length
      · have hc := row_cell HO.out (marks_get xs xs.length k hlt)
        rw [if_pos hlt] at hc
        go_wp2
        go_roundw
        case rel => exact ⟨k + 1, by omega, by go_num, by go_num, trivial⟩
        case measure => simp [intOf]; omega
      · have hkn : k = xs.length := by omega
        subst hkn
        go_wp2
        go_ret
        exact RetV.mk0

theorem vals_len (s : ByteArray) : (valsL s).length ≤ 64 := by
  unfold valsL
  split
  · simp
  · split
    · rename_i h1 h2
      unfold okL at h2
      rw [List.length_map]
      rcases Bool.or_eq_true_iff.1 h2 with h | h
      · exact absurd h h1
      · exact of_decide_eq_true (Bool.and_eq_true_iff.1 h).1
    · simp
theorem ownsRow_drew {w : World} {base : Nat} {e : TypeId} {size : Nat} {v : Value} {n : Nat} {xs : List Value} (m : Nat) (h : w.ownsRow base e size v n xs) : (w.drewN m).ownsRow base e size v n xs := ownsRow_below h (below_drewN (Below.refl _ _) _)

set_option maxHeartbeats 1600000 in
theorem walk_list (s : ByteArray) (w : World) (hL : LibM w) :
    Calls Tryd.prog 3 #[.string s] w fun e w' => e = .returned (.bool true) ∧ Below w.heap.size w w' := by
  by_cases hs : s.size ≤ 1048576
  · have hn' : decide (1048576 < ((s.size : Nat) : Int)) = false := by simp; omega
    have HS := fun w => specNums s hs w
    have HI := fun (w' : World) (hb : Below w.heap.size w w') => implNums s hs w' (hL.stays hb)
    have hl := vals_len s
    generalize valsL s = xs at HS HI hl
    generalize okL s = ok at HS HI
    have hx : xs.length ≤ 1048576 := by omega
    have hneg : decide (1 + (xs.length : Int) < 0) = false := by simp; omega
    clear hL hl
    go_enter Tryd.func3, Tryd.ntmps3
    go_wp2_with (first
      | (go_at_call 8; go_in)
      | (go_at_call 27; refine (HS _).mono ?_; rintro eq w1 ⟨v0, rfl, hr0, hb0⟩; have R0 := Lib.hid hr0; have B0 := Lib.hid hb0; clear hr0 hb0)
      | (go_at_call 9; refine (HI _ (B0.out.trans ((below_drewN B4.out n5).mono B0.out.size))).mono ?_; rintro eq w6 ⟨v2, rfl, hr2, hb2⟩; have R2 := Lib.hid hr2; have R6 := Lib.hid (ownsRow_below (ownsRow_drew n5 R4.out) hb2); have B6 := Lib.hid ((below_drewN B4.out n5).trans (hb2.mono (below_drewN B4.out n5).size)); clear hr2 hb2)
      | (go_at_call 9; refine (HI _ B0.out).mono ?_; rintro eq w2 ⟨v1, rfl, hr1, hb1⟩; have R1 := Lib.hid hr1; have B2 := Lib.hid hb1; clear hr1 hb1)
      | (go_at_call 10; refine (eqO hx R2.out (ownsRow_below R0.out B6.out)).mono ?_; rintro eq wq ⟨n7, rfl, rfl⟩)
      | (go_at_call 10; refine (eqO hx R1.out (ownsRow_below R0.out B2.out)).mono ?_; rintro eq wq ⟨n3, rfl, rfl⟩)
      | (go_at_call 11; refine (markO hx (below_drewN B2.out n3).size (ownsRow_drew n3 R1.out)).mono ?_; rintro eq w4 ⟨rfl, hr4, hb4⟩; have R4 := Lib.hid hr4; have B4 := Lib.hid ((below_drewN B2.out n3).trans hb4); clear hr4 hb4)
      | (go_at_call 12; refine (heldO hx (ownsRow_drew n7 R6.out)).mono ?_; rintro eq wq ⟨n8, rfl, rfl⟩)
      | (go_at_call 12; refine (heldO hx R4.out).mono ?_; rintro eq wq ⟨n5, rfl, rfl⟩))
    go_ret
    exact ⟨rfl, B0.out.trans ((below_drewN B6.out (n7 + n8)).mono B0.out.size)⟩
  · have hn' : decide (1048576 < ((s.size : Nat) : Int)) = true := by simp; omega
    go_enter Tryd.func3, Tryd.ntmps3
    go_wp2_with fail
    go_ret
    exact ⟨rfl, Below.refl _ _⟩

/-- From the row's condition to what the library reads, where another variable stands between. -/
theorem lib_of_laid2 {l : List (String × DataW Unit)} {W : World} (hH : laidMetH Tryd.prog l W ↔ laidMet Tryd.prog l W) {a b c : String × DataW Unit} {t1 t2 : List UInt8} {rest : List (String × DataW Unit)}
    (hl : l = a :: b :: ("internal/strconv.uint64pow10", Lib.tabData .u64 Lib.pow10Tab) :: c :: ("strconv.ErrRange", .iface "*errors.errorString" (.ptr (.agg [.lit (.string t1)]))) :: ("strconv.ErrSyntax", .iface "*errors.errorString" (.ptr (.agg [.lit (.string t2)]))) :: rest)
    (h : laidMetH Tryd.prog l W) : LibIs W := by
  have h := hH.1 h
  rw [hl] at h
  have h3 := laidMet.tail (laidMet.tail h)
  have h4 := laidMet.tail (laidMet.tail h3)
  have h5 := laidMet.tail h4
  have hrow : ∀ u, Tryd.prog.typeName? 3 u = some "*errors.errorString" → u = 135 := fun u hu =>
    typeName_ptr_named (nm := "errors.errorString") (by rw [star_name]; kernel_rfl) (by kernel_rfl) (by decide) u (by rw [star_name]; exact hu)
  obtain ⟨a1, s1, hv1, -, -, -⟩ := laid_sentinel h4 gRng (by kernel_rfl) Tryd.underlying64 hrow Tryd.underlying135 Tryd.underlying137 rfl rfl Tryd.underlying9 (by kernel_rfl) (by kernel_rfl)
  obtain ⟨a2, s2, hv2, -, -, -⟩ := laid_sentinel h5 gSyn (by kernel_rfl) Tryd.underlying64 hrow Tryd.underlying135 Tryd.underlying137 rfl rfl Tryd.underlying9 (by kernel_rfl) (by kernel_rfl)
  exact ⟨Lib.tabIs_of_head gPow (by kernel_rfl) Tryd.underlying139 Tryd.underlying95 (by kernel_rfl) (by kernel_rfl) h3, ⟨_, _, hv2⟩, ⟨_, _, hv1⟩, ⟨var_lt hv2 gSyn, var_lt hv1 gRng⟩⟩

theorem walk_FnExactReadList (s : ByteArray) (W : World) (_hw : s.size ≤ maxLen) (hL : laidMetH Tryd.prog Rows.fnExactReadListRow.laid W) (hsh : W.ShapedOpen Tryd.prog) :
    Calls Tryd.prog 3 #[.string s] W fun e w' => e = .returned (.bool true) ∧ Below W.heap.size W w' :=
  walk_list s W ⟨lib_of_laid2 (a := ("math/bits.deBruijn32tab", Rows.laid_math_bits_deBruijn32tab)) (b := ("math/bits.deBruijn64tab", Rows.laid_math_bits_deBruijn64tab)) (c := ("unicode/utf8.acceptRanges", Rows.laid_unicode_utf8_acceptRanges)) (rest := [("unicode/utf8.first", Rows.laid_unicode_utf8_first)]) (by rw [MakeChecks.laidMetH_plain _ _ _ (by kernel_rfl)]) rfl hL,
    cell_of_shapedOpen_int (zero := #[.int .i64 0]) (t := 3) hsh (of_decide_eq_true (by kernel_rfl)) (by kernel_rfl) rfl (by kernel_rfl) (by kernel_rfl) Tryd.underlying3⟩
end Go.Proofs.YtbcbaejfafamjaaDoor
