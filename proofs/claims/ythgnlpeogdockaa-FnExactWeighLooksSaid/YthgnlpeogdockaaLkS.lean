/-
  The copy of a list of looks that the laws make; lists found equal. No condition.
-/
import Derived.Test.YthgnlpeogdockaaLk
import Derived.Deep.OwnRows
import Derived.Lib.Hide
namespace Go.Proofs.Ythgnlpeogdockaa
open Go.RowKit

theorem infoK : (Try.prog.info? 58).map (fun i => (i.size, i.bytes)) = some (5, 20) := by kernel_rfl
theorem zeroK : (Try.prog.info? 58).map (fun i => i.zero.map Value.cells) = some (some (Array.replicate 5 (.float .f32 0))) := by kernel_rfl

/-- The words of a list, as values. -/
abbrev wordV (f : Nat → Nat) (j : Nat) : Value := .float .f32 (f j)

theorem mkK (n : Nat) (hn : n ≤ 1048576) (w : World) : ∃ c : Array Value, c.size = 5 * n ∧ (∀ i, i < 5 * n → c[i]? = some (.float .f32 0)) ∧ (Instr.makeSlice 25 (.int .i64 (n : Int)) (.int .i64 (n : Int))).run Try.prog w = .ok (.slice (some ⟨w.heap.size, 0, none⟩) n n) (w.alloc (.cells c 58)) := by
  obtain ⟨i, hi, he⟩ := Option.map_eq_some_iff.1 infoK
  obtain ⟨i', hi', hz⟩ := Option.map_eq_some_iff.1 zeroK
  obtain rfl : i' = i := by rw [hi] at hi'; cases hi'; rfl
  simp only [Prod.mk.injEq] at he
  obtain ⟨hs, hbt⟩ := he
  cases hzz : i'.zero with
  | none => rw [hzz] at hz; simp at hz
  | some z =>
    rw [hzz] at hz
    simp only [Option.map_some, Option.some.injEq] at hz
    refine ⟨madeCells z.cells (n * 5), ?_, ?_, ?_⟩
    · simp [size_madeCells]; omega
    · intro j hj
      have : j % 5 < 5 := Nat.mod_lt _ (by decide)
      have hj' : j < n * 5 := by omega
      simp [madeCells, hz, hj']
      rw [getElem!_pos _ _ (by simpa using this)]
      simp
    · rw [run_make w 25 58 i' z Try.underlying25 hi hzz .i64 .i64 n n (by omega) (by omega) (by rw [hbt]; omega) (by omega), hs, Int.toNat_natCast]

/-- The cells of a slice of looks: nothing is asked of an empty one. -/
def RowLk (w : World) (a : Option Addr) (n : Nat) (f : Nat → Nat) : Prop := (n = 0) ∨ ∃ b off, a = some ⟨b, off, none⟩ ∧ b < w.heap.size ∧ ∀ i, i < 5 * n → w.cell? ⟨b, off + i, none⟩ = some (.float .f32 (f i))
def GoodLk (w : World) (a : Option Addr) (n : Nat) (f : Nat → Nat) : Prop := (∀ i, i < 5 * n → f i < 2 ^ 32) ∧ n ≤ maxLen ∧ RowLk w a n f

theorem cells5 {w : World} {b off n : Nat} {f : Nat → Nat} (h : ∀ i, i < 5 * n → w.cell? ⟨b, off + i, none⟩ = some (.float .f32 (f i))) {k : Nat} (hk : k < n) :
    w.cell? ⟨b, off + k * 5, none⟩ = some (.float .f32 (f (5 * k))) ∧ w.cell? ⟨b, off + k * 5 + 1, none⟩ = some (.float .f32 (f (5 * k + 1))) ∧ w.cell? ⟨b, off + k * 5 + 2, none⟩ = some (.float .f32 (f (5 * k + 2))) ∧ w.cell? ⟨b, off + k * 5 + 3, none⟩ = some (.float .f32 (f (5 * k + 3))) ∧ w.cell? ⟨b, off + k * 5 + 4, none⟩ = some (.float .f32 (f (5 * k + 4))) := by
  have g := fun j (hj : j < 5) => h (5 * k + j) (by omega)
  refine ⟨?_, ?_, ?_, ?_, ?_⟩
  · have := g 0 (by decide); rw [Nat.add_zero, show off + 5 * k = off + k * 5 by omega] at this; exact this
  · have := g 1 (by decide); rw [show off + (5 * k + 1) = off + k * 5 + 1 by omega] at this; exact this
  · have := g 2 (by decide); rw [show off + (5 * k + 2) = off + k * 5 + 2 by omega] at this; exact this
  · have := g 3 (by decide); rw [show off + (5 * k + 3) = off + k * 5 + 3 by omega] at this; exact this
  · have := g 4 (by decide); rw [show off + (5 * k + 4) = off + k * 5 + 4 by omega] at this; exact this

theorem row5 {w : World} {b n : Nat} {t : TypeId} {f : Nat → Value} (h : w.rowIs b t (5 * n) f) {k : Nat} (hk : k < n) :
    w.cell? ⟨b, k * 5, none⟩ = some (f (5 * k)) ∧ w.cell? ⟨b, k * 5 + 1, none⟩ = some (f (5 * k + 1)) ∧ w.cell? ⟨b, k * 5 + 2, none⟩ = some (f (5 * k + 2)) ∧ w.cell? ⟨b, k * 5 + 3, none⟩ = some (f (5 * k + 3)) ∧ w.cell? ⟨b, k * 5 + 4, none⟩ = some (f (5 * k + 4)) := by
  refine ⟨?_, ?_, ?_, ?_, ?_⟩ <;> rw [h.cell (by omega)] <;> congr 1 <;> congr 1 <;> omega

theorem set5 {w : World} {b m : Nat} {t : TypeId} {g g' : Nat → Value} (h : w.rowIs b t m g) (k : Nat) {v0 v1 v2 v3 v4 : Value} (e0 : g' (5 * k) = v0) (e1 : g' (5 * k + 1) = v1) (e2 : g' (5 * k + 2) = v2) (e3 : g' (5 * k + 3) = v3) (e4 : g' (5 * k + 4) = v4) (ho : ∀ j, j < m → (j < 5 * k ∨ 5 * k + 5 ≤ j) → g' j = g j) :
    (((((w.setCell ⟨b, k * 5, none⟩ v0).setCell ⟨b, k * 5 + 1, none⟩ v1).setCell ⟨b, k * 5 + 2, none⟩ v2).setCell ⟨b, k * 5 + 3, none⟩ v3).setCell ⟨b, k * 5 + 4, none⟩ v4).rowIs b t m g' := by
  refine (((((h.set _ v0).set _ v1).set _ v2).set _ v3).set _ v4).congr fun j hj => ?_
  have hc : j < 5 * k ∨ j = 5 * k ∨ j = 5 * k + 1 ∨ j = 5 * k + 2 ∨ j = 5 * k + 3 ∨ j = 5 * k + 4 ∨ 5 * k + 5 ≤ j := by omega
  rcases hc with hc | rfl | rfl | rfl | rfl | rfl | hc
  · rw [ho j hj (.inl hc), if_neg (by omega), if_neg (by omega), if_neg (by omega), if_neg (by omega), if_neg (by omega)]
  · rw [e0, if_neg (by omega), if_neg (by omega), if_neg (by omega), if_neg (by omega), if_pos (by omega)]
  · rw [e1, if_neg (by omega), if_neg (by omega), if_neg (by omega), if_pos (by omega)]
  · rw [e2, if_neg (by omega), if_neg (by omega), if_pos (by omega)]
  · rw [e3, if_neg (by omega), if_pos (by omega)]
  · rw [e4, if_pos (by omega)]
  · rw [ho j hj (.inr hc), if_neg (by omega), if_neg (by omega), if_neg (by omega), if_neg (by omega), if_neg (by omega)]

theorem below5 {B : Nat} {W w : World} {b k : Nat} (h : Below B W w) (hb : B ≤ b) (v0 v1 v2 v3 v4 : Value) :
    Below B W (((((w.setCell ⟨b, k * 5, none⟩ v0).setCell ⟨b, k * 5 + 1, none⟩ v1).setCell ⟨b, k * 5 + 2, none⟩ v2).setCell ⟨b, k * 5 + 3, none⟩ v3).setCell ⟨b, k * 5 + 4, none⟩ v4) :=
  ((((h.setCell (by exact hb) v0).setCell (by exact hb) v1).setCell (by exact hb) v2).setCell (by exact hb) v3).setCell (by exact hb) v4

theorem row_below {w w' : World} {b n : Nat} {t : TypeId} {f : Nat → Value} (h : w.rowIs b t n f) {B : Nat} (hb : Below B w w') (hB : b < B) : w'.rowIs b t n f := h.of_block (hb.block b hB)

set_option maxHeartbeats 1600000 in
theorem toK (b off n cap : Nat) (f : Nat → Nat) (w : World) (hn : n ≤ 1048576) (hb : b < w.heap.size) (hr : ∀ i, i < 5 * n → w.cell? ⟨b, off + i, none⟩ = some (.float .f32 (f i))) :
    Calls Try.prog 12 #[.slice (some ⟨b, off, none⟩) n cap] w fun e w' => e = .returned (.slice (some ⟨w.heap.size, 0, none⟩) n n) ∧ Below w.heap.size w w' ∧ w'.rowIs w.heap.size 58 (5 * n) (wordV f) := by
  obtain ⟨c, hcs, hcv, hmk⟩ := mkK n hn w
  have hst := run_store_float Try.prog
  have HR := Lib.hid hr
  clear hr
  go_enter Try.func12, Try.ntmps12
  go_wp2
  go_loopw [4] (fun i wr => ∃ k : Nat, k ≤ n ∧ i = .int .i64 k ∧ Below w.heap.size w wr ∧ wr.rowIs w.heap.size 58 (5 * n) (fun j => .float .f32 (if j < 5 * k then f j else 0))) (fun i _ => n - (intOf i).toNat)
  case atStart => exact ⟨0, Nat.zero_le _, rfl, (Below.refl _ _).alloc (Nat.le_refl _) _, hcs ▸ World.rowIs_alloc w c _ _ (fun i hi => by rw [hcv i (hcs ▸ hi), if_neg (by omega)])⟩
  case round =>
    obtain ⟨k, hk, rfl, hbel, hrow⟩ := hrel
    by_cases hlt : k < n
    · obtain ⟨c0, c1, c2, c3, c4⟩ := cells5 HR.out hlt
      rw [← hbel.cell (by exact hb)] at c0 c1 c2 c3 c4
      obtain ⟨d0, d1, d2, d3, d4⟩ := row5 hrow hlt
      have hfz : ∀ o, wr.frozen? ⟨w.heap.size, o, none⟩ = false := hrow.frozen
      have hlz := hrow.lt
      have HROW := Lib.hid hrow
      clear hrow
      go_wp2_with (go_at_call 35; refine (toLk _).mono ?_; rintro eq wq ⟨rfl, hb⟩; obtain ⟨hc, hf⟩ := bcell hb; have hz := hb.size; (try simp at hz); (try have hl : w.heap.size < wq.heap.size := (by omega)))
      go_roundw
      case rel =>
        have hb1 : Below w.heap.size w wq := hbel.trans (hb.mono (by omega))
        have hr1 := row_below HROW.out hb hlz
        refine ⟨k + 1, by omega, by go_num, below5 hb1 (Nat.le_refl _) .., set5 hr1 k ?_ ?_ ?_ ?_ ?_ ?_⟩
        all_goals first | (rw [if_pos (by omega)]; done) | skip
        intro j hj h
        rcases h with h | h
        · rw [if_pos (by omega), if_pos (by omega)]
        · rw [if_neg (by omega), if_neg (by omega)]
      case measure => simp [intOf]; omega
    · have hkn : Hid (k = n) := (show k = n by omega)
      go_wp2
      go_ret
      refine ⟨rfl, hbel, hrow.congr fun j hj => ?_⟩
      rw [if_pos (by rw [hkn.out]; exact hj)]

theorem toK0 (a : Option Addr) (cap : Nat) (f : Nat → Nat) (w : World) :
    Calls Try.prog 12 #[.slice a 0 cap] w fun e w' => e = .returned (.slice (some ⟨w.heap.size, 0, none⟩) 0 0) ∧ Below w.heap.size w w' ∧ w'.rowIs w.heap.size 58 (5 * 0) (wordV f) := by
  obtain ⟨c, hcs, hcv, hmk⟩ := mkK 0 (by omega) w
  replace hmk : (Instr.makeSlice 25 (.int .i64 0) (.int .i64 0)).run Try.prog w = .ok (.slice (some ⟨w.heap.size, 0, none⟩) 0 0) (w.alloc (.cells c 58)) := hmk
  go_enter Try.func12, Try.ntmps12
  go_wp2
  go_loopw [4] (fun i wr => i = .int .i64 0 ∧ wr = w.alloc (.cells c 58)) (fun i _ => 0)
  case atStart => exact ⟨rfl, rfl⟩
  case round =>
    obtain ⟨rfl, rfl⟩ := hrel
    go_wp2
    go_ret
    exact ⟨rfl, (Below.refl _ _).alloc (Nat.le_refl _) _, hcs ▸ World.rowIs_alloc w c _ _ (fun i hi => by omega)⟩

theorem toK_any {a : Option Addr} {n : Nat} (cap : Nat) {f : Nat → Nat} {w : World} (hn : n ≤ 1048576) (h : RowLk w a n f) :
    Calls Try.prog 12 #[.slice a n cap] w fun e w' => e = .returned (.slice (some ⟨w.heap.size, 0, none⟩) n n) ∧ Below w.heap.size w w' ∧ w'.rowIs w.heap.size 58 (5 * n) (wordV f) := by
  rcases h with rfl | ⟨b, off, rfl, hb, hr⟩
  · exact toK0 a cap f w
  · exact toK b off n cap f w hn hb hr

theorem RowLk.below {w W : World} {a : Option Addr} {n : Nat} {f : Nat → Nat} (h : RowLk w a n f) (hb : Below w.heap.size w W) : RowLk W a n f := by
  rcases h with h | ⟨b, off, rfl, hlt, hr⟩
  · exact .inl h
  · exact .inr ⟨b, off, rfl, Nat.lt_of_lt_of_le hlt hb.size, fun i hi => (hb.cell (p := ⟨b, off + i, none⟩) hlt).trans (hr i hi)⟩

set_option maxHeartbeats 1600000 in
theorem eqKS (ba oa bb ob n ca cb : Nat) (f g : Nat → Nat) (v : Nat → Option Nat) (w : World) (hn : n ≤ 1048576) (la : ba < w.heap.size) (lb : bb < w.heap.size) (ra : ∀ i, i < 5 * n → w.cell? ⟨ba, oa + i, none⟩ = some (.float .f32 (f i))) (rb : ∀ i, i < 5 * n → w.cell? ⟨bb, ob + i, none⟩ = some (.float .f32 (g i))) (ia : ∀ i, i < 5 * n → Is .f32 (f i) (v i)) (ib : ∀ i, i < 5 * n → Is .f32 (g i) (v i)) :
    Calls Try.prog 14 #[.slice (some ⟨ba, oa, none⟩) n ca, .slice (some ⟨bb, ob, none⟩) n cb] w fun e w' => e = .returned (.bool true) ∧ Below w.heap.size w w' := by
  have HA := Lib.hid ra
  have HB := Lib.hid rb
  have IA := Lib.hid ia
  have IB := Lib.hid ib
  clear ra rb ia ib
  go_enter Try.func14, Try.ntmps14
  go_wp2
  go_loopw [5] (fun i wr => ∃ k : Nat, k ≤ n ∧ i = .int .i64 k ∧ Below w.heap.size w wr) (fun i _ => n - (intOf i).toNat)
  case atStart => exact ⟨0, Nat.zero_le _, rfl, Below.refl _ _⟩
  case round =>
    obtain ⟨k, hk, rfl, hbel⟩ := hrel
    by_cases hlt : k < n
    · obtain ⟨c0, c1, c2, c3, c4⟩ := cells5 HA.out hlt
      rw [← hbel.cell (by exact la)] at c0 c1 c2 c3 c4
      obtain ⟨d0, d1, d2, d3, d4⟩ := cells5 HB.out hlt
      rw [← hbel.cell (by exact lb)] at d0 d1 d2 d3 d4
      have hz := hbel.size
      have CC := fun (W : World) => eqLk (IA.out (5 * k) (by omega)) (IB.out (5 * k) (by omega)) (IA.out (5 * k + 1) (by omega)) (IB.out (5 * k + 1) (by omega)) (IA.out (5 * k + 2) (by omega)) (IB.out (5 * k + 2) (by omega)) (IA.out (5 * k + 3) (by omega)) (IB.out (5 * k + 3) (by omega)) (IA.out (5 * k + 4) (by omega)) (IB.out (5 * k + 4) (by omega)) W
      go_wp2_with fail
      go_region_with (go_at_call 38; refine (CC _).mono ?_; rintro eq wq ⟨rfl, hq⟩)
      all_goals
        go_wp2
        go_roundw
        case rel => exact ⟨k + 1, by omega, by go_num, hbel.drew.trans (hq.mono hz)⟩
        case measure => simp [intOf]; omega
    · go_wp2
      go_ret
      exact ⟨rfl, hbel⟩

/-- The words of two rows stand for the same values. -/
theorem eqRowK {ba bb n ca cb : Nat} {t : TypeId} {f g : Nat → Nat} {v : Nat → Option Nat} {w : World} (hn : n ≤ 1048576) (ra : w.rowIs ba t (5 * n) (wordV f)) (rb : w.rowIs bb t (5 * n) (wordV g)) (ia : ∀ i, i < 5 * n → Is .f32 (f i) (v i)) (ib : ∀ i, i < 5 * n → Is .f32 (g i) (v i)) :
    Calls Try.prog 14 #[.slice (some ⟨ba, 0, none⟩) n ca, .slice (some ⟨bb, 0, none⟩) n cb] w fun e w' => e = .returned (.bool true) ∧ Below w.heap.size w w' :=
  eqKS ba 0 bb 0 n ca cb f g v w hn ra.lt rb.lt (fun i hi => by rw [Nat.zero_add]; exact ra.cell hi) (fun i hi => by rw [Nat.zero_add]; exact rb.cell hi) ia ib

theorem bt {w w1 w2 : World} (h1 : Below w.heap.size w w1) (h2 : Below w1.heap.size w1 w2) : Below w.heap.size w w2 := h1.trans (h2.mono h1.size)
theorem rt {w1 w2 : World} {b n : Nat} {t : TypeId} {f : Nat → Value} (hr : w1.rowIs b t n f) (h2 : Below w1.heap.size w1 w2) : w2.rowIs b t n f := row_below hr h2 hr.lt
theorem rowCells {w : World} {b n : Nat} {t : TypeId} {f : Nat → Nat} (h : w.rowIs b t n (wordV f)) : ∀ i, i < n → w.cell? ⟨b, 0 + i, none⟩ = some (.float .f32 (f i)) := fun i hi => by rw [Nat.zero_add]; exact h.cell hi

theorem szK (a : Option Addr) (n cap : Nat) (L : Int) (w : World) (h0 : (n : Int) ≤ L) (h1 : L ≤ 1048576) :
    Calls Try.prog 10 #[.slice a n cap, .int .i64 L] w fun e w' => e = .returned (.int .i64 (L - n)) ∧ w' = w := by
  have hw : wrap64 (L - (n : Int)) = L - n := by unfold wrap64; omega
  have hd : decide (L - (n : Int) < 0) = false := by simp; omega
  go_enter Try.func10, Try.ntmps10
  go_wp2
  go_ret
  exact ⟨rfl, rfl⟩

theorem szK_out (a : Option Addr) (n cap : Nat) (L : Int) (w : World) (h0 : L < (n : Int)) (h1 : 0 ≤ L) (hm : n ≤ maxLen) :
    Calls Try.prog 10 #[.slice a n cap, .int .i64 L] w fun e w' => e = .returned (.int .i64 (-1)) ∧ w' = w := by
  have hw : wrap64 (L - (n : Int)) = L - n := by unfold maxLen at hm; unfold wrap64; omega
  have hd : decide (L - (n : Int) < 0) = true := by simp; omega
  go_enter Try.func10, Try.ntmps10
  go_wp2
  go_ret
  exact ⟨rfl, rfl⟩
end Go.Proofs.Ythgnlpeogdockaa
