/-
  The copy of a list of bodies that the laws make. No condition.
-/
import Derived.Test.YtjljdnkedbejaaaBod
import Derived.Deep.OwnRows
import Derived.Lib.Hide
namespace Go.Proofs.Ytjljdnkedbejaaa
open Go.RowKit

theorem infoB : (Try.prog.info? 42).map (fun i => (i.size, i.bytes)) = some (7, 28) := by kernel_rfl
theorem zeroB : (Try.prog.info? 42).map (fun i => i.zero.map Value.cells) = some (some (Array.replicate 7 (.float .f32 0))) := by kernel_rfl

/-- The words of a list, as values. -/
abbrev wordV (f : Nat → Nat) (j : Nat) : Value := .float .f32 (f j)

theorem mkB (n : Nat) (hn : n ≤ 1048576) (w : World) : ∃ c : Array Value, c.size = 7 * n ∧ (∀ i, i < 7 * n → c[i]? = some (.float .f32 0)) ∧ (Instr.makeSlice 25 (.int .i64 (n : Int)) (.int .i64 (n : Int))).run Try.prog w = .ok (.slice (some ⟨w.heap.size, 0, none⟩) n n) (w.alloc (.cells c 42)) := by
  obtain ⟨i, hi, he⟩ := Option.map_eq_some_iff.1 infoB
  obtain ⟨i', hi', hz⟩ := Option.map_eq_some_iff.1 zeroB
  obtain rfl : i' = i := by rw [hi] at hi'; cases hi'; rfl
  simp only [Prod.mk.injEq] at he
  obtain ⟨hs, hbt⟩ := he
  cases hzz : i'.zero with
  | none => rw [hzz] at hz; simp at hz
  | some z =>
    rw [hzz] at hz
    simp only [Option.map_some, Option.some.injEq] at hz
    refine ⟨madeCells z.cells (n * 7), ?_, ?_, ?_⟩
    · simp [size_madeCells]; omega
    · intro j hj
      have : j % 7 < 7 := Nat.mod_lt _ (by decide)
      have hj' : j < n * 7 := by omega
      simp [madeCells, hz, hj']
      rw [getElem!_pos _ _ (by simpa using this)]
      simp
    · rw [run_make w 25 42 i' z Try.underlying25 hi hzz .i64 .i64 n n (by omega) (by omega) (by rw [hbt]; omega) (by omega), hs, Int.toNat_natCast]

/-- The cells of a slice of bodies: nothing is asked of an empty one. -/
def RowBd (w : World) (a : Option Addr) (n : Nat) (f : Nat → Nat) : Prop := (n = 0) ∨ ∃ b off, a = some ⟨b, off, none⟩ ∧ b < w.heap.size ∧ ∀ i, i < 7 * n → w.cell? ⟨b, off + i, none⟩ = some (.float .f32 (f i))

theorem cells7 {w : World} {b off n : Nat} {f : Nat → Nat} (h : ∀ i, i < 7 * n → w.cell? ⟨b, off + i, none⟩ = some (.float .f32 (f i))) {k : Nat} (hk : k < n) :
    w.cell? ⟨b, off + k * 7, none⟩ = some (.float .f32 (f (7 * k))) ∧ w.cell? ⟨b, off + k * 7 + 1, none⟩ = some (.float .f32 (f (7 * k + 1))) ∧ w.cell? ⟨b, off + k * 7 + 2, none⟩ = some (.float .f32 (f (7 * k + 2))) ∧ w.cell? ⟨b, off + k * 7 + 3, none⟩ = some (.float .f32 (f (7 * k + 3))) ∧ w.cell? ⟨b, off + k * 7 + 4, none⟩ = some (.float .f32 (f (7 * k + 4))) ∧ w.cell? ⟨b, off + k * 7 + 5, none⟩ = some (.float .f32 (f (7 * k + 5))) ∧ w.cell? ⟨b, off + k * 7 + 6, none⟩ = some (.float .f32 (f (7 * k + 6))) := by
  have g := fun j (hj : j < 7) => h (7 * k + j) (by omega)
  refine ⟨?_, ?_, ?_, ?_, ?_, ?_, ?_⟩
  · have := g 0 (by decide); rw [Nat.add_zero, show off + 7 * k = off + k * 7 by omega] at this; exact this
  · have := g 1 (by decide); rw [show off + (7 * k + 1) = off + k * 7 + 1 by omega] at this; exact this
  · have := g 2 (by decide); rw [show off + (7 * k + 2) = off + k * 7 + 2 by omega] at this; exact this
  · have := g 3 (by decide); rw [show off + (7 * k + 3) = off + k * 7 + 3 by omega] at this; exact this
  · have := g 4 (by decide); rw [show off + (7 * k + 4) = off + k * 7 + 4 by omega] at this; exact this
  · have := g 5 (by decide); rw [show off + (7 * k + 5) = off + k * 7 + 5 by omega] at this; exact this
  · have := g 6 (by decide); rw [show off + (7 * k + 6) = off + k * 7 + 6 by omega] at this; exact this

theorem row7 {w : World} {b n : Nat} {t : TypeId} {f : Nat → Value} (h : w.rowIs b t (7 * n) f) {k : Nat} (hk : k < n) :
    w.cell? ⟨b, k * 7, none⟩ = some (f (7 * k)) ∧ w.cell? ⟨b, k * 7 + 1, none⟩ = some (f (7 * k + 1)) ∧ w.cell? ⟨b, k * 7 + 2, none⟩ = some (f (7 * k + 2)) ∧ w.cell? ⟨b, k * 7 + 3, none⟩ = some (f (7 * k + 3)) ∧ w.cell? ⟨b, k * 7 + 4, none⟩ = some (f (7 * k + 4)) ∧ w.cell? ⟨b, k * 7 + 5, none⟩ = some (f (7 * k + 5)) ∧ w.cell? ⟨b, k * 7 + 6, none⟩ = some (f (7 * k + 6)) := by
  refine ⟨?_, ?_, ?_, ?_, ?_, ?_, ?_⟩ <;> rw [h.cell (by omega)] <;> congr 1 <;> congr 1 <;> omega

theorem set7 {w : World} {b m : Nat} {t : TypeId} {g g' : Nat → Value} (h : w.rowIs b t m g) (k : Nat) {v0 v1 v2 v3 v4 v5 v6 : Value} (e0 : g' (7 * k) = v0) (e1 : g' (7 * k + 1) = v1) (e2 : g' (7 * k + 2) = v2) (e3 : g' (7 * k + 3) = v3) (e4 : g' (7 * k + 4) = v4) (e5 : g' (7 * k + 5) = v5) (e6 : g' (7 * k + 6) = v6) (ho : ∀ j, j < m → (j < 7 * k ∨ 7 * k + 7 ≤ j) → g' j = g j) :
    (((((((w.setCell ⟨b, k * 7, none⟩ v0).setCell ⟨b, k * 7 + 1, none⟩ v1).setCell ⟨b, k * 7 + 2, none⟩ v2).setCell ⟨b, k * 7 + 3, none⟩ v3).setCell ⟨b, k * 7 + 4, none⟩ v4).setCell ⟨b, k * 7 + 5, none⟩ v5).setCell ⟨b, k * 7 + 6, none⟩ v6).rowIs b t m g' := by
  refine (((((((h.set _ v0).set _ v1).set _ v2).set _ v3).set _ v4).set _ v5).set _ v6).congr fun j hj => ?_
  have hc : j < 7 * k ∨ j = 7 * k ∨ j = 7 * k + 1 ∨ j = 7 * k + 2 ∨ j = 7 * k + 3 ∨ j = 7 * k + 4 ∨ j = 7 * k + 5 ∨ j = 7 * k + 6 ∨ 7 * k + 7 ≤ j := by omega
  rcases hc with hc | rfl | rfl | rfl | rfl | rfl | rfl | rfl | hc
  · rw [ho j hj (.inl hc), if_neg (by omega), if_neg (by omega), if_neg (by omega), if_neg (by omega), if_neg (by omega), if_neg (by omega), if_neg (by omega)]
  · rw [e0, if_neg (by omega), if_neg (by omega), if_neg (by omega), if_neg (by omega), if_neg (by omega), if_neg (by omega), if_pos (by omega)]
  · rw [e1, if_neg (by omega), if_neg (by omega), if_neg (by omega), if_neg (by omega), if_neg (by omega), if_pos (by omega)]
  · rw [e2, if_neg (by omega), if_neg (by omega), if_neg (by omega), if_neg (by omega), if_pos (by omega)]
  · rw [e3, if_neg (by omega), if_neg (by omega), if_neg (by omega), if_pos (by omega)]
  · rw [e4, if_neg (by omega), if_neg (by omega), if_pos (by omega)]
  · rw [e5, if_neg (by omega), if_pos (by omega)]
  · rw [e6, if_pos (by omega)]
  · rw [ho j hj (.inr hc), if_neg (by omega), if_neg (by omega), if_neg (by omega), if_neg (by omega), if_neg (by omega), if_neg (by omega), if_neg (by omega)]

theorem below7 {B : Nat} {W w : World} {b k : Nat} (h : Below B W w) (hb : B ≤ b) (v0 v1 v2 v3 v4 v5 v6 : Value) :
    Below B W (((((((w.setCell ⟨b, k * 7, none⟩ v0).setCell ⟨b, k * 7 + 1, none⟩ v1).setCell ⟨b, k * 7 + 2, none⟩ v2).setCell ⟨b, k * 7 + 3, none⟩ v3).setCell ⟨b, k * 7 + 4, none⟩ v4).setCell ⟨b, k * 7 + 5, none⟩ v5).setCell ⟨b, k * 7 + 6, none⟩ v6) :=
  ((((((h.setCell (by exact hb) v0).setCell (by exact hb) v1).setCell (by exact hb) v2).setCell (by exact hb) v3).setCell (by exact hb) v4).setCell (by exact hb) v5).setCell (by exact hb) v6

theorem row_below {w w' : World} {b n : Nat} {t : TypeId} {f : Nat → Value} (h : w.rowIs b t n f) {B : Nat} (hb : Below B w w') (hB : b < B) : w'.rowIs b t n f := h.of_block (hb.block b hB)

set_option maxHeartbeats 1600000 in
theorem toB (b off n cap : Nat) (f : Nat → Nat) (w : World) (hn : n ≤ 1048576) (hb : b < w.heap.size) (hr : ∀ i, i < 7 * n → w.cell? ⟨b, off + i, none⟩ = some (.float .f32 (f i))) :
    Calls Try.prog 8 #[.slice (some ⟨b, off, none⟩) n cap] w fun e w' => e = .returned (.slice (some ⟨w.heap.size, 0, none⟩) n n) ∧ Below w.heap.size w w' ∧ w'.rowIs w.heap.size 42 (7 * n) (wordV f) := by
  obtain ⟨c, hcs, hcv, hmk⟩ := mkB n hn w
  have hst := run_store_float Try.prog
  have HR := Lib.hid hr
  clear hr
  go_enter Try.func8, Try.ntmps8
  go_wp2
  go_loopw [4] (fun i wr => ∃ k : Nat, k ≤ n ∧ i = .int .i64 k ∧ Below w.heap.size w wr ∧ wr.rowIs w.heap.size 42 (7 * n) (fun j => .float .f32 (if j < 7 * k then f j else 0))) (fun i _ => n - (intOf i).toNat)
  case atStart => exact ⟨0, Nat.zero_le _, rfl, (Below.refl _ _).alloc (Nat.le_refl _) _, hcs ▸ World.rowIs_alloc w c _ _ (fun i hi => by rw [hcv i (hcs ▸ hi), if_neg (by omega)])⟩
  case round =>
    obtain ⟨k, hk, rfl, hbel, hrow⟩ := hrel
    by_cases hlt : k < n
    · obtain ⟨c0, c1, c2, c3, c4, c5, c6⟩ := cells7 HR.out hlt
      rw [← hbel.cell (by exact hb)] at c0 c1 c2 c3 c4 c5 c6
      obtain ⟨d0, d1, d2, d3, d4, d5, d6⟩ := row7 hrow hlt
      have hfz : ∀ o, wr.frozen? ⟨w.heap.size, o, none⟩ = false := hrow.frozen
      have hlz := hrow.lt
      have HROW := Lib.hid hrow
      clear hrow
      go_wp2_with (go_at_call 20; refine (toBod_any _).mono ?_; rintro eq wq ⟨rfl, hb⟩; obtain ⟨hc, hf⟩ := bcell hb.1; have hz := hb.2; try simp at hz)
      go_roundw
      case rel =>
        have hb1 : Below w.heap.size w wq := hbel.trans (hb.1.mono (by omega))
        have hr1 := row_below HROW.out hb.1 hlz
        refine ⟨k + 1, by omega, by go_num, below7 hb1 (Nat.le_refl _) .., set7 hr1 k ?_ ?_ ?_ ?_ ?_ ?_ ?_ ?_⟩
        all_goals first | (rw [if_pos (by omega)]; done) | skip
        intro j hj h
        rcases h with h | h
        · rw [if_pos (by omega), if_pos (by omega)]
        · rw [if_neg (by omega), if_neg (by omega)]
      case measure => simp [intOf]; omega
    · have hkn : Hid (k = n) := (show k = n by omega)
      go_wp2
      go_ret
      refine ⟨rfl, hbel, hrow.congr fun j hj => ?_⟩
      rw [if_pos (by rw [hkn.out]; exact hj)]

theorem toB0 (a : Option Addr) (cap : Nat) (f : Nat → Nat) (w : World) :
    Calls Try.prog 8 #[.slice a 0 cap] w fun e w' => e = .returned (.slice (some ⟨w.heap.size, 0, none⟩) 0 0) ∧ Below w.heap.size w w' ∧ w'.rowIs w.heap.size 42 (7 * 0) (wordV f) := by
  obtain ⟨c, hcs, hcv, hmk⟩ := mkB 0 (by omega) w
  replace hmk : (Instr.makeSlice 25 (.int .i64 0) (.int .i64 0)).run Try.prog w = .ok (.slice (some ⟨w.heap.size, 0, none⟩) 0 0) (w.alloc (.cells c 42)) := hmk
  go_enter Try.func8, Try.ntmps8
  go_wp2
  go_loopw [4] (fun i wr => i = .int .i64 0 ∧ wr = w.alloc (.cells c 42)) (fun i _ => 0)
  case atStart => exact ⟨rfl, rfl⟩
  case round =>
    obtain ⟨rfl, rfl⟩ := hrel
    go_wp2
    go_ret
    exact ⟨rfl, (Below.refl _ _).alloc (Nat.le_refl _) _, hcs ▸ World.rowIs_alloc w c _ _ (fun i hi => by omega)⟩

theorem toB_any {a : Option Addr} {n : Nat} (cap : Nat) {f : Nat → Nat} {w : World} (hn : n ≤ 1048576) (h : RowBd w a n f) :
    Calls Try.prog 8 #[.slice a n cap] w fun e w' => e = .returned (.slice (some ⟨w.heap.size, 0, none⟩) n n) ∧ Below w.heap.size w w' ∧ w'.rowIs w.heap.size 42 (7 * n) (wordV f) := by
  rcases h with rfl | ⟨b, off, rfl, hb, hr⟩
  · exact toB0 a cap f w
  · exact toB b off n cap f w hn hb hr

theorem RowBd.below {w W : World} {a : Option Addr} {n : Nat} {f : Nat → Nat} (h : RowBd w a n f) (hb : Below w.heap.size w W) : RowBd W a n f := by
  rcases h with h | ⟨b, off, rfl, hlt, hr⟩
  · exact .inl h
  · exact .inr ⟨b, off, rfl, Nat.lt_of_lt_of_le hlt hb.size, fun i hi => (hb.cell (p := ⟨b, off + i, none⟩) hlt).trans (hr i hi)⟩
end Go.Proofs.Ytjljdnkedbejaaa
