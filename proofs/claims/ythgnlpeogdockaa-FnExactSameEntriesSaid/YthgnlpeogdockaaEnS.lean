/-
  The copy of a list of entries that the laws make; lists found equal; how many letters they have. No condition.
-/
import Derived.Test.YthgnlpeogdockaaEn
import Derived.Deep.OwnRows
namespace Go.Proofs.Ythgnlpeogdockaa
open Go.RowKit

theorem infoE : (Try.prog.info? 39).map (fun i => (i.size, i.bytes)) = some (8, 48) := by kernel_rfl
/-- The zero entry. -/
def zeroEn (j : Nat) : Value := if j % 8 = 0 then .string ByteArray.empty else .float .f32 0
theorem zeroE : (Try.prog.info? 39).map (fun i => i.zero.map Value.cells) = some (some #[.string ByteArray.empty, .float .f32 0, .float .f32 0, .float .f32 0, .float .f32 0, .float .f32 0, .float .f32 0, .float .f32 0]) := by kernel_rfl

/-- The cells of a list of entries with these names and words. -/
def enC (s : Nat → ByteArray) (f : Nat → Nat) (j : Nat) : Value := if j % 8 = 0 then .string (s (j / 8)) else .float .f32 (f (7 * (j / 8) + (j % 8 - 1)))
theorem enC0 (s : Nat → ByteArray) (f : Nat → Nat) (k : Nat) : enC s f (8 * k) = .string (s k) := by
  unfold enC; rw [if_pos (by omega), show 8 * k / 8 = k by omega]
theorem enC1 (s : Nat → ByteArray) (f : Nat → Nat) (k : Nat) : enC s f (8 * k + 1) = .float .f32 (f (7 * k)) := by
  unfold enC; rw [if_neg (by omega), show (8 * k + 1) / 8 = k by omega, show (8 * k + 1) % 8 - 1 = 0 by omega]; try rfl
theorem enC2 (s : Nat → ByteArray) (f : Nat → Nat) (k : Nat) : enC s f (8 * k + 2) = .float .f32 (f (7 * k + 1)) := by
  unfold enC; rw [if_neg (by omega), show (8 * k + 2) / 8 = k by omega, show (8 * k + 2) % 8 - 1 = 1 by omega]; try rfl
theorem enC3 (s : Nat → ByteArray) (f : Nat → Nat) (k : Nat) : enC s f (8 * k + 3) = .float .f32 (f (7 * k + 2)) := by
  unfold enC; rw [if_neg (by omega), show (8 * k + 3) / 8 = k by omega, show (8 * k + 3) % 8 - 1 = 2 by omega]; try rfl
theorem enC4 (s : Nat → ByteArray) (f : Nat → Nat) (k : Nat) : enC s f (8 * k + 4) = .float .f32 (f (7 * k + 3)) := by
  unfold enC; rw [if_neg (by omega), show (8 * k + 4) / 8 = k by omega, show (8 * k + 4) % 8 - 1 = 3 by omega]; try rfl
theorem enC5 (s : Nat → ByteArray) (f : Nat → Nat) (k : Nat) : enC s f (8 * k + 5) = .float .f32 (f (7 * k + 4)) := by
  unfold enC; rw [if_neg (by omega), show (8 * k + 5) / 8 = k by omega, show (8 * k + 5) % 8 - 1 = 4 by omega]; try rfl
theorem enC6 (s : Nat → ByteArray) (f : Nat → Nat) (k : Nat) : enC s f (8 * k + 6) = .float .f32 (f (7 * k + 5)) := by
  unfold enC; rw [if_neg (by omega), show (8 * k + 6) / 8 = k by omega, show (8 * k + 6) % 8 - 1 = 5 by omega]; try rfl
theorem enC7 (s : Nat → ByteArray) (f : Nat → Nat) (k : Nat) : enC s f (8 * k + 7) = .float .f32 (f (7 * k + 6)) := by
  unfold enC; rw [if_neg (by omega), show (8 * k + 7) / 8 = k by omega, show (8 * k + 7) % 8 - 1 = 6 by omega]; try rfl

theorem mkE (n : Nat) (hn : n ≤ 1048576) (w : World) : ∃ c : Array Value, c.size = 8 * n ∧ (∀ i, i < 8 * n → c[i]? = some (zeroEn i)) ∧ (Instr.makeSlice 45 (.int .i64 (n : Int)) (.int .i64 (n : Int))).run Try.prog w = .ok (.slice (some ⟨w.heap.size, 0, none⟩) n n) (w.alloc (.cells c 39)) := by
  obtain ⟨i, hi, he⟩ := Option.map_eq_some_iff.1 infoE
  obtain ⟨i', hi', hz⟩ := Option.map_eq_some_iff.1 zeroE
  obtain rfl : i' = i := by rw [hi] at hi'; cases hi'; rfl
  simp only [Prod.mk.injEq] at he
  obtain ⟨hs, hbt⟩ := he
  cases hzz : i'.zero with
  | none => rw [hzz] at hz; simp at hz
  | some z =>
    rw [hzz] at hz
    simp only [Option.map_some, Option.some.injEq] at hz
    refine ⟨madeCells z.cells (n * 8), ?_, ?_, ?_⟩
    · simp [size_madeCells]; omega
    · intro j hj
      have hm : j % 8 < 8 := Nat.mod_lt _ (by decide)
      have hj' : j < n * 8 := by omega
      simp [madeCells, hz, hj']
      unfold zeroEn
      generalize j % 8 = m at hm ⊢
      match m, hm with
      | 0, _ => rfl
      | 1, _ => rfl
      | 2, _ => rfl
      | 3, _ => rfl
      | 4, _ => rfl
      | 5, _ => rfl
      | 6, _ => rfl
      | 7, _ => rfl
    · rw [run_make w 45 39 i' z Try.underlying45 hi hzz .i64 .i64 n n (by omega) (by omega) (by rw [hbt]; omega) (by omega), hs, Int.toNat_natCast]

/-- The cells of a slice of entries: nothing is asked of an empty one. -/
def RowEn (w : World) (a : Option Addr) (n : Nat) (s : Nat → ByteArray) (f : Nat → Nat) : Prop := (n = 0) ∨ ∃ b off, a = some ⟨b, off, none⟩ ∧ b < w.heap.size ∧ ∀ i, i < 8 * n → w.cell? ⟨b, off + i, none⟩ = some (enC s f i)
def GoodEn (w : World) (a : Option Addr) (n : Nat) (p : (Nat → ByteArray) × (Nat → Nat)) : Prop := (∀ i, i < n → (p.1 i).size ≤ maxLen) ∧ (∀ i, i < 7 * n → p.2 i < 2 ^ 32) ∧ n ≤ maxLen ∧ RowEn w a n p.1 p.2

theorem cells8 {w : World} {b off n : Nat} {s : Nat → ByteArray} {f : Nat → Nat} (h : ∀ i, i < 8 * n → w.cell? ⟨b, off + i, none⟩ = some (enC s f i)) {k : Nat} (hk : k < n) :
    w.cell? ⟨b, off + k * 8, none⟩ = some (.string (s k)) ∧ w.cell? ⟨b, off + k * 8 + 1, none⟩ = some (.float .f32 (f (7 * k))) ∧ w.cell? ⟨b, off + k * 8 + 2, none⟩ = some (.float .f32 (f (7 * k + 1))) ∧ w.cell? ⟨b, off + k * 8 + 3, none⟩ = some (.float .f32 (f (7 * k + 2))) ∧ w.cell? ⟨b, off + k * 8 + 4, none⟩ = some (.float .f32 (f (7 * k + 3))) ∧ w.cell? ⟨b, off + k * 8 + 5, none⟩ = some (.float .f32 (f (7 * k + 4))) ∧ w.cell? ⟨b, off + k * 8 + 6, none⟩ = some (.float .f32 (f (7 * k + 5))) ∧ w.cell? ⟨b, off + k * 8 + 7, none⟩ = some (.float .f32 (f (7 * k + 6))) := by
  have g := fun j (hj : j < 8) => h (8 * k + j) (by omega)
  refine ⟨?_, ?_, ?_, ?_, ?_, ?_, ?_, ?_⟩
  · have := g 0 (by decide); rw [Nat.add_zero, show off + 8 * k = off + k * 8 by omega, enC0] at this; exact this
  · have := g 1 (by decide); rw [show off + (8 * k + 1) = off + k * 8 + 1 by omega, enC1] at this; exact this
  · have := g 2 (by decide); rw [show off + (8 * k + 2) = off + k * 8 + 2 by omega, enC2] at this; exact this
  · have := g 3 (by decide); rw [show off + (8 * k + 3) = off + k * 8 + 3 by omega, enC3] at this; exact this
  · have := g 4 (by decide); rw [show off + (8 * k + 4) = off + k * 8 + 4 by omega, enC4] at this; exact this
  · have := g 5 (by decide); rw [show off + (8 * k + 5) = off + k * 8 + 5 by omega, enC5] at this; exact this
  · have := g 6 (by decide); rw [show off + (8 * k + 6) = off + k * 8 + 6 by omega, enC6] at this; exact this
  · have := g 7 (by decide); rw [show off + (8 * k + 7) = off + k * 8 + 7 by omega, enC7] at this; exact this

theorem row8 {w : World} {b n : Nat} {t : TypeId} {f : Nat → Value} (h : w.rowIs b t (8 * n) f) {k : Nat} (hk : k < n) :
    w.cell? ⟨b, k * 8, none⟩ = some (f (8 * k)) ∧ w.cell? ⟨b, k * 8 + 1, none⟩ = some (f (8 * k + 1)) ∧ w.cell? ⟨b, k * 8 + 2, none⟩ = some (f (8 * k + 2)) ∧ w.cell? ⟨b, k * 8 + 3, none⟩ = some (f (8 * k + 3)) ∧ w.cell? ⟨b, k * 8 + 4, none⟩ = some (f (8 * k + 4)) ∧ w.cell? ⟨b, k * 8 + 5, none⟩ = some (f (8 * k + 5)) ∧ w.cell? ⟨b, k * 8 + 6, none⟩ = some (f (8 * k + 6)) ∧ w.cell? ⟨b, k * 8 + 7, none⟩ = some (f (8 * k + 7)) := by
  refine ⟨?_, ?_, ?_, ?_, ?_, ?_, ?_, ?_⟩ <;> rw [h.cell (by omega)] <;> congr 1 <;> congr 1 <;> omega

theorem set8 {w : World} {b m : Nat} {t : TypeId} {g g' : Nat → Value} (h : w.rowIs b t m g) (k : Nat) {v0 v1 v2 v3 v4 v5 v6 v7 : Value} (e0 : g' (8 * k) = v0) (e1 : g' (8 * k + 1) = v1) (e2 : g' (8 * k + 2) = v2) (e3 : g' (8 * k + 3) = v3) (e4 : g' (8 * k + 4) = v4) (e5 : g' (8 * k + 5) = v5) (e6 : g' (8 * k + 6) = v6) (e7 : g' (8 * k + 7) = v7) (ho : ∀ j, j < m → (j < 8 * k ∨ 8 * k + 8 ≤ j) → g' j = g j) :
    ((((((((w.setCell ⟨b, k * 8, none⟩ v0).setCell ⟨b, k * 8 + 1, none⟩ v1).setCell ⟨b, k * 8 + 2, none⟩ v2).setCell ⟨b, k * 8 + 3, none⟩ v3).setCell ⟨b, k * 8 + 4, none⟩ v4).setCell ⟨b, k * 8 + 5, none⟩ v5).setCell ⟨b, k * 8 + 6, none⟩ v6).setCell ⟨b, k * 8 + 7, none⟩ v7).rowIs b t m g' := by
  refine ((((((((h.set _ v0).set _ v1).set _ v2).set _ v3).set _ v4).set _ v5).set _ v6).set _ v7).congr fun j hj => ?_
  have hc : j < 8 * k ∨ j = 8 * k ∨ j = 8 * k + 1 ∨ j = 8 * k + 2 ∨ j = 8 * k + 3 ∨ j = 8 * k + 4 ∨ j = 8 * k + 5 ∨ j = 8 * k + 6 ∨ j = 8 * k + 7 ∨ 8 * k + 8 ≤ j := by omega
  rcases hc with hc | rfl | rfl | rfl | rfl | rfl | rfl | rfl | rfl | hc
  · rw [ho j hj (.inl hc), if_neg (by omega), if_neg (by omega), if_neg (by omega), if_neg (by omega), if_neg (by omega), if_neg (by omega), if_neg (by omega), if_neg (by omega)]
  · rw [e0, if_neg (by omega), if_neg (by omega), if_neg (by omega), if_neg (by omega), if_neg (by omega), if_neg (by omega), if_neg (by omega), if_pos (by omega)]
  · rw [e1, if_neg (by omega), if_neg (by omega), if_neg (by omega), if_neg (by omega), if_neg (by omega), if_neg (by omega), if_pos (by omega)]
  · rw [e2, if_neg (by omega), if_neg (by omega), if_neg (by omega), if_neg (by omega), if_neg (by omega), if_pos (by omega)]
  · rw [e3, if_neg (by omega), if_neg (by omega), if_neg (by omega), if_neg (by omega), if_pos (by omega)]
  · rw [e4, if_neg (by omega), if_neg (by omega), if_neg (by omega), if_pos (by omega)]
  · rw [e5, if_neg (by omega), if_neg (by omega), if_pos (by omega)]
  · rw [e6, if_neg (by omega), if_pos (by omega)]
  · rw [e7, if_pos (by omega)]
  · rw [ho j hj (.inr hc), if_neg (by omega), if_neg (by omega), if_neg (by omega), if_neg (by omega), if_neg (by omega), if_neg (by omega), if_neg (by omega), if_neg (by omega)]

theorem below8 {B : Nat} {W w : World} {b k : Nat} (h : Below B W w) (hb : B ≤ b) (v0 v1 v2 v3 v4 v5 v6 v7 : Value) :
    Below B W ((((((((w.setCell ⟨b, k * 8, none⟩ v0).setCell ⟨b, k * 8 + 1, none⟩ v1).setCell ⟨b, k * 8 + 2, none⟩ v2).setCell ⟨b, k * 8 + 3, none⟩ v3).setCell ⟨b, k * 8 + 4, none⟩ v4).setCell ⟨b, k * 8 + 5, none⟩ v5).setCell ⟨b, k * 8 + 6, none⟩ v6).setCell ⟨b, k * 8 + 7, none⟩ v7) :=
  (((((((h.setCell (by exact hb) v0).setCell (by exact hb) v1).setCell (by exact hb) v2).setCell (by exact hb) v3).setCell (by exact hb) v4).setCell (by exact hb) v5).setCell (by exact hb) v6).setCell (by exact hb) v7

theorem row_below {w w' : World} {b n : Nat} {t : TypeId} {f : Nat → Value} (h : w.rowIs b t n f) {B : Nat} (hb : Below B w w') (hB : b < B) : w'.rowIs b t n f := h.of_block (hb.block b hB)

set_option maxHeartbeats 3200000 in
theorem toE (b off n cap : Nat) (s : Nat → ByteArray) (f : Nat → Nat) (w : World) (hn : n ≤ 1048576) (hb : b < w.heap.size) (hr : ∀ i, i < 8 * n → w.cell? ⟨b, off + i, none⟩ = some (enC s f i)) :
    Calls Try.prog 23 #[.slice (some ⟨b, off, none⟩) n cap] w fun e w' => e = .returned (.slice (some ⟨w.heap.size, 0, none⟩) n n) ∧ Below w.heap.size w w' ∧ w'.rowIs w.heap.size 39 (8 * n) (enC s f) := by
  obtain ⟨c, hcs, hcv, hmk⟩ := mkE n hn w
  have hst := run_store_float Try.prog
  have HR := Lib.hid hr
  clear hr
  go_enter Try.func23, Try.ntmps23
  go_wp2
  go_loopw [4] (fun i wr => ∃ k : Nat, k ≤ n ∧ i = .int .i64 k ∧ Below w.heap.size w wr ∧ wr.rowIs w.heap.size 39 (8 * n) (fun j => if j < 8 * k then enC s f j else zeroEn j)) (fun i _ => n - (intOf i).toNat)
  case atStart => exact ⟨0, Nat.zero_le _, rfl, (Below.refl _ _).alloc (Nat.le_refl _) _, hcs ▸ World.rowIs_alloc w c _ _ (fun i hi => by rw [hcv i (hcs ▸ hi), if_neg (by omega)])⟩
  case round =>
    obtain ⟨k, hk, rfl, hbel, hrow⟩ := hrel
    by_cases hlt : k < n
    · obtain ⟨c0, c1, c2, c3, c4, c5, c6, c7⟩ := cells8 HR.out hlt
      rw [← hbel.cell (by exact hb)] at c0 c1 c2 c3 c4 c5 c6 c7
      obtain ⟨d0, d1, d2, d3, d4, d5, d6, d7⟩ := row8 hrow hlt
      have hfz : ∀ o, wr.frozen? ⟨w.heap.size, o, none⟩ = false := hrow.frozen
      have hlz := hrow.lt
      have HROW := Lib.hid hrow
      clear hrow
      have z0 : (if 8 * k < 8 * k then enC s f (8 * k) else zeroEn (8 * k)) = .string ByteArray.empty := by rw [if_neg (by omega)]; unfold zeroEn; rw [if_pos (by omega)]
      have z1 : (if 8 * k + 1 < 8 * k then enC s f (8 * k + 1) else zeroEn (8 * k + 1)) = .float .f32 0 := by rw [if_neg (by omega)]; unfold zeroEn; rw [if_neg (by omega)]
      have z2 : (if 8 * k + 2 < 8 * k then enC s f (8 * k + 2) else zeroEn (8 * k + 2)) = .float .f32 0 := by rw [if_neg (by omega)]; unfold zeroEn; rw [if_neg (by omega)]
      have z3 : (if 8 * k + 3 < 8 * k then enC s f (8 * k + 3) else zeroEn (8 * k + 3)) = .float .f32 0 := by rw [if_neg (by omega)]; unfold zeroEn; rw [if_neg (by omega)]
      have z4 : (if 8 * k + 4 < 8 * k then enC s f (8 * k + 4) else zeroEn (8 * k + 4)) = .float .f32 0 := by rw [if_neg (by omega)]; unfold zeroEn; rw [if_neg (by omega)]
      have z5 : (if 8 * k + 5 < 8 * k then enC s f (8 * k + 5) else zeroEn (8 * k + 5)) = .float .f32 0 := by rw [if_neg (by omega)]; unfold zeroEn; rw [if_neg (by omega)]
      have z6 : (if 8 * k + 6 < 8 * k then enC s f (8 * k + 6) else zeroEn (8 * k + 6)) = .float .f32 0 := by rw [if_neg (by omega)]; unfold zeroEn; rw [if_neg (by omega)]
      have z7 : (if 8 * k + 7 < 8 * k then enC s f (8 * k + 7) else zeroEn (8 * k + 7)) = .float .f32 0 := by rw [if_neg (by omega)]; unfold zeroEn; rw [if_neg (by omega)]
      rw [z0] at d0
      rw [z1] at d1
      rw [z2] at d2
      rw [z3] at d3
      rw [z4] at d4
      rw [z5] at d5
      rw [z6] at d6
      rw [z7] at d7
      clear z0 z1 z2 z3 z4 z5 z6 z7
      go_wp2_with (go_at_call 19; refine (toEn _).mono ?_; rintro eq wq ⟨rfl, hb⟩; obtain ⟨hc, hf⟩ := bcell hb; have hz := hb.size; (try simp at hz); (try have hl : w.heap.size < wq.heap.size := (by omega)))
      go_roundw
      case rel =>
        have hb1 : Below w.heap.size w wq := hbel.trans (hb.mono (by omega))
        have hr1 := row_below HROW.out hb hlz
        refine ⟨k + 1, by omega, by go_num, below8 hb1 (Nat.le_refl _) .., set8 hr1 k ?_ ?_ ?_ ?_ ?_ ?_ ?_ ?_ ?_⟩
        · rw [if_pos (by omega), enC0]
        · rw [if_pos (by omega), enC1]
        · rw [if_pos (by omega), enC2]
        · rw [if_pos (by omega), enC3]
        · rw [if_pos (by omega), enC4]
        · rw [if_pos (by omega), enC5]
        · rw [if_pos (by omega), enC6]
        · rw [if_pos (by omega), enC7]
        intro j hj h
        rcases h with h | h
        · rw [if_pos (by omega), if_pos (by omega)]
        · rw [if_neg (by omega), if_neg (by omega)]
      case measure => simp [intOf]; omega
    · have hkn : Hid (k = n) := (show k = n by omega)
      go_wp2
      go_ret
      refine ⟨rfl, hbel, hrow.congr fun j hj => ?_⟩
      rw [if_pos (by rw [hkn.out]; exact hj)]

theorem toE0 (a : Option Addr) (cap : Nat) (s : Nat → ByteArray) (f : Nat → Nat) (w : World) :
    Calls Try.prog 23 #[.slice a 0 cap] w fun e w' => e = .returned (.slice (some ⟨w.heap.size, 0, none⟩) 0 0) ∧ Below w.heap.size w w' ∧ w'.rowIs w.heap.size 39 (8 * 0) (enC s f) := by
  obtain ⟨c, hcs, hcv, hmk⟩ := mkE 0 (by omega) w
  replace hmk : (Instr.makeSlice 45 (.int .i64 0) (.int .i64 0)).run Try.prog w = .ok (.slice (some ⟨w.heap.size, 0, none⟩) 0 0) (w.alloc (.cells c 39)) := hmk
  go_enter Try.func23, Try.ntmps23
  go_wp2
  go_loopw [4] (fun i wr => i = .int .i64 0 ∧ wr = w.alloc (.cells c 39)) (fun i _ => 0)
  case atStart => exact ⟨rfl, rfl⟩
  case round =>
    obtain ⟨rfl, rfl⟩ := hrel
    go_wp2
    go_ret
    exact ⟨rfl, (Below.refl _ _).alloc (Nat.le_refl _) _, hcs ▸ World.rowIs_alloc w c _ _ (fun i hi => by omega)⟩

theorem toE_any {a : Option Addr} {n : Nat} (cap : Nat) {s : Nat → ByteArray} {f : Nat → Nat} {w : World} (hn : n ≤ 1048576) (h : RowEn w a n s f) :
    Calls Try.prog 23 #[.slice a n cap] w fun e w' => e = .returned (.slice (some ⟨w.heap.size, 0, none⟩) n n) ∧ Below w.heap.size w w' ∧ w'.rowIs w.heap.size 39 (8 * n) (enC s f) := by
  rcases h with rfl | ⟨b, off, rfl, hb, hr⟩
  · exact toE0 a cap s f w
  · exact toE b off n cap s f w hn hb hr

theorem RowEn.below {w W : World} {a : Option Addr} {n : Nat} {s : Nat → ByteArray} {f : Nat → Nat} (h : RowEn w a n s f) (hb : Below w.heap.size w W) : RowEn W a n s f := by
  rcases h with h | ⟨b, off, rfl, hlt, hr⟩
  · exact .inl h
  · exact .inr ⟨b, off, rfl, Nat.lt_of_lt_of_le hlt hb.size, fun i hi => (hb.cell (p := ⟨b, off + i, none⟩) hlt).trans (hr i hi)⟩

theorem eqOrb {a0 b0 a1 b1 a2 b2 a3 b3 a4 b4 a5 b5 : Nat} {x0 x1 x2 x3 x4 x5 : Option Nat} (h0 : Is .f32 a0 x0) (g0 : Is .f32 b0 x0) (h1 : Is .f32 a1 x1) (g1 : Is .f32 b1 x1) (h2 : Is .f32 a2 x2) (g2 : Is .f32 b2 x2) (h3 : Is .f32 a3 x3) (g3 : Is .f32 b3 x3) (h4 : Is .f32 a4 x4) (g4 : Is .f32 b4 x4) (h5 : Is .f32 a5 x5) (g5 : Is .f32 b5 x5) (w : World) :
    Calls Try.prog 71 #[orbV a0 a1 a2 a3 a4 a5, orbV b0 b1 b2 b3 b4 b5] w fun e w' => e = .returned (.bool true) ∧ Below w.heap.size w w' := by
  go_enter Try.func71, Try.ntmps71
  go_wp2_with (first | (apply wpList_wide und32 Try.underlying85; rfl; rfl; (first | assumption | exact is_lit64 _ (by decide) | exact is_lit32 _ (by decide)); intro Kq hKq rq nq hq; go_simp) | (go_at_call 62; refine (sameFloat_any (by assumption) (by assumption) _).mono ?_; rintro eq wq ⟨nq, rfl, rfl⟩))
  go_ret
  refine ⟨rfl, ?_⟩
  repeat' (first | with_reducible exact Below.refl _ _ | with_reducible assumption | (with_reducible refine Below.setCell ?_ (by first | omega | (simp; done) | (simp; omega)) _) | (with_reducible refine Below.alloc ?_ (by first | omega | (simp; done) | (simp; omega)) _) | (with_reducible refine below_drewN ?_ _) | (with_reducible refine Below.drew ?_) | (with_reducible refine Below.trans ?_ (Below.mono (by first | (with_reducible assumption) | exact Grow.below (by assumption)) (by first | omega | (simp; done) | (simp; omega)))))

theorem eqEn {s : ByteArray} {a0 b0 a1 b1 a2 b2 a3 b3 a4 b4 a5 b5 a6 b6 : Nat} {x0 x1 x2 x3 x4 x5 x6 : Option Nat} (h0 : Is .f32 a0 x0) (g0 : Is .f32 b0 x0) (h1 : Is .f32 a1 x1) (g1 : Is .f32 b1 x1) (h2 : Is .f32 a2 x2) (g2 : Is .f32 b2 x2) (h3 : Is .f32 a3 x3) (g3 : Is .f32 b3 x3) (h4 : Is .f32 a4 x4) (g4 : Is .f32 b4 x4) (h5 : Is .f32 a5 x5) (g5 : Is .f32 b5 x5) (h6 : Is .f32 a6 x6) (g6 : Is .f32 b6 x6) (w : World) :
    Calls Try.prog 49 #[enV s a0 a1 a2 a3 a4 a5 a6, enV s b0 b1 b2 b3 b4 b5 b6] w fun e w' => e = .returned (.bool true) ∧ Below w.heap.size w w' := by
  go_enter Try.func49, Try.ntmps49
  go_wp2_with (first | (apply wpList_wide und32 Try.underlying85; rfl; rfl; (first | assumption | exact is_lit64 _ (by decide) | exact is_lit32 _ (by decide)); intro Kq hKq rq nq hq; go_simp) | (go_at_call 62; refine (sameFloat_any (by assumption) (by assumption) _).mono ?_; rintro eq wq ⟨nq, rfl, rfl⟩) | (go_at_call 71; refine (eqOrb h1 g1 h2 g2 h3 g3 h4 g4 h5 g5 h6 g6 _).mono ?_; rintro eq wq ⟨rfl, hb⟩; obtain ⟨hc, hf⟩ := bcell hb; have hz := hb.size; (try simp at hz); (try have hl : w.heap.size < wq.heap.size := (by omega))))
  go_ret
  refine ⟨rfl, ?_⟩
  repeat' (first | with_reducible exact Below.refl _ _ | with_reducible assumption | (with_reducible refine Below.setCell ?_ (by first | omega | (simp; done) | (simp; omega)) _) | (with_reducible refine Below.alloc ?_ (by first | omega | (simp; done) | (simp; omega)) _) | (with_reducible refine below_drewN ?_ _) | (with_reducible refine Below.drew ?_) | (with_reducible refine Below.trans ?_ (Below.mono (by first | (with_reducible assumption) | exact Grow.below (by assumption)) (by first | omega | (simp; done) | (simp; omega)))))

set_option maxHeartbeats 1600000 in
theorem eqES (ba oa bb ob n ca cb : Nat) (s : Nat → ByteArray) (f g : Nat → Nat) (v : Nat → Option Nat) (w : World) (hn : n ≤ 1048576) (la : ba < w.heap.size) (lb : bb < w.heap.size) (ra : ∀ i, i < 8 * n → w.cell? ⟨ba, oa + i, none⟩ = some (enC s f i)) (rb : ∀ i, i < 8 * n → w.cell? ⟨bb, ob + i, none⟩ = some (enC s g i)) (ia : ∀ i, i < 7 * n → Is .f32 (f i) (v i)) (ib : ∀ i, i < 7 * n → Is .f32 (g i) (v i)) :
    Calls Try.prog 25 #[.slice (some ⟨ba, oa, none⟩) n ca, .slice (some ⟨bb, ob, none⟩) n cb] w fun e w' => e = .returned (.bool true) ∧ Below w.heap.size w w' := by
  have HA := Lib.hid ra
  have HB := Lib.hid rb
  have IA := Lib.hid ia
  have IB := Lib.hid ib
  clear ra rb ia ib
  go_enter Try.func25, Try.ntmps25
  go_wp2
  go_loopw [5] (fun i wr => ∃ k : Nat, k ≤ n ∧ i = .int .i64 k ∧ Below w.heap.size w wr) (fun i _ => n - (intOf i).toNat)
  case atStart => exact ⟨0, Nat.zero_le _, rfl, Below.refl _ _⟩
  case round =>
    obtain ⟨k, hk, rfl, hbel⟩ := hrel
    by_cases hlt : k < n
    · obtain ⟨c0, c1, c2, c3, c4, c5, c6, c7⟩ := cells8 HA.out hlt
      rw [← hbel.cell (by exact la)] at c0 c1 c2 c3 c4 c5 c6 c7
      obtain ⟨d0, d1, d2, d3, d4, d5, d6, d7⟩ := cells8 HB.out hlt
      rw [← hbel.cell (by exact lb)] at d0 d1 d2 d3 d4 d5 d6 d7
      have hz := hbel.size
      have CC := fun (W : World) => eqEn (s := s k) (IA.out (7 * k) (by omega)) (IB.out (7 * k) (by omega)) (IA.out (7 * k + 1) (by omega)) (IB.out (7 * k + 1) (by omega)) (IA.out (7 * k + 2) (by omega)) (IB.out (7 * k + 2) (by omega)) (IA.out (7 * k + 3) (by omega)) (IB.out (7 * k + 3) (by omega)) (IA.out (7 * k + 4) (by omega)) (IB.out (7 * k + 4) (by omega)) (IA.out (7 * k + 5) (by omega)) (IB.out (7 * k + 5) (by omega)) (IA.out (7 * k + 6) (by omega)) (IB.out (7 * k + 6) (by omega)) W
      go_wp2_with fail
      go_region_with (go_at_call 49; refine (CC _).mono ?_; rintro eq wq ⟨rfl, hq⟩)
      all_goals
        go_wp2
        go_roundw
        case rel => exact ⟨k + 1, by omega, by go_num, hbel.drew.trans (hq.mono hz)⟩
        case measure => simp [intOf]; omega
    · go_wp2
      go_ret
      exact ⟨rfl, hbel⟩

/-- The words of two rows stand for the same values. -/
theorem eqRowE {ba bb n ca cb : Nat} {t : TypeId} {s : Nat → ByteArray} {f g : Nat → Nat} {v : Nat → Option Nat} {w : World} (hn : n ≤ 1048576) (ra : w.rowIs ba t (8 * n) (enC s f)) (rb : w.rowIs bb t (8 * n) (enC s g)) (ia : ∀ i, i < 7 * n → Is .f32 (f i) (v i)) (ib : ∀ i, i < 7 * n → Is .f32 (g i) (v i)) :
    Calls Try.prog 25 #[.slice (some ⟨ba, 0, none⟩) n ca, .slice (some ⟨bb, 0, none⟩) n cb] w fun e w' => e = .returned (.bool true) ∧ Below w.heap.size w w' :=
  eqES ba 0 bb 0 n ca cb s f g v w hn ra.lt rb.lt (fun i hi => by rw [Nat.zero_add]; exact ra.cell hi) (fun i hi => by rw [Nat.zero_add]; exact rb.cell hi) ia ib

theorem bt {w w1 w2 : World} (h1 : Below w.heap.size w w1) (h2 : Below w1.heap.size w1 w2) : Below w.heap.size w w2 := h1.trans (h2.mono h1.size)
theorem rt {w1 w2 : World} {b n : Nat} {t : TypeId} {f : Nat → Value} (hr : w1.rowIs b t n f) (h2 : Below w1.heap.size w1 w2) : w2.rowIs b t n f := row_below hr h2 hr.lt
theorem rowCells {w : World} {b n : Nat} {t : TypeId} {f : Nat → Value} (h : w.rowIs b t n f) : ∀ i, i < n → w.cell? ⟨b, 0 + i, none⟩ = some (f i) := fun i hi => by rw [Nat.zero_add]; exact h.cell hi

theorem szE0 (a : Option Addr) (n cap : Nat) (L : Int) (w : World) (h0 : L < (n : Int)) (h1 : 0 ≤ L) (hm : n ≤ maxLen) :
    Calls Try.prog 21 #[.slice a n cap, .int .i64 L] w fun e w' => e = .returned (.int .i64 (-1)) ∧ w' = w := by
  have hw : wrap64 (L - (n : Int)) = L - n := by unfold maxLen at hm; unfold wrap64; omega
  have hd : decide (L - (n : Int) < 0) = true := by simp; omega
  go_enter Try.func21, Try.ntmps21
  go_wp2
  go_ret
  exact ⟨rfl, rfl⟩

set_option maxHeartbeats 1600000 in
theorem szE1 (b off n cap : Nat) (s : Nat → ByteArray) (f : Nat → Nat) (L : Int) (w : World) (h0 : (n : Int) ≤ L) (h1 : L ≤ 1048576) (hb : b < w.heap.size) (hs : ∀ i, i < n → (s i).size ≤ maxLen) (hr : ∀ i, i < 8 * n → w.cell? ⟨b, off + i, none⟩ = some (enC s f i)) :
    Calls Try.prog 21 #[.slice (some ⟨b, off, none⟩) n cap, .int .i64 L] w fun e w' => (∃ r : Int, e = .returned (.int .i64 r) ∧ r ≤ L - n ∧ -1 ≤ r) ∧ Below w.heap.size w w' := by
  have hw : wrap64 (L - (n : Int)) = L - n := by unfold wrap64; omega
  have hd : decide (L - (n : Int) < 0) = false := by simp; omega
  have HR := Lib.hid hr
  have HS := Lib.hid hs
  clear hr hs
  go_enter Try.func21, Try.ntmps21
  go_wp2
  go_loopw [5, 1] (fun i l wr => ∃ (k : Nat) (r : Int), k ≤ n ∧ i = .int .i64 k ∧ l = .int .i64 r ∧ 0 ≤ r ∧ r ≤ L - n ∧ Below w.heap.size w wr) (fun i _ _ => n - (intOf i).toNat)
  case atStart => exact ⟨0, L - n, Nat.zero_le _, rfl, rfl, by omega, by omega, Below.refl _ _⟩
  case round =>
    obtain ⟨k, r, hk, rfl, rfl, hr0, hr1, hbel⟩ := hrel
    by_cases hlt : k < n
    · obtain ⟨c0, c1, c2, c3, c4, c5, c6, c7⟩ := cells8 HR.out hlt
      rw [← hbel.cell (by exact hb)] at c0 c1 c2 c3 c4 c5 c6 c7
      have hz := hbel.size
      have CC := fun (W : World) => szEn (s := s k) (a0 := f (7 * k)) (a1 := f (7 * k + 1)) (a2 := f (7 * k + 2)) (a3 := f (7 * k + 3)) (a4 := f (7 * k + 4)) (a5 := f (7 * k + 5)) (a6 := f (7 * k + 6)) r W (HS.out k hlt) hr0 (by omega)
      by_cases hl : r < (s k).size
      · simp only [if_pos hl] at CC
        go_wp2_with (go_at_call 17; refine (CC _).mono ?_; rintro eq wq ⟨rfl, hq⟩)
        go_ret
        exact ⟨⟨-1, rfl, by omega, by omega⟩, hbel.trans (hq.mono hz)⟩
      · have hl' : decide (r - ((s k).size : Int) < 0) = false := by simp; omega
        have hl2 : r - ((s k).size : Int) ≤ L - n := by omega
        have hl3 : 0 ≤ r - ((s k).size : Int) := by omega
        simp only [if_neg hl] at CC
        go_wp2_with (go_at_call 17; refine (CC _).mono ?_; rintro eq wq ⟨rfl, hq⟩)
        go_roundw
        case rel => exact ⟨k + 1, r - ((s k).size : Int), by omega, by go_num, rfl, hl3, hl2, hbel.trans (hq.mono hz)⟩
        case measure => simp [intOf]; omega
    · go_wp2
      go_ret
      exact ⟨⟨r, rfl, hr1, by omega⟩, hbel⟩

theorem szE2 (a : Option Addr) (cap : Nat) (L : Int) (w : World) (h0 : 0 ≤ L) (h1 : L ≤ 1048576) :
    Calls Try.prog 21 #[.slice a 0 cap, .int .i64 L] w fun e w' => (∃ r : Int, e = .returned (.int .i64 r) ∧ r ≤ L ∧ -1 ≤ r) ∧ Below w.heap.size w w' := by
  have hw : wrap64 L = L := by unfold wrap64; omega
  have hd : decide (L < 0) = false := by simp; omega
  go_enter Try.func21, Try.ntmps21
  go_wp2
  go_loopw [5, 1] (fun i l wr => i = .int .i64 0 ∧ l = .int .i64 L ∧ wr = w) (fun i _ _ => 0)
  case atStart => exact ⟨rfl, rfl, rfl⟩
  case round =>
    obtain ⟨rfl, rfl, rfl⟩ := hrel
    go_wp2
    go_ret
    exact ⟨⟨L, rfl, by omega, by omega⟩, Below.refl _ _⟩

/-- What is left behind a list: less than nothing, or the list is not too long. -/
theorem szE {a : Option Addr} {n cap : Nat} {p : (Nat → ByteArray) × (Nat → Nat)} (L : Int) {w : World} (h0 : 0 ≤ L) (h1 : L ≤ 1048576) (h : GoodEn w a n p) :
    Calls Try.prog 21 #[.slice a n cap, .int .i64 L] w fun e w' => (∃ r : Int, e = .returned (.int .i64 r) ∧ (r < 0 ∨ 0 ≤ r ∧ r ≤ L ∧ n ≤ 1048576)) ∧ Below w.heap.size w w' := by
  obtain ⟨hs, hw, hm, hr⟩ := h
  by_cases hn : (n : Int) ≤ L
  · rcases hr with rfl | ⟨b, off, rfl, hb, hr⟩
    · refine (szE2 a cap L w h0 h1).mono ?_
      rintro e w' ⟨⟨r, he, h2, h3⟩, hbel⟩
      exact ⟨⟨r, he, by omega⟩, hbel⟩
    · refine (szE1 b off n cap p.1 p.2 L w hn h1 hb hs hr).mono ?_
      rintro e w' ⟨⟨r, he, h2, h3⟩, hbel⟩
      exact ⟨⟨r, he, by omega⟩, hbel⟩
  · refine (szE0 a n cap L w (by omega) h0 hm).mono ?_
    rintro e w' ⟨he, rfl⟩
    exact ⟨⟨-1, he, by omega⟩, Below.refl _ _⟩
end Go.Proofs.Ythgnlpeogdockaa
