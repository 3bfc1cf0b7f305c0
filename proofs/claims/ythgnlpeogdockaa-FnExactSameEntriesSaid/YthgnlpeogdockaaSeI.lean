/-
  Whether two lists of entries are the same, of the program. No condition.
-/
import Derived.Test.YthgnlpeogdockaaSeS
import Derived.Test.YthgnlpeogdockaaHas
import Derived.Laws.StructEq
import Derived.ChangeKeysEq
namespace Go.Proofs.Ythgnlpeogdockaa
open Go.RowKit

abbrev bits7 (c0 c1 c2 c3 c4 c5 c6 : Int) : Value := .agg #[.int .i64 c0, .int .i64 c1, .int .i64 c2, .int .i64 c3, .int .i64 c4, .int .i64 c5, .int .i64 c6]
abbrev bitsN (s : ByteArray) (c0 c1 c2 c3 c4 c5 c6 : Int) : Value := .agg #[.string s, .int .i64 c0, .int .i64 c1, .int .i64 c2, .int .i64 c3, .int .i64 c4, .int .i64 c5, .int .i64 c6]

set_option maxHeartbeats 3200000 in
theorem eqBits7 (c0 d0 c1 d1 c2 d2 c3 d3 c4 d4 c5 d5 c6 d6 : Int) (w : World) : (Op.equalIn 9999 92 (bits7 c0 c1 c2 c3 c4 c5 c6) (bits7 d0 d1 d2 d3 d4 d5 d6)).run Try.prog w = .ok (c0 == d0 && (c1 == d1 && (c2 == d2 && (c3 == d3 && (c4 == d4 && (c5 == d5 && c6 == d6)))))) w := by
  have u2 := Try.underlying2
  have a2 := Try.isAgg2
  have hS := Try.underlying92
  obtain ⟨i, hi⟩ : ∃ i, Try.prog.info? 2 = some i := Option.isSome_iff_exists.1 (by kernel_rfl)
  have hc : Try.prog.cellsOf 2 = 1 := by kernel_rfl
  have hq : ∀ (a b : Int) (w : World), (Op.equalIn 9998 2 (.int .i64 a) (.int .i64 b)).run Try.prog w = .ok (a == b) w := fun a b w => run_equalIn_int w 9997 2 .i64 .i64 a b u2
  rw [show (9999 : Nat) = 9998 + 1 from rfl, run_equalIn_array w 9998 _ _ hS hi, hc, show List.range 7 = [0, 1, 2, 3, 4, 5, 6] from rfl]
  simp only [Op.eqItems, Sem.run_bind]
  go_simp
  by_cases h0 : c0 = d0
  · by_cases h1 : c1 = d1
    · by_cases h2 : c2 = d2
      · by_cases h3 : c3 = d3
        · by_cases h4 : c4 = d4
          · by_cases h5 : c5 = d5
            · by_cases h6 : c6 = d6 <;> simp [*]
            · simp [*]
          · simp [*]
        · simp [*]
      · simp [*]
    · simp [*]
  · simp [*]

set_option maxHeartbeats 1600000 in
theorem eqBitsN (s t : ByteArray) (c0 d0 c1 d1 c2 d2 c3 d3 c4 d4 c5 d5 c6 d6 : Int) (w : World) : (Op.equalIn 10000 94 (bitsN s c0 c1 c2 c3 c4 c5 c6) (bitsN t d0 d1 d2 d3 d4 d5 d6)).run Try.prog w = .ok ((s.toList == t.toList) && (c0 == d0 && (c1 == d1 && (c2 == d2 && (c3 == d3 && (c4 == d4 && (c5 == d5 && c6 == d6))))))) w := by
  have u1 := Try.underlying9
  have a1 := Try.isAgg9
  have z1 := Try.sizeOf9
  have a3 := Try.isAgg92
  have z3 := Try.sizeOf92
  have hS : Try.prog.underlying 94 = some (.struct (Try.prog.fieldsOf 94)) := by kernel_rfl
  have h9 := eqBits7
  have hq : ∀ (a b : ByteArray) (w : World), (Op.equalIn 9999 9 (.string a) (.string b)).run Try.prog w = .ok (a.toList == b.toList) w := fun a b w => run_equalIn_string w 9998 9 a b u1
  rw [show (10000 : Nat) = 9999 + 1 from rfl, run_equalIn_agg w 9999 94 _ _ hS (by kernel_rfl)]
  simp only [Program.fieldsOf, Try.underlying94]
  go_simp
  by_cases hst : s.toList = t.toList
  · by_cases h0 : c0 = d0
    · by_cases h1 : c1 = d1
      · by_cases h2 : c2 = d2
        · by_cases h3 : c3 = d3
          · by_cases h4 : c4 = d4
            · by_cases h5 : c5 = d5
              · by_cases h6 : c6 = d6 <;> simp [*]
              · simp [*]
            · simp [*]
          · simp [*]
        · simp [*]
      · simp [*]
    · simp [*]
  · simp [*]

set_option maxHeartbeats 1600000 in
theorem numbers7 {s : ByteArray} {a0 a1 a2 a3 a4 a5 a6 : Nat} (w : World) : Calls Try.prog 80 #[enV s a0 a1 a2 a3 a4 a5 a6] w fun e w' => e = .returned (.agg #[.float .f32 a0, .float .f32 a1, .float .f32 a2, .float .f32 a3, .float .f32 a4, .float .f32 a5, .float .f32 a6]) ∧ Below w.heap.size w w' := by
  have hst := run_store_float Try.prog
  go_enter Try.func80, Try.ntmps80
  go_wp2
  refine bodyPost_ret (v := .agg #[.float .f32 a0, .float .f32 a1, .float .f32 a2, .float .f32 a3, .float .f32 a4, .float .f32 a5, .float .f32 a6]) (by simp [results, Try.results80, go_sem]) rfl ⟨rfl, ?_⟩
  repeat' (first | with_reducible exact Below.refl _ _ | with_reducible assumption | (with_reducible refine Below.setCell ?_ (by first | omega | (simp; done) | (simp; omega)) _) | (with_reducible refine Below.alloc ?_ (by first | omega | (simp; done) | (simp; omega)) _) | (with_reducible refine below_drewN ?_ _) | (with_reducible refine Below.drew ?_) | (with_reducible refine Below.trans ?_ (Below.mono (by first | (with_reducible assumption) | exact Grow.below (by assumption)) (by first | omega | (simp; done) | (simp; omega)))))

def seven {α : Type} (a0 a1 a2 a3 a4 a5 a6 : α) (i : Nat) : α := if i = 0 then a0 else if i = 1 then a1 else if i = 2 then a2 else if i = 3 then a3 else if i = 4 then a4 else if i = 5 then a5 else a6
/-- The bits of the first k of seven numbers, behind a name. -/
def bitF (s : ByteArray) (x : Nat → Option Nat) (k j : Nat) : Value := if j = 0 then .string s else .int .i64 (if j ≤ k then bitsI (x (j - 1)) else 0)

abbrev stB (w : World) (s : ByteArray) (a0 a1 a2 a3 a4 a5 a6 : Nat) : World := (w.alloc (.cells #[.string s, .float .f32 a0, .float .f32 a1, .float .f32 a2, .float .f32 a3, .float .f32 a4, .float .f32 a5, .float .f32 a6] 39)).alloc (.cells #[.string ByteArray.empty, .int .i64 0, .int .i64 0, .int .i64 0, .int .i64 0, .int .i64 0, .int .i64 0, .int .i64 0] 94)
abbrev zB (s : ByteArray) : Array Value := #[.string s, .int .i64 0, .int .i64 0, .int .i64 0, .int .i64 0, .int .i64 0, .int .i64 0, .int .i64 0]

set_option maxHeartbeats 3200000 in
theorem bitsE_any {s : ByteArray} {a0 a1 a2 a3 a4 a5 a6 : Nat} {x0 x1 x2 x3 x4 x5 x6 : Option Nat} (h0 : Is .f32 a0 x0) (h1 : Is .f32 a1 x1) (h2 : Is .f32 a2 x2) (h3 : Is .f32 a3 x3) (h4 : Is .f32 a4 x4) (h5 : Is .f32 a5 x5) (h6 : Is .f32 a6 x6) (w : World) :
    Calls Try.prog 70 #[enV s a0 a1 a2 a3 a4 a5 a6] w fun e w' => e = .returned (bitsN s (bitsI x0) (bitsI x1) (bitsI x2) (bitsI x3) (bitsI x4) (bitsI x5) (bitsI x6)) ∧ Below w.heap.size w w' := by
  have hX : (stB w s a0 a1 a2 a3 a4 a5 a6).heap.size = w.heap.size + 1 + 1 := by simp [stB]
  have r0 : ((stB w s a0 a1 a2 a3 a4 a5 a6).alloc (.cells (zB s) 94)).rowIs (w.heap.size + 1 + 1) 94 8 (bitF s (seven x0 x1 x2 x3 x4 x5 x6) 0) := by
    rw [← hX]
    refine World.rowIs_alloc _ (zB s) _ _ (fun i hi => ?_)
    have hi8 : i < 8 := hi
    match i, hi8 with
    | 0, _ => rfl
    | 1, _ => rfl
    | 2, _ => rfl
    | 3, _ => rfl
    | 4, _ => rfl
    | 5, _ => rfl
    | 6, _ => rfl
    | 7, _ => rfl
  have HROW := Lib.hid (fun (W : World) (h : Below ((stB w s a0 a1 a2 a3 a4 a5 a6).alloc (.cells (zB s) 94)).heap.size ((stB w s a0 a1 a2 a3 a4 a5 a6).alloc (.cells (zB s) 94)) W) => rt r0 h)
  clear r0 hX
  go_enter Try.func70, Try.ntmps70
  go_wp2_with (first | (go_at_call 80; refine (numbers7 _).mono ?_; rintro _ W1 ⟨rfl, b1⟩))
  have r1 := HROW.out W1 b1
  have b2 : Below (w.heap.size + 1 + 1) (stB w s a0 a1 a2 a3 a4 a5 a6) W1 := Below.trans ((Below.refl _ (stB w s a0 a1 a2 a3 a4 a5 a6)).alloc (by simp [stB]) _) (b1.mono (by simp))
  clear HROW b1
  go_loopw [11] (fun i wr => ∃ k : Nat, k ≤ 7 ∧ i = .int .i64 k ∧ Below (w.heap.size + 1 + 1) (stB w s a0 a1 a2 a3 a4 a5 a6) wr ∧ wr.rowIs (w.heap.size + 1 + 1) 94 8 (bitF s (seven x0 x1 x2 x3 x4 x5 x6) k)) (fun i _ => 7 - (intOf i).toNat)
  case atStart => exact ⟨0, by decide, rfl, b2, r1⟩
  case round =>
    clear r1 b2
    obtain ⟨k, hk, rfl, hbel, hrow⟩ := hrel
    have hfz : ∀ o, wr.frozen? ⟨w.heap.size + 1 + 1, o, none⟩ = false := hrow.frozen
    have d0 := hrow.cell (show 0 < 8 by decide)
    have d1 := hrow.cell (show 1 < 8 by decide)
    have d2 := hrow.cell (show 2 < 8 by decide)
    have d3 := hrow.cell (show 3 < 8 by decide)
    have d4 := hrow.cell (show 4 < 8 by decide)
    have d5 := hrow.cell (show 5 < 8 by decide)
    have d6 := hrow.cell (show 6 < 8 by decide)
    have d7 := hrow.cell (show 7 < 8 by decide)
    have hk8 : k = 7 ∨ k = 0 ∨ k = 1 ∨ k = 2 ∨ k = 3 ∨ k = 4 ∨ k = 5 ∨ k = 6 := by omega
    rcases hk8 with rfl | hk8
    · have e0 : (wr.cell? ⟨w.heap.size + 1, 0, none⟩) = some (.string ByteArray.empty) := by rw [hbel.cell (by show w.heap.size + 1 < w.heap.size + 1 + 1; omega)]; simp [stB]
      have e1 : (wr.cell? ⟨w.heap.size + 1, 1, none⟩) = some (.int .i64 0) := by rw [hbel.cell (by show w.heap.size + 1 < w.heap.size + 1 + 1; omega)]; simp [stB]
      have e2 : (wr.cell? ⟨w.heap.size + 1, 2, none⟩) = some (.int .i64 0) := by rw [hbel.cell (by show w.heap.size + 1 < w.heap.size + 1 + 1; omega)]; simp [stB]
      have e3 : (wr.cell? ⟨w.heap.size + 1, 3, none⟩) = some (.int .i64 0) := by rw [hbel.cell (by show w.heap.size + 1 < w.heap.size + 1 + 1; omega)]; simp [stB]
      have e4 : (wr.cell? ⟨w.heap.size + 1, 4, none⟩) = some (.int .i64 0) := by rw [hbel.cell (by show w.heap.size + 1 < w.heap.size + 1 + 1; omega)]; simp [stB]
      have e5 : (wr.cell? ⟨w.heap.size + 1, 5, none⟩) = some (.int .i64 0) := by rw [hbel.cell (by show w.heap.size + 1 < w.heap.size + 1 + 1; omega)]; simp [stB]
      have e6 : (wr.cell? ⟨w.heap.size + 1, 6, none⟩) = some (.int .i64 0) := by rw [hbel.cell (by show w.heap.size + 1 < w.heap.size + 1 + 1; omega)]; simp [stB]
      have e7 : (wr.cell? ⟨w.heap.size + 1, 7, none⟩) = some (.int .i64 0) := by rw [hbel.cell (by show w.heap.size + 1 < w.heap.size + 1 + 1; omega)]; simp [stB]
      have ez : ∀ o, wr.frozen? ⟨w.heap.size + 1, o, none⟩ = false := fun o => by rw [hbel.frozen (by show w.heap.size + 1 < w.heap.size + 1 + 1; omega)]; simp [stB]
      simp only [bitF, seven] at d0 d1 d2 d3 d4 d5 d6 d7
      simp at d0 d1 d2 d3 d4 d5 d6 d7
      clear hrow
      go_wp2_with fail
      refine bodyPost_ret (v := bitsN s (bitsI x0) (bitsI x1) (bitsI x2) (bitsI x3) (bitsI x4) (bitsI x5) (bitsI x6)) (by simp [results, Try.results70, go_sem, *]) rfl ⟨rfl, ?_⟩
      have b0 : Below w.heap.size w (stB w s a0 a1 a2 a3 a4 a5 a6) := ((Below.refl _ _).alloc (Nat.le_refl _) _).alloc (by simp) _
      replace hbel := b0.trans (hbel.mono (show w.heap.size ≤ w.heap.size + 1 + 1 by omega))
      clear b0
      repeat' (first | with_reducible exact Below.refl _ _ | with_reducible assumption | (with_reducible refine Below.setCell ?_ (by first | omega | (simp; done) | (simp; omega)) _) | (with_reducible refine Below.alloc ?_ (by first | omega | (simp; done) | (simp; omega)) _) | (with_reducible refine below_drewN ?_ _) | (with_reducible refine Below.drew ?_) | (with_reducible refine Below.trans ?_ (Below.mono (by first | (with_reducible assumption) | exact Grow.below (by assumption)) (by first | omega | (simp; done) | (simp; omega)))))
    · have HR := Lib.hid hrow
      clear hrow
      have q0 : ∀ w, (Instr.index 100 (.agg #[.float .f32 a0, .float .f32 a1, .float .f32 a2, .float .f32 a3, .float .f32 a4, .float .f32 a5, .float .f32 a6]) (.int .i64 0)).run Try.prog w = .ok (.float .f32 a0) w := fun _ => by kernel_rfl
      have q1 : ∀ w, (Instr.index 100 (.agg #[.float .f32 a0, .float .f32 a1, .float .f32 a2, .float .f32 a3, .float .f32 a4, .float .f32 a5, .float .f32 a6]) (.int .i64 1)).run Try.prog w = .ok (.float .f32 a1) w := fun _ => by kernel_rfl
      have q2 : ∀ w, (Instr.index 100 (.agg #[.float .f32 a0, .float .f32 a1, .float .f32 a2, .float .f32 a3, .float .f32 a4, .float .f32 a5, .float .f32 a6]) (.int .i64 2)).run Try.prog w = .ok (.float .f32 a2) w := fun _ => by kernel_rfl
      have q3 : ∀ w, (Instr.index 100 (.agg #[.float .f32 a0, .float .f32 a1, .float .f32 a2, .float .f32 a3, .float .f32 a4, .float .f32 a5, .float .f32 a6]) (.int .i64 3)).run Try.prog w = .ok (.float .f32 a3) w := fun _ => by kernel_rfl
      have q4 : ∀ w, (Instr.index 100 (.agg #[.float .f32 a0, .float .f32 a1, .float .f32 a2, .float .f32 a3, .float .f32 a4, .float .f32 a5, .float .f32 a6]) (.int .i64 4)).run Try.prog w = .ok (.float .f32 a4) w := fun _ => by kernel_rfl
      have q5 : ∀ w, (Instr.index 100 (.agg #[.float .f32 a0, .float .f32 a1, .float .f32 a2, .float .f32 a3, .float .f32 a4, .float .f32 a5, .float .f32 a6]) (.int .i64 5)).run Try.prog w = .ok (.float .f32 a5) w := fun _ => by kernel_rfl
      have q6 : ∀ w, (Instr.index 100 (.agg #[.float .f32 a0, .float .f32 a1, .float .f32 a2, .float .f32 a3, .float .f32 a4, .float .f32 a5, .float .f32 a6]) (.int .i64 6)).run Try.prog w = .ok (.float .f32 a6) w := fun _ => by kernel_rfl
      rcases hk8 with rfl | rfl | rfl | rfl | rfl | rfl | rfl
      · go_wp2_with (first | (go_at_call 75; refine (bitsOf_any h0 _).mono ?_; rintro eq wq ⟨nq, rfl, rfl⟩))
        go_roundw
        case rel =>
          refine ⟨1, by omega, by go_num, by repeat' (first | with_reducible exact Below.refl _ _ | with_reducible assumption | (with_reducible refine Below.setCell ?_ (by first | omega | (simp; done) | (simp; omega)) _) | (with_reducible refine Below.alloc ?_ (by first | omega | (simp; done) | (simp; omega)) _) | (with_reducible refine below_drewN ?_ _) | (with_reducible refine Below.drew ?_) | (with_reducible refine Below.trans ?_ (Below.mono (by first | (with_reducible assumption) | exact Grow.below (by assumption)) (by first | omega | (simp; done) | (simp; omega))))), ?_⟩
          have hr1 : (wr.drewN nq).rowIs (w.heap.size + 1 + 1) 94 8 (bitF s (seven x0 x1 x2 x3 x4 x5 x6) 0) := HR.out
          have hr2 := hr1.set 1 (.int .i64 (bitsI x0))
          refine hr2.congr fun i hi => ?_
          match i, hi with
          | 0, _ => rfl
          | 1, _ => rfl
          | 2, _ => rfl
          | 3, _ => rfl
          | 4, _ => rfl
          | 5, _ => rfl
          | 6, _ => rfl
          | 7, _ => rfl
        case measure => simp [intOf]
      · go_wp2_with (first | (go_at_call 75; refine (bitsOf_any h1 _).mono ?_; rintro eq wq ⟨nq, rfl, rfl⟩))
        go_roundw
        case rel =>
          refine ⟨2, by omega, by go_num, by repeat' (first | with_reducible exact Below.refl _ _ | with_reducible assumption | (with_reducible refine Below.setCell ?_ (by first | omega | (simp; done) | (simp; omega)) _) | (with_reducible refine Below.alloc ?_ (by first | omega | (simp; done) | (simp; omega)) _) | (with_reducible refine below_drewN ?_ _) | (with_reducible refine Below.drew ?_) | (with_reducible refine Below.trans ?_ (Below.mono (by first | (with_reducible assumption) | exact Grow.below (by assumption)) (by first | omega | (simp; done) | (simp; omega))))), ?_⟩
          have hr1 : (wr.drewN nq).rowIs (w.heap.size + 1 + 1) 94 8 (bitF s (seven x0 x1 x2 x3 x4 x5 x6) 1) := HR.out
          have hr2 := hr1.set 2 (.int .i64 (bitsI x1))
          refine hr2.congr fun i hi => ?_
          match i, hi with
          | 0, _ => rfl
          | 1, _ => rfl
          | 2, _ => rfl
          | 3, _ => rfl
          | 4, _ => rfl
          | 5, _ => rfl
          | 6, _ => rfl
          | 7, _ => rfl
        case measure => simp [intOf]
      · go_wp2_with (first | (go_at_call 75; refine (bitsOf_any h2 _).mono ?_; rintro eq wq ⟨nq, rfl, rfl⟩))
        go_roundw
        case rel =>
          refine ⟨3, by omega, by go_num, by repeat' (first | with_reducible exact Below.refl _ _ | with_reducible assumption | (with_reducible refine Below.setCell ?_ (by first | omega | (simp; done) | (simp; omega)) _) | (with_reducible refine Below.alloc ?_ (by first | omega | (simp; done) | (simp; omega)) _) | (with_reducible refine below_drewN ?_ _) | (with_reducible refine Below.drew ?_) | (with_reducible refine Below.trans ?_ (Below.mono (by first | (with_reducible assumption) | exact Grow.below (by assumption)) (by first | omega | (simp; done) | (simp; omega))))), ?_⟩
          have hr1 : (wr.drewN nq).rowIs (w.heap.size + 1 + 1) 94 8 (bitF s (seven x0 x1 x2 x3 x4 x5 x6) 2) := HR.out
          have hr2 := hr1.set 3 (.int .i64 (bitsI x2))
          refine hr2.congr fun i hi => ?_
          match i, hi with
          | 0, _ => rfl
          | 1, _ => rfl
          | 2, _ => rfl
          | 3, _ => rfl
          | 4, _ => rfl
          | 5, _ => rfl
          | 6, _ => rfl
          | 7, _ => rfl
        case measure => simp [intOf]
      · go_wp2_with (first | (go_at_call 75; refine (bitsOf_any h3 _).mono ?_; rintro eq wq ⟨nq, rfl, rfl⟩))
        go_roundw
        case rel =>
          refine ⟨4, by omega, by go_num, by repeat' (first | with_reducible exact Below.refl _ _ | with_reducible assumption | (with_reducible refine Below.setCell ?_ (by first | omega | (simp; done) | (simp; omega)) _) | (with_reducible refine Below.alloc ?_ (by first | omega | (simp; done) | (simp; omega)) _) | (with_reducible refine below_drewN ?_ _) | (with_reducible refine Below.drew ?_) | (with_reducible refine Below.trans ?_ (Below.mono (by first | (with_reducible assumption) | exact Grow.below (by assumption)) (by first | omega | (simp; done) | (simp; omega))))), ?_⟩
          have hr1 : (wr.drewN nq).rowIs (w.heap.size + 1 + 1) 94 8 (bitF s (seven x0 x1 x2 x3 x4 x5 x6) 3) := HR.out
          have hr2 := hr1.set 4 (.int .i64 (bitsI x3))
          refine hr2.congr fun i hi => ?_
          match i, hi with
          | 0, _ => rfl
          | 1, _ => rfl
          | 2, _ => rfl
          | 3, _ => rfl
          | 4, _ => rfl
          | 5, _ => rfl
          | 6, _ => rfl
          | 7, _ => rfl
        case measure => simp [intOf]
      · go_wp2_with (first | (go_at_call 75; refine (bitsOf_any h4 _).mono ?_; rintro eq wq ⟨nq, rfl, rfl⟩))
        go_roundw
        case rel =>
          refine ⟨5, by omega, by go_num, by repeat' (first | with_reducible exact Below.refl _ _ | with_reducible assumption | (with_reducible refine Below.setCell ?_ (by first | omega | (simp; done) | (simp; omega)) _) | (with_reducible refine Below.alloc ?_ (by first | omega | (simp; done) | (simp; omega)) _) | (with_reducible refine below_drewN ?_ _) | (with_reducible refine Below.drew ?_) | (with_reducible refine Below.trans ?_ (Below.mono (by first | (with_reducible assumption) | exact Grow.below (by assumption)) (by first | omega | (simp; done) | (simp; omega))))), ?_⟩
          have hr1 : (wr.drewN nq).rowIs (w.heap.size + 1 + 1) 94 8 (bitF s (seven x0 x1 x2 x3 x4 x5 x6) 4) := HR.out
          have hr2 := hr1.set 5 (.int .i64 (bitsI x4))
          refine hr2.congr fun i hi => ?_
          match i, hi with
          | 0, _ => rfl
          | 1, _ => rfl
          | 2, _ => rfl
          | 3, _ => rfl
          | 4, _ => rfl
          | 5, _ => rfl
          | 6, _ => rfl
          | 7, _ => rfl
        case measure => simp [intOf]
      · go_wp2_with (first | (go_at_call 75; refine (bitsOf_any h5 _).mono ?_; rintro eq wq ⟨nq, rfl, rfl⟩))
        go_roundw
        case rel =>
          refine ⟨6, by omega, by go_num, by repeat' (first | with_reducible exact Below.refl _ _ | with_reducible assumption | (with_reducible refine Below.setCell ?_ (by first | omega | (simp; done) | (simp; omega)) _) | (with_reducible refine Below.alloc ?_ (by first | omega | (simp; done) | (simp; omega)) _) | (with_reducible refine below_drewN ?_ _) | (with_reducible refine Below.drew ?_) | (with_reducible refine Below.trans ?_ (Below.mono (by first | (with_reducible assumption) | exact Grow.below (by assumption)) (by first | omega | (simp; done) | (simp; omega))))), ?_⟩
          have hr1 : (wr.drewN nq).rowIs (w.heap.size + 1 + 1) 94 8 (bitF s (seven x0 x1 x2 x3 x4 x5 x6) 5) := HR.out
          have hr2 := hr1.set 6 (.int .i64 (bitsI x5))
          refine hr2.congr fun i hi => ?_
          match i, hi with
          | 0, _ => rfl
          | 1, _ => rfl
          | 2, _ => rfl
          | 3, _ => rfl
          | 4, _ => rfl
          | 5, _ => rfl
          | 6, _ => rfl
          | 7, _ => rfl
        case measure => simp [intOf]
      · go_wp2_with (first | (go_at_call 75; refine (bitsOf_any h6 _).mono ?_; rintro eq wq ⟨nq, rfl, rfl⟩))
        go_roundw
        case rel =>
          refine ⟨7, by omega, by go_num, by repeat' (first | with_reducible exact Below.refl _ _ | with_reducible assumption | (with_reducible refine Below.setCell ?_ (by first | omega | (simp; done) | (simp; omega)) _) | (with_reducible refine Below.alloc ?_ (by first | omega | (simp; done) | (simp; omega)) _) | (with_reducible refine below_drewN ?_ _) | (with_reducible refine Below.drew ?_) | (with_reducible refine Below.trans ?_ (Below.mono (by first | (with_reducible assumption) | exact Grow.below (by assumption)) (by first | omega | (simp; done) | (simp; omega))))), ?_⟩
          have hr1 : (wr.drewN nq).rowIs (w.heap.size + 1 + 1) 94 8 (bitF s (seven x0 x1 x2 x3 x4 x5 x6) 6) := HR.out
          have hr2 := hr1.set 7 (.int .i64 (bitsI x6))
          refine hr2.congr fun i hi => ?_
          match i, hi with
          | 0, _ => rfl
          | 1, _ => rfl
          | 2, _ => rfl
          | 3, _ => rfl
          | 4, _ => rfl
          | 5, _ => rfl
          | 6, _ => rfl
          | 7, _ => rfl
        case measure => simp [intOf]

abbrev stE2 (w : World) (s t : ByteArray) (a0 b0 a1 b1 a2 b2 a3 b3 a4 b4 a5 b5 a6 b6 : Nat) : World := (w.alloc (.cells #[.string s, .float .f32 a0, .float .f32 a1, .float .f32 a2, .float .f32 a3, .float .f32 a4, .float .f32 a5, .float .f32 a6] 39)).alloc (.cells #[.string t, .float .f32 b0, .float .f32 b1, .float .f32 b2, .float .f32 b3, .float .f32 b4, .float .f32 b5, .float .f32 b6] 39)

set_option maxHeartbeats 1600000 in
theorem iSameE1 {s t : ByteArray} {a0 b0 a1 b1 a2 b2 a3 b3 a4 b4 a5 b5 a6 b6 : Nat} {x0 y0 x1 y1 x2 y2 x3 y3 x4 y4 x5 y5 x6 y6 : Option Nat} (h0 : Is .f32 a0 x0) (g0 : Is .f32 b0 y0) (h1 : Is .f32 a1 x1) (g1 : Is .f32 b1 y1) (h2 : Is .f32 a2 x2) (g2 : Is .f32 b2 y2) (h3 : Is .f32 a3 x3) (g3 : Is .f32 b3 y3) (h4 : Is .f32 a4 x4) (g4 : Is .f32 b4 y4) (h5 : Is .f32 a5 x5) (g5 : Is .f32 b5 y5) (h6 : Is .f32 a6 x6) (g6 : Is .f32 b6 y6) (w : World) :
    Calls Try.prog 48 #[enV s a0 a1 a2 a3 a4 a5 a6, enV t b0 b1 b2 b3 b4 b5 b6] w fun e w' => e = .returned (.bool ((s.toList == t.toList) && (sameV x0 y0 && sameO x1 x2 x3 x4 x5 x6 y1 y2 y3 y4 y5 y6))) ∧ Below w.heap.size w w' := by
  have heq := eqBitsN
  have ka0 : ∀ w', Below (w.heap.size + 2) (stE2 w s t a0 b0 a1 b1 a2 b2 a3 b3 a4 b4 a5 b5 a6 b6) w' → w'.cell? ⟨w.heap.size, 1, none⟩ = some (.float .f32 a0) := fun w' h => by rw [h.cell (by simp)]; simp [stE2]
  have ka1 : ∀ w', Below (w.heap.size + 2) (stE2 w s t a0 b0 a1 b1 a2 b2 a3 b3 a4 b4 a5 b5 a6 b6) w' → w'.cell? ⟨w.heap.size, 2, none⟩ = some (.float .f32 a1) := fun w' h => by rw [h.cell (by simp)]; simp [stE2]
  have ka2 : ∀ w', Below (w.heap.size + 2) (stE2 w s t a0 b0 a1 b1 a2 b2 a3 b3 a4 b4 a5 b5 a6 b6) w' → w'.cell? ⟨w.heap.size, 3, none⟩ = some (.float .f32 a2) := fun w' h => by rw [h.cell (by simp)]; simp [stE2]
  have ka3 : ∀ w', Below (w.heap.size + 2) (stE2 w s t a0 b0 a1 b1 a2 b2 a3 b3 a4 b4 a5 b5 a6 b6) w' → w'.cell? ⟨w.heap.size, 4, none⟩ = some (.float .f32 a3) := fun w' h => by rw [h.cell (by simp)]; simp [stE2]
  have ka4 : ∀ w', Below (w.heap.size + 2) (stE2 w s t a0 b0 a1 b1 a2 b2 a3 b3 a4 b4 a5 b5 a6 b6) w' → w'.cell? ⟨w.heap.size, 5, none⟩ = some (.float .f32 a4) := fun w' h => by rw [h.cell (by simp)]; simp [stE2]
  have ka5 : ∀ w', Below (w.heap.size + 2) (stE2 w s t a0 b0 a1 b1 a2 b2 a3 b3 a4 b4 a5 b5 a6 b6) w' → w'.cell? ⟨w.heap.size, 6, none⟩ = some (.float .f32 a5) := fun w' h => by rw [h.cell (by simp)]; simp [stE2]
  have ka6 : ∀ w', Below (w.heap.size + 2) (stE2 w s t a0 b0 a1 b1 a2 b2 a3 b3 a4 b4 a5 b5 a6 b6) w' → w'.cell? ⟨w.heap.size, 7, none⟩ = some (.float .f32 a6) := fun w' h => by rw [h.cell (by simp)]; simp [stE2]
  have kb0 : ∀ w', Below (w.heap.size + 2) (stE2 w s t a0 b0 a1 b1 a2 b2 a3 b3 a4 b4 a5 b5 a6 b6) w' → w'.cell? ⟨w.heap.size + 1, 1, none⟩ = some (.float .f32 b0) := fun w' h => by rw [h.cell (by simp)]; simp [stE2]
  have kb1 : ∀ w', Below (w.heap.size + 2) (stE2 w s t a0 b0 a1 b1 a2 b2 a3 b3 a4 b4 a5 b5 a6 b6) w' → w'.cell? ⟨w.heap.size + 1, 2, none⟩ = some (.float .f32 b1) := fun w' h => by rw [h.cell (by simp)]; simp [stE2]
  have kb2 : ∀ w', Below (w.heap.size + 2) (stE2 w s t a0 b0 a1 b1 a2 b2 a3 b3 a4 b4 a5 b5 a6 b6) w' → w'.cell? ⟨w.heap.size + 1, 3, none⟩ = some (.float .f32 b2) := fun w' h => by rw [h.cell (by simp)]; simp [stE2]
  have kb3 : ∀ w', Below (w.heap.size + 2) (stE2 w s t a0 b0 a1 b1 a2 b2 a3 b3 a4 b4 a5 b5 a6 b6) w' → w'.cell? ⟨w.heap.size + 1, 4, none⟩ = some (.float .f32 b3) := fun w' h => by rw [h.cell (by simp)]; simp [stE2]
  have kb4 : ∀ w', Below (w.heap.size + 2) (stE2 w s t a0 b0 a1 b1 a2 b2 a3 b3 a4 b4 a5 b5 a6 b6) w' → w'.cell? ⟨w.heap.size + 1, 5, none⟩ = some (.float .f32 b4) := fun w' h => by rw [h.cell (by simp)]; simp [stE2]
  have kb5 : ∀ w', Below (w.heap.size + 2) (stE2 w s t a0 b0 a1 b1 a2 b2 a3 b3 a4 b4 a5 b5 a6 b6) w' → w'.cell? ⟨w.heap.size + 1, 6, none⟩ = some (.float .f32 b5) := fun w' h => by rw [h.cell (by simp)]; simp [stE2]
  have kb6 : ∀ w', Below (w.heap.size + 2) (stE2 w s t a0 b0 a1 b1 a2 b2 a3 b3 a4 b4 a5 b5 a6 b6) w' → w'.cell? ⟨w.heap.size + 1, 7, none⟩ = some (.float .f32 b6) := fun w' h => by rw [h.cell (by simp)]; simp [stE2]
  have ks : ∀ w', Below (w.heap.size + 2) (stE2 w s t a0 b0 a1 b1 a2 b2 a3 b3 a4 b4 a5 b5 a6 b6) w' → w'.cell? ⟨w.heap.size, 0, none⟩ = some (.string s) := fun w' h => by rw [h.cell (by simp)]; simp [stE2]
  have kt : ∀ w', Below (w.heap.size + 2) (stE2 w s t a0 b0 a1 b1 a2 b2 a3 b3 a4 b4 a5 b5 a6 b6) w' → w'.cell? ⟨w.heap.size + 1, 0, none⟩ = some (.string t) := fun w' h => by rw [h.cell (by simp)]; simp [stE2]
  go_enter Try.func48, Try.ntmps48
  go_wp2_with fail
  go_region_held3 (fun w' => Below (w.heap.size + 2) (stE2 w s t a0 b0 a1 b1 a2 b2 a3 b3 a4 b4 a5 b5 a6 b6) w') ((repeat' (first | with_reducible assumption | with_reducible exact Below.refl _ _ | with_reducible exact keepW (by with_reducible assumption) (by with_reducible assumption) (by first | exact Nat.le_refl _ | assumption | omega | (simp; done) | (simp; omega)) | with_reducible exact keepS (by with_reducible assumption) (by with_reducible assumption) (by first | exact Nat.le_refl _ | assumption | omega | (simp; done) | (simp; omega)) | (with_reducible refine Below.setCell ?_ (by first | omega | (simp; done) | (simp; omega)) _) | (with_reducible refine below_drewN ?_ _) | (with_reducible refine Below.drew ?_) | (with_reducible refine Below.trans ?_ (Below.mono (by with_reducible assumption) (by first | omega | (simp; done) | (simp; omega)))) | (with_reducible refine Below.trans ?_ (Below.mono (Grow.below (by with_reducible assumption)) (by first | omega | (simp; done) | (simp; omega)))) | (with_reducible refine Below.alloc ?_ (by first | omega | (simp; done) | (simp; omega)) _))))
    (first | (go_at_call 70; refine (bitsE_any (by assumption) (by assumption) (by assumption) (by assumption) (by assumption) (by assumption) (by assumption) _).mono ?_; rintro eq wq ⟨rfl, hb⟩))
  rename_i hHeld
  go_wp2_with fail
  go_ret
  have b0 : Below w.heap.size w (stE2 w s t a0 b0 a1 b1 a2 b2 a3 b3 a4 b4 a5 b5 a6 b6) := ((Below.refl _ _).alloc (Nat.le_refl _) _).alloc (by simp) _
  exact ⟨rfl, b0.trans (hHeld.mono (by omega))⟩

set_option maxHeartbeats 3200000 in
theorem iEqualE (b off b' off' n m cap cap' : Nat) (s t : Nat → ByteArray) (f g : Nat → Nat) (v u : Nat → Option Nat) (w : World) (hn : n ≤ 1048576) (hm : m ≤ 1048576) (hb : b < w.heap.size) (hb' : b' < w.heap.size) (hr : ∀ i, i < 8 * n → w.cell? ⟨b, off + i, none⟩ = some (enC s f i)) (hr' : ∀ i, i < 8 * m → w.cell? ⟨b', off' + i, none⟩ = some (enC t g i)) (hv : ∀ i, i < 7 * n → Is .f32 (f i) (v i)) (hu : ∀ i, i < 7 * m → Is .f32 (g i) (u i)) :
    Calls Try.prog 47 #[.slice (some ⟨b, off, none⟩) n cap, .slice (some ⟨b', off', none⟩) m cap', .func (.func 48) #[] #[]] w fun e w' => e = .returned (.bool (sameLE s t v u n m)) ∧ Below w.heap.size w w' := by
  have hst := run_store_float Try.prog
  have HR := Lib.hid hr
  have HR' := Lib.hid hr'
  have HV := Lib.hid hv
  have HU := Lib.hid hu
  clear hr hr' hv hu
  by_cases hnm : n = m
  · subst hnm
    have hs : sameLE s t v u n n = allSE s t v u n := by simp [sameLE]
    rw [hs]
    go_enter Try.func47, Try.ntmps47
    go_wp2
    go_loopw [17] (fun i wr => ∃ k : Nat, k ≤ n ∧ i = .int .i64 k ∧ allSE s t v u k = true ∧ Below w.heap.size w wr) (fun i _ => n - (intOf i).toNat)
    case atStart => exact ⟨0, Nat.zero_le _, rfl, rfl, Below.refl _ _⟩
    case round =>
      obtain ⟨k, hk, rfl, hall, hbel⟩ := hrel
      by_cases hlt : k < n
      · obtain ⟨c0, c1, c2, c3, c4, c5, c6, c7⟩ := cells8 HR.out hlt
        rw [← hbel.cell (by exact hb)] at c0 c1 c2 c3 c4 c5 c6 c7
        obtain ⟨d0, d1, d2, d3, d4, d5, d6, d7⟩ := cells8 HR'.out hlt
        rw [← hbel.cell (by exact hb')] at d0 d1 d2 d3 d4 d5 d6 d7
        have hz := hbel.size
        have x1 : b < wr.heap.size := by omega
        have x2 : b' < wr.heap.size := by omega
        have x3 : b < wr.heap.size + 1 := by omega
        have x4 : b' < wr.heap.size + 1 := by omega
        have x5 : ¬ b' = wr.heap.size := by omega
        have x6 : ¬ b = wr.heap.size := by omega
        have x7 : ¬ b' = wr.heap.size + 1 := by omega
        have CC := fun (W : World) => iSameE1 (s := s k) (t := t k) (HV.out (7 * k) (by omega)) (HU.out (7 * k) (by omega)) (HV.out (7 * k + 1) (by omega)) (HU.out (7 * k + 1) (by omega)) (HV.out (7 * k + 2) (by omega)) (HU.out (7 * k + 2) (by omega)) (HV.out (7 * k + 3) (by omega)) (HU.out (7 * k + 3) (by omega)) (HV.out (7 * k + 4) (by omega)) (HU.out (7 * k + 4) (by omega)) (HV.out (7 * k + 5) (by omega)) (HU.out (7 * k + 5) (by omega)) (HV.out (7 * k + 6) (by omega)) (HU.out (7 * k + 6) (by omega)) W
        rw [show (((s k).toList == (t k).toList) && (sameV (v (7 * k)) (u (7 * k)) && sameO (v (7 * k + 1)) (v (7 * k + 2)) (v (7 * k + 3)) (v (7 * k + 4)) (v (7 * k + 5)) (v (7 * k + 6)) (u (7 * k + 1)) (u (7 * k + 2)) (u (7 * k + 3)) (u (7 * k + 4)) (u (7 * k + 5)) (u (7 * k + 6)))) = sameAtE s t v u k from rfl] at CC
        cases hok : sameAtE s t v u k with
        | true =>
          simp only [hok] at CC
          go_wp2_with (go_at_call 48; refine (CC _).mono ?_; rintro eq wq ⟨rfl, hq⟩)
          go_roundw
          case rel => exact ⟨k + 1, by omega, by go_num, by simp [allSE, hall, hok], by repeat' (first | with_reducible exact Below.refl _ _ | with_reducible assumption | (with_reducible refine Below.setCell ?_ (by first | omega | (simp; done) | (simp; omega)) _) | (with_reducible refine Below.alloc ?_ (by first | omega | (simp; done) | (simp; omega)) _) | (with_reducible refine below_drewN ?_ _) | (with_reducible refine Below.drew ?_) | (with_reducible refine Below.trans ?_ (Below.mono (by first | (with_reducible assumption) | exact Grow.below (by assumption)) (by first | omega | (simp; done) | (simp; omega)))))⟩
          case measure => simp [intOf]; omega
        | false =>
          have hf := allSE_false hok hlt
          simp only [hok] at CC
          go_wp2_with (go_at_call 48; refine (CC _).mono ?_; rintro eq wq ⟨rfl, hq⟩)
          go_ret
          exact ⟨by rw [hf]; rfl, by repeat' (first | with_reducible exact Below.refl _ _ | with_reducible assumption | (with_reducible refine Below.setCell ?_ (by first | omega | (simp; done) | (simp; omega)) _) | (with_reducible refine Below.alloc ?_ (by first | omega | (simp; done) | (simp; omega)) _) | (with_reducible refine below_drewN ?_ _) | (with_reducible refine Below.drew ?_) | (with_reducible refine Below.trans ?_ (Below.mono (by first | (with_reducible assumption) | exact Grow.below (by assumption)) (by first | omega | (simp; done) | (simp; omega)))))⟩
      · have hkn : Hid (k = n) := (show k = n by omega)
        go_wp2
        go_ret
        exact ⟨by rw [← hkn.out, hall]; rfl, hbel⟩
  · have hd : decide (((n : Nat) : Int) = m) = false := by simp; omega
    have hs : sameLE s t v u n m = false := by simp [sameLE, hnm]
    rw [hs]
    go_enter Try.func47, Try.ntmps47
    go_wp2
    go_ret
    exact ⟨rfl, Below.refl _ _⟩

theorem iSameLE (b off b' off' n m cap cap' : Nat) (s t : Nat → ByteArray) (f g : Nat → Nat) (v u : Nat → Option Nat) (w : World) (hn : n ≤ 1048576) (hm : m ≤ 1048576) (hb : b < w.heap.size) (hb' : b' < w.heap.size) (hr : ∀ i, i < 8 * n → w.cell? ⟨b, off + i, none⟩ = some (enC s f i)) (hr' : ∀ i, i < 8 * m → w.cell? ⟨b', off' + i, none⟩ = some (enC t g i)) (hv : ∀ i, i < 7 * n → Is .f32 (f i) (v i)) (hu : ∀ i, i < 7 * m → Is .f32 (g i) (u i)) :
    Calls Try.prog 24 #[.slice (some ⟨b, off, none⟩) n cap, .slice (some ⟨b', off', none⟩) m cap'] w fun e w' => e = .returned (.bool (sameLE s t v u n m)) ∧ Below w.heap.size w w' := by
  have HC := iEqualE b off b' off' n m cap cap' s t f g v u w hn hm hb hb' hr hr' hv hu
  clear hr hr' hv hu
  go_enter Try.func24, Try.ntmps24
  go_wp2_with (go_at_call 47; refine HC.mono ?_; rintro eq wq ⟨rfl, hb⟩)
  go_ret
  exact ⟨rfl, hb⟩
end Go.Proofs.Ythgnlpeogdockaa
