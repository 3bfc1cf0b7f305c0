/-
  Whether two lists of looks are the same, of the program. No condition.
-/
import Derived.Test.YthgnlpeogdockaaSam1
import Derived.Test.YthgnlpeogdockaaLkS
import Derived.Test.YthgnlpeogdockaaHas
import Derived.Laws.StructEq
import Derived.ChangeKeysEq
namespace Go.Proofs.Ythgnlpeogdockaa
open Go.RowKit

def sameK (x0 x1 x2 x3 x4 y0 y1 y2 y3 y4 : Option Nat) : Bool := sameV x0 y0 && (sameV x1 y1 && (sameV x2 y2 && (sameV x3 y3 && sameV x4 y4)))
abbrev bitsK (c0 c1 c2 c3 c4 : Int) : Value := .agg #[.int .i64 c0, .int .i64 c1, .int .i64 c2, .int .i64 c3, .int .i64 c4]
set_option maxHeartbeats 1600000 in
theorem eqBitsK (c0 c1 c2 c3 c4 d0 d1 d2 d3 d4 : Int) (w : World) : (Op.equalIn 10000 87 (bitsK c0 c1 c2 c3 c4) (bitsK d0 d1 d2 d3 d4)).run Try.prog w = .ok (c0 == d0 && (c1 == d1 && (c2 == d2 && (c3 == d3 && c4 == d4)))) w := by
  have u2 := Try.underlying2
  have a2 := Try.isAgg2
  have hS := Try.underlying87
  obtain ⟨i, hi⟩ : ∃ i, Try.prog.info? 2 = some i := Option.isSome_iff_exists.1 (by kernel_rfl)
  have hc : Try.prog.cellsOf 2 = 1 := by kernel_rfl
  have hq : ∀ (a b : Int) (w : World), (Op.equalIn 9999 2 (.int .i64 a) (.int .i64 b)).run Try.prog w = .ok (a == b) w := fun a b w => run_equalIn_int w 9998 2 .i64 .i64 a b u2
  rw [show (10000 : Nat) = 9999 + 1 from rfl, run_equalIn_array w 9999 _ _ hS hi, hc, show List.range 5 = [0, 1, 2, 3, 4] from rfl]
  simp only [Op.eqItems, Sem.run_bind]
  go_simp
  by_cases h0 : c0 = d0 <;> by_cases h1 : c1 = d1 <;> by_cases h2 : c2 = d2 <;> by_cases h3 : c3 = d3 <;> by_cases h4 : c4 = d4 <;> simp [*]

abbrev stK1 (w : World) (a0 a1 a2 a3 a4 : Nat) : World := ((w.alloc (.cells #[.float .f32 a0, .float .f32 a1, .float .f32 a2, .float .f32 a3, .float .f32 a4] 58)).alloc (.cells #[.int .i64 0, .int .i64 0, .int .i64 0, .int .i64 0, .int .i64 0] 87))
abbrev stK2 (w : World) (a0 a1 a2 a3 a4 b0 b1 b2 b3 b4 : Nat) : World := ((w.alloc (.cells #[.float .f32 a0, .float .f32 a1, .float .f32 a2, .float .f32 a3, .float .f32 a4] 58)).alloc (.cells #[.float .f32 b0, .float .f32 b1, .float .f32 b2, .float .f32 b3, .float .f32 b4] 58))

set_option maxHeartbeats 1600000 in
theorem bitsK_any {a0 a1 a2 a3 a4 : Nat} {x0 x1 x2 x3 x4 : Option Nat} (h0 : Is .f32 a0 x0) (h1 : Is .f32 a1 x1) (h2 : Is .f32 a2 x2) (h3 : Is .f32 a3 x3) (h4 : Is .f32 a4 x4) (w : World) :
    Calls Try.prog 64 #[lkV a0 a1 a2 a3 a4] w fun e w' => e = .returned (bitsK (bitsI x0) (bitsI x1) (bitsI x2) (bitsI x3) (bitsI x4)) ∧ Below w.heap.size w w' := by
  have ka0 : ∀ w', Below (w.heap.size + 1) (stK1 w a0 a1 a2 a3 a4) w' → w'.cell? ⟨w.heap.size, 0, none⟩ = some (.float .f32 a0) := fun w' h => by rw [h.cell (by simp)]; simp [stK1]
  have ka1 : ∀ w', Below (w.heap.size + 1) (stK1 w a0 a1 a2 a3 a4) w' → w'.cell? ⟨w.heap.size, 1, none⟩ = some (.float .f32 a1) := fun w' h => by rw [h.cell (by simp)]; simp [stK1]
  have ka2 : ∀ w', Below (w.heap.size + 1) (stK1 w a0 a1 a2 a3 a4) w' → w'.cell? ⟨w.heap.size, 2, none⟩ = some (.float .f32 a2) := fun w' h => by rw [h.cell (by simp)]; simp [stK1]
  have ka3 : ∀ w', Below (w.heap.size + 1) (stK1 w a0 a1 a2 a3 a4) w' → w'.cell? ⟨w.heap.size, 3, none⟩ = some (.float .f32 a3) := fun w' h => by rw [h.cell (by simp)]; simp [stK1]
  have ka4 : ∀ w', Below (w.heap.size + 1) (stK1 w a0 a1 a2 a3 a4) w' → w'.cell? ⟨w.heap.size, 4, none⟩ = some (.float .f32 a4) := fun w' h => by rw [h.cell (by simp)]; simp [stK1]
  have hs0 : Has (w.heap.size + 1) 5 (stK1 w a0 a1 a2 a3 a4) := by
    refine ⟨by simp [stK1], fun o ho => ?_, fun o => ?_⟩
    · match o, ho with
      | 0, _ => simp [stK1]
      | 1, _ => simp [stK1]
      | 2, _ => simp [stK1]
      | 3, _ => simp [stK1]
      | 4, _ => simp [stK1]
    · simp [stK1]
  have r0 : ∀ w', Has (w.heap.size + 1) 5 w' → w'.cell? ⟨w.heap.size + 1, 0, none⟩ = some (rdc w' (w.heap.size + 1) 0) := fun w' h => h.cell (by decide)
  have r1 : ∀ w', Has (w.heap.size + 1) 5 w' → w'.cell? ⟨w.heap.size + 1, 1, none⟩ = some (rdc w' (w.heap.size + 1) 1) := fun w' h => h.cell (by decide)
  have r2 : ∀ w', Has (w.heap.size + 1) 5 w' → w'.cell? ⟨w.heap.size + 1, 2, none⟩ = some (rdc w' (w.heap.size + 1) 2) := fun w' h => h.cell (by decide)
  have r3 : ∀ w', Has (w.heap.size + 1) 5 w' → w'.cell? ⟨w.heap.size + 1, 3, none⟩ = some (rdc w' (w.heap.size + 1) 3) := fun w' h => h.cell (by decide)
  have r4 : ∀ w', Has (w.heap.size + 1) 5 w' → w'.cell? ⟨w.heap.size + 1, 4, none⟩ = some (rdc w' (w.heap.size + 1) 4) := fun w' h => h.cell (by decide)
  have rf : ∀ w', Has (w.heap.size + 1) 5 w' → ∀ o, w'.frozen? ⟨w.heap.size + 1, o, none⟩ = false := fun w' h o => h.frz o
  go_enter Try.func64, Try.ntmps64
  go_wp2_with fail
  go_region_held3 (fun w' => Below (w.heap.size + 1) (stK1 w a0 a1 a2 a3 a4) w' ∧ Has (w.heap.size + 1) 5 w')
    ((go_split_ands; refine ⟨?_, ?_⟩; (repeat' (first | with_reducible assumption | with_reducible exact Below.refl _ _ | with_reducible exact keepW (by with_reducible assumption) (by with_reducible assumption) (by first | exact Nat.le_refl _ | assumption | omega | (simp; done) | (simp; omega)) | with_reducible exact keepS (by with_reducible assumption) (by with_reducible assumption) (by first | exact Nat.le_refl _ | assumption | omega | (simp; done) | (simp; omega)) | (with_reducible refine Below.setCell ?_ (by first | omega | (simp; done) | (simp; omega)) _) | (with_reducible refine below_drewN ?_ _) | (with_reducible refine Below.drew ?_) | (with_reducible refine Below.trans ?_ (Below.mono (by with_reducible assumption) (by first | omega | (simp; done) | (simp; omega)))) | (with_reducible refine Below.trans ?_ (Below.mono (Grow.below (by with_reducible assumption)) (by first | omega | (simp; done) | (simp; omega)))) | (with_reducible refine Below.alloc ?_ (by first | omega | (simp; done) | (simp; omega)) _))); (repeat' (first | with_reducible assumption | (with_reducible refine Has.setCell ?_ _ _) | (with_reducible refine Has.drewN ?_ _) | (with_reducible refine Has.drew ?_) | (with_reducible refine Has.at ?_ (by with_reducible assumption)) | (with_reducible refine Has.grow ?_ (by with_reducible assumption)) | (with_reducible refine Has.alloc ?_ _)))))
    (first | (go_at_call 75; refine (bitsOf_any (by assumption) _).mono ?_; rintro eq wq ⟨nq, rfl, rfl⟩))
  rename_i hHeld
  obtain ⟨hB, hH⟩ := hHeld
  have e0 := r0 _ hs0
  have e1 := r1 _ hs0
  have e2 := r2 _ hs0
  have e3 := r3 _ hs0
  have e4 := r4 _ hs0
  go_wp2_with fail
  have b0 : Below w.heap.size w (stK1 w a0 a1 a2 a3 a4) := ((Below.refl _ _).alloc (Nat.le_refl _) _).alloc (by simp) _
  refine bodyPost_ret (v := bitsK (bitsI x0) (bitsI x1) (bitsI x2) (bitsI x3) (bitsI x4)) (by simp [results, Try.results64, go_sem]) rfl ⟨rfl, b0.trans (hB.mono (by omega))⟩

set_option maxHeartbeats 1600000 in
theorem iSameK1 {a0 a1 a2 a3 a4 b0 b1 b2 b3 b4 : Nat} {x0 x1 x2 x3 x4 y0 y1 y2 y3 y4 : Option Nat} (h0 : Is .f32 a0 x0) (h1 : Is .f32 a1 x1) (h2 : Is .f32 a2 x2) (h3 : Is .f32 a3 x3) (h4 : Is .f32 a4 x4) (g0 : Is .f32 b0 y0) (g1 : Is .f32 b1 y1) (g2 : Is .f32 b2 y2) (g3 : Is .f32 b3 y3) (g4 : Is .f32 b4 y4) (w : World) :
    Calls Try.prog 41 #[lkV a0 a1 a2 a3 a4, lkV b0 b1 b2 b3 b4] w fun e w' => e = .returned (.bool (sameK x0 x1 x2 x3 x4 y0 y1 y2 y3 y4)) ∧ Below w.heap.size w w' := by
  have heq := eqBitsK
  have ka0 : ∀ w', Below (w.heap.size + 2) (stK2 w a0 a1 a2 a3 a4 b0 b1 b2 b3 b4) w' → w'.cell? ⟨w.heap.size, 0, none⟩ = some (.float .f32 a0) := fun w' h => by rw [h.cell (by simp)]; simp [stK2]
  have ka1 : ∀ w', Below (w.heap.size + 2) (stK2 w a0 a1 a2 a3 a4 b0 b1 b2 b3 b4) w' → w'.cell? ⟨w.heap.size, 1, none⟩ = some (.float .f32 a1) := fun w' h => by rw [h.cell (by simp)]; simp [stK2]
  have ka2 : ∀ w', Below (w.heap.size + 2) (stK2 w a0 a1 a2 a3 a4 b0 b1 b2 b3 b4) w' → w'.cell? ⟨w.heap.size, 2, none⟩ = some (.float .f32 a2) := fun w' h => by rw [h.cell (by simp)]; simp [stK2]
  have ka3 : ∀ w', Below (w.heap.size + 2) (stK2 w a0 a1 a2 a3 a4 b0 b1 b2 b3 b4) w' → w'.cell? ⟨w.heap.size, 3, none⟩ = some (.float .f32 a3) := fun w' h => by rw [h.cell (by simp)]; simp [stK2]
  have ka4 : ∀ w', Below (w.heap.size + 2) (stK2 w a0 a1 a2 a3 a4 b0 b1 b2 b3 b4) w' → w'.cell? ⟨w.heap.size, 4, none⟩ = some (.float .f32 a4) := fun w' h => by rw [h.cell (by simp)]; simp [stK2]
  have kb0 : ∀ w', Below (w.heap.size + 2) (stK2 w a0 a1 a2 a3 a4 b0 b1 b2 b3 b4) w' → w'.cell? ⟨w.heap.size + 1, 0, none⟩ = some (.float .f32 b0) := fun w' h => by rw [h.cell (by simp)]; simp [stK2]
  have kb1 : ∀ w', Below (w.heap.size + 2) (stK2 w a0 a1 a2 a3 a4 b0 b1 b2 b3 b4) w' → w'.cell? ⟨w.heap.size + 1, 1, none⟩ = some (.float .f32 b1) := fun w' h => by rw [h.cell (by simp)]; simp [stK2]
  have kb2 : ∀ w', Below (w.heap.size + 2) (stK2 w a0 a1 a2 a3 a4 b0 b1 b2 b3 b4) w' → w'.cell? ⟨w.heap.size + 1, 2, none⟩ = some (.float .f32 b2) := fun w' h => by rw [h.cell (by simp)]; simp [stK2]
  have kb3 : ∀ w', Below (w.heap.size + 2) (stK2 w a0 a1 a2 a3 a4 b0 b1 b2 b3 b4) w' → w'.cell? ⟨w.heap.size + 1, 3, none⟩ = some (.float .f32 b3) := fun w' h => by rw [h.cell (by simp)]; simp [stK2]
  have kb4 : ∀ w', Below (w.heap.size + 2) (stK2 w a0 a1 a2 a3 a4 b0 b1 b2 b3 b4) w' → w'.cell? ⟨w.heap.size + 1, 4, none⟩ = some (.float .f32 b4) := fun w' h => by rw [h.cell (by simp)]; simp [stK2]
  go_enter Try.func41, Try.ntmps41
  go_wp2_with fail
  go_region_held3 (fun w' => Below (w.heap.size + 2) (stK2 w a0 a1 a2 a3 a4 b0 b1 b2 b3 b4) w') ((repeat' (first | with_reducible assumption | with_reducible exact Below.refl _ _ | with_reducible exact keepW (by with_reducible assumption) (by with_reducible assumption) (by first | exact Nat.le_refl _ | assumption | omega | (simp; done) | (simp; omega)) | with_reducible exact keepS (by with_reducible assumption) (by with_reducible assumption) (by first | exact Nat.le_refl _ | assumption | omega | (simp; done) | (simp; omega)) | (with_reducible refine Below.setCell ?_ (by first | omega | (simp; done) | (simp; omega)) _) | (with_reducible refine below_drewN ?_ _) | (with_reducible refine Below.drew ?_) | (with_reducible refine Below.trans ?_ (Below.mono (by with_reducible assumption) (by first | omega | (simp; done) | (simp; omega)))) | (with_reducible refine Below.trans ?_ (Below.mono (Grow.below (by with_reducible assumption)) (by first | omega | (simp; done) | (simp; omega)))) | (with_reducible refine Below.alloc ?_ (by first | omega | (simp; done) | (simp; omega)) _))))
    (first | (go_at_call 64; refine (bitsK_any (by assumption) (by assumption) (by assumption) (by assumption) (by assumption) _).mono ?_; rintro eq wq ⟨rfl, hb⟩))
  rename_i hHeld
  go_wp2_with fail
  go_ret
  have b0 : Below w.heap.size w (stK2 w a0 a1 a2 a3 a4 b0 b1 b2 b3 b4) := ((Below.refl _ _).alloc (Nat.le_refl _) _).alloc (by simp) _
  exact ⟨rfl, b0.trans (hHeld.mono (by omega))⟩

def sameAtK (v u : Nat → Option Nat) (k : Nat) : Bool := sameK (v (5 * k)) (v (5 * k + 1)) (v (5 * k + 2)) (v (5 * k + 3)) (v (5 * k + 4)) (u (5 * k)) (u (5 * k + 1)) (u (5 * k + 2)) (u (5 * k + 3)) (u (5 * k + 4))
def allSK (v u : Nat → Option Nat) : Nat → Bool
  | 0 => true
  | k + 1 => allSK v u k && sameAtK v u k
theorem allSK_at {v u : Nat → Option Nat} {n k : Nat} (h : allSK v u n = true) (hk : k < n) : sameAtK v u k = true := by
  induction n with
  | zero => omega
  | succ m ih =>
    simp only [allSK, Bool.and_eq_true] at h
    by_cases e : k = m
    · subst e; exact h.2
    · exact ih h.1 (by omega)
theorem allSK_false {v u : Nat → Option Nat} {n k : Nat} (h : sameAtK v u k = false) (hk : k < n) : allSK v u n = false := by
  cases hn : allSK v u n with
  | false => rfl
  | true => rw [allSK_at hn hk] at h; cases h
def sameLK (v u : Nat → Option Nat) (n m : Nat) : Bool := decide (n = m) && allSK v u n

set_option maxHeartbeats 3200000 in
theorem iEqualK (b off b' off' n m cap cap' : Nat) (f g : Nat → Nat) (v u : Nat → Option Nat) (w : World) (hn : n ≤ 1048576) (hm : m ≤ 1048576) (hb : b < w.heap.size) (hb' : b' < w.heap.size) (hr : ∀ i, i < 5 * n → w.cell? ⟨b, off + i, none⟩ = some (.float .f32 (f i))) (hr' : ∀ i, i < 5 * m → w.cell? ⟨b', off' + i, none⟩ = some (.float .f32 (g i))) (hv : ∀ i, i < 5 * n → Is .f32 (f i) (v i)) (hu : ∀ i, i < 5 * m → Is .f32 (g i) (u i)) :
    Calls Try.prog 40 #[.slice (some ⟨b, off, none⟩) n cap, .slice (some ⟨b', off', none⟩) m cap', .func (.func 41) #[] #[]] w fun e w' => e = .returned (.bool (sameLK v u n m)) ∧ Below w.heap.size w w' := by
  have hst := run_store_float Try.prog
  have HR := Lib.hid hr
  have HR' := Lib.hid hr'
  have HV := Lib.hid hv
  have HU := Lib.hid hu
  clear hr hr' hv hu
  by_cases hnm : n = m
  · subst hnm
    have hs : sameLK v u n n = allSK v u n := by simp [sameLK]
    rw [hs]
    go_enter Try.func40, Try.ntmps40
    go_wp2
    go_loopw [17] (fun i wr => ∃ k : Nat, k ≤ n ∧ i = .int .i64 k ∧ allSK v u k = true ∧ Below w.heap.size w wr) (fun i _ => n - (intOf i).toNat)
    case atStart => exact ⟨0, Nat.zero_le _, rfl, rfl, Below.refl _ _⟩
    case round =>
      obtain ⟨k, hk, rfl, hall, hbel⟩ := hrel
      by_cases hlt : k < n
      · obtain ⟨c0, c1, c2, c3, c4⟩ := cells5 HR.out hlt
        rw [← hbel.cell (by exact hb)] at c0 c1 c2 c3 c4
        obtain ⟨d0, d1, d2, d3, d4⟩ := cells5 HR'.out hlt
        rw [← hbel.cell (by exact hb')] at d0 d1 d2 d3 d4
        have hz := hbel.size
        have x1 : b < wr.heap.size := by omega
        have x2 : b' < wr.heap.size := by omega
        have x3 : b < wr.heap.size + 1 := by omega
        have x4 : b' < wr.heap.size + 1 := by omega
        have x5 : ¬ b' = wr.heap.size := by omega
        have x6 : ¬ b = wr.heap.size := by omega
        have x7 : ¬ b' = wr.heap.size + 1 := by omega
        have CC := fun (W : World) => iSameK1 (HV.out (5 * k) (by omega)) (HV.out (5 * k + 1) (by omega)) (HV.out (5 * k + 2) (by omega)) (HV.out (5 * k + 3) (by omega)) (HV.out (5 * k + 4) (by omega)) (HU.out (5 * k) (by omega)) (HU.out (5 * k + 1) (by omega)) (HU.out (5 * k + 2) (by omega)) (HU.out (5 * k + 3) (by omega)) (HU.out (5 * k + 4) (by omega)) W
        rw [show sameK (v (5 * k)) (v (5 * k + 1)) (v (5 * k + 2)) (v (5 * k + 3)) (v (5 * k + 4)) (u (5 * k)) (u (5 * k + 1)) (u (5 * k + 2)) (u (5 * k + 3)) (u (5 * k + 4)) = sameAtK v u k from rfl] at CC
        cases hok : sameAtK v u k with
        | true =>
          simp only [hok] at CC
          go_wp2_with (go_at_call 41; refine (CC _).mono ?_; rintro eq wq ⟨rfl, hq⟩)
          go_roundw
          case rel => exact ⟨k + 1, by omega, by go_num, by simp [allSK, hall, hok], by repeat' (first | with_reducible exact Below.refl _ _ | with_reducible assumption | (with_reducible refine Below.setCell ?_ (by first | omega | (simp; done) | (simp; omega)) _) | (with_reducible refine Below.alloc ?_ (by first | omega | (simp; done) | (simp; omega)) _) | (with_reducible refine below_drewN ?_ _) | (with_reducible refine Below.drew ?_) | (with_reducible refine Below.trans ?_ (Below.mono (by first | (with_reducible assumption) | exact Grow.below (by assumption)) (by first | omega | (simp; done) | (simp; omega)))))⟩
          case measure => simp [intOf]; omega
        | false =>
          have hf := allSK_false hok hlt
          simp only [hok] at CC
          go_wp2_with (go_at_call 41; refine (CC _).mono ?_; rintro eq wq ⟨rfl, hq⟩)
          go_ret
          exact ⟨by rw [hf]; rfl, by repeat' (first | with_reducible exact Below.refl _ _ | with_reducible assumption | (with_reducible refine Below.setCell ?_ (by first | omega | (simp; done) | (simp; omega)) _) | (with_reducible refine Below.alloc ?_ (by first | omega | (simp; done) | (simp; omega)) _) | (with_reducible refine below_drewN ?_ _) | (with_reducible refine Below.drew ?_) | (with_reducible refine Below.trans ?_ (Below.mono (by first | (with_reducible assumption) | exact Grow.below (by assumption)) (by first | omega | (simp; done) | (simp; omega)))))⟩
      · have hkn : Hid (k = n) := (show k = n by omega)
        go_wp2
        go_ret
        exact ⟨by rw [← hkn.out, hall]; rfl, hbel⟩
  · have hd : decide (((n : Nat) : Int) = m) = false := by simp; omega
    have hs : sameLK v u n m = false := by simp [sameLK, hnm]
    rw [hs]
    go_enter Try.func40, Try.ntmps40
    go_wp2
    go_ret
    exact ⟨rfl, Below.refl _ _⟩

theorem iSameLK (b off b' off' n m cap cap' : Nat) (f g : Nat → Nat) (v u : Nat → Option Nat) (w : World) (hn : n ≤ 1048576) (hm : m ≤ 1048576) (hb : b < w.heap.size) (hb' : b' < w.heap.size) (hr : ∀ i, i < 5 * n → w.cell? ⟨b, off + i, none⟩ = some (.float .f32 (f i))) (hr' : ∀ i, i < 5 * m → w.cell? ⟨b', off' + i, none⟩ = some (.float .f32 (g i))) (hv : ∀ i, i < 5 * n → Is .f32 (f i) (v i)) (hu : ∀ i, i < 5 * m → Is .f32 (g i) (u i)) :
    Calls Try.prog 16 #[.slice (some ⟨b, off, none⟩) n cap, .slice (some ⟨b', off', none⟩) m cap'] w fun e w' => e = .returned (.bool (sameLK v u n m)) ∧ Below w.heap.size w w' := by
  have HC := iEqualK b off b' off' n m cap cap' f g v u w hn hm hb hb' hr hr' hv hu
  clear hr hr' hv hu
  go_enter Try.func16, Try.ntmps16
  go_wp2_with (go_at_call 40; refine HC.mono ?_; rintro eq wq ⟨rfl, hb⟩)
  go_ret
  exact ⟨rfl, hb⟩
end Go.Proofs.Ythgnlpeogdockaa
