/-
  A number made whole downwards, of the library; results that are numbers. No condition.
-/
import Derived.Test.YtngjpbfiijkibaaSine
import Derived.Test.YtngjpbfiijkibaaLog
namespace Go.Proofs.Ytngjpbfiijkibaa
open Go.RowKit

def floorO (v : Option Nat) : Option Nat := v.bind fun b => match FloatKind.f64.decode b with | .nan _ _ => none | d => some (FloatKind.f64.encode (d.integral .down))

theorem extFloor (args : Array Value) (w : World) : (callFunc 57 args).run Try.prog w = ((Extern.MathFloor.toIntegral "math.archFloor" .down args).run Try.prog w).andThen fun v w' => .ok (.value v) w' :=
  run_callFunc_extern Try.func57 (by kernel_rfl) (by kernel_rfl) (by kernel_rfl) (by kernel_rfl) args w

theorem floor_num {x : Nat} {s : Bool} {m : Nat} {e : Int} (hd : FloatKind.f64.decode x = .number s m e) (w : World) :
    Calls Try.prog 35 #[.float .f64 x] w (RetF .f64 (floorO (some x)) w) := by
  obtain ⟨y, hy⟩ : ∃ y, floorO (some x) = some y := by
    unfold floorO
    simp only [Option.bind_some, hd]
    exact ⟨_, rfl⟩
  have he : y = FloatKind.f64.encode ((Ieee.Datum.number s m e).integral .down) := by
    unfold floorO at hy
    simp only [Option.bind_some, hd, Option.some.injEq] at hy
    exact hy.symm
  have hs : ∀ w : World, (callFunc 57 #[.float .f64 x]).run Try.prog w = .ok (.value (.float .f64 y)) w := fun w => by
    rw [extFloor, toIntegral_eq, hd, he]; simp
  have iy : Is .f64 y (some y) := by
    rw [he]
    refine ⟨?_, (show FloatKind.f64.format.write _ < _ from Ieee.Format.write_lt _ _)⟩
    unfold nrm
    rw [if_neg (by rw [write_notNaN .f64 _ rfl]; decide)]
  rw [hy]
  clear hy he
  go_enter Try.func35, Try.ntmps35
  go_wp2
  go_ret
  exact ⟨y, 0, rfl, iy, rfl⟩

theorem cut_down_le (s : Bool) (n d : Nat) : Ieee.Toward.down.cut s n d ≤ n / 2 ^ d + 1 := by
  unfold Ieee.Toward.cut
  simp only [Nat.one_shiftLeft, div_min]
  have : ∀ b : Bool, b.toNat ≤ 1 := fun b => by cases b <;> decide
  have := this (s && n % 2 ^ min d (n.log2 + 2) != 0)
  omega

/-- What is made whole of a small number, as an integer. -/
theorem floor_int {x : Nat} (hx : x < 2 ^ 64) {s : Bool} {m : Nat} {e : Int} (hd : FloatKind.f64.decode x = .number s m e) (hl : LeO .f64 (some x) 49) :
    ∃ f n, floorO (some x) = some f ∧ (FloatKind.f64.decode f).toInt .zero = some n ∧ n.natAbs < 2 ^ 63 := by
  obtain ⟨f1, f2, f3, f4, f5⟩ := read_facts hx hd
  obtain ⟨s', m', e', hd', hb⟩ := hl x rfl
  rw [hd] at hd'
  cases hd'
  have hcut : Ieee.Toward.down.cut s (m <<< e.toNat) (-e).toNat ≤ 2 ^ 53 + 1 := by
    refine Nat.le_trans (cut_down_le _ _ _) (Nat.add_le_add_right ?_ 1)
    by_cases h0 : m = 0
    · subst h0; simp
    · obtain ⟨a, ha, hae⟩ := hb h0
      by_cases he : 0 ≤ e
      · have h1 : (-e).toNat = 0 := by omega
        rw [h1, Nat.pow_zero, Nat.div_one, Nat.shiftLeft_eq]
        calc m * 2 ^ e.toNat ≤ 2 ^ a * 2 ^ e.toNat := Nat.mul_le_mul_right _ ha
          _ = 2 ^ (a + e.toNat) := (Nat.pow_add ..).symm
          _ ≤ 2 ^ 53 := Nat.pow_le_pow_right (by decide) (by omega)
      · have h1 : e.toNat = 0 := by omega
        rw [h1, Nat.shiftLeft_zero]
        exact Nat.le_trans (Nat.div_le_self _ _) (by omega)
  have hf : floorO (some x) = some (FloatKind.f64.encode (.number s (Ieee.Toward.down.cut s (m <<< e.toNat) (-e).toNat) 0)) := by
    unfold floorO
    simp only [Option.bind_some, hd]
    rfl
  generalize Ieee.Toward.down.cut s (m <<< e.toNat) (-e).toNat = c at hcut hf
  obtain ⟨s', m', e', hr, hle⟩ := write_le .f64 s c 0 54 (fun _ => ⟨54, by omega, by omega⟩) (by decide) (by decide)
  have hy : FloatKind.f64.encode (.number s c 0) < 2 ^ 64 := (show FloatKind.f64.format.write _ < _ from Ieee.Format.write_lt _ _)
  obtain ⟨g1, g2, g3, g4, g5⟩ := read_facts hy hr
  refine ⟨_, _, hf, int_num hr, ?_⟩
  rw [signed_natAbs, Nat.shiftLeft_zero]
  refine Nat.lt_of_le_of_lt (m := 2 ^ 54) ?_ (by decide)
  by_cases h0 : m' = 0
  · subst h0; simp
  · obtain ⟨a, ha, hae⟩ := hle h0
    by_cases he : 0 ≤ e'
    · have h1 : (-e').toNat = 0 := by omega
      rw [h1, Nat.pow_zero, Nat.div_one, Nat.shiftLeft_eq]
      calc m' * 2 ^ e'.toNat ≤ 2 ^ a * 2 ^ e'.toNat := Nat.mul_le_mul_right _ ha
        _ = 2 ^ (a + e'.toNat) := (Nat.pow_add ..).symm
        _ ≤ 2 ^ 54 := Nat.pow_le_pow_right (by decide) (by omega)
    · have h1 : e'.toNat = 0 := by omega
      rw [h1, Nat.shiftLeft_zero]
      exact Nat.le_trans (Nat.div_le_self _ _) (by omega)

/-! ### Results that are numbers -/
def SmO (k : FloatKind) (v : Option Nat) (t : Int) : Prop := (∃ b, v = some b) ∧ LeO k v t
theorem SmO.mono {k : FloatKind} {v : Option Nat} {t u : Int} (h : SmO k v t) (hu : t ≤ u) : SmO k v u := ⟨h.1, h.2.mono hu⟩
theorem sm_mul {k : FloatKind} {a b : Option Nat} {ta tb : Int} (ha : SmO k a ta) (hb : SmO k b tb) (h1 : tLeast k ≤ ta + tb) (h2 : ta + tb ≤ tMost k) : SmO k (fo .mul k a b) (ta + tb) := by
  refine ⟨?_, le_mul ha.2 hb.2 h1 h2⟩
  obtain ⟨⟨x, rfl⟩, la⟩ := ha
  obtain ⟨⟨y, rfl⟩, lb⟩ := hb
  obtain ⟨s, m, i, hx, -⟩ := la x rfl
  obtain ⟨t, n, j, hy, -⟩ := lb y rfl
  unfold FloatKind.decode at hx hy
  simp [fo, floatBits, Ieee.Format.mul, hx, hy, Ieee.Datum.product]
theorem sm_add {k : FloatKind} {a b : Option Nat} {u : Int} (ha : SmO k a u) (hb : SmO k b u) (h1 : tLeast k ≤ u + 1) (h2 : u + 1 ≤ tMost k) : SmO k (fo .add k a b) (u + 1) := by
  refine ⟨?_, le_add ha.2 hb.2 h1 h2⟩
  obtain ⟨⟨x, rfl⟩, la⟩ := ha
  obtain ⟨⟨y, rfl⟩, lb⟩ := hb
  obtain ⟨s, m, i, hx, -⟩ := la x rfl
  obtain ⟨t, n, j, hy, -⟩ := lb y rfl
  unfold FloatKind.decode at hx hy
  simp [fo, floatBits, Ieee.Format.add, hx, hy, Ieee.Datum.sum]
theorem some_sub {k : FloatKind} {a b : Option Nat} {u v : Int} (ha : SmO k a u) (hb : SmO k b v) : ∃ c, fo .sub k a b = some c := by
  obtain ⟨⟨x, rfl⟩, la⟩ := ha
  obtain ⟨⟨y, rfl⟩, lb⟩ := hb
  obtain ⟨s, m, i, hx, -⟩ := la x rfl
  obtain ⟨t, n, j, hy, -⟩ := lb y rfl
  unfold FloatKind.decode at hx hy
  simp [fo, floatBits, Ieee.Format.sub, hx, hy, Ieee.Datum.opposite, Ieee.Datum.sum]
theorem sm_div {k : FloatKind} {a b : Option Nat} {ta tb : Int} (ha : SmO k a ta) (hb : GeO k b tb) (eb : ∃ c, b = some c) (h1 : tLeast k ≤ ta - tb) (h2 : ta - tb ≤ tMost k) : SmO k (fo .quo k a b) (ta - tb) := by
  refine ⟨?_, le_div ha.2 hb h1 h2⟩
  obtain ⟨⟨x, rfl⟩, la⟩ := ha
  obtain ⟨y, rfl⟩ := eb
  obtain ⟨s, m, i, hx, -⟩ := la x rfl
  unfold FloatKind.decode at hx
  rcases hb y rfl with ⟨t, hy⟩ | ⟨t, n, j, hy, hn0, -⟩
  · unfold FloatKind.decode at hy
    simp [fo, floatBits, Ieee.Format.div, hx, hy, Ieee.Datum.quotient]
  · unfold FloatKind.decode at hy
    simp [fo, floatBits, Ieee.Format.div, hx, hy, Ieee.Datum.quotient, hn0]
theorem sm_lit {k : FloatKind} {b : Nat} {t : Int} (h : leB k b t = true) : SmO k (some b) t := ⟨⟨b, rfl⟩, le_lit h⟩

theorem sm_serL {u : Option Nat} (h : SmO .f64 u 2) : ∀ j, j ≤ 13 → SmO .f64 (serL u j) (3 * (j : Int))
  | 0, _ => sm_lit (by kernel_rfl)
  | j + 1, hj => by
    have h1 := sm_mul h (sm_serL h j (by omega)) (by simp [tLeast]; omega) (by simp [tMost]; omega)
    have h2 : SmO .f64 (fo .quo .f64 (some 4607182418800017408) (ifO (25 - 2 * (j : Int)))) 0 := sm_div (ta := 0) (tb := 0) (sm_lit (by kernel_rfl)) (ge_if (by omega)) ⟨_, rfl⟩ (by decide) (by decide)
    exact (sm_add (h2.mono (show (0 : Int) ≤ 2 + 3 * (j : Int) by omega)) h1 (by simp [tLeast]; omega) (by simp [tMost]; omega)).mono (by omega)

theorem sm_logN {v : Option Nat} {m : Nat} {e h : Int} (hv : Nrm v m e) (he : e ≤ -52) (hh : h.natAbs ≤ 2 ^ 12) : SmO .f64 (logN v h) 42 := by
  obtain ⟨b, rfl, hb, hd, hm⟩ := hv
  obtain ⟨f1, f2, f3, f4, f5⟩ := read_facts hb hd
  have l1 : SmO .f64 (some b) 1 := ⟨⟨b, rfl⟩, fun c hc => by cases hc; exact ⟨false, m, e, hd, fun _ => ⟨53, by omega, by omega⟩⟩⟩
  have o1 : SmO .f64 (some 4607182418800017408) 1 := sm_lit (by kernel_rfl)
  have n1 : NnO .f64 (some b) := fun c hc => by cases hc; exact .inr ⟨false, m, e, hd, .inl rfl⟩
  have h1 : SmO .f64 (fo .sub .f64 (some b) (some 4607182418800017408)) 1 := ⟨some_sub l1 o1, le_subn l1.2 o1.2 n1 (nn_lit (by kernel_rfl)) (by decide) (by decide)⟩
  have h2 : GeO .f64 (fo .add .f64 (some b) (some 4607182418800017408)) 0 := by
    rw [fo_add_comm]
    exact ge_add (nn_lit (by kernel_rfl)) n1 (ge_lit (by kernel_rfl)) (by decide) (by decide)
  have hs := sm_div h1 h2 (sm_add l1 o1 (by decide) (by decide)).1 (by decide) (by decide)
  have hu := sm_mul hs hs (by decide) (by decide)
  have hq := sm_serL (hu.mono (by decide)) 13 (Nat.le_refl _)
  have h3 := sm_mul hs hq (by decide) (by decide)
  have h4 := sm_mul (ta := 1) (sm_lit (b := 4611686018427387904) (by kernel_rfl)) h3 (by decide) (by decide)
  have h5 := sm_mul (tb := 0) ⟨⟨_, rfl⟩, le_if hh (by decide)⟩ (sm_lit (b := 4604418534313441775) (by kernel_rfl)) (by decide) (by decide)
  exact (sm_add (u := 41) (h4.mono (by decide)) (h5.mono (by decide)) (by decide) (by decide)).mono (by decide)
end Go.Proofs.Ytngjpbfiijkibaa
