/-
  The angle of a point that is not behind is from a quarter turn down to a quarter turn up. No condition.
-/
import Derived.Test.YtngjpbfiijkibaaAngT
import Derived.Test.YtngjpbfiijkibaaUni
import Derived.Test.YtngjpbfiijkibaaRooS
namespace Go.Proofs.Ytngjpbfiijkibaa
open Go.RowKit

theorem root_mono (n : Nat) : ∀ todo root, root ≤ Ieee.Datum.rootFrom n todo root
  | 0, root => Nat.le_refl _
  | todo + 1, root => by
    unfold Ieee.Datum.rootFrom
    simp only [Nat.one_shiftLeft]
    refine Nat.le_trans ?_ (root_mono n todo _)
    split
    · exact Nat.le_add_right _ _
    · exact Nat.le_refl _
theorem root_low {n k : Nat} (h : 2 ^ k * 2 ^ k ≤ n) : ∀ todo, k < todo → 2 ^ k ≤ Ieee.Datum.rootFrom n todo 0
  | todo + 1, hk => by
    unfold Ieee.Datum.rootFrom
    simp only [Nat.zero_add, Nat.one_shiftLeft]
    by_cases hc : 2 ^ todo * 2 ^ todo ≤ n
    · rw [if_pos hc]
      exact Nat.le_trans (Nat.pow_le_pow_right (by decide) (by omega)) (root_mono n todo _)
    · rw [if_neg hc]
      by_cases he : k = todo
      · subst he; exact absurd h hc
      · exact root_low h todo (by omega)

/-- The root of what is at least 1 is at least 1. -/
theorem ge_sqrt {v : Option Nat} (h : GeO .f64 v 0) : GeO .f64 (sqO .f64 v) 0 := by
  intro r hr
  cases v with
  | none => cases hr
  | some x =>
    have hf : FloatKind.f64.format.sqrt x = some r := hr
    unfold Ieee.Format.sqrt at hf
    rcases h x rfl with ⟨s, hd⟩ | ⟨s, m, i, hd, hm, hl⟩ <;> unfold FloatKind.decode at hd <;> rw [hd] at hf
    · cases s with
      | true => cases hf
      | false =>
        have he : FloatKind.f64.format.write (.infinity false) = r := Option.some.inj hf
        rw [← he]
        exact .inl ⟨false, inf_write .f64 false⟩
    · unfold Ieee.Datum.root at hf
      simp only [if_neg hm] at hf
      cases s with
      | true => cases hf
      | false =>
        simp only [Bool.false_eq_true, if_false, Option.map_some, Option.some.injEq] at hf
        subst hf
        generalize hmo : 2 * (FloatKind.f64.format.fractionBits + 2) - m.log2 = more0
        generalize hpa : ((i - (more0 : Int)) % 2).toNat = par
        have hpar : (par : Int) = (i - (more0 : Int)) % 2 := by omega
        obtain ⟨L, hL⟩ : ∃ L, L = m.log2 + (more0 + par) := ⟨_, rfl⟩
        have hn : 2 ^ L ≤ m <<< (more0 + par) := by
          rw [hL, Nat.pow_add, Nat.shiftLeft_eq]
          exact Nat.mul_le_mul_right _ (Nat.log2_self_le hm)
        have hn0 : m <<< (more0 + par) ≠ 0 := by have := Nat.two_pow_pos L; omega
        generalize m <<< (more0 + par) = n at hn hn0 ⊢
        have hk : 2 ^ (L / 2) ≤ Ieee.Datum.rootFrom n (n.log2 / 2 + 1) 0 := by
          refine root_low ?_ _ ?_
          · rw [← Nat.pow_add]
            exact Nat.le_trans (Nat.pow_le_pow_right (by decide) (by omega)) hn
          · have := (Nat.le_log2 hn0).2 hn
            omega
        generalize Ieee.Datum.rootFrom n (n.log2 / 2 + 1) 0 = whole at hk ⊢
        have hmag : 2 ^ (L / 2 + 1) ≤ 2 * whole + (whole * whole != n).toNat := by rw [Nat.pow_succ]; omega
        have hne : 2 * whole + (whole * whole != n).toNat ≠ 0 := by have := Nat.two_pow_pos (L / 2 + 1); omega
        refine write_ge .f64 false _ _ 0 hne ?_ (by decide) (by decide)
        have h1 := (Nat.le_log2 hne).2 hmag
        have h2 : ((more0 + par : Nat) : Int) = (more0 : Int) + par := by omega
        omega

/-- The sum of two numbers of at least a power of two is at least twice that. -/
theorem ge_add2 {k : FloatKind} {a b : Option Nat} {t : Int} (ha : NnO k a) (hb : NnO k b) (hg : GeO k a t) (hh : GeO k b t) (h1 : tLeast k ≤ t + 1) (h2 : t + 1 ≤ tMost k) : GeO k (fo .add k a b) (t + 1) := by
  intro r hr
  obtain ⟨x, y, rfl, rfl, hf⟩ := fo_some hr
  unfold floatBits Ieee.Format.add at hf
  have hi := inf_write k false
  unfold FloatKind.encode at hi
  rcases ha x rfl with hx | ⟨s, m, i, hx, hm⟩ <;> rcases hb y rfl with hy | ⟨u, n, j, hy, hn⟩ <;> unfold FloatKind.decode at hx hy
  · simp only [hx, hy, Ieee.Datum.sum, if_true, Option.map_some, Option.some.injEq] at hf
    subst hf; exact .inl ⟨_, hi⟩
  · simp only [hx, hy, Ieee.Datum.sum, Option.map_some, Option.some.injEq] at hf
    subst hf; exact .inl ⟨_, hi⟩
  · simp only [hx, hy, Ieee.Datum.sum, Option.map_some, Option.some.injEq] at hf
    subst hf; exact .inl ⟨_, hi⟩
  · rcases hg x rfl with ⟨s', hx'⟩ | ⟨s', m', i', hx', hm0, hlog⟩
    · unfold FloatKind.decode at hx'; rw [hx] at hx'; cases hx'
    rcases hh y rfl with ⟨s'', hy'⟩ | ⟨s'', n', j', hy', hn0, hlog2⟩
    · unfold FloatKind.decode at hy'; rw [hy] at hy'; cases hy'
    unfold FloatKind.decode at hx' hy'
    rw [hx] at hx'
    cases hx'
    rw [hy] at hy'
    cases hy'
    simp only [hx, hy, Ieee.Datum.sum, Option.map_some, Option.some.injEq] at hf
    subst hf
    rw [signed_nn hm, signed_nn hn]
    have hn0' : ((m <<< (i - min i j).toNat : Nat) : Int) + ((n <<< (j - min i j).toNat : Nat) : Int) = ((m <<< (i - min i j).toNat + n <<< (j - min i j).toNat : Nat) : Int) := by omega
    rw [hn0', Int.natAbs_natCast]
    obtain ⟨T, hT⟩ : ∃ T : Nat, T = (t - min i j).toNat := ⟨_, rfl⟩
    have hX : 2 ^ T ≤ m <<< (i - min i j).toNat := by
      rw [Nat.shiftLeft_eq]
      calc 2 ^ T ≤ 2 ^ (m.log2 + (i - min i j).toNat) := Nat.pow_le_pow_right (by decide) (by omega)
        _ = 2 ^ m.log2 * 2 ^ (i - min i j).toNat := Nat.pow_add ..
        _ ≤ m * 2 ^ (i - min i j).toNat := Nat.mul_le_mul_right _ (Nat.log2_self_le hm0)
    have hY : 2 ^ T ≤ n <<< (j - min i j).toNat := by
      rw [Nat.shiftLeft_eq]
      calc 2 ^ T ≤ 2 ^ (n.log2 + (j - min i j).toNat) := Nat.pow_le_pow_right (by decide) (by omega)
        _ = 2 ^ n.log2 * 2 ^ (j - min i j).toNat := Nat.pow_add ..
        _ ≤ n * 2 ^ (j - min i j).toNat := Nat.mul_le_mul_right _ (Nat.log2_self_le hn0)
    generalize m <<< (i - min i j).toNat = X at *
    generalize n <<< (j - min i j).toNat = Y at *
    have hXY : 2 ^ (T + 1) ≤ X + Y := by rw [Nat.pow_succ]; omega
    have hne : X + Y ≠ 0 := by have := Nat.two_pow_pos (T + 1); omega
    refine write_ge k _ _ _ _ hne ?_ h1 h2
    have := (Nat.le_log2 hne).2 hXY
    omega

theorem quot_up {D n X : Nat} (hn : n ≠ 0) (hle : D ≤ X * n) : 2 * (D / n) + (D % n != 0).toNat ≤ 2 * X := by
  have h2 := Nat.div_add_mod D n
  have hbit : (D % n != 0).toNat ≤ 1 := Bool.toNat_le _
  have hq : D / n ≤ X := by
    rw [← Nat.lt_succ_iff, Nat.div_lt_iff_lt_mul (Nat.pos_of_ne_zero hn), Nat.succ_mul]
    have := Nat.pos_of_ne_zero hn
    omega
  by_cases he : D / n = X
  · have h3 : D % n = 0 := by
      rw [he] at h2
      have : n * X = X * n := Nat.mul_comm _ _
      omega
    rw [h3, he]
    simp
  · omega

/-- A number that is not greater than another one, divided by it: at most 1. -/
theorem sg_ratio {a b : Nat} {m n : Nat} {i j : Int} (ha : FloatKind.f64.decode a = .number false m i) (hb : FloatKind.f64.decode b = .number false n j) (hn : n ≠ 0)
    (hle : m <<< (i - min i j).toNat ≤ n <<< (j - min i j).toNat) : SgO .f64 false (fo .quo .f64 (some a) (some b)) 0 := by
  intro r hr
  have hf : FloatKind.f64.format.div a b = some r := hr
  unfold Ieee.Format.div at hf
  unfold FloatKind.decode at ha hb
  rw [ha, hb] at hf
  simp only [Ieee.Datum.quotient, if_neg hn, Option.map_some, Option.some.injEq] at hf
  subst hf
  generalize hmore : FloatKind.f64.format.fractionBits + 2 + n.log2 - m.log2 = more
  refine sg_write .f64 false _ _ _ 0 (.inl rfl) (fun h0 => ?_) (by decide) (by decide)
  have hfb : FloatKind.f64.format.fractionBits = 52 := rfl
  by_cases hm : m = 0
  · exfalso; apply h0; subst hm; simp
  rw [Nat.shiftLeft_eq, Nat.shiftLeft_eq] at hle
  have h1 : 2 ^ (m.log2 + (i - min i j).toNat) < 2 ^ (n.log2 + 1 + (j - min i j).toNat) := by
    rw [Nat.pow_add, Nat.pow_add]
    calc 2 ^ m.log2 * 2 ^ (i - min i j).toNat ≤ m * 2 ^ (i - min i j).toNat := Nat.mul_le_mul_right _ (Nat.log2_self_le hm)
      _ ≤ n * 2 ^ (j - min i j).toNat := hle
      _ < 2 ^ (n.log2 + 1) * 2 ^ (j - min i j).toNat := Nat.mul_lt_mul_of_pos_right (lt_pow_log2 n) (Nat.two_pow_pos _)
  have h2 := (Nat.pow_lt_pow_iff_right (a := 2) (by decide)).1 h1
  obtain ⟨e, he⟩ : ∃ e : Nat, (e : Int) = more + j - i := ⟨(more + j - i).toNat, by omega⟩
  refine ⟨e + 1, ?_, by omega⟩
  rw [Nat.pow_succ, Nat.mul_comm (2 ^ e)]
  refine quot_up hn ?_
  rw [Nat.shiftLeft_eq]
  have h3 : m * 2 ^ more * 2 ^ (i - min i j).toNat ≤ 2 ^ e * n * 2 ^ (i - min i j).toNat := by
    calc m * 2 ^ more * 2 ^ (i - min i j).toNat = m * 2 ^ (i - min i j).toNat * 2 ^ more := by rw [Nat.mul_right_comm]
      _ ≤ n * 2 ^ (j - min i j).toNat * 2 ^ more := Nat.mul_le_mul_right _ hle
      _ = n * 2 ^ ((j - min i j).toNat + more) := by rw [Nat.mul_assoc, ← Nat.pow_add]
      _ = n * 2 ^ (e + (i - min i j).toNat) := by congr 2; omega
      _ = 2 ^ e * n * 2 ^ (i - min i j).toNat := by rw [Nat.pow_add, ← Nat.mul_assoc, Nat.mul_comm n]
  exact Nat.le_of_mul_le_mul_right h3 (Nat.two_pow_pos _)

theorem sg_half {t : Option Nat} {u : Int} (h : SgO .f64 false t u) (h1 : -100 ≤ u) (h2 : u ≤ 100) : SgO .f64 false (halfO t) (u - 1) := by
  have g1 : GeO .f64 (fo .add .f64 (some 4607182418800017408) (fo .mul .f64 t t)) 0 := ge_add (nn_lit (by kernel_rfl)) nn_sq (ge_lit (by kernel_rfl)) (by decide) (by decide)
  have g2 : GeO .f64 (fo .add .f64 (some 4607182418800017408) (sqO .f64 (fo .add .f64 (some 4607182418800017408) (fo .mul .f64 t t)))) (0 + 1) := ge_add2 (nn_lit (by kernel_rfl)) nn_sqrt (ge_lit (by kernel_rfl)) (ge_sqrt g1) (by decide) (by decide)
  exact sg_div h g2 (nn_add (nn_lit (by kernel_rfl)) nn_sqrt) (by simp [tLeast]; omega) (by simp [tMost]; omega)

theorem sg_halfN {t : Option Nat} (h : SgO .f64 false t 0) : ∀ j : Nat, j ≤ 3 → SgO .f64 false (halfN t j) (-(j : Int))
  | 0, _ => h
  | j + 1, hj => (sg_half (sg_halfN h j (by omega)) (by omega) (by omega)).mono (by omega)

def invB (j : Nat) : Bool := match fo .quo .f64 (some 4607182418800017408) (ifO (15 - 2 * (j : Int))) with
  | some b => geB .f64 b (-4) && (leB .f64 b 0 && nnB .f64 b)
  | none => true
theorem inv_ok : ∀ j, j < 8 → invB j = true := by decide +kernel
theorem inv_sg {j : Nat} (h : j < 8) : SgO .f64 false (fo .quo .f64 (some 4607182418800017408) (ifO (15 - 2 * (j : Int)))) 0 ∧ GeO .f64 (fo .quo .f64 (some 4607182418800017408) (ifO (15 - 2 * (j : Int)))) (-4) := by
  have hk := inv_ok j h
  unfold invB at hk
  cases hq : fo .quo .f64 (some 4607182418800017408) (ifO (15 - 2 * (j : Int))) with
  | none => exact ⟨SgO.none, GeO.none⟩
  | some b =>
    rw [hq] at hk
    simp only [Bool.and_eq_true] at hk
    exact ⟨sg_of (le_lit hk.2.1) (nn_lit hk.2.2), ge_lit hk.1⟩

theorem sg_serA {u : Option Nat} (h : SgO .f64 false u (-6)) : ∀ j, j ≤ 8 → SgO .f64 false (serA u j) 0
  | 0, _ => sg_of (le_lit (by kernel_rfl)) (nn_lit (by kernel_rfl))
  | j + 1, hj => by
    have h1 : SgO .f64 false (fo .mul .f64 u (serA u j)) (-6 + 0) := sg_mul h (sg_serA h j (by omega)) (by decide) (by decide)
    obtain ⟨h2, h3⟩ := inv_sg (j := j) (by omega)
    exact sg_sub (u := -4) h2 h3 (h1.mono (by decide)) (by decide) (by decide) (by decide)

/-- A slope from 0 to 1: at most a quarter turn. -/
theorem sg_slope {t : Option Nat} (h : SgO .f64 false t 0) : SgO .f64 false (slopeO t) (-2) := by
  have h3 : SgO .f64 false (halfN t 3) (-3) := sg_halfN h 3 (Nat.le_refl _)
  have hu : SgO .f64 false (fo .mul .f64 (halfN t 3) (halfN t 3)) (-3 + -3) := sg_mul h3 h3 (by decide) (by decide)
  have hp := sg_serA (hu.mono (by decide)) 8 (Nat.le_refl _)
  have h4 : SgO .f64 false (fo .mul .f64 (halfN t 3) (serA (fo .mul .f64 (halfN t 3) (halfN t 3)) 8)) (-3 + 0) := sg_mul h3 hp (by decide) (by decide)
  have h8 : SgO .f64 false (some 4620693217682128896) 3 := sg_of (le_lit (by kernel_rfl)) (nn_lit (by kernel_rfl))
  have h5 : SgO .f64 false (fo .mul .f64 (some 4620693217682128896) (fo .mul .f64 (halfN t 3) (serA (fo .mul .f64 (halfN t 3) (halfN t 3)) 8))) (3 + (-3 + 0)) := sg_mul h8 h4 (by decide) (by decide)
  exact (sg_div (tb := 2) h5 (ge_lit (by kernel_rfl)) (nn_lit (by kernel_rfl)) (by decide) (by decide)).mono (by decide)

theorem nn_cv {s k : FloatKind} (hne : s ≠ k) {v : Option Nat} (h : NnO s v) : NnO k (cv s k v) := by
  intro r hr
  cases v with
  | none => cases hr
  | some x =>
    have hr' : floatToFloatBits s x k = some r := hr
    unfold floatToFloatBits at hr'
    rw [if_neg hne] at hr'
    rcases h x rfl with hd | ⟨t, m, e, hd, hm⟩ <;> rw [hd] at hr' <;> simp only at hr'
    · cases hr'
      exact .inl (inf_write k false)
    · split at hr'
      · cases hr'
      · cases hr'
        exact nn_write k t m e hm

theorem le_cv {v : Option Nat} {t : Int} (h : LeO .f64 v t) (h1 : tLeast .f32 ≤ t) (h2 : t ≤ tMost .f32) : LeO .f32 (cv .f64 .f32 v) t := by
  cases v with
  | none => exact LeO.none
  | some x =>
    obtain ⟨s, m, e, hd, hm⟩ := h x rfl
    exact (sg_cv (neg := s) (fun b hb => by cases hb; exact ⟨s, m, e, hd, .inl rfl, hm⟩) h1 h2).le

theorem quarter_up : FloatKind.f32.decode 1048576000 = .number false (2 ^ 23) (-25) := by rfl
theorem quarter_down : FloatKind.f32.decode 3196059648 = .number true (2 ^ 23) (-25) := by rfl

theorem le_quarter {v : Option Nat} (h : LeO .f32 v (-2)) : cmpB .gtr .f32 v (some 1048576000) = false ∧ cmpB .lss .f32 v (some 3196059648) = false := by
  cases v with
  | none => exact ⟨rfl, rfl⟩
  | some x =>
    obtain ⟨s, m, e, hd, hm⟩ := h x rfl
    have a1 := shift_le (base := min e (-25)) (t := -2) (by omega) hm
    have hq : 2 ^ 23 <<< ((-25) - min e (-25)).toNat = 2 ^ (-2 - min e (-25)).toNat := by
      rw [Nat.shiftLeft_eq, ← Nat.pow_add]; congr 1; omega
    have hs := signed_natAbs s m (e - min e (-25)).toNat
    have o1 := order_num hd quarter_up
    have o2 := order_num hd quarter_down
    rw [signed_nn (.inl rfl), hq] at o1
    rw [signed_np (.inl rfl), hq] at o2
    generalize Ieee.signed s m (e - min e (-25)).toNat = X at *
    generalize m <<< (e - min e (-25)).toNat = M at *
    generalize 2 ^ (-2 - min e (-25)).toNat = Q at *
    unfold cmpB
    rw [ord_some o1, ord_some o2]
    constructor
    · cases hc : compare X ((Q : Nat) : Int) with
      | gt => rw [Int.compare_eq_gt] at hc; omega
      | lt => rfl
      | eq => rfl
    · cases hc : compare X (-((Q : Nat) : Int)) with
      | lt => rw [Int.compare_eq_lt] at hc; omega
      | gt => rfl
      | eq => rfl

theorem zero_dec : FloatKind.f64.decode 0 = .number false 0 (-1074) := by rfl
theorem nn_lss {y : Nat} {s : Bool} {m : Nat} {e : Int} (h : FloatKind.f64.decode y = .number s m e) (hs : s = false ∨ m = 0) : cmpB .lss .f64 (some y) (some 0) = false := by
  have o := order_num h zero_dec
  rw [signed_nn hs, signed_nn (.inl rfl), Nat.zero_shiftLeft] at o
  generalize m <<< (e - min e (-1074)).toNat = X at o
  unfold cmpB
  rw [ord_some o]
  cases hc : compare ((X : Nat) : Int) ((0 : Nat) : Int) with
  | lt => rw [Int.compare_eq_lt] at hc; omega
  | gt => rfl
  | eq => rfl

theorem ang_front {y x : Option Nat} (hy : finW y = true → ∃ b s m e, y = some b ∧ FloatKind.f64.decode b = .number s m e) (hx : finW x = true → ∃ b s m e, x = some b ∧ FloatKind.f64.decode b = .number s m e) (hn : NnO .f64 x) : LeO .f64 (angO y x) (-2) := by
  unfold angO
  by_cases hf : (finW y && finW x) = true
  · rw [if_pos hf]
    simp only [Bool.and_eq_true] at hf
    obtain ⟨b, s, m, e, rfl, hd⟩ := hy hf.1
    obtain ⟨c, t, n, j, rfl, hc⟩ := hx hf.2
    by_cases hz : (cmpB .eql .f64 (some b) (some 0) && cmpB .eql .f64 (some c) (some 0)) = true
    · rw [if_pos hz]; exact le_lit (by kernel_rfl)
    · rw [if_neg hz]
      have dy := abs_num hd
      have dx := abs_num hc
      have ho := order_num dy dx
      rw [signed_nn (.inl rfl), signed_nn (.inl rfl)] at ho
      have key : ∀ over : Bool, over = cmpB .gtr .f64 (absO (some b)) (absO (some c)) → SgO .f64 false (slopeO (if over then fo .quo .f64 (absO (some c)) (absO (some b)) else fo .quo .f64 (absO (some b)) (absO (some c)))) (-2) := fun over hov => by
        rcases ratio_cases hd hc (by simpa using hz) with ⟨h1, h2, -⟩ | ⟨h1, h2, -⟩
        · rw [hov, h1, if_pos rfl]
          rw [ho, Option.some.injEq, Int.compare_eq_gt] at h2
          refine sg_slope (sg_ratio dx dy (fun h0 => ?_) ?_)
          · subst h0; rw [Nat.zero_shiftLeft] at h2; generalize n <<< (j - min e j).toNat = X at h2; omega
          · rw [Int.min_comm]; omega
        · rw [hov, h1, if_neg (by decide)]
          have hle : m <<< (e - min e j).toNat ≤ n <<< (j - min e j).toNat := by
            rcases h2 with h2 | ⟨h2, -⟩
            · rw [ho, Option.some.injEq, Int.compare_eq_lt] at h2; omega
            · rw [ho, Option.some.injEq, Int.compare_eq_eq] at h2; omega
          refine sg_slope (sg_ratio dy dx (fun h0 => ?_) hle)
          subst h0
          rw [Nat.zero_shiftLeft, Nat.shiftLeft_eq] at hle
          have hm : m = 0 := by
            rcases Nat.eq_zero_or_pos m with h | h
            · exact h
            · have := Nat.mul_pos h (Nat.two_pow_pos (e - min e j).toNat); omega
          rw [eql_zero hd, eql_zero hc, hm] at hz
          simp at hz
      have k1 := key _ rfl
      have hx0 : cmpB .lss .f64 (some c) (some 0) = false := by
        rcases hn c rfl with h | ⟨s', m', e', h, h'⟩ <;> rw [hc] at h <;> cases h
        exact nn_lss hc h'
      dsimp only
      simp only [hx0, Bool.false_eq_true, if_false]
      have b1 : ∀ r, slopeO (if cmpB .gtr .f64 (absO (some b)) (absO (some c)) then fo .quo .f64 (absO (some c)) (absO (some b)) else fo .quo .f64 (absO (some b)) (absO (some c))) = some r → r < 2 ^ FloatKind.f64.format.width := fun r h => fo_lt h
      generalize slopeO _ = g at k1 b1 ⊢
      have k2 : SgO .f64 false (if cmpB .gtr .f64 (absO (some b)) (absO (some c)) then fo .sub .f64 (some 4598175219545276416) g else g) (-2) := by
        split
        · exact sg_sub (u := -2) (sg_of (le_lit (by kernel_rfl)) (nn_lit (by kernel_rfl))) (ge_lit (by kernel_rfl)) k1 (by decide) (by decide) (by decide)
        · exact k1
      have b2 : ∀ r, (if cmpB .gtr .f64 (absO (some b)) (absO (some c)) then fo .sub .f64 (some 4598175219545276416) g else g) = some r → r < 2 ^ FloatKind.f64.format.width := fun r h => by
        split at h
        · exact fo_lt h
        · exact b1 r h
      split
      · exact le_neg b2 k2.le
      · exact k2.le
  · rw [if_neg hf]; exact LeO.none

/-- The angle of a point of 32-bit numbers that is not behind. -/
theorem angT_front {y x : Nat} {vy vx : Option Nat} (iy : Is .f32 y vy) (ix : Is .f32 x vx) (hn : NnO .f32 vx) : cmpB .gtr .f32 (angT vy vx) (some 1048576000) = false ∧ cmpB .lss .f32 (angT vy vx) (some 3196059648) = false := by
  have ny : finW (cv .f32 .f64 vy) = true → ∃ b s m e, cv .f32 .f64 vy = some b ∧ FloatKind.f64.decode b = .number s m e := fun h => by
    obtain ⟨b, s, m, e, h1, _, h2⟩ := fin_num iy h; exact ⟨b, s, m, e, h1, h2⟩
  have nx : finW (cv .f32 .f64 vx) = true → ∃ b s m e, cv .f32 .f64 vx = some b ∧ FloatKind.f64.decode b = .number s m e := fun h => by
    obtain ⟨b, s, m, e, h1, _, h2⟩ := fin_num ix h; exact ⟨b, s, m, e, h1, h2⟩
  exact le_quarter (le_cv (ang_front ny nx (nn_cv (by decide) hn)) (by decide) (by decide))

theorem nn_rootO {v : Option Nat} : NnO .f32 (rootO v) := nn_cv (by decide) nn_sqrt
end Go.Proofs.Ytngjpbfiijkibaa
