/-
  How great the results of floating-point arithmetic are: powers of two above sums, products and quotients of numbers that lie below powers of two; and that a small number fits the narrower kind. No condition.
-/
import Derived.Test.YtjljdnkedbejaaaNum
namespace Go.Proofs.Ytjljdnkedbejaaa

/-- Whatever number 'v' is, it is finite and below 2 ^ t. -/
def LowO (k : FloatKind) (v : Option Nat) (t : Int) : Prop := ∀ b, v = some b → Low (k.decode b) t

theorem LowO.mono {k : FloatKind} {v : Option Nat} {t u : Int} (h : LowO k v t) (hu : t ≤ u) : LowO k v u := fun b hb => (h b hb).mono hu
theorem LowO.none {k : FloatKind} {t : Int} : LowO k none t := fun _ h => by cases h

/-- Whatever number 'v' is, it is finite and at least 2 ^ t, whatever its sign. -/
def HighO (k : FloatKind) (v : Option Nat) (t : Int) : Prop := ∀ b, v = some b → ∃ s m e, k.decode b = .number s m e ∧ m ≠ 0 ∧ t ≤ (m.log2 : Int) + e

theorem fo_some {op : BinOp} {k : FloatKind} {a b : Option Nat} {r : Nat} (h : fo op k a b = some r) : ∃ x y, a = some x ∧ b = some y ∧ floatBits op k x y = some r := by
  unfold fo at h
  cases a with
  | none => cases h
  | some x =>
    cases b with
    | none => cases h
    | some y => exact ⟨x, y, rfl, rfl, h⟩

theorem low_mul {k : FloatKind} {a b : Option Nat} {ta tb : Int} (ha : LowO k a ta) (hb : LowO k b tb) (h1 : tLeast k ≤ ta + tb) (h2 : ta + tb ≤ tMost k) : LowO k (fo .mul k a b) (ta + tb + 1) := by
  intro r hr
  obtain ⟨x, y, rfl, rfl, hf⟩ := fo_some hr
  obtain ⟨s, m, i, hx, hm⟩ := ha x rfl
  obtain ⟨t, n, j, hy, hn⟩ := hb y rfl
  unfold floatBits Ieee.Format.mul at hf
  unfold FloatKind.decode at hx hy
  simp only [hx, hy, Ieee.Datum.product, Option.map_some, Option.some.injEq] at hf
  subst hf
  refine write_low k _ _ _ _ (fun h0 => ?_) h1 h2
  have hm0 : m ≠ 0 := fun h => h0 (by rw [h, Nat.zero_mul])
  have hn0 : n ≠ 0 := fun h => h0 (by rw [h, Nat.mul_zero])
  have := hm hm0
  have := hn hn0
  have hmn : m * n < 2 ^ (m.log2 + 1 + (n.log2 + 1)) := by
    rw [Nat.pow_add]; exact Nat.mul_lt_mul'' (lt_pow_log2 m) (lt_pow_log2 n)
  have := log2_lt_pow hmn h0
  omega

theorem signed_natAbs (s : Bool) (m up : Nat) : (Ieee.signed s m up).natAbs = m <<< up := by
  unfold Ieee.signed
  split
  · rw [Int.natAbs_neg]; exact Int.natAbs_natCast _
  · exact Int.natAbs_natCast _

theorem shift_lt {m : Nat} {i base t : Int} (hb : base ≤ i) (h : m ≠ 0 → (m.log2 : Int) + i < t) : m <<< (i - base).toNat < 2 ^ (t - base).toNat := by
  rw [Nat.shiftLeft_eq]
  by_cases hm : m = 0
  · subst hm; simp; exact Nat.two_pow_pos _
  · have := h hm
    calc m * 2 ^ (i - base).toNat < 2 ^ (m.log2 + 1) * 2 ^ (i - base).toNat := Nat.mul_lt_mul_of_pos_right (lt_pow_log2 m) (Nat.two_pow_pos _)
      _ = 2 ^ (m.log2 + 1 + (i - base).toNat) := (Nat.pow_add ..).symm
      _ ≤ 2 ^ (t - base).toNat := Nat.pow_le_pow_right (by decide) (by omega)

theorem low_total {k : FloatKind} {s t neg : Bool} {m n : Nat} {i j u : Int} (hm : m ≠ 0 → (m.log2 : Int) + i < u) (hn : n ≠ 0 → (n.log2 : Int) + j < u) (h1 : tLeast k ≤ u + 1) (h2 : u + 1 ≤ tMost k) :
    Low (k.decode (k.encode (.number neg (Ieee.signed s m (i - min i j).toNat + Ieee.signed t n (j - min i j).toNat).natAbs (min i j)))) (u + 2) := by
  have := write_low k neg (Ieee.signed s m (i - min i j).toNat + Ieee.signed t n (j - min i j).toNat).natAbs (min i j) (u + 1) (fun h0 => ?_) h1 h2
  · exact this.mono (by omega)
  · have a1 := shift_lt (base := min i j) (by omega) hm
    have a2 := shift_lt (base := min i j) (by omega) hn
    have hle : (Ieee.signed s m (i - min i j).toNat + Ieee.signed t n (j - min i j).toNat).natAbs ≤ m <<< (i - min i j).toNat + n <<< (j - min i j).toNat := by
      rw [← signed_natAbs s, ← signed_natAbs t]; exact Int.natAbs_add_le _ _
    have hlt : (Ieee.signed s m (i - min i j).toNat + Ieee.signed t n (j - min i j).toNat).natAbs < 2 ^ ((u - min i j).toNat + 1) := by
      rw [Nat.pow_succ]; omega
    have := log2_lt_pow hlt h0
    have hpos : min i j < u := by
      by_cases hm0 : m = 0
      · by_cases hn0 : n = 0
        · exfalso; apply h0; subst hm0; subst hn0; unfold Ieee.signed; cases s <;> cases t <;> simp
        · have := hn hn0; omega
      · have := hm hm0; omega
    omega

theorem low_add {k : FloatKind} {a b : Option Nat} {u : Int} (ha : LowO k a u) (hb : LowO k b u) (h1 : tLeast k ≤ u + 1) (h2 : u + 1 ≤ tMost k) : LowO k (fo .add k a b) (u + 2) := by
  intro r hr
  obtain ⟨x, y, rfl, rfl, hf⟩ := fo_some hr
  obtain ⟨s, m, i, hx, hm⟩ := ha x rfl
  obtain ⟨t, n, j, hy, hn⟩ := hb y rfl
  unfold floatBits Ieee.Format.add at hf
  unfold FloatKind.decode at hx hy
  simp only [hx, hy, Ieee.Datum.sum, Option.map_some, Option.some.injEq] at hf
  subst hf
  exact low_total hm hn h1 h2

theorem low_sub {k : FloatKind} {a b : Option Nat} {u : Int} (ha : LowO k a u) (hb : LowO k b u) (h1 : tLeast k ≤ u + 1) (h2 : u + 1 ≤ tMost k) : LowO k (fo .sub k a b) (u + 2) := by
  intro r hr
  obtain ⟨x, y, rfl, rfl, hf⟩ := fo_some hr
  obtain ⟨s, m, i, hx, hm⟩ := ha x rfl
  obtain ⟨t, n, j, hy, hn⟩ := hb y rfl
  unfold floatBits Ieee.Format.sub at hf
  unfold FloatKind.decode at hx hy
  simp only [hx, hy, Ieee.Datum.opposite, Ieee.Datum.sum, Option.map_some, Option.some.injEq] at hf
  subst hf
  exact low_total hm hn h1 h2

theorem low_div {k : FloatKind} {a b : Option Nat} {ta tb : Int} (ha : LowO k a ta) (hb : HighO k b tb) (h1 : tLeast k ≤ ta - tb + 1) (h2 : ta - tb + 1 ≤ tMost k) : LowO k (fo .quo k a b) (ta - tb + 2) := by
  intro r hr
  obtain ⟨x, y, rfl, rfl, hf⟩ := fo_some hr
  obtain ⟨s, m, i, hx, hm⟩ := ha x rfl
  obtain ⟨t, n, j, hy, hn0, hn⟩ := hb y rfl
  unfold floatBits Ieee.Format.div at hf
  unfold FloatKind.decode at hx hy
  simp only [hx, hy, Ieee.Datum.quotient, if_neg hn0, Option.map_some, Option.some.injEq] at hf
  subst hf
  generalize hmore : k.format.fractionBits + 2 + n.log2 - m.log2 = more
  refine (write_low k _ _ _ (ta - tb + 1) (fun h0 => ?_) h1 h2).mono (by omega)
  by_cases hm0 : m = 0
  · exfalso; apply h0; subst hm0; simp
  · have := hm hm0
    have hdiv : m <<< more / n < 2 ^ (m.log2 + 1 + more - n.log2) := by
      rw [Nat.div_lt_iff_lt_mul (Nat.pos_of_ne_zero hn0), Nat.shiftLeft_eq]
      have hge : n.log2 ≤ m.log2 + 1 + more := by omega
      calc m * 2 ^ more < 2 ^ (m.log2 + 1) * 2 ^ more := Nat.mul_lt_mul_of_pos_right (lt_pow_log2 m) (Nat.two_pow_pos _)
        _ = 2 ^ (m.log2 + 1 + more - n.log2) * 2 ^ n.log2 := by rw [← Nat.pow_add, ← Nat.pow_add]; congr 1; omega
        _ ≤ 2 ^ (m.log2 + 1 + more - n.log2) * n := Nat.mul_le_mul_left _ (Nat.log2_self_le hn0)
    have hbit : (m <<< more % n != 0).toNat ≤ 1 := Bool.toNat_le _
    have hlt : 2 * (m <<< more / n) + (m <<< more % n != 0).toNat < 2 ^ (m.log2 + 1 + more - n.log2 + 1) := by
      rw [Nat.pow_succ]; omega
    have := log2_lt_pow hlt h0
    omega

/-- A number below 2 ^ 126 fits 32 bits. -/
theorem fit_low {v : Option Nat} {t : Int} (h : LowO .f64 v t) (ht : t ≤ 126) : Fit .f64 .f32 v := by
  intro x hx
  obtain ⟨s, m, e, hd, hm⟩ := h x hx
  obtain ⟨s', m', e', hr, _⟩ := write_low .f32 s m e 126 (fun h0 => Int.lt_of_lt_of_le (hm h0) ht) (by decide) (by decide)
  unfold floatToFloatBits
  rw [if_neg (by decide), hd]
  simp only [hr]
  rfl

theorem single_low {x : Nat} (h : (FloatKind.f32.decode x).isNaN = false) : (∃ s, FloatKind.f32.decode x = .infinity s) ∨ Low (FloatKind.f32.decode x) 200 := by
  unfold FloatKind.decode Ieee.Format.read at *
  simp only at *
  have hbp : (FloatKind.f32).format.binade = 2 ^ 23 := rfl
  split at h
  · rename_i h1
    rw [if_pos h1]
    refine .inr ⟨_, _, _, rfl, fun hm => ?_⟩
    have := log2_lt_pow (hbp ▸ h1) hm
    have := least .f32
    simp at this
    omega
  · rename_i h1
    split at h
    · rename_i h2
      rw [if_neg h1, if_pos h2]
      refine .inr ⟨_, _, _, rfl, fun hm => ?_⟩
      generalize x % FloatKind.f32.format.signWeight = r at *
      have hm1 : r % FloatKind.f32.format.binade < FloatKind.f32.format.binade := Nat.mod_lt _ (Nat.two_pow_pos _)
      have h3 : FloatKind.f32.format.binade + r % FloatKind.f32.format.binade < 2 ^ 24 := by rw [hbp] at *; omega
      have := log2_lt_pow h3 hm
      have := least .f32
      have h4 : r / FloatKind.f32.format.binade < 255 := (Nat.div_lt_iff_lt_mul (Nat.two_pow_pos _)).2 h2
      simp at this
      omega
    · split at h
      · rename_i h2 h3
        rw [if_neg h1, if_neg h2, if_pos h3]
        exact .inl ⟨_, rfl⟩
      · cases h

/-- Every 32-bit number fits 64 bits. -/
theorem fit_widen {x : Nat} {v : Option Nat} (h : Is .f32 x v) : Fit .f32 .f64 v := by
  intro y hy
  subst hy
  obtain rfl := h.notNaN
  have hn : (FloatKind.f32.decode x).isNaN = false := h.dec
  unfold floatToFloatBits
  rw [if_neg (by decide)]
  rcases single_low hn with ⟨s, hs⟩ | ⟨s, m, e, hd, hm⟩
  · rw [hs]; rfl
  · rw [hd]
    obtain ⟨s', m', e', hr, _⟩ := write_low .f64 s m e 200 hm (by decide) (by decide)
    simp only [hr]
    rfl

/-- The step of a walk at 'float64(x)'. -/
theorem wpList_wide {P : Program} {w : World} {ops : Array Oper} {rest : List Oper} {dt ty ps af gd} {a : Act} {Q : Exit → Act → World → Prop}
    {src dst : TypeId} {xo : Operand} {x : Nat} {va : Option Nat}
    (hs : (P.underlying src).isSome = true) (hd : P.underlying dst = some (.float .f64))
    (hw : Region.wanted { dst := dt, op := .convert src dst xo, type := ty, pos := ps, after := af, guard := gd } (yielded ops a.tmps) = true)
    (hx : a.eval xo = .float .f32 x) (ix : Is .f32 x va)
    (h : ∀ K : Act → World → Prop, (∀ a w, wpList P ops Q rest a w → K a w) → ∀ r n, Is .f64 r (cv .f32 .f64 va) → K (a.put dt (.float .f64 r)) (w.drewN n)) :
    wpList P ops Q ({ dst := dt, op := .convert src dst xo, type := ty, pos := ps, after := af, guard := gd } :: rest) a w :=
  wpList_cv .f32 .f64 (by decide) hs hd hw hx ix (fit_widen ix) h

/-- The word without its sign. -/
theorem read_abs (k : FloatKind) (x : Nat) : k.format.read (x % k.format.signWeight) = match k.format.read x with | .number _ m e => .number false m e | .infinity _ => .infinity false | .nan _ f => .nan false f := by
  have hs : 0 < k.format.signWeight := Nat.two_pow_pos _
  have h1 : x % k.format.signWeight / k.format.signWeight = 0 := Nat.div_eq_of_lt (Nat.mod_lt _ hs)
  unfold Ieee.Format.read
  simp only [Nat.mod_mod, h1]
  split
  · rfl
  · split
    · rfl
    · split <;> rfl

/-- Whatever lies below 2 ^ t is less than what is at least 2 ^ t. -/
theorem order_lt {k : FloatKind} {x y : Nat} {t : Int} (hx : Low (k.decode x) t) {n : Nat} {j : Int} (hy : k.decode y = .number false n j) (hn : n ≠ 0) (ht : t ≤ (n.log2 : Int) + j) : k.format.order x y = some .lt := by
  obtain ⟨s, m, i, hd, hm⟩ := hx
  unfold FloatKind.decode at hd hy
  simp only [Ieee.Format.order, hd, hy, Ieee.Datum.order, Option.some.injEq]
  have a1 : m <<< (i - min i j).toNat < n <<< (j - min i j).toNat ∨ (m = 0) := by
    by_cases hm0 : m = 0
    · exact .inr hm0
    · have h2 := hm hm0
      refine .inl (Nat.lt_of_lt_of_le (shift_lt (base := min i j) (by omega) hm) ?_)
      rw [Nat.shiftLeft_eq]
      calc 2 ^ (t - min i j).toNat ≤ 2 ^ (n.log2 + (j - min i j).toNat) := Nat.pow_le_pow_right (by decide) (by omega)
        _ = 2 ^ n.log2 * 2 ^ (j - min i j).toNat := Nat.pow_add ..
        _ ≤ n * 2 ^ (j - min i j).toNat := Nat.mul_le_mul_right _ (Nat.log2_self_le hn)
  have a2 : 0 < n <<< (j - min i j).toNat := by rw [Nat.shiftLeft_eq]; exact Nat.mul_pos (Nat.pos_of_ne_zero hn) (Nat.two_pow_pos _)
  have a3 : Ieee.signed s m (i - min i j).toNat < Ieee.signed false n (j - min i j).toNat := by
    have e1 : Ieee.signed false n (j - min i j).toNat = ((n <<< (j - min i j).toNat : Nat) : Int) := rfl
    have e2 : Ieee.signed s m (i - min i j).toNat ≤ ((m <<< (i - min i j).toNat : Nat) : Int) := by
      unfold Ieee.signed
      generalize m <<< (i - min i j).toNat = X
      split <;> omega
    rcases a1 with h | h
    · omega
    · subst h; simp at e2; omega
  rw [Int.compare_eq_lt]
  exact a3
end Go.Proofs.Ytjljdnkedbejaaa
