/-
  How great and how small the results of floating-point arithmetic are: powers of two that bound sums, products, quotients and roots from above and from below, and which results are not negative. No condition.
-/
import Derived.Test.YtngjpbfiijkibaaLow
namespace Go.Proofs.Ytngjpbfiijkibaa

/-- 'd' is a number of at most 2 ^ t. -/
def Lq (d : Ieee.Datum) (t : Int) : Prop := ∃ s m e, d = .number s m e ∧ (m ≠ 0 → ∃ a : Nat, m ≤ 2 ^ a ∧ (a : Int) + e ≤ t)
def LeO (k : FloatKind) (v : Option Nat) (t : Int) : Prop := ∀ b, v = some b → Lq (k.decode b) t
/-- 'd' is an infinity, or a number of at least 2 ^ t, of any sign. -/
def Gq (d : Ieee.Datum) (t : Int) : Prop := (∃ s, d = .infinity s) ∨ ∃ s m e, d = .number s m e ∧ m ≠ 0 ∧ t ≤ (m.log2 : Int) + e
def GeO (k : FloatKind) (v : Option Nat) (t : Int) : Prop := ∀ b, v = some b → Gq (k.decode b) t
/-- 'd' is not below zero. -/
def Nn (d : Ieee.Datum) : Prop := d = .infinity false ∨ ∃ s m e, d = .number s m e ∧ (s = false ∨ m = 0)
def NnO (k : FloatKind) (v : Option Nat) : Prop := ∀ b, v = some b → Nn (k.decode b)

theorem Lq.mono {d : Ieee.Datum} {t u : Int} (h : Lq d t) (hu : t ≤ u) : Lq d u := by
  obtain ⟨s, m, e, rfl, h⟩ := h
  exact ⟨s, m, e, rfl, fun hm => by obtain ⟨a, h1, h2⟩ := h hm; exact ⟨a, h1, by omega⟩⟩
theorem LeO.mono {k : FloatKind} {v : Option Nat} {t u : Int} (h : LeO k v t) (hu : t ≤ u) : LeO k v u := fun b hb => (h b hb).mono hu
theorem LeO.none {k : FloatKind} {t : Int} : LeO k none t := fun _ h => by cases h
theorem GeO.none {k : FloatKind} {t : Int} : GeO k none t := fun _ h => by cases h
theorem NnO.none {k : FloatKind} : NnO k none := fun _ h => by cases h
theorem Gq.mono {d : Ieee.Datum} {t u : Int} (h : Gq d t) (hu : u ≤ t) : Gq d u := by
  rcases h with h | ⟨s, m, e, rfl, h1, h2⟩
  · exact .inl h
  · exact .inr ⟨s, m, e, rfl, h1, by omega⟩
theorem GeO.mono {k : FloatKind} {v : Option Nat} {t u : Int} (h : GeO k v t) (hu : u ≤ t) : GeO k v u := fun b hb => (h b hb).mono hu

theorem pow_or {m a : Nat} (h : m ≤ 2 ^ a) (h0 : m ≠ 0) : m.log2 < a ∨ m = 2 ^ a := by
  by_cases e : m = 2 ^ a
  · exact .inr e
  · exact .inl (log2_lt_pow (by omega) h0)

theorem cut_pow (neg : Bool) (a drop : Nat) (h : drop ≤ a) : Ieee.Toward.even.cut neg (2 ^ a) drop = 2 ^ (a - drop) := by
  unfold Ieee.Toward.cut
  have hmin : min drop ((2 ^ a).log2 + 2) = drop := by rw [Nat.log2_two_pow]; omega
  have h1 : 2 ^ a = 2 ^ (a - drop) * 2 ^ drop := by rw [← Nat.pow_add]; congr 1; omega
  have hd : 2 ^ a / 2 ^ drop = 2 ^ (a - drop) := by rw [h1]; exact Nat.mul_div_cancel _ (Nat.two_pow_pos _)
  have hr : 2 ^ a % 2 ^ drop = 0 := by rw [h1]; exact Nat.mul_mod_left _ _
  simp only [Nat.one_shiftLeft, hmin, hd, hr]
  simp

theorem nearest_pow (f : Ieee.Format) (neg : Bool) (a : Nat) (place : Int) (h : (f.fractionBits : Int) + f.leastPlace ≤ a + place) :
    f.nearest neg (2 ^ a) place = f.word neg (min (((a : Int) + place - f.fractionBits - f.leastPlace + 1).toNat * f.binade) f.infRung) := by
  have hb : f.binade = 2 ^ f.fractionBits := rfl
  unfold Ieee.Format.nearest
  rw [if_neg (Nat.pos_iff_ne_zero.1 (Nat.two_pow_pos _)), Nat.log2_two_pow]
  have hL : max (place + (a : Int) - (f.fractionBits : Int)) f.leastPlace = place + a - f.fractionBits := by omega
  simp only [hL]
  congr 2
  have e1 : (place + (a : Int) - f.fractionBits - f.leastPlace + 1).toNat = (place + (a : Int) - f.fractionBits - f.leastPlace).toNat + 1 := by omega
  rw [show ((a : Int) + place - f.fractionBits - f.leastPlace + 1).toNat = (place + (a : Int) - f.fractionBits - f.leastPlace).toNat + 1 by omega, Nat.add_mul, Nat.one_mul]
  congr 1
  by_cases hd : place + (a : Int) - f.fractionBits ≤ place
  · have : (place + (a : Int) - f.fractionBits - place).toNat = 0 := by omega
    rw [this, cut_zero, Nat.shiftLeft_eq, ← Nat.pow_add, hb]
    congr 1; omega
  · have : (place - (place + (a : Int) - f.fractionBits)).toNat = 0 := by omega
    rw [this, Nat.shiftLeft_zero, cut_pow _ _ _ (by omega), hb]
    congr 1; omega

theorem nearest_le (f : Ieee.Format) (neg : Bool) (mag : Nat) (place t : Int) (hm : mag ≠ 0) {a : Nat} (ha : mag ≤ 2 ^ a) (hat : (a : Int) + place ≤ t) (ht : (f.fractionBits : Int) + f.leastPlace + 1 ≤ t) :
    ∃ r, f.nearest neg mag place = f.word neg (min r f.infRung) ∧ r ≤ (t - f.fractionBits - f.leastPlace + 1).toNat * f.binade := by
  have strict : (mag.log2 : Int) + place < t → ∃ r, f.nearest neg mag place = f.word neg (min r f.infRung) ∧ r ≤ (t - f.fractionBits - f.leastPlace + 1).toNat * f.binade := fun hs => by
    obtain ⟨r, h1, h2⟩ := nearest_rung f neg mag place hm
    refine ⟨r, h1, Nat.le_trans h2 ?_⟩
    rw [← Nat.add_mul]
    exact Nat.mul_le_mul_right _ (by omega)
  rcases pow_or ha hm with h | h
  · exact strict (by omega)
  · by_cases hs : (a : Int) + place < t
    · exact strict (by rw [h, Nat.log2_two_pow]; exact hs)
    · rw [h, nearest_pow f neg a place (by omega)]
      exact ⟨_, rfl, Nat.mul_le_mul_right _ (by omega)⟩

theorem word_sign (k : FloatKind) (neg : Bool) (r : Nat) (h : r < k.format.signWeight) : (k.format.word neg r / k.format.signWeight % 2 == 1) = neg := by
  have hs : 0 < k.format.signWeight := Nat.two_pow_pos _
  unfold Ieee.Format.word
  cases neg
  · simp [Nat.div_eq_of_lt h]
  · simp [Nat.add_div_left _ hs, Nat.div_eq_of_lt h]

/-- What is read at a rung. -/
theorem read_word (k : FloatKind) (neg : Bool) (r : Nat) (h : r ≤ k.format.infRung) :
    k.format.read (k.format.word neg r) = if r < k.format.binade then .number neg r k.format.leastPlace else if r < k.format.infRung then .number neg (k.format.binade + r % k.format.binade) (k.format.leastPlace + (r / k.format.binade - 1 : Nat)) else .infinity neg := by
  have hs : r < k.format.signWeight := Nat.lt_of_le_of_lt h k.format.infRung_lt
  have e : k.format.word neg r % k.format.signWeight = r := by
    unfold Ieee.Format.word; split
    · rw [Nat.add_mod_left, Nat.mod_eq_of_lt hs]
    · exact Nat.mod_eq_of_lt hs
  unfold Ieee.Format.read
  simp only [e, word_sign k neg r hs]
  by_cases h1 : r < k.format.binade
  · rw [if_pos h1, if_pos h1]
  · rw [if_neg h1, if_neg h1]
    by_cases h2 : r < k.format.infRung
    · rw [if_pos h2, if_pos h2]
    · rw [if_neg h2, if_neg h2, if_pos (by omega)]

theorem read_le (k : FloatKind) (neg : Bool) (r : Nat) (t : Int) (hi : r < k.format.infRung) (hr : r ≤ (t - k.format.fractionBits - k.format.leastPlace + 1).toNat * k.format.binade) (ht : (k.format.fractionBits : Int) + k.format.leastPlace ≤ t) :
    Lq (k.format.read (k.format.word neg r)) t := by
  have hb : k.format.binade = 2 ^ k.format.fractionBits := rfl
  have hbp : 0 < k.format.binade := Nat.two_pow_pos _
  rw [read_word k neg r (Nat.le_of_lt hi)]
  by_cases h1 : r < k.format.binade
  · rw [if_pos h1]
    exact ⟨_, _, _, rfl, fun _ => ⟨k.format.fractionBits, by omega, ht⟩⟩
  · rw [if_neg h1, if_pos hi]
    refine ⟨_, _, _, rfl, fun _ => ?_⟩
    have hq1 : 1 ≤ r / k.format.binade := by rw [Nat.le_div_iff_mul_le hbp]; omega
    have hq : r / k.format.binade ≤ (t - k.format.fractionBits - k.format.leastPlace + 1).toNat := by
      rw [← Nat.lt_succ_iff, Nat.div_lt_iff_lt_mul hbp, Nat.succ_mul]
      omega
    by_cases he : r / k.format.binade = (t - k.format.fractionBits - k.format.leastPlace + 1).toNat
    · have h0 : r % k.format.binade = 0 := by
        have h2 := Nat.div_add_mod r k.format.binade
        rw [he] at h2
        have h3 : k.format.binade * (t - k.format.fractionBits - k.format.leastPlace + 1).toNat = (t - k.format.fractionBits - k.format.leastPlace + 1).toNat * k.format.binade := Nat.mul_comm _ _
        omega
      exact ⟨k.format.fractionBits, by rw [h0, hb]; exact Nat.le_refl _, by omega⟩
    · refine ⟨k.format.fractionBits + 1, ?_, by omega⟩
      have := Nat.mod_lt r hbp
      rw [Nat.pow_succ, ← hb]
      omega

/-- A number of at most 2 ^ t, rounded, is at most 2 ^ t, if t lies well within the kind. -/
theorem write_le (k : FloatKind) (s : Bool) (m : Nat) (e t : Int) (h : m ≠ 0 → ∃ a : Nat, m ≤ 2 ^ a ∧ (a : Int) + e ≤ t) (h1 : tLeast k ≤ t) (h2 : t ≤ tMost k) :
    Lq (k.decode (k.encode (.number s m e))) t := by
  unfold FloatKind.decode FloatKind.encode Ieee.Format.write
  have hbp : 0 < k.format.binade := Nat.two_pow_pos _
  have hl := least k
  have hf := frac k
  have ht := topExp k
  have hok : (k.format.fractionBits : Int) + k.format.leastPlace + 1 ≤ t := by cases k <;> simp [tLeast] at hl hf h1 ⊢ <;> omega
  by_cases hm : m = 0
  · subst hm
    have : k.format.nearest s 0 e = k.format.word s 0 := by unfold Ieee.Format.nearest; rfl
    simp only [this]
    exact read_le k s 0 t (by rw [ht]; cases k <;> simp <;> exact Nat.two_pow_pos _) (Nat.zero_le _) (by omega)
  · obtain ⟨a, ha, hat⟩ := h hm
    obtain ⟨r, hr, hle⟩ := nearest_le k.format s m e t hm ha hat hok
    have hlt : r < k.format.infRung := by
      rw [ht]
      refine Nat.lt_of_le_of_lt hle (Nat.mul_lt_mul_of_pos_right ?_ hbp)
      cases k <;> simp [tMost] at hl hf h2 ⊢ <;> omega
    simp only [hr]
    rw [Nat.min_eq_left (Nat.le_of_lt hlt)]
    exact read_le k s r t hlt hle (by omega)

theorem le_mul {k : FloatKind} {a b : Option Nat} {ta tb : Int} (ha : LeO k a ta) (hb : LeO k b tb) (h1 : tLeast k ≤ ta + tb) (h2 : ta + tb ≤ tMost k) : LeO k (fo .mul k a b) (ta + tb) := by
  intro r hr
  obtain ⟨x, y, rfl, rfl, hf⟩ := fo_some hr
  obtain ⟨s, m, i, hx, hm⟩ := ha x rfl
  obtain ⟨t, n, j, hy, hn⟩ := hb y rfl
  unfold floatBits Ieee.Format.mul at hf
  unfold FloatKind.decode at hx hy
  simp only [hx, hy, Ieee.Datum.product, Option.map_some, Option.some.injEq] at hf
  subst hf
  refine write_le k _ _ _ _ (fun h0 => ?_) h1 h2
  obtain ⟨p, hp, hp'⟩ := hm (fun h => h0 (by rw [h, Nat.zero_mul]))
  obtain ⟨q, hq, hq'⟩ := hn (fun h => h0 (by rw [h, Nat.mul_zero]))
  exact ⟨p + q, by rw [Nat.pow_add]; exact Nat.mul_le_mul hp hq, by omega⟩

theorem shift_le {m : Nat} {i base t : Int} (hb : base ≤ i) (h : m ≠ 0 → ∃ a : Nat, m ≤ 2 ^ a ∧ (a : Int) + i ≤ t) : m <<< (i - base).toNat ≤ 2 ^ (t - base).toNat := by
  rw [Nat.shiftLeft_eq]
  by_cases hm : m = 0
  · subst hm; simp
  · obtain ⟨a, ha, hat⟩ := h hm
    calc m * 2 ^ (i - base).toNat ≤ 2 ^ a * 2 ^ (i - base).toNat := Nat.mul_le_mul_right _ ha
      _ = 2 ^ (a + (i - base).toNat) := (Nat.pow_add ..).symm
      _ ≤ 2 ^ (t - base).toNat := Nat.pow_le_pow_right (by decide) (by omega)

theorem le_total {k : FloatKind} {s t neg : Bool} {m n : Nat} {i j u : Int} (hm : m ≠ 0 → ∃ a : Nat, m ≤ 2 ^ a ∧ (a : Int) + i ≤ u) (hn : n ≠ 0 → ∃ a : Nat, n ≤ 2 ^ a ∧ (a : Int) + j ≤ u) (h1 : tLeast k ≤ u + 1) (h2 : u + 1 ≤ tMost k) :
    Lq (k.decode (k.encode (.number neg (Ieee.signed s m (i - min i j).toNat + Ieee.signed t n (j - min i j).toNat).natAbs (min i j)))) (u + 1) := by
  refine write_le k neg (Ieee.signed s m (i - min i j).toNat + Ieee.signed t n (j - min i j).toNat).natAbs (min i j) (u + 1) (fun h0 => ?_) h1 h2
  have a1 := shift_le (base := min i j) (by omega) hm
  have a2 := shift_le (base := min i j) (by omega) hn
  have hle : (Ieee.signed s m (i - min i j).toNat + Ieee.signed t n (j - min i j).toNat).natAbs ≤ m <<< (i - min i j).toNat + n <<< (j - min i j).toNat := by
    rw [← signed_natAbs s, ← signed_natAbs t]; exact Int.natAbs_add_le _ _
  have hpos : min i j ≤ u := by
    by_cases hm0 : m = 0
    · by_cases hn0 : n = 0
      · exfalso; apply h0; subst hm0; subst hn0; unfold Ieee.signed; cases s <;> cases t <;> simp
      · obtain ⟨a, _, h⟩ := hn hn0; omega
    · obtain ⟨a, _, h⟩ := hm hm0; omega
  exact ⟨(u - min i j).toNat + 1, by rw [Nat.pow_succ]; omega, by omega⟩

theorem le_add {k : FloatKind} {a b : Option Nat} {u : Int} (ha : LeO k a u) (hb : LeO k b u) (h1 : tLeast k ≤ u + 1) (h2 : u + 1 ≤ tMost k) : LeO k (fo .add k a b) (u + 1) := by
  intro r hr
  obtain ⟨x, y, rfl, rfl, hf⟩ := fo_some hr
  obtain ⟨s, m, i, hx, hm⟩ := ha x rfl
  obtain ⟨t, n, j, hy, hn⟩ := hb y rfl
  unfold floatBits Ieee.Format.add at hf
  unfold FloatKind.decode at hx hy
  simp only [hx, hy, Ieee.Datum.sum, Option.map_some, Option.some.injEq] at hf
  subst hf
  exact le_total hm hn h1 h2

theorem le_sub {k : FloatKind} {a b : Option Nat} {u : Int} (ha : LeO k a u) (hb : LeO k b u) (h1 : tLeast k ≤ u + 1) (h2 : u + 1 ≤ tMost k) : LeO k (fo .sub k a b) (u + 1) := by
  intro r hr
  obtain ⟨x, y, rfl, rfl, hf⟩ := fo_some hr
  obtain ⟨s, m, i, hx, hm⟩ := ha x rfl
  obtain ⟨t, n, j, hy, hn⟩ := hb y rfl
  unfold floatBits Ieee.Format.sub at hf
  unfold FloatKind.decode at hx hy
  simp only [hx, hy, Ieee.Datum.opposite, Ieee.Datum.sum, Option.map_some, Option.some.injEq] at hf
  subst hf
  exact le_total hm hn h1 h2

theorem quot_le {m n more a : Nat} (hn : n ≠ 0) (ha : m ≤ 2 ^ a) (hge : n.log2 ≤ a + more) : 2 * (m <<< more / n) + (m <<< more % n != 0).toNat ≤ 2 ^ (a + more - n.log2 + 1) := by
  have hle : m <<< more ≤ 2 ^ (a + more - n.log2) * n := by
    rw [Nat.shiftLeft_eq]
    calc m * 2 ^ more ≤ 2 ^ a * 2 ^ more := Nat.mul_le_mul_right _ ha
      _ = 2 ^ (a + more - n.log2) * 2 ^ n.log2 := by rw [← Nat.pow_add, ← Nat.pow_add]; congr 1; omega
      _ ≤ 2 ^ (a + more - n.log2) * n := Nat.mul_le_mul_left _ (Nat.log2_self_le hn)
  have hX : 2 ^ (a + more - n.log2 + 1) = 2 * 2 ^ (a + more - n.log2) := by rw [Nat.pow_succ, Nat.mul_comm]
  rw [hX]
  clear hX
  generalize m <<< more = D at hle ⊢
  generalize 2 ^ (a + more - n.log2) = X at hle ⊢
  have h2 := Nat.div_add_mod D n
  have hbit : (D % n != 0).toNat ≤ 1 := Bool.toNat_le _
  have hq : D / n ≤ X := by
    rw [← Nat.lt_succ_iff, Nat.div_lt_iff_lt_mul (Nat.pos_of_ne_zero hn), Nat.succ_mul]
    have := Nat.pos_of_ne_zero hn
    omega
  by_cases he : D / n = X
  · have h3 : D % n = 0 := by
      rw [he] at h2
      have : n * X = X * n := Nat.mul_comm _ _
      omega
    rw [h3, he]
    simp
  · omega

theorem le_div {k : FloatKind} {a b : Option Nat} {ta tb : Int} (ha : LeO k a ta) (hb : GeO k b tb) (h1 : tLeast k ≤ ta - tb) (h2 : ta - tb ≤ tMost k) : LeO k (fo .quo k a b) (ta - tb) := by
  intro r hr
  obtain ⟨x, y, rfl, rfl, hf⟩ := fo_some hr
  obtain ⟨s, m, i, hx, hm⟩ := ha x rfl
  unfold floatBits Ieee.Format.div at hf
  unfold FloatKind.decode at hx
  rcases hb y rfl with ⟨t, hy⟩ | ⟨t, n, j, hy, hn0, hn⟩
  · unfold FloatKind.decode at hy
    simp only [hx, hy, Ieee.Datum.quotient, Option.map_some, Option.some.injEq] at hf
    subst hf
    exact write_le k _ 0 _ _ (fun h0 => absurd rfl h0) h1 h2
  · unfold FloatKind.decode at hy
    simp only [hx, hy, Ieee.Datum.quotient, if_neg hn0, Option.map_some, Option.some.injEq] at hf
    subst hf
    generalize hmore : k.format.fractionBits + 2 + n.log2 - m.log2 = more
    refine write_le k _ _ _ _ (fun h0 => ?_) h1 h2
    by_cases hm0 : m = 0
    · exfalso; apply h0; subst hm0; simp
    · obtain ⟨p, hp, hp'⟩ := hm hm0
      have hpl : m.log2 ≤ p := by
        rcases pow_or hp hm0 with h | h
        · omega
        · rw [h, Nat.log2_two_pow]; exact Nat.le_refl _
      exact ⟨_, quot_le hn0 hp (by omega), by omega⟩

/-- A number of at most 2 ^ 126 fits 32 bits. -/
theorem fit_le {v : Option Nat} {t : Int} (h : LeO .f64 v t) (ht : t ≤ 126) : Fit .f64 .f32 v := by
  intro x hx
  obtain ⟨s, m, e, hd, hm⟩ := (h x hx).mono ht
  obtain ⟨s', m', e', hr, _⟩ := write_le .f32 s m e 126 hm (by decide) (by decide)
  unfold floatToFloatBits
  rw [if_neg (by decide), hd]
  simp only [hr]
  rfl

/-! ### From below -/
theorem nearest_ge (f : Ieee.Format) (neg : Bool) (mag : Nat) (place t : Int) (hm : mag ≠ 0) (hat : t ≤ (mag.log2 : Int) + place) (ht : (f.fractionBits : Int) + f.leastPlace ≤ t) :
    ∃ r, f.nearest neg mag place = f.word neg (min r f.infRung) ∧ (t - f.fractionBits - f.leastPlace + 1).toNat * f.binade ≤ r := by
  have hb : f.binade = 2 ^ f.fractionBits := rfl
  unfold Ieee.Format.nearest
  rw [if_neg hm]
  refine ⟨_, rfl, ?_⟩
  have hL : max (place + (mag.log2 : Int) - (f.fractionBits : Int)) f.leastPlace = place + mag.log2 - f.fractionBits := by omega
  simp only [hL]
  have hkept : f.binade ≤ Ieee.Toward.even.cut neg (mag <<< (place - (place + (mag.log2 : Int) - f.fractionBits)).toNat) (place + (mag.log2 : Int) - f.fractionBits - place).toNat := by
    have hself := Nat.log2_self_le hm
    by_cases hd : place + (mag.log2 : Int) - f.fractionBits ≤ place
    · have : (place + (mag.log2 : Int) - f.fractionBits - place).toNat = 0 := by omega
      rw [this, cut_zero, Nat.shiftLeft_eq, hb]
      calc 2 ^ f.fractionBits = 2 ^ mag.log2 * 2 ^ (place - (place + (mag.log2 : Int) - f.fractionBits)).toNat := by rw [← Nat.pow_add]; congr 1; omega
        _ ≤ _ := Nat.mul_le_mul_right _ hself
    · have : (place - (place + (mag.log2 : Int) - f.fractionBits)).toNat = 0 := by omega
      rw [this, Nat.shiftLeft_zero, hb]
      unfold Ieee.Toward.cut
      simp only [Nat.one_shiftLeft]
      refine Nat.le_trans ?_ (Nat.le_add_right _ _)
      rw [Nat.le_div_iff_mul_le (Nat.two_pow_pos _), ← Nat.pow_add]
      exact Nat.le_trans (Nat.pow_le_pow_right (by decide) (by omega)) hself
  refine Nat.le_trans ?_ (Nat.add_le_add_left hkept _)
  rw [← Nat.succ_mul]
  exact Nat.mul_le_mul_right _ (by omega)

theorem write_ge (k : FloatKind) (s : Bool) (m : Nat) (e t : Int) (hm : m ≠ 0) (h : t ≤ (m.log2 : Int) + e) (h1 : tLeast k ≤ t) (h2 : t ≤ tMost k) :
    Gq (k.decode (k.encode (.number s m e))) t := by
  unfold FloatKind.decode FloatKind.encode Ieee.Format.write
  have hbp : 0 < k.format.binade := Nat.two_pow_pos _
  have hb : k.format.binade = 2 ^ k.format.fractionBits := rfl
  have hl := least k
  have hf := frac k
  have hok : (k.format.fractionBits : Int) + k.format.leastPlace + 1 ≤ t := by cases k <;> simp [tLeast] at hl hf h1 ⊢ <;> omega
  obtain ⟨r, hr, hge⟩ := nearest_ge k.format s m e t hm h (by omega)
  simp only [hr]
  rw [read_word k s _ (Nat.min_le_right _ _)]
  by_cases hi : r < k.format.infRung
  · rw [Nat.min_eq_left (Nat.le_of_lt hi)]
    have h3 : k.format.binade ≤ r := Nat.le_trans (by
      calc k.format.binade = 1 * k.format.binade := (Nat.one_mul _).symm
        _ ≤ _ := Nat.mul_le_mul_right _ (by omega)) hge
    rw [if_neg (by omega), if_pos hi]
    refine .inr ⟨_, _, _, rfl, by omega, ?_⟩
    have hq : (t - k.format.fractionBits - k.format.leastPlace + 1).toNat ≤ r / k.format.binade := (Nat.le_div_iff_mul_le hbp).2 hge
    have hlog : k.format.fractionBits ≤ (k.format.binade + r % k.format.binade).log2 := (Nat.le_log2 (by omega)).2 (by rw [← hb]; omega)
    omega
  · rw [Nat.min_eq_right (by omega)]
    have : ¬ k.format.infRung < k.format.binade := by cases k <;> exact of_decide_eq_true (by rfl)
    rw [if_neg this, if_neg (Nat.lt_irrefl _)]
    exact .inl ⟨_, rfl⟩

theorem nn_write (k : FloatKind) (s : Bool) (m : Nat) (e : Int) (h : s = false ∨ m = 0) : Nn (k.decode (k.encode (.number s m e))) := by
  unfold FloatKind.decode FloatKind.encode Ieee.Format.write
  by_cases hm : m = 0
  · subst hm
    have : k.format.nearest s 0 e = k.format.word s 0 := by unfold Ieee.Format.nearest; rfl
    simp only [this]
    rw [read_word k s 0 (Nat.zero_le _), if_pos (show 0 < k.format.binade from Nat.two_pow_pos _)]
    exact .inr ⟨_, _, _, rfl, .inr rfl⟩
  · obtain rfl : s = false := by rcases h with h | h; exact h; exact absurd h hm
    obtain ⟨r, hr, _⟩ := nearest_rung k.format false m e hm
    simp only [hr]
    rw [read_word k false _ (Nat.min_le_right _ _)]
    split
    · exact .inr ⟨_, _, _, rfl, .inl rfl⟩
    · split
      · exact .inr ⟨_, _, _, rfl, .inl rfl⟩
      · exact .inl rfl

theorem inf_write (k : FloatKind) (s : Bool) : k.decode (k.encode (.infinity s)) = .infinity s := by cases k <;> cases s <;> rfl

theorem nn_sq {k : FloatKind} {v : Option Nat} : NnO k (fo .mul k v v) := by
  intro r hr
  obtain ⟨x, y, rfl, hy, hf⟩ := fo_some hr
  cases hy
  unfold floatBits Ieee.Format.mul at hf
  cases hd : k.format.read x with
  | number s m e =>
    simp only [hd, Ieee.Datum.product, Option.map_some, Option.some.injEq] at hf
    subst hf
    exact nn_write k _ _ _ (.inl (by cases s <;> rfl))
  | infinity s =>
    simp only [hd, Ieee.Datum.product, Option.map_some, Option.some.injEq] at hf
    subst hf
    refine .inl ?_
    have := inf_write k (s ^^ s)
    unfold FloatKind.encode at this
    rw [this]; cases s <;> rfl
  | nan s f => simp only [hd, Ieee.Datum.product, Option.map_none] at hf; cases hf

theorem signed_nn {s : Bool} {m up : Nat} (h : s = false ∨ m = 0) : Ieee.signed s m up = ((m <<< up : Nat) : Int) := by
  unfold Ieee.signed
  rcases h with h | h
  · rw [h]; rfl
  · subst h; simp

theorem nn_add {k : FloatKind} {a b : Option Nat} (ha : NnO k a) (hb : NnO k b) : NnO k (fo .add k a b) := by
  intro r hr
  obtain ⟨x, y, rfl, rfl, hf⟩ := fo_some hr
  unfold floatBits Ieee.Format.add at hf
  have hi := inf_write k false
  unfold FloatKind.encode at hi
  rcases ha x rfl with hx | ⟨s, m, i, hx, hm⟩ <;> rcases hb y rfl with hy | ⟨t, n, j, hy, hn⟩ <;> unfold FloatKind.decode at hx hy
  · simp only [hx, hy, Ieee.Datum.sum, if_true, Option.map_some, Option.some.injEq] at hf
    subst hf; exact .inl hi
  · simp only [hx, hy, Ieee.Datum.sum, Option.map_some, Option.some.injEq] at hf
    subst hf; exact .inl hi
  · simp only [hx, hy, Ieee.Datum.sum, Option.map_some, Option.some.injEq] at hf
    subst hf; exact .inl hi
  · simp only [hx, hy, Ieee.Datum.sum, Option.map_some, Option.some.injEq] at hf
    subst hf
    refine nn_write k _ _ _ ?_
    rw [signed_nn hm, signed_nn hn]
    generalize m <<< (i - min i j).toNat = X
    generalize n <<< (j - min i j).toNat = Y
    by_cases h0 : ((X : Int) + (Y : Int)) = 0
    · right; rw [h0]; rfl
    · left; rw [if_neg h0]; simp; omega

/-- The sum of two numbers that are not negative is at least the first one's power of two. -/
theorem ge_add {k : FloatKind} {a b : Option Nat} {t : Int} (ha : NnO k a) (hb : NnO k b) (hg : GeO k a t) (h1 : tLeast k ≤ t) (h2 : t ≤ tMost k) : GeO k (fo .add k a b) t := by
  intro r hr
  obtain ⟨x, y, rfl, rfl, hf⟩ := fo_some hr
  unfold floatBits Ieee.Format.add at hf
  have hi := inf_write k false
  unfold FloatKind.encode at hi
  rcases ha x rfl with hx | ⟨s, m, i, hx, hm⟩ <;> rcases hb y rfl with hy | ⟨u, n, j, hy, hn⟩ <;> unfold FloatKind.decode at hx hy
  · simp only [hx, hy, Ieee.Datum.sum, if_true, Option.map_some, Option.some.injEq] at hf
    subst hf; exact .inl ⟨_, hi⟩
  · simp only [hx, hy, Ieee.Datum.sum, Option.map_some, Option.some.injEq] at hf
    subst hf; exact .inl ⟨_, hi⟩
  · simp only [hx, hy, Ieee.Datum.sum, Option.map_some, Option.some.injEq] at hf
    subst hf; exact .inl ⟨_, hi⟩
  · rcases hg x rfl with ⟨s', hx'⟩ | ⟨s', m', i', hx', hm0, hlog⟩
    · unfold FloatKind.decode at hx'; rw [hx] at hx'; cases hx'
    · unfold FloatKind.decode at hx'
      rw [hx] at hx'
      cases hx'
      simp only [hx, hy, Ieee.Datum.sum, Option.map_some, Option.some.injEq] at hf
      subst hf
      rw [signed_nn hm, signed_nn hn]
      have hn0 : ((m <<< (i - min i j).toNat : Nat) : Int) + ((n <<< (j - min i j).toNat : Nat) : Int) = ((m <<< (i - min i j).toNat + n <<< (j - min i j).toNat : Nat) : Int) := by omega
      rw [hn0, Int.natAbs_natCast]
      have hX : 2 ^ (m.log2 + (i - min i j).toNat) ≤ m <<< (i - min i j).toNat + n <<< (j - min i j).toNat := by
        rw [Nat.shiftLeft_eq, Nat.pow_add]
        exact Nat.le_trans (Nat.mul_le_mul_right _ (Nat.log2_self_le hm0)) (Nat.le_add_right _ _)
      have hne : m <<< (i - min i j).toNat + n <<< (j - min i j).toNat ≠ 0 := by have := Nat.two_pow_pos (m.log2 + (i - min i j).toNat); omega
      refine write_ge k _ _ _ _ hne ?_ h1 h2
      have := (Nat.le_log2 hne).2 hX
      omega

/-! ### Words that are told -/
def leB (k : FloatKind) (b : Nat) (t : Int) : Bool := match k.decode b with
  | .number _ m e => m == 0 || decide ((m.log2 : Int) + 1 + e ≤ t) || (m == 2 ^ m.log2 && decide ((m.log2 : Int) + e ≤ t))
  | _ => false
theorem le_lit {k : FloatKind} {b : Nat} {t : Int} (h : leB k b t = true) : LeO k (some b) t := by
  intro c hc
  cases hc
  unfold leB at h
  cases hd : k.decode b with
  | number s m e =>
    rw [hd] at h
    refine ⟨s, m, e, rfl, fun hm => ?_⟩
    simp [hm] at h
    rcases h with h | ⟨h, h'⟩
    · exact ⟨m.log2 + 1, Nat.le_of_lt (lt_pow_log2 m), by omega⟩
    · exact ⟨m.log2, by omega, h'⟩
  | infinity s => rw [hd] at h; cases h
  | nan s f => rw [hd] at h; cases h
def geB (k : FloatKind) (b : Nat) (t : Int) : Bool := match k.decode b with
  | .number _ m e => m != 0 && decide (t ≤ (m.log2 : Int) + e)
  | _ => false
theorem ge_lit {k : FloatKind} {b : Nat} {t : Int} (h : geB k b t = true) : GeO k (some b) t := by
  intro c hc
  cases hc
  unfold geB at h
  cases hd : k.decode b with
  | number s m e =>
    rw [hd] at h
    simp at h
    exact .inr ⟨s, m, e, rfl, h.1, h.2⟩
  | infinity s => rw [hd] at h; cases h
  | nan s f => rw [hd] at h; cases h
def nnB (k : FloatKind) (b : Nat) : Bool := match k.decode b with
  | .number s m _ => !s || m == 0
  | .infinity s => !s
  | _ => false
theorem nn_lit {k : FloatKind} {b : Nat} (h : nnB k b = true) : NnO k (some b) := by
  intro c hc
  cases hc
  unfold nnB at h
  cases hd : k.decode b with
  | number s m e =>
    rw [hd] at h
    simp at h
    exact .inr ⟨s, m, e, rfl, h⟩
  | infinity s => rw [hd] at h; simp at h; subst h; exact .inl rfl
  | nan s f => rw [hd] at h; cases h
end Go.Proofs.Ytngjpbfiijkibaa
