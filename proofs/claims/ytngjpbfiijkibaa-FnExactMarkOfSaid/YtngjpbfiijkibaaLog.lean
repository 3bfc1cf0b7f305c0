/-
  Halving and doubling a 64-bit number until it is near one: each step moves the place of its digits by one, so it ends; the logarithm made of it, and its bound. No condition.
-/
import Derived.Test.YtngjpbfiijkibaaFacts
import Derived.Test.YtngjpbfiijkibaaIntF
import Derived.Lib.Hide
namespace Go.Proofs.Ytngjpbfiijkibaa
open Go.RowKit

def two64 : Option Nat := some 4611686018427387904
def mid64 : Option Nat := some 4609434218613702656
def low64 : Option Nat := some 4604930618986332160

/-- A number greater than 0 with all its digits at the place e. -/
def Nrm (v : Option Nat) (m : Nat) (e : Int) : Prop := ∃ b, v = some b ∧ b < 2 ^ 64 ∧ FloatKind.f64.decode b = .number false m e ∧ 2 ^ 52 ≤ m

theorem dec_norm {m G : Nat} (h1 : 2 ^ 52 ≤ m) (h2 : m < 2 ^ 53) (hG : G ≤ 2045) : FloatKind.f64.decode (G * 2 ^ 52 + m) = .number false m (-1074 + G) := by
  unfold FloatKind.decode Ieee.Format.read
  have e1 : FloatKind.f64.format.signWeight = 2 ^ 63 := rfl
  have e2 : FloatKind.f64.format.binade = 2 ^ 52 := rfl
  have e3 : FloatKind.f64.format.leastPlace = -1074 := rfl
  have e4 : FloatKind.f64.format.infRung = 2047 * 2 ^ 52 := rfl
  have a1 : (G * 2 ^ 52 + m) % 2 ^ 63 = G * 2 ^ 52 + m := Nat.mod_eq_of_lt (by omega)
  have a2 : (G * 2 ^ 52 + m) / 2 ^ 63 = 0 := Nat.div_eq_of_lt (by omega)
  simp only [e1, e2, e3, e4, a1, a2]
  rw [if_neg (by omega), if_pos (by omega)]
  have a3 : 2 ^ 52 + (G * 2 ^ 52 + m) % 2 ^ 52 = m := by omega
  have a4 : (((G * 2 ^ 52 + m) / 2 ^ 52 - 1 : Nat) : Int) = (G : Int) := by omega
  rw [a3, a4]
  rfl

theorem norm_mk {m : Nat} {e : Int} (h1 : 2 ^ 52 ≤ m) (h2 : m < 2 ^ 53) (l : -1074 ≤ e) (u : e ≤ 971) : ∃ b, b < 2 ^ 64 ∧ FloatKind.f64.decode b = .number false m e := by
  refine ⟨(e + 1074).toNat * 2 ^ 52 + m, by omega, ?_⟩
  rw [dec_norm h1 h2 (by omega)]
  congr 1; omega

theorem two_dec : FloatKind.f64.format.read 4611686018427387904 = .number false (2 ^ 52) (-51) := by rfl

theorem half_nrm {v : Option Nat} {m : Nat} {e : Int} (h : Nrm v m e) (he : -1074 < e) : Nrm (fo .quo .f64 v two64) m (e - 1) := by
  obtain ⟨b, rfl, hb, hd, hm⟩ := h
  obtain ⟨f1, f2, f3, f4, f5⟩ := read_facts hb hd
  obtain ⟨c, hc, hcd⟩ := norm_mk (e := e - 1) hm f1 (by omega) (by omega)
  refine ⟨c, ?_, hc, hcd, hm⟩
  have hl : m.log2 = 52 := by
    have := log2_lt_pow f1 (by omega)
    have := (Nat.le_log2 (show m ≠ 0 by omega)).2 hm
    omega
  have hw := write_shift hc hcd (by omega) 3
  show floatBits .quo .f64 b 4611686018427387904 = some c
  unfold FloatKind.decode at hd
  unfold floatBits Ieee.Format.div
  rw [hd, two_dec]
  have hfb : FloatKind.f64.format.fractionBits = 52 := rfl
  have hl2 : (2 ^ 52 : Nat).log2 = 52 := Nat.log2_two_pow
  have hq : m <<< 54 / 2 ^ 52 = m <<< 2 := by rw [Nat.shiftLeft_eq, Nat.shiftLeft_eq, show (2 : Nat) ^ 54 = 2 ^ 2 * 2 ^ 52 from rfl, ← Nat.mul_assoc, Nat.mul_div_cancel _ (Nat.two_pow_pos _)]
  have hr : m <<< 54 % 2 ^ 52 = 0 := by rw [Nat.shiftLeft_eq, show (2 : Nat) ^ 54 = 2 ^ 2 * 2 ^ 52 from rfl, ← Nat.mul_assoc, Nat.mul_mod_left]
  have hmore : 52 + 2 + 52 - 52 = 54 := rfl
  simp only [Ieee.Datum.quotient, hfb, hl, hl2, hmore, hq, hr]
  rw [if_neg (by decide)]
  have h2 : 2 * m <<< 2 + ((0 : Nat) != 0).toNat = m <<< 3 := by
    rw [Nat.shiftLeft_eq, Nat.shiftLeft_eq]; simp; omega
  have h3 : e - -51 - ((54 : Nat) : Int) - 1 = e - 1 - (3 : Nat) := by omega
  rw [h2, h3]
  unfold FloatKind.encode at hw
  simp only [Bool.xor_false, Option.map_some]
  rw [hw]

theorem twice_nrm {v : Option Nat} {m : Nat} {e : Int} (h : Nrm v m e) (he : e ≤ 970) : Nrm (fo .mul .f64 v two64) m (e + 1) := by
  obtain ⟨b, rfl, hb, hd, hm⟩ := h
  obtain ⟨f1, f2, f3, f4, f5⟩ := read_facts hb hd
  obtain ⟨c, hc, hcd⟩ := norm_mk (e := e + 1) hm f1 (by omega) (by omega)
  refine ⟨c, ?_, hc, hcd, hm⟩
  have hw := write_shift hc hcd (by omega) 52
  show floatBits .mul .f64 b 4611686018427387904 = some c
  unfold FloatKind.decode at hd
  unfold floatBits Ieee.Format.mul
  rw [hd, two_dec]
  simp only [Ieee.Datum.product, Option.map_some]
  have h2 : m * 2 ^ 52 = m <<< 52 := (Nat.shiftLeft_eq ..).symm
  have h3 : e + -51 = e + 1 - (52 : Nat) := by omega
  rw [h2, h3]
  unfold FloatKind.encode at hw
  simp only [Bool.xor_false]
  rw [hw]

/-! ### Where it ends -/
theorem geq_mid {v : Option Nat} {m : Nat} {e : Int} (h : Nrm v m e) : (cmpB .geq .f64 v mid64 = true → -60 < e) ∧ (cmpB .geq .f64 v mid64 = false → e ≤ -52) := by
  obtain ⟨b, rfl, hb, hd, hm⟩ := h
  obtain ⟨f1, f2, f3, f4, f5⟩ := read_facts hb hd
  have o := ord_some (order_num hd (show FloatKind.f64.decode 4609434218613702656 = .number false (3 * 2 ^ 51) (-52) from by rfl))
  unfold cmpB mid64
  simp only [o]
  unfold Ieee.signed
  simp only [Bool.false_eq_true, if_false]
  refine ⟨fun hg => ?_, fun hg => ?_⟩
  · apply Classical.byContradiction
    intro hne
    have hmin : min e (-52) = e := by omega
    rw [hmin, Int.sub_self, Int.toNat_zero, Nat.shiftLeft_zero] at hg
    have hY : 2 ^ 53 ≤ (3 * 2 ^ 51 : Nat) <<< (-52 - e).toNat := by
      rw [Nat.shiftLeft_eq]
      have : 2 ^ 8 ≤ 2 ^ (-52 - e).toNat := Nat.pow_le_pow_right (by decide) (by omega)
      omega
    have : compare (m : Int) (((3 * 2 ^ 51 : Nat) <<< (-52 - e).toNat : Nat) : Int) = .lt := by rw [Int.compare_eq_lt]; omega
    rw [this] at hg
    simp at hg
  · apply Classical.byContradiction
    intro hne
    have hmin : min e (-52) = -52 := by omega
    rw [hmin] at hg
    have hX : 2 ^ 53 ≤ m <<< (e - -52).toNat := by
      rw [Nat.shiftLeft_eq]
      have : 2 ^ 1 ≤ 2 ^ (e - -52).toNat := Nat.pow_le_pow_right (by decide) (by omega)
      calc 2 ^ 53 = 2 ^ 52 * 2 ^ 1 := rfl
        _ ≤ m * 2 ^ (e - -52).toNat := Nat.mul_le_mul hm this
    have : compare ((m <<< (e - -52).toNat : Nat) : Int) (((3 * 2 ^ 51 : Nat) <<< ((-52 : Int) - -52).toNat : Nat) : Int) = .gt := by
      rw [Int.compare_eq_gt, show ((-52 : Int) - -52).toNat = 0 from rfl, Nat.shiftLeft_zero]; omega
    rw [this] at hg
    simp at hg

theorem lss_low {v : Option Nat} {m : Nat} {e : Int} (h : Nrm v m e) : (cmpB .lss .f64 v low64 = true → e ≤ -53) ∧ (cmpB .lss .f64 v low64 = false → -54 < e) := by
  obtain ⟨b, rfl, hb, hd, hm⟩ := h
  obtain ⟨f1, f2, f3, f4, f5⟩ := read_facts hb hd
  have o := ord_some (order_num hd (show FloatKind.f64.decode 4604930618986332160 = .number false (3 * 2 ^ 51) (-53) from by rfl))
  unfold cmpB low64
  simp only [o]
  unfold Ieee.signed
  simp only [Bool.false_eq_true, if_false]
  refine ⟨fun hg => ?_, fun hg => ?_⟩
  · apply Classical.byContradiction
    intro hne
    have hmin : min e (-53) = -53 := by omega
    rw [hmin] at hg
    have hX : 2 ^ 53 ≤ m <<< (e - -53).toNat := by
      rw [Nat.shiftLeft_eq]
      have : 2 ^ 1 ≤ 2 ^ (e - -53).toNat := Nat.pow_le_pow_right (by decide) (by omega)
      calc 2 ^ 53 = 2 ^ 52 * 2 ^ 1 := rfl
        _ ≤ m * 2 ^ (e - -53).toNat := Nat.mul_le_mul hm this
    have : compare ((m <<< (e - -53).toNat : Nat) : Int) (((3 * 2 ^ 51 : Nat) <<< ((-53 : Int) - -53).toNat : Nat) : Int) = .gt := by
      rw [Int.compare_eq_gt, show ((-53 : Int) - -53).toNat = 0 from rfl, Nat.shiftLeft_zero]; omega
    rw [this] at hg
    simp at hg
  · apply Classical.byContradiction
    intro hne
    have hmin : min e (-53) = e := by omega
    rw [hmin, Int.sub_self, Int.toNat_zero, Nat.shiftLeft_zero] at hg
    have hY : 2 ^ 53 ≤ (3 * 2 ^ 51 : Nat) <<< (-53 - e).toNat := by
      rw [Nat.shiftLeft_eq]
      have : 2 ^ 1 ≤ 2 ^ (-53 - e).toNat := Nat.pow_le_pow_right (by decide) (by omega)
      calc 2 ^ 53 ≤ 3 * 2 ^ 51 * 2 ^ 1 := by decide
        _ ≤ 3 * 2 ^ 51 * 2 ^ (-53 - e).toNat := Nat.mul_le_mul_left _ this
    have : compare (m : Int) (((3 * 2 ^ 51 : Nat) <<< (-53 - e).toNat : Nat) : Int) = .lt := by rw [Int.compare_eq_lt]; omega
    rw [this] at hg
    simp at hg

def hlN (v : Option Nat) : Nat → Option Nat
  | 0 => v
  | j + 1 => fo .quo .f64 (hlN v j) two64
def dbN (v : Option Nat) : Nat → Option Nat
  | 0 => v
  | j + 1 => fo .mul .f64 (dbN v j) two64
theorem hlN_front (v : Option Nat) : ∀ j, hlN (fo .quo .f64 v two64) j = hlN v (j + 1)
  | 0 => rfl
  | j + 1 => by show fo .quo .f64 (hlN (fo .quo .f64 v two64) j) two64 = _; rw [hlN_front v j]; rfl
theorem dbN_front (v : Option Nat) : ∀ j, dbN (fo .mul .f64 v two64) j = dbN v (j + 1)
  | 0 => rfl
  | j + 1 => by show fo .mul .f64 (dbN (fo .mul .f64 v two64) j) two64 = _; rw [dbN_front v j]; rfl

theorem hl_ends : ∀ (t : Nat) {v : Option Nat} {m : Nat} {e : Int}, Nrm v m e → e ≤ -60 + t → ∃ k, k ≤ t ∧ (∀ j, j < k → cmpB .geq .f64 (hlN v j) mid64 = true) ∧ cmpB .geq .f64 (hlN v k) mid64 = false ∧ ∃ e', Nrm (hlN v k) m e' ∧ e' ≤ -52
  | t, v, m, e, h, ht => by
    obtain ⟨g1, g2⟩ := geq_mid h
    cases hg : cmpB .geq .f64 v mid64 with
    | false => exact ⟨0, Nat.zero_le _, fun j hj => absurd hj (Nat.not_lt_zero _), hg, e, h, g2 hg⟩
    | true =>
      have he := g1 hg
      cases t with
      | zero => omega
      | succ t =>
        obtain ⟨k, hk, ha, hb, hc⟩ := hl_ends t (half_nrm h (by omega)) (by omega)
        refine ⟨k + 1, by omega, fun j hj => ?_, by rw [← hlN_front]; exact hb, by rw [← hlN_front]; exact hc⟩
        cases j with
        | zero => exact hg
        | succ j => rw [← hlN_front]; exact ha j (by omega)

theorem db_ends : ∀ (t : Nat) {v : Option Nat} {m : Nat} {e : Int}, Nrm v m e → -52 ≤ e + t → e ≤ -52 → ∃ k, k ≤ t ∧ (∀ j, j < k → cmpB .lss .f64 (dbN v j) low64 = true) ∧ cmpB .lss .f64 (dbN v k) low64 = false ∧ ∃ e', Nrm (dbN v k) m e' ∧ -54 < e' ∧ e' ≤ -52
  | t, v, m, e, h, ht, hu => by
    obtain ⟨g1, g2⟩ := lss_low h
    cases hg : cmpB .lss .f64 v low64 with
    | false => exact ⟨0, Nat.zero_le _, fun j hj => absurd hj (Nat.not_lt_zero _), hg, e, h, g2 hg, hu⟩
    | true =>
      have he := g1 hg
      cases t with
      | zero => omega
      | succ t =>
        obtain ⟨k, hk, ha, hb, hc⟩ := db_ends t (twice_nrm h (by omega)) (by omega) (by omega)
        refine ⟨k + 1, by omega, fun j hj => ?_, by rw [← dbN_front]; exact hb, by rw [← dbN_front]; exact hc⟩
        cases j with
        | zero => exact hg
        | succ j => rw [← dbN_front]; exact ha j (by omega)

/-! ### The logarithm of what is near one, and of how often it was halved -/
theorem sum_comm (a b : Ieee.Datum) : a.sum b = b.sum a := by
  cases a <;> cases b <;> try rfl
  · rename_i s m i t n j
    simp only [Ieee.Datum.sum]
    rw [Int.min_comm i j, Int.add_comm (Ieee.signed s m _), Bool.and_comm s t]
  · rename_i s t
    cases s <;> cases t <;> rfl

theorem fo_add_comm (k : FloatKind) (a b : Option Nat) : fo .add k a b = fo .add k b a := by
  cases a <;> cases b <;> try rfl
  rename_i x y
  show floatBits .add k x y = floatBits .add k y x
  unfold floatBits Ieee.Format.add
  rw [sum_comm]

theorem sub_le {X Y p : Nat} (hx : X ≤ p) (hy : Y ≤ p) : ((X : Int) + -(Y : Int)).natAbs ≤ p := by omega

/-- The difference of two numbers that are not negative is at most the greater one. -/
theorem le_subn {k : FloatKind} {a b : Option Nat} {u : Int} (ha : LeO k a u) (hb : LeO k b u) (na : NnO k a) (nb : NnO k b) (h1 : tLeast k ≤ u) (h2 : u ≤ tMost k) : LeO k (fo .sub k a b) u := by
  intro r hr
  obtain ⟨x, y, rfl, rfl, hf⟩ := fo_some hr
  obtain ⟨s, m, i, hx, hm⟩ := ha x rfl
  obtain ⟨t, n, j, hy, hn⟩ := hb y rfl
  have hs : s = false ∨ m = 0 := by
    rcases na x rfl with h | ⟨s', m', i', h, h'⟩ <;> rw [hx] at h <;> cases h
    exact h'
  have ht : t = false ∨ n = 0 := by
    rcases nb y rfl with h | ⟨s', m', i', h, h'⟩ <;> rw [hy] at h <;> cases h
    exact h'
  unfold floatBits Ieee.Format.sub at hf
  unfold FloatKind.decode at hx hy
  simp only [hx, hy, Ieee.Datum.opposite, Ieee.Datum.sum, Option.map_some, Option.some.injEq] at hf
  subst hf
  have hopp : Ieee.signed (!t) n (j - min i j).toNat = -((n <<< (j - min i j).toNat : Nat) : Int) := by
    unfold Ieee.signed
    rcases ht with ht | ht
    · subst ht; rfl
    · subst ht; cases t <;> simp
  rw [signed_nn hs, hopp]
  refine write_le k _ _ _ _ (fun h0 => ?_) h1 h2
  have a1 := shift_le (base := min i j) (by omega) hm
  have a2 := shift_le (base := min i j) (by omega) hn
  have hpos : min i j ≤ u := by
    by_cases hm0 : m = 0
    · by_cases hn0 : n = 0
      · exfalso; apply h0; subst hm0; subst hn0; simp
      · obtain ⟨a, _, h⟩ := hn hn0; omega
    · obtain ⟨a, _, h⟩ := hm hm0; omega
  exact ⟨(u - min i j).toNat, sub_le a1 a2, by omega⟩

def serL (u : Option Nat) : Nat → Option Nat
  | 0 => some 0
  | j + 1 => fo .add .f64 (fo .quo .f64 (some 4607182418800017408) (ifO (25 - 2 * (j : Int)))) (fo .mul .f64 u (serL u j))
def logS (s : Option Nat) (h : Int) : Option Nat := fo .add .f64 (fo .mul .f64 two64 (fo .mul .f64 s (serL (fo .mul .f64 s s) 13))) (fo .mul .f64 (ifO h) (some 4604418534313441775))
def logN (near : Option Nat) (h : Int) : Option Nat := logS (fo .quo .f64 (fo .sub .f64 near (some 4607182418800017408)) (fo .add .f64 near (some 4607182418800017408))) h

theorem le_if {n : Int} {a : Nat} (h : n.natAbs ≤ 2 ^ a) (ha : a ≤ 1000) : LeO .f64 (ifO n) a := by
  intro b hb
  cases hb
  exact write_le .f64 _ _ _ _ (fun _ => ⟨a, h, by omega⟩) (by simp [tLeast]) (by simp [tMost]; omega)

theorem le_serL {u : Option Nat} (h : LeO .f64 u 2) : ∀ j, j ≤ 13 → LeO .f64 (serL u j) (3 * (j : Int))
  | 0, _ => le_lit (by kernel_rfl)
  | j + 1, hj => by
    have h1 := le_mul h (le_serL h j (by omega)) (by simp [tLeast]; omega) (by simp [tMost]; omega)
    have h2 : LeO .f64 (fo .quo .f64 (some 4607182418800017408) (ifO (25 - 2 * (j : Int)))) 0 := le_div (ta := 0) (tb := 0) (le_lit (by kernel_rfl)) (ge_if (by omega)) (by decide) (by decide)
    exact (le_add (h2.mono (show (0 : Int) ≤ 2 + 3 * (j : Int) by omega)) h1 (by simp [tLeast]; omega) (by simp [tMost]; omega)).mono (by omega)

theorem le_logN {v : Option Nat} {m : Nat} {e h : Int} (hv : Nrm v m e) (he : e ≤ -52) (hh : h.natAbs ≤ 2 ^ 12) : LeO .f64 (logN v h) 42 := by
  obtain ⟨b, rfl, hb, hd, hm⟩ := hv
  obtain ⟨f1, f2, f3, f4, f5⟩ := read_facts hb hd
  have l1 : LeO .f64 (some b) 1 := fun c hc => by cases hc; exact ⟨false, m, e, hd, fun _ => ⟨53, by omega, by omega⟩⟩
  have n1 : NnO .f64 (some b) := fun c hc => by cases hc; exact .inr ⟨false, m, e, hd, .inl rfl⟩
  have h1 : LeO .f64 (fo .sub .f64 (some b) (some 4607182418800017408)) 1 := le_subn l1 (le_lit (by kernel_rfl)) n1 (nn_lit (by kernel_rfl)) (by decide) (by decide)
  have h2 : GeO .f64 (fo .add .f64 (some b) (some 4607182418800017408)) 0 := by
    rw [fo_add_comm]
    exact ge_add (nn_lit (by kernel_rfl)) n1 (ge_lit (by kernel_rfl)) (by decide) (by decide)
  have hs := le_div h1 h2 (by decide) (by decide)
  have hu := le_mul hs hs (by decide) (by decide)
  have hq := le_serL (hu.mono (by decide)) 13 (Nat.le_refl _)
  have h3 := le_mul hs hq (by decide) (by decide)
  have h4 := le_mul (ta := 1) (le_lit (b := 4611686018427387904) (by kernel_rfl)) h3 (by decide) (by decide)
  have h5 := le_mul (tb := 0) (le_if hh (by decide)) (le_lit (b := 4604418534313441775) (by kernel_rfl)) (by decide) (by decide)
  exact (le_add (u := 41) (h4.mono (by decide)) (h5.mono (by decide)) (by decide) (by decide)).mono (by decide)
end Go.Proofs.Ytngjpbfiijkibaa
