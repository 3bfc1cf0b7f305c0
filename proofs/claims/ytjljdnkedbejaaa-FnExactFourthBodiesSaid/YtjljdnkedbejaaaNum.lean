/-
  Plain facts on floating-point words, up to which NaN they are: what the arithmetic, the comparisons and the conversions give of such values, and the steps of a walk at such an operation. No condition.
-/
import Derived.Laws.FloatArith
import Derived.Laws.Cover3
import Derived.Deep.Draws
import Derived.WalkKit
import Derived.WalkLawsBesides
import Derived.Below
namespace Go.Proofs.Ytjljdnkedbejaaa
open Go.RowKit

/-- The word; nothing for any NaN. -/
def nrm (k : FloatKind) (b : Nat) : Option Nat := if (k.decode b).isNaN then none else some b

/-- 'b' is a word of the kind that stands for 'v'. -/
def Is (k : FloatKind) (b : Nat) (v : Option Nat) : Prop := nrm k b = v ∧ b < 2 ^ k.format.width

theorem word_read (k : FloatKind) (neg : Bool) (rung : Nat) (h : rung ≤ k.format.infRung) : (k.format.read (k.format.word neg rung)).isNaN = false := by
  have hs : rung < k.format.signWeight := Nat.lt_of_le_of_lt h k.format.infRung_lt
  have e : k.format.word neg rung % k.format.signWeight = rung := by
    unfold Ieee.Format.word; split
    · rw [Nat.add_mod_left, Nat.mod_eq_of_lt hs]
    · exact Nat.mod_eq_of_lt hs
  unfold Ieee.Format.read
  simp only [e]
  split
  · rfl
  · split
    · rfl
    · split
      · rfl
      · omega

theorem write_notNaN (k : FloatKind) (d : Ieee.Datum) (h : d.isNaN = false) : (k.decode (k.encode d)).isNaN = false := by
  unfold FloatKind.decode FloatKind.encode
  cases d with
  | number neg mag place =>
    unfold Ieee.Format.write Ieee.Format.nearest
    simp only
    split
    · exact word_read _ _ _ (Nat.zero_le _)
    · exact word_read _ _ _ (Nat.min_le_right ..)
  | infinity neg => exact word_read _ _ _ (Nat.le_refl _)
  | nan neg f => simp [Ieee.Datum.isNaN] at h

theorem sum_notNaN {a b d : Ieee.Datum} (h : a.sum b = some d) : d.isNaN = false := by
  cases a <;> cases b <;> simp [Ieee.Datum.sum] at h <;> first | (subst h; rfl) | (obtain ⟨_, rfl⟩ := h; rfl)

theorem product_notNaN {a b d : Ieee.Datum} (h : a.product b = some d) : d.isNaN = false := by
  cases a <;> cases b <;> simp [Ieee.Datum.product] at h <;> first | (subst h; rfl) | (obtain ⟨_, rfl⟩ := h; rfl)

theorem quotient_notNaN {n : Nat} {a b d : Ieee.Datum} (h : a.quotient n b = some d) : d.isNaN = false := by
  cases a <;> cases b <;> simp [Ieee.Datum.quotient] at h
  case number.number =>
    split at h
    · split at h
      · cases h
      · cases h; rfl
    · cases h; rfl
  all_goals (subst h; rfl)

theorem root_notNaN {n : Nat} {a d : Ieee.Datum} (h : a.root n = some d) : d.isNaN = false := by
  cases a <;> simp [Ieee.Datum.root] at h
  case number =>
    split at h
    · cases h; rfl
    · split at h
      · cases h
      · cases h; rfl
  case infinity => obtain ⟨_, rfl⟩ := h; rfl

theorem isNaN_opposite (d : Ieee.Datum) : d.opposite.isNaN = d.isNaN := by cases d <;> rfl

def fo (op : BinOp) (k : FloatKind) (a b : Option Nat) : Option Nat := a.bind fun x => b.bind fun y => floatBits op k x y

theorem floatBits_notNaN {op : BinOp} {k : FloatKind} {x y r : Nat} (h : floatBits op k x y = some r) : nrm k r = some r := by
  have key : ∀ {d : Option Ieee.Datum}, (∀ e, d = some e → e.isNaN = false) → d.map k.format.write = some r → nrm k r = some r := by
    intro d hd hm
    cases d with
    | none => cases hm
    | some e =>
      cases hm
      unfold nrm
      rw [if_neg (by have := write_notNaN k e (hd e rfl); unfold FloatKind.encode at this; simp [this])]
  unfold floatBits at h
  split at h
  · exact key (fun e he => sum_notNaN he) h
  · exact key (fun e he => sum_notNaN he) h
  · exact key (fun e he => product_notNaN he) h
  · exact key (fun e he => quotient_notNaN he) h
  · cases h

theorem nan_cases {d : Ieee.Datum} (h : d.isNaN = true) : ∃ s f, d = .nan s f := by
  cases d <;> simp [Ieee.Datum.isNaN] at h; exact ⟨_, _, rfl⟩

theorem floatBits_nan_left {op : BinOp} {k : FloatKind} {x y : Nat} (h : (k.decode x).isNaN = true) : floatBits op k x y = none := by
  obtain ⟨s, f, hd⟩ := nan_cases h
  unfold FloatKind.decode at hd
  unfold floatBits
  split <;> simp [Ieee.Format.add, Ieee.Format.sub, Ieee.Format.mul, Ieee.Format.div, hd, Ieee.Datum.sum, Ieee.Datum.product, Ieee.Datum.quotient]

theorem floatBits_nan_right {op : BinOp} {k : FloatKind} {x y : Nat} (h : (k.decode y).isNaN = true) : floatBits op k x y = none := by
  obtain ⟨s, f, hd⟩ := nan_cases h
  unfold FloatKind.decode at hd
  unfold floatBits
  split <;> simp only [Ieee.Format.add, Ieee.Format.sub, Ieee.Format.mul, Ieee.Format.div, hd, Ieee.Datum.opposite] <;>
    cases k.format.read x <;> simp [Ieee.Datum.sum, Ieee.Datum.product, Ieee.Datum.quotient]

theorem floatBits_fo (op : BinOp) (k : FloatKind) (x y : Nat) : floatBits op k x y = fo op k (nrm k x) (nrm k y) := by
  unfold fo nrm
  by_cases hx : (k.decode x).isNaN = true
  · rw [floatBits_nan_left hx]; simp [hx]
  · by_cases hy : (k.decode y).isNaN = true
    · rw [floatBits_nan_right hy]; simp [hx, hy]
    · simp [hx, hy]

theorem nan_read (k : FloatKind) (b : Nat) (h : k.format.infRung < b % k.format.signWeight) : nrm k b = none := by
  have hb : k.format.binade ≤ k.format.infRung := by cases k <;> decide
  have e : (k.format.read b).isNaN = true := by
    unfold Ieee.Format.read
    simp only
    rw [if_neg (by omega), if_neg (by omega), if_neg (by omega)]
    rfl
  unfold nrm FloatKind.decode
  rw [if_pos e]

theorem is_nanBits32 (t : Nat) : Is .f32 ((t % 2) * 2 ^ 31 + 0x7f800000 + 1 + (t / 2) % (2 ^ 23 - 1)) none := by
  have h1 : t % 2 < 2 := Nat.mod_lt _ (by decide)
  have h2 : (t / 2) % (2 ^ 23 - 1) < 2 ^ 23 - 1 := Nat.mod_lt _ (by decide)
  refine ⟨nan_read _ _ ?_, ?_⟩
  · show 2139095040 < (t % 2 * 2147483648 + 2139095040 + 1 + t / 2 % 8388607) % 2147483648
    have h2' : t / 2 % 8388607 < 8388607 := h2
    generalize t / 2 % 8388607 = s at h2'
    rcases Nat.mod_two_eq_zero_or_one t with h | h <;> rw [h] <;> omega
  · show t % 2 * 2147483648 + 2139095040 + 1 + t / 2 % 8388607 < 4294967296
    omega

theorem is_nanBits64 (t : Nat) : Is .f64 ((t % 2) * 2 ^ 63 + 0x7ff0000000000000 + 1 + (t / 2) % (2 ^ 52 - 1)) none := by
  have h1 : t % 2 < 2 := Nat.mod_lt _ (by decide)
  have h2 : (t / 2) % (2 ^ 52 - 1) < 2 ^ 52 - 1 := Nat.mod_lt _ (by decide)
  refine ⟨nan_read _ _ ?_, ?_⟩
  · show 9218868437227405312 < (t % 2 * 9223372036854775808 + 9218868437227405312 + 1 + t / 2 % 4503599627370495) % 9223372036854775808
    have h2' : t / 2 % 4503599627370495 < 4503599627370495 := h2
    generalize t / 2 % 4503599627370495 = s at h2'
    rcases Nat.mod_two_eq_zero_or_one t with h | h <;> rw [h] <;> omega
  · show t % 2 * 9223372036854775808 + 9218868437227405312 + 1 + t / 2 % 4503599627370495 < 18446744073709551616
    omega

theorem is_nanBits (k : FloatKind) (x y t : Nat) : Is k ((Question.nanBits k x y).cut t) none := by
  cases k
  · exact is_nanBits32 t
  · exact is_nanBits64 t

theorem is_nanConv (k : FloatKind) (x t : Nat) : Is k ((Question.nanConv k x).cut t) none := by
  cases k
  · exact is_nanBits32 t
  · exact is_nanBits64 t

theorem Is.notNaN {k : FloatKind} {b : Nat} {v : Nat} (h : Is k b (some v)) : b = v := by
  have := h.1; unfold nrm at this; split at this
  · cases this
  · cases this; rfl

theorem Is.dec {k : FloatKind} {b x : Nat} (h : Is k b (some x)) : (k.decode b).isNaN = false := by
  have h1 := h.1
  unfold nrm at h1
  by_cases hn : (k.decode b).isNaN = true
  · rw [if_pos hn] at h1; cases h1
  · simpa using hn

theorem Is.self {k : FloatKind} {b : Nat} (h : b < 2 ^ k.format.width) : Is k b (nrm k b) := ⟨rfl, h⟩

theorem wpList_wanted {P : Program} {w : World} {ops : Array Oper} {rest : List Oper} {o : Oper} {a : Act} {Q : Exit → Act → World → Prop} (hw : Region.wanted o (yielded ops a.tmps) = true)
    (h : ∀ K : Act → World → Prop, (∀ a w, wpList P ops Q rest a w → K a w) → o.wp P a w K Q) : wpList P ops Q (o :: rest) a w :=
  wpList_step fun K hK => by rw [if_pos hw]; exact h K hK

def Arith (op : BinOp) : Prop := op = .add ∨ op = .sub ∨ op = .mul ∨ op = .quo

/-- Arithmetic: the result, up to which NaN. -/
theorem run_arith (P : Program) (w : World) {op : BinOp} (hop : Arith op) (t : TypeId) (k : FloatKind) (x y : Nat) {a b : Option Nat} (hx : Is k x a) (hy : Is k y b) :
    ∃ r n, (binOp op t (.float k x) (.float k y)).run P w = .ok (.float k r) (w.drewN n) ∧ Is k r (fo op k a b) := by
  have e : floatBits op k x y = fo op k a b := by rw [floatBits_fo, hx.1, hy.1]
  cases h : floatBits op k x y with
  | some r => exact ⟨r, 0, run_float_arith w op t k x y r h, by rw [← e, h]; exact ⟨floatBits_notNaN h, by
      have := floatBits_wf h
      cases k
      · have h2 : r < 4294967296 := by simpa [Lit.wf] using this
        exact h2
      · have h2 : r < 18446744073709551616 := by simpa [Lit.wf] using this
        exact h2⟩⟩
  | none =>
    refine ⟨(Question.nanBits k x y).cut (w.tape w.drawn (.nanBits k x y)), 1, ?_, by rw [← e, h]; exact is_nanBits ..⟩
    unfold floatBits at h
    rcases hop with rfl | rfl | rfl | rfl <;> simp only at h <;> simp [binOp, Op.floatArith, h, Question.forced, World.drew_is_drewN]

/-- The step of a walk at floating-point arithmetic. -/
theorem wpList_arith {P : Program} {w : World} {ops : Array Oper} {rest : List Oper} {dt ty ps af gd} {a : Act} {Q : Exit → Act → World → Prop}
    {op : BinOp} {t yt : TypeId} {xo yo : Operand} {k : FloatKind} {x y : Nat} {va vb : Option Nat} (hw : Region.wanted { dst := dt, op := .binOp op t xo yo yt, type := ty, pos := ps, after := af, guard := gd } (yielded ops a.tmps) = true) (hop : Arith op)
    (hx : a.eval xo = .float k x) (hy : a.eval yo = .float k y) (ix : Is k x va) (iy : Is k y vb)
    (h : ∀ K : Act → World → Prop, (∀ a w, wpList P ops Q rest a w → K a w) → ∀ r n, Is k r (fo op k va vb) → K (a.put dt (.float k r)) (w.drewN n)) : wpList P ops Q ({ dst := dt, op := .binOp op t xo yo yt, type := ty, pos := ps, after := af, guard := gd } :: rest) a w := by
  refine wpList_wanted hw fun K hK => ?_
  obtain ⟨r, n, hr, hi⟩ := run_arith P w hop t k x y ix iy
  unfold Oper.wp
  have hg : (eqGuard op t xo yo (.float k x) (.float k y)).run P w = .ok () w := by
    rcases hop with rfl | rfl | rfl | rfl <;> rfl
  simp [execOp, hx, hy, hg, hr, Result.andThen, Oper.upon]
  exact h K hK r n hi

/-- A store of a floating-point number. -/
theorem run_store_float (P : Program) (w : World) (a : Addr) (k : FloatKind) (b : Nat) (m : Mode) : (store a (.float k b) m).run P w = stored P w a (.float k b) m := run_store P w a _ m rfl

/-! ### Comparisons -/
def ordO (k : FloatKind) (a b : Option Nat) : Option Ordering := a.bind fun x => b.bind fun y => k.format.order x y

theorem order_fo (k : FloatKind) (x y : Nat) : k.format.order x y = ordO k (nrm k x) (nrm k y) := by
  unfold ordO nrm Ieee.Format.order FloatKind.decode
  by_cases hx : (k.format.read x).isNaN = true
  · obtain ⟨s, f, hd⟩ := nan_cases hx
    simp [hd, Ieee.Datum.isNaN, Ieee.Datum.order]
  · by_cases hy : (k.format.read y).isNaN = true
    · obtain ⟨s, f, hd⟩ := nan_cases hy
      rw [if_neg hx, if_pos hy, hd]
      cases k.format.read x <;> simp [Ieee.Datum.order]
    · simp [hx, hy]

def cmpB (op : BinOp) (k : FloatKind) (a b : Option Nat) : Bool :=
  match op with
  | .eql => ordO k a b == some .eq
  | .neq => ordO k a b != some .eq
  | .lss => ordO k a b == some .lt
  | .leq => ordO k a b == some .lt || ordO k a b == some .eq
  | .gtr => ordO k a b == some .gt
  | .geq => ordO k a b == some .gt || ordO k a b == some .eq
  | _ => false

def Cmp (op : BinOp) : Prop := op = .eql ∨ op = .neq ∨ op = .lss ∨ op = .leq ∨ op = .gtr ∨ op = .geq

/-- The step of a walk at a comparison. -/
theorem wpList_cmp {P : Program} {w : World} {ops : Array Oper} {rest : List Oper} {dt ty ps af gd} {a : Act} {Q : Exit → Act → World → Prop}
    {op : BinOp} {t yt : TypeId} {xo yo : Operand} {k : FloatKind} {x y : Nat} {va vb : Option Nat} (hw : Region.wanted { dst := dt, op := .binOp op t xo yo yt, type := ty, pos := ps, after := af, guard := gd } (yielded ops a.tmps) = true) (hop : Cmp op)
    (hx : a.eval xo = .float k x) (hy : a.eval yo = .float k y) (ix : Is k x va) (iy : Is k y vb)
    (h : ∀ K : Act → World → Prop, (∀ a w, wpList P ops Q rest a w → K a w) → K (a.put dt (.bool (cmpB op k va vb))) w) : wpList P ops Q ({ dst := dt, op := .binOp op t xo yo yt, type := ty, pos := ps, after := af, guard := gd } :: rest) a w := by
  refine wpList_wanted hw fun K hK => ?_
  unfold Oper.wp
  have hr : (binOp op t (.float k x) (.float k y)).run P w = .ok (.bool (cmpB op k va vb)) w := by
    rcases hop with rfl | rfl | rfl | rfl | rfl | rfl <;> simp [binOp, Op.floatCmp, order_fo, ix.1, iy.1, cmpB]
  have hg : (eqGuard op t xo yo (.float k x) (.float k y)).run P w = .ok () w := by
    rcases hop with rfl | rfl | rfl | rfl | rfl | rfl <;> rfl
  simp [execOp, hx, hy, hg, hr, Result.andThen, Oper.upon]
  exact h K hK

/-! ### Conversions between the two kinds -/
/-- The nearest word of the other kind; nothing for a NaN, and for a number that is too great for the narrower kind. -/
def cv (s k : FloatKind) (a : Option Nat) : Option Nat := a.bind fun x => floatToFloatBits s x k

/-- No number of 'a' is too great for the kind 'k'. -/
def Fit (s k : FloatKind) (a : Option Nat) : Prop := ∀ x, a = some x → (floatToFloatBits s x k).isSome = true

theorem cv_notNaN {s k : FloatKind} (hne : s ≠ k) {x r : Nat} (h : floatToFloatBits s x k = some r) : Is k r (some r) := by
  have hn : nrm k r = some r := by
    unfold floatToFloatBits at h
    rw [if_neg hne] at h
    split at h
    · cases h
    · cases h; unfold nrm; rw [if_neg (by rw [write_notNaN _ _ rfl]; decide)]
    · split at h
      · cases h
      · cases h; unfold nrm; rw [if_neg (by rw [write_notNaN _ _ rfl]; decide)]
  refine ⟨hn, ?_⟩
  unfold floatToFloatBits at h
  rw [if_neg hne] at h
  split at h
  · cases h
  · cases h; exact k.format.write_lt _
  · split at h
    · cases h
    · cases h; exact k.format.write_lt _

/-- The step of a walk at a conversion between the kinds. -/
theorem wpList_cv {P : Program} {w : World} {ops : Array Oper} {rest : List Oper} {dt ty ps af gd} {a : Act} {Q : Exit → Act → World → Prop}
    {src dst : TypeId} {xo : Operand} {x : Nat} {va : Option Nat} (s k : FloatKind) (hne : s ≠ k)
    (hs : (P.underlying src).isSome = true) (hd : P.underlying dst = some (.float k))
    (hw : Region.wanted { dst := dt, op := .convert src dst xo, type := ty, pos := ps, after := af, guard := gd } (yielded ops a.tmps) = true)
    (hx : a.eval xo = .float s x) (ix : Is s x va) (hf : Fit s k va)
    (h : ∀ K : Act → World → Prop, (∀ a w, wpList P ops Q rest a w → K a w) → ∀ r n, Is k r (cv s k va) → K (a.put dt (.float k r)) (w.drewN n)) : wpList P ops Q ({ dst := dt, op := .convert src dst xo, type := ty, pos := ps, after := af, guard := gd } :: rest) a w := by
  refine wpList_wanted hw fun K hK => ?_
  unfold Oper.wp
  cases va with
  | some y =>
    obtain rfl := ix.notNaN
    obtain ⟨r, hr⟩ := Option.isSome_iff_exists.1 (hf x rfl)
    have hrun := run_convert_float_float (P := P) w src dst s k x r hs hd hr
    simp [execOp, hx, hrun, Result.andThen, Oper.upon]
    exact h K hK r 0 (by unfold cv; simp only [Option.bind_some, hr]; exact cv_notNaN hne hr)
  | none =>
    have hn : (s.decode x).isNaN = true := by
      have := ix.1; unfold nrm at this; split at this
      · assumption
      · cases this
    obtain ⟨sg, f, hd'⟩ := nan_cases hn
    have hrun : (convert src dst (.float s x)).run P w = .ok (.float k ((Question.nanConv k x).cut (w.tape w.drawn (.nanConv k x)))) (w.drewN 1) := by
      obtain ⟨u, hs'⟩ := Option.isSome_iff_exists.1 hs
      cases u <;> simp [convert, run_underlying hs', run_underlying hd, Conv.floatToFloat, hne, hd', Question.forced, World.drew_is_drewN]
    simp [execOp, hx, hrun, Result.andThen, Oper.upon]
    exact h K hK _ 1 (by unfold cv; exact is_nanConv ..)

/-! ### How great a rounded number is -/
theorem log2_lt_pow {n t : Nat} (h : n < 2 ^ t) (h0 : n ≠ 0) : n.log2 < t := (Nat.log2_lt h0).2 h
theorem lt_pow_log2 (n : Nat) : n < 2 ^ (n.log2 + 1) := Nat.lt_log2_self

theorem cut_le (neg : Bool) (n drop : Nat) : Ieee.Toward.even.cut neg n drop ≤ n / 2 ^ min drop (n.log2 + 2) + 1 := by
  unfold Ieee.Toward.cut
  simp only [Nat.one_shiftLeft]
  have : ∀ b : Bool, b.toNat ≤ 1 := fun b => by cases b <;> decide
  have := this (decide (2 ^ min drop (n.log2 + 2) < 2 * (n % 2 ^ min drop (n.log2 + 2))) || 2 ^ min drop (n.log2 + 2) == 2 * (n % 2 ^ min drop (n.log2 + 2)) && n / 2 ^ min drop (n.log2 + 2) % 2 == 1)
  omega

theorem cut_zero (neg : Bool) (n : Nat) : Ieee.Toward.even.cut neg n 0 = n := by
  unfold Ieee.Toward.cut
  simp [Nat.mod_one]

/-- The rung of the nearest word: at most two binades beyond where the last digit that is kept stands. -/
theorem nearest_rung (f : Ieee.Format) (neg : Bool) (mag : Nat) (place : Int) (hm : mag ≠ 0) :
    ∃ r, f.nearest neg mag place = f.word neg (min r f.infRung) ∧
      r ≤ (max (place + mag.log2 - f.fractionBits) f.leastPlace - f.leastPlace).toNat * f.binade + 2 * f.binade := by
  unfold Ieee.Format.nearest
  rw [if_neg hm]
  refine ⟨_, rfl, Nat.add_le_add_left ?_ _⟩
  have hl := lt_pow_log2 mag
  have hb : 2 * f.binade = 2 ^ (f.fractionBits + 1) := by unfold Ieee.Format.binade; rw [Nat.pow_succ, Nat.mul_comm]
  rw [hb]
  generalize hL : max (place + (mag.log2 : Int) - (f.fractionBits : Int)) f.leastPlace = last
  have h1 : place + (mag.log2 : Int) - (f.fractionBits : Int) ≤ last := by omega
  by_cases hd : last ≤ place
  · have : (last - place).toNat = 0 := by omega
    rw [this, cut_zero, Nat.shiftLeft_eq]
    have hle : mag.log2 + 1 + (place - last).toNat ≤ f.fractionBits + 1 := by omega
    calc mag * 2 ^ (place - last).toNat ≤ 2 ^ (mag.log2 + 1) * 2 ^ (place - last).toNat := Nat.mul_le_mul_right _ (Nat.le_of_lt hl)
      _ = 2 ^ (mag.log2 + 1 + (place - last).toNat) := (Nat.pow_add ..).symm
      _ ≤ 2 ^ (f.fractionBits + 1) := Nat.pow_le_pow_right (by decide) hle
  · have : (place - last).toNat = 0 := by omega
    rw [this, Nat.shiftLeft_zero]
    refine Nat.le_trans (cut_le _ _ _) ?_
    have key : mag / 2 ^ min (last - place).toNat (mag.log2 + 2) < 2 ^ (f.fractionBits + 1) := by
      rw [Nat.div_lt_iff_lt_mul (Nat.two_pow_pos _), ← Nat.pow_add]
      refine Nat.lt_of_lt_of_le hl (Nat.pow_le_pow_right (by decide) ?_)
      omega
    omega

/-- 'd' is a number below 2 ^ t. -/
def Low (d : Ieee.Datum) (t : Int) : Prop := ∃ s m e, d = .number s m e ∧ (m ≠ 0 → (m.log2 : Int) + e < t)

theorem Low.mono {d : Ieee.Datum} {t u : Int} (h : Low d t) (hu : t ≤ u) : Low d u := by
  obtain ⟨s, m, e, rfl, h⟩ := h; exact ⟨s, m, e, rfl, fun hm => Int.lt_of_lt_of_le (h hm) hu⟩

theorem least (k : FloatKind) : k.format.leastPlace = match k with | .f32 => -149 | .f64 => -1074 := by cases k <;> rfl
theorem frac (k : FloatKind) : k.format.fractionBits = match k with | .f32 => 23 | .f64 => 52 := by cases k <;> rfl
theorem topExp (k : FloatKind) : k.format.infRung = (match k with | .f32 => 255 | .f64 => 2047) * k.format.binade := by cases k <;> rfl

theorem read_rung (k : FloatKind) (neg : Bool) (r : Nat) (h : r < k.format.infRung) :
    ∃ s m e, k.format.read (k.format.word neg r) = .number s m e ∧ (m ≠ 0 → (m.log2 : Int) + e ≤ (k.format.fractionBits : Int) + k.format.leastPlace + (r / k.format.binade : Nat) - (if r < k.format.binade then 0 else 1)) := by
  have hs : r < k.format.signWeight := Nat.lt_trans h k.format.infRung_lt
  have e : k.format.word neg r % k.format.signWeight = r := by
    unfold Ieee.Format.word; split
    · rw [Nat.add_mod_left, Nat.mod_eq_of_lt hs]
    · exact Nat.mod_eq_of_lt hs
  have hb : k.format.binade = 2 ^ k.format.fractionBits := rfl
  unfold Ieee.Format.read
  simp only [e]
  by_cases h1 : r < k.format.binade
  · rw [if_pos h1, if_pos h1]
    refine ⟨_, _, _, rfl, fun hm => ?_⟩
    have := log2_lt_pow (hb ▸ h1) hm
    rw [Nat.div_eq_of_lt h1]
    omega
  · rw [if_neg h1, if_pos h, if_neg h1]
    refine ⟨_, _, _, rfl, fun hm => ?_⟩
    have hm1 : r % k.format.binade < k.format.binade := Nat.mod_lt _ (Nat.two_pow_pos _)
    have h2 : k.format.binade + r % k.format.binade < 2 ^ (k.format.fractionBits + 1) := by rw [Nat.pow_succ, ← hb]; omega
    have := log2_lt_pow h2 hm
    have : 1 ≤ r / k.format.binade := by rw [Nat.le_div_iff_mul_le (show 0 < k.format.binade from Nat.two_pow_pos _)]; omega
    omega

abbrev tLeast (k : FloatKind) : Int := match k with | .f32 => -120 | .f64 => -1000
abbrev tMost (k : FloatKind) : Int := match k with | .f32 => 126 | .f64 => 1022

/-- A number below 2 ^ t, rounded, is below 2 ^ (t + 1), if t lies well within the kind. -/
theorem write_low (k : FloatKind) (s : Bool) (m : Nat) (e t : Int) (h : m ≠ 0 → (m.log2 : Int) + e < t) (h1 : tLeast k ≤ t) (h2 : t ≤ tMost k) :
    Low (k.decode (k.encode (.number s m e))) (t + 1) := by
  unfold FloatKind.decode FloatKind.encode Ieee.Format.write
  have hbp : 0 < k.format.binade := Nat.two_pow_pos _
  have hl := least k
  have hf := frac k
  have ht := topExp k
  by_cases hm : m = 0
  · subst hm
    have : k.format.nearest s 0 e = k.format.word s 0 := by unfold Ieee.Format.nearest; rfl
    simp only [this]
    obtain ⟨s', m', e', hr, hb⟩ := read_rung k s 0 (by rw [ht]; cases k <;> simp <;> exact Nat.two_pow_pos _)
    refine ⟨s', m', e', hr, fun h0 => ?_⟩
    have := hb h0
    rw [if_pos hbp] at this
    simp at this
    cases k <;> simp [tLeast, tMost] at hl hf h1 h2 <;> omega
  · obtain ⟨r, hr, hb⟩ := nearest_rung k.format s m e hm
    have h3 := h hm
    generalize hG : (max (e + (m.log2 : Int) - (k.format.fractionBits : Int)) k.format.leastPlace - k.format.leastPlace).toNat = G at hb
    have hq : r / k.format.binade ≤ G + 2 := by
      rw [← Nat.lt_succ_iff, Nat.div_lt_iff_lt_mul hbp]
      calc r ≤ G * k.format.binade + 2 * k.format.binade := hb
        _ < G * k.format.binade + 2 * k.format.binade + k.format.binade := by omega
        _ = (G + 2 + 1) * k.format.binade := by rw [Nat.add_mul, Nat.add_mul, Nat.one_mul]
    have hG2 : (G : Int) ≤ max (t - 1 - k.format.fractionBits - k.format.leastPlace) 0 := by omega
    have hlt : r < k.format.infRung := by
      rw [ht]
      refine (Nat.div_lt_iff_lt_mul hbp).1 ?_
      cases k <;> simp [tLeast, tMost] at hl hf h1 h2 ⊢ <;> omega
    simp only [hr]
    rw [Nat.min_eq_left (Nat.le_of_lt hlt)]
    obtain ⟨s', m', e', hr', hb'⟩ := read_rung k s r hlt
    refine ⟨s', m', e', hr', fun h0 => ?_⟩
    have := hb' h0
    split at this
    · rename_i h4
      have : r / k.format.binade = 0 := Nat.div_eq_of_lt h4
      cases k <;> simp [tLeast, tMost] at hl hf h1 h2 <;> omega
    · cases k <;> simp [tLeast, tMost] at hl hf h1 h2 <;> omega
end Go.Proofs.Ytjljdnkedbejaaa
