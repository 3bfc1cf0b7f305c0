/-
  What the small functions on the bits of a 32-bit number give, of the program and of the model: bits, the number with some bits, sameness, being finite; and that the comparison of two results says yes where both stand for the same. No condition.
-/
import Derived.Test.YtjljdnkedbejaaaChecked
import Derived.Test.YtjljdnkedbejaaaNum
import Derived.KernelRfl
namespace Go.Proofs.Ytjljdnkedbejaaa
open Go.RowKit

/-- A call hands back a word that stands for 'v'; the world has only drawn. -/
def RetF (k : FloatKind) (v : Option Nat) (w : World) (e : Ending) (w' : World) : Prop := ∃ r n, e = .returned (.float k r) ∧ Is k r v ∧ w' = w.drewN n
/-- A call hands back a value; the world has only drawn. -/
def RetV (v : Value) (w : World) (e : Ending) (w' : World) : Prop := ∃ n, e = .returned v ∧ w' = w.drewN n

theorem RetV.mk {v : Value} {w : World} (n : Nat) : RetV v w (.returned v) (w.drewN n) := ⟨n, rfl, rfl⟩
theorem RetV.mk0 {v : Value} {w : World} : RetV v w (.returned v) w := ⟨0, rfl, rfl⟩
theorem RetV.eq {v u : Value} {w : World} (n : Nat) (h : u = v) : RetV v w (.returned u) (w.drewN n) := ⟨n, by rw [h], rfl⟩

/-- The bits of a number, as the model tells them. -/
def bitsI (v : Option Nat) : Int := match v with | none => 2143289344 | some b => (b : Int)

theorem ordO_self {k : FloatKind} {b x : Nat} (h : Is k b (some x)) : ordO k (some x) (some x) = some .eq := by
  obtain rfl := h.notNaN
  have hn : (k.decode b).isNaN = false := h.dec
  unfold FloatKind.decode at hn
  simp only [ordO, Option.bind_some, Ieee.Format.order]
  cases hd : k.format.read b with
  | number s m e => simp [Ieee.Datum.order, Std.ReflCmp.compare_self]
  | infinity s => simp [Ieee.Datum.order]
  | nan s f => rw [hd] at hn; cases hn

theorem neq_none (k : FloatKind) : cmpB .neq k none none = true := rfl
theorem neq_self {k : FloatKind} {b x : Nat} (h : Is k b (some x)) : cmpB .neq k (some x) (some x) = false := by simp [cmpB, ordO_self h]
theorem eql_self {k : FloatKind} {b x : Nat} (h : Is k b (some x)) : cmpB .eql k (some x) (some x) = true := by simp [cmpB, ordO_self h]

theorem is_lit64 (b : Nat) (h : (nrm .f64 b == some b && decide (b < 2 ^ 64)) = true) : Is .f64 b (some b) := by
  simp at h; exact ⟨h.1, h.2⟩
theorem is_lit32 (b : Nat) (h : (nrm .f32 b == some b && decide (b < 2 ^ 32)) = true) : Is .f32 b (some b) := by
  simp at h; exact ⟨h.1, h.2⟩

theorem is_zero64 : Is .f64 0 (some 0) := is_lit64 0 (by decide)
theorem is_one64 : Is .f64 4607182418800017408 (some 4607182418800017408) := is_lit64 _ (by decide)
end Go.Proofs.Ytjljdnkedbejaaa
