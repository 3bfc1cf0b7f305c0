/-
  Whether a body is bound to another one: what is asked, and what the small functions tell. No condition.
-/
import Derived.Test.YtffoogflalkpbaaInnO
import Derived.Test.YtffoogflalkpbaaVLess
import Derived.Test.YtffoogflalkpbaaAreS
import Derived.Test.YtffoogflalkpbaaHas
import Derived.Test.YtffoogflalkpbaaRow3
import Derived.Deep.RegionWith
import Derived.Deep.DeepCutAuto
namespace Go.Proofs.Ytffoogflalkpbaa
open Go.RowKit

/-- Whether a number is one of n bodies. -/
def inB (i : Int) (n : Nat) : Bool := decide (0 ≤ i) && decide (i < (n : Int))

theorem iBodyOf (a : Option Addr) (n cap : Nat) (i : Int) (w : World) :
    Calls Try.prog 16 #[.slice a n cap, .int .i64 i] w (RetV (.bool (inB i n)) w) := by
  unfold inB
  by_cases h0 : 0 ≤ i
  · have h1 : ¬ i < 0 := by omega
    by_cases h2 : i < (n : Int)
    · go_enter Try.func16, Try.ntmps16
      go_wp2
      go_ret
      exact RetV.eq 0 (by simp [h0, h2])
    · go_enter Try.func16, Try.ntmps16
      go_wp2
      go_ret
      exact RetV.eq 0 (by simp [h0, h2])
  · go_enter Try.func16, Try.ntmps16
    go_wp2
    go_ret
    exact RetV.eq 0 (by simp; omega)

theorem cellsB {w W : World} {b off m : Nat} {f : Nat → Nat} (h : Below w.heap.size w W) (hb : b < w.heap.size) (hr : ∀ i, i < m → w.cell? ⟨b, off + i, none⟩ = some (.float .f32 (f i))) : ∀ i, i < m → W.cell? ⟨b, off + i, none⟩ = some (.float .f32 (f i)) := fun i hi => (h.cell (p := ⟨b, off + i, none⟩) hb).trans (hr i hi)
theorem cells7f {w : World} {b off n : Nat} {f : Nat → Nat} (h : ∀ i, i < 7 * n → w.cell? ⟨b, off + i, none⟩ = some (.float .f32 (f i))) {k : Nat} (hk : k < n) :
    w.cell? ⟨b, off + k * 7, none⟩ = some (.float .f32 (f (7 * k))) ∧ w.cell? ⟨b, off + k * 7 + 1, none⟩ = some (.float .f32 (f (7 * k + 1))) ∧ w.cell? ⟨b, off + k * 7 + 2, none⟩ = some (.float .f32 (f (7 * k + 2))) ∧ w.cell? ⟨b, off + k * 7 + 3, none⟩ = some (.float .f32 (f (7 * k + 3))) ∧ w.cell? ⟨b, off + k * 7 + 3 + 1, none⟩ = some (.float .f32 (f (7 * k + 4))) ∧ w.cell? ⟨b, off + k * 7 + 3 + 2, none⟩ = some (.float .f32 (f (7 * k + 5))) ∧ w.cell? ⟨b, off + k * 7 + 6, none⟩ = some (.float .f32 (f (7 * k + 6))) := cells7 h hk

theorem upon_arith {P : Program} {o : Oper} {a : Act} {K : Act → World → Prop} {Q : Exit → Act → World → Prop} {op : BinOp} {t : TypeId} {k : FloatKind} {x y : Nat} {va vb : Option Nat} {w : World} (hop : Arith op) (ix : Is k x va) (iy : Is k y vb)
    (h : ∀ r n, Is k r (fo op k va vb) → K (a.put o.dst (.float k r)) (w.drewN n)) :
    Oper.upon P o a K Q (((binOp op t (.float k x) (.float k y)).run P w).andThen fun v w' => .ok (.value v) w') := by
  obtain ⟨r, n, hr, hi⟩ := run_arith P w hop t k x y ix iy
  rw [hr]
  exact h r n hi

/-- The energy of two bodies. -/
def bndE (v : Nat → Option Nat) (i k : Nat) : Option Nat :=
  fo .sub .f32 (fo .mul .f32 (some 1056964608) (innerO (fo .sub .f32 (v (7 * k + 3)) (v (7 * i + 3))) (fo .sub .f32 (v (7 * k + 4)) (v (7 * i + 4))) (fo .sub .f32 (v (7 * k + 5)) (v (7 * i + 5))) (fo .sub .f32 (v (7 * k + 3)) (v (7 * i + 3))) (fo .sub .f32 (v (7 * k + 4)) (v (7 * i + 4))) (fo .sub .f32 (v (7 * k + 5)) (v (7 * i + 5)))))
    (fo .quo .f32 (fo .add .f32 (v (7 * i + 6)) (v (7 * k + 6))) (rootO (innerO (fo .sub .f32 (v (7 * k)) (v (7 * i))) (fo .sub .f32 (v (7 * k + 1)) (v (7 * i + 1))) (fo .sub .f32 (v (7 * k + 2)) (v (7 * i + 2))) (fo .sub .f32 (v (7 * k)) (v (7 * i))) (fo .sub .f32 (v (7 * k + 1)) (v (7 * i + 1))) (fo .sub .f32 (v (7 * k + 2)) (v (7 * i + 2))))))

/-- Whether this is asked of two bodies, and told. -/
def bndG (v : Nat → Option Nat) (n : Nat) (i k : Int) : Bool := areB v n && inB i n && inB k n && !decide (i = k)
def bndO (v : Nat → Option Nat) (n : Nat) (i k : Int) : Bool := bndG v n i k && finS (bndE v i.toNat k.toNat)
def bndB (v : Nat → Option Nat) (n : Nat) (i k : Int) : Bool := bndO v n i k && cmpB .lss .f32 (bndE v i.toNat k.toNat) (some 0)

end Go.Proofs.Ytffoogflalkpbaa
