/-
  What stays below a block that is written at last: plain facts. No condition.
-/
import Derived.Test.YtngjpbfiijkibaaSFn
import Derived.Test.YtngjpbfiijkibaaHas
import Derived.Test.YtngjpbfiijkibaaNumT
namespace Go.Proofs.Ytngjpbfiijkibaa
open Go.RowKit

def finV (a b c : Option Nat) : Bool := finS a && finS b && finS c

theorem sFinV {a0 a1 a2 : Nat} {x0 x1 x2 : Option Nat} (h0 : Is .f32 a0 x0) (h1 : Is .f32 a1 x1) (h2 : Is .f32 a2 x2) (w : World) :
    Calls Try.prog 22 #[vecV a0 a1 a2] w fun e w' => e = .returned (.bool (finV x0 x1 x2)) ∧ Grow 1 w w' := by
  unfold finV
  cases hA : finS x0 with
  | false =>
    go_enter Try.func22, Try.ntmps22
    go_wp2_with (go_at_call 23; refine (finite_any (by assumption) _).mono ?_; rintro eq wq ⟨nq, rfl, rfl⟩)
    go_ret
    refine ⟨rfl, ?_, by simp⟩
    repeat' (first | with_reducible exact Below.refl _ _ | with_reducible assumption | (with_reducible refine Below.setCell ?_ (by first | omega | (simp; done) | (simp; omega)) _) | (with_reducible refine Below.alloc ?_ (by first | omega | (simp; done) | (simp; omega)) _) | (with_reducible refine below_drewN ?_ _) | (with_reducible refine Below.drew ?_) | (with_reducible refine Below.trans ?_ (Below.mono (by first | (with_reducible assumption) | exact Grow.below (by assumption)) (by first | omega | (simp; done) | (simp; omega)))))
  | true =>
    cases hB : finS x1 with
    | false =>
      go_enter Try.func22, Try.ntmps22
      go_wp2_with (go_at_call 23; refine (finite_any (by assumption) _).mono ?_; rintro eq wq ⟨nq, rfl, rfl⟩)
      go_ret
      refine ⟨rfl, ?_, by simp⟩
      repeat' (first | with_reducible exact Below.refl _ _ | with_reducible assumption | (with_reducible refine Below.setCell ?_ (by first | omega | (simp; done) | (simp; omega)) _) | (with_reducible refine Below.alloc ?_ (by first | omega | (simp; done) | (simp; omega)) _) | (with_reducible refine below_drewN ?_ _) | (with_reducible refine Below.drew ?_) | (with_reducible refine Below.trans ?_ (Below.mono (by first | (with_reducible assumption) | exact Grow.below (by assumption)) (by first | omega | (simp; done) | (simp; omega)))))
    | true =>
      go_enter Try.func22, Try.ntmps22
      go_wp2_with (go_at_call 23; refine (finite_any (by assumption) _).mono ?_; rintro eq wq ⟨nq, rfl, rfl⟩)
      go_ret
      refine ⟨rfl, ?_, by simp⟩
      repeat' (first | with_reducible exact Below.refl _ _ | with_reducible assumption | (with_reducible refine Below.setCell ?_ (by first | omega | (simp; done) | (simp; omega)) _) | (with_reducible refine Below.alloc ?_ (by first | omega | (simp; done) | (simp; omega)) _) | (with_reducible refine below_drewN ?_ _) | (with_reducible refine Below.drew ?_) | (with_reducible refine Below.trans ?_ (Below.mono (by first | (with_reducible assumption) | exact Grow.below (by assumption)) (by first | omega | (simp; done) | (simp; omega)))))

theorem iFinV {a0 a1 a2 : Nat} {x0 x1 x2 : Option Nat} (h0 : Is .f32 a0 x0) (h1 : Is .f32 a1 x1) (h2 : Is .f32 a2 x2) (w : World) :
    Calls Try.prog 26 #[vecV a0 a1 a2] w fun e w' => e = .returned (.bool (finV x0 x1 x2)) ∧ Grow 1 w w' := by
  unfold finV
  cases hA : finS x0 with
  | false =>
    go_enter Try.func26, Try.ntmps26
    go_wp2_with (go_at_call 27; refine (sFinite (by assumption) _).mono ?_; rintro eq wq ⟨nq, rfl, rfl⟩)
    go_ret
    refine ⟨rfl, ?_, by simp⟩
    repeat' (first | with_reducible exact Below.refl _ _ | with_reducible assumption | (with_reducible refine Below.setCell ?_ (by first | omega | (simp; done) | (simp; omega)) _) | (with_reducible refine Below.alloc ?_ (by first | omega | (simp; done) | (simp; omega)) _) | (with_reducible refine below_drewN ?_ _) | (with_reducible refine Below.drew ?_) | (with_reducible refine Below.trans ?_ (Below.mono (by first | (with_reducible assumption) | exact Grow.below (by assumption)) (by first | omega | (simp; done) | (simp; omega)))))
  | true =>
    cases hB : finS x1 with
    | false =>
      go_enter Try.func26, Try.ntmps26
      go_wp2_with (go_at_call 27; refine (sFinite (by assumption) _).mono ?_; rintro eq wq ⟨nq, rfl, rfl⟩)
      go_ret
      refine ⟨rfl, ?_, by simp⟩
      repeat' (first | with_reducible exact Below.refl _ _ | with_reducible assumption | (with_reducible refine Below.setCell ?_ (by first | omega | (simp; done) | (simp; omega)) _) | (with_reducible refine Below.alloc ?_ (by first | omega | (simp; done) | (simp; omega)) _) | (with_reducible refine below_drewN ?_ _) | (with_reducible refine Below.drew ?_) | (with_reducible refine Below.trans ?_ (Below.mono (by first | (with_reducible assumption) | exact Grow.below (by assumption)) (by first | omega | (simp; done) | (simp; omega)))))
    | true =>
      go_enter Try.func26, Try.ntmps26
      go_wp2_with (go_at_call 27; refine (sFinite (by assumption) _).mono ?_; rintro eq wq ⟨nq, rfl, rfl⟩)
      go_ret
      refine ⟨rfl, ?_, by simp⟩
      repeat' (first | with_reducible exact Below.refl _ _ | with_reducible assumption | (with_reducible refine Below.setCell ?_ (by first | omega | (simp; done) | (simp; omega)) _) | (with_reducible refine Below.alloc ?_ (by first | omega | (simp; done) | (simp; omega)) _) | (with_reducible refine below_drewN ?_ _) | (with_reducible refine Below.drew ?_) | (with_reducible refine Below.trans ?_ (Below.mono (by first | (with_reducible assumption) | exact Grow.below (by assumption)) (by first | omega | (simp; done) | (simp; omega)))))

theorem zeroW : Is .f32 0 (some 0) := is_lit32 0 (by decide)
/-- A vector is handed back, and whether it is good. -/
def RetVB (v0 v1 v2 : Option Nat) (ok : Bool) (w : World) (e : Ending) (w' : World) : Prop := (∃ r0 r1 r2, e = .returned (.tuple #[vecV r0 r1 r2, .bool ok]) ∧ Is .f32 r0 v0 ∧ Is .f32 r1 v1 ∧ Is .f32 r2 v2) ∧ Below w.heap.size w w'

/-- A part of a vector if the vector is finite. -/
def finP (a b c v : Option Nat) : Option Nat := if finV a b c then v else some 0
theorem finP_t {a b c v : Option Nat} (h : finV a b c = true) : finP a b c v = v := by simp [finP, h]
theorem finP_f {a b c v : Option Nat} (h : finV a b c = false) : finP a b c v = some 0 := by simp [finP, h]

theorem iFinVec {a0 a1 a2 : Nat} {x0 x1 x2 : Option Nat} (h0 : Is .f32 a0 x0) (h1 : Is .f32 a1 x1) (h2 : Is .f32 a2 x2) (w : World) :
    Calls Try.prog 44 #[vecV a0 a1 a2] w (RetVB (finP x0 x1 x2 x0) (finP x0 x1 x2 x1) (finP x0 x1 x2 x2) (finV x0 x1 x2) w) := by
  have hst := run_store_float Try.prog
  cases h : finV x0 x1 x2 with
  | false =>
    rw [finP_f h, finP_f h, finP_f h]
    go_enter Try.func44, Try.ntmps44
    go_wp2_with (go_at_call 26; refine (iFinV h0 h1 h2 _).mono ?_; rintro eq wq ⟨rfl, hb⟩; obtain ⟨hc, hf⟩ := bcell hb.1; have hz := hb.2; try simp at hz)
    refine bodyPost_ret (v := .tuple #[vecV 0 0 0, .bool false]) (by simp [results, Try.results44, go_sem, hc, hz]) rfl ⟨⟨_, _, _, rfl, zeroW, zeroW, zeroW⟩, ?_⟩
    repeat' (first | with_reducible exact Below.refl _ _ | with_reducible assumption | (with_reducible refine Below.setCell ?_ (by first | omega | (simp; done) | (simp; omega)) _) | (with_reducible refine Below.alloc ?_ (by first | omega | (simp; done) | (simp; omega)) _) | (with_reducible refine below_drewN ?_ _) | (with_reducible refine Below.drew ?_) | (with_reducible refine Below.trans ?_ (Below.mono (by first | (with_reducible assumption) | exact Grow.below (by assumption)) (by first | omega | (simp; done) | (simp; omega)))))
  | true =>
    rw [finP_t h, finP_t h, finP_t h]
    go_enter Try.func44, Try.ntmps44
    go_wp2_with (go_at_call 26; refine (iFinV h0 h1 h2 _).mono ?_; rintro eq wq ⟨rfl, hb⟩; obtain ⟨hc, hf⟩ := bcell hb.1; have hz := hb.2; try simp at hz)
    refine bodyPost_ret (v := .tuple #[vecV a0 a1 a2, .bool true]) (by simp [results, Try.results44, go_sem, hc, hz]) rfl ⟨⟨_, _, _, rfl, h0, h1, h2⟩, ?_⟩
    repeat' (first | with_reducible exact Below.refl _ _ | with_reducible assumption | (with_reducible refine Below.setCell ?_ (by first | omega | (simp; done) | (simp; omega)) _) | (with_reducible refine Below.alloc ?_ (by first | omega | (simp; done) | (simp; omega)) _) | (with_reducible refine below_drewN ?_ _) | (with_reducible refine Below.drew ?_) | (with_reducible refine Below.trans ?_ (Below.mono (by first | (with_reducible assumption) | exact Grow.below (by assumption)) (by first | omega | (simp; done) | (simp; omega)))))

theorem sFinVec {a0 a1 a2 : Nat} {x0 x1 x2 : Option Nat} (h0 : Is .f32 a0 x0) (h1 : Is .f32 a1 x1) (h2 : Is .f32 a2 x2) (w : World) :
    Calls Try.prog 62 #[vecV a0 a1 a2] w (RetVB (finP x0 x1 x2 x0) (finP x0 x1 x2 x1) (finP x0 x1 x2 x2) (finV x0 x1 x2) w) := by
  have hst := run_store_float Try.prog
  cases h : finV x0 x1 x2 with
  | false =>
    rw [finP_f h, finP_f h, finP_f h]
    go_enter Try.func62, Try.ntmps62
    go_wp2_with (go_at_call 22; refine (sFinV h0 h1 h2 _).mono ?_; rintro eq wq ⟨rfl, hb⟩; obtain ⟨hc, hf⟩ := bcell hb.1; have hz := hb.2; try simp at hz)
    refine bodyPost_ret (v := .tuple #[vecV 0 0 0, .bool false]) (by simp [results, Try.results62, go_sem, hc, hz]) rfl ⟨⟨_, _, _, rfl, zeroW, zeroW, zeroW⟩, ?_⟩
    repeat' (first | with_reducible exact Below.refl _ _ | with_reducible assumption | (with_reducible refine Below.setCell ?_ (by first | omega | (simp; done) | (simp; omega)) _) | (with_reducible refine Below.alloc ?_ (by first | omega | (simp; done) | (simp; omega)) _) | (with_reducible refine below_drewN ?_ _) | (with_reducible refine Below.drew ?_) | (with_reducible refine Below.trans ?_ (Below.mono (by first | (with_reducible assumption) | exact Grow.below (by assumption)) (by first | omega | (simp; done) | (simp; omega)))))
  | true =>
    rw [finP_t h, finP_t h, finP_t h]
    go_enter Try.func62, Try.ntmps62
    go_wp2_with (go_at_call 22; refine (sFinV h0 h1 h2 _).mono ?_; rintro eq wq ⟨rfl, hb⟩; obtain ⟨hc, hf⟩ := bcell hb.1; have hz := hb.2; try simp at hz)
    refine bodyPost_ret (v := .tuple #[vecV a0 a1 a2, .bool true]) (by simp [results, Try.results62, go_sem, hc, hz]) rfl ⟨⟨_, _, _, rfl, h0, h1, h2⟩, ?_⟩
    repeat' (first | with_reducible exact Below.refl _ _ | with_reducible assumption | (with_reducible refine Below.setCell ?_ (by first | omega | (simp; done) | (simp; omega)) _) | (with_reducible refine Below.alloc ?_ (by first | omega | (simp; done) | (simp; omega)) _) | (with_reducible refine below_drewN ?_ _) | (with_reducible refine Below.drew ?_) | (with_reducible refine Below.trans ?_ (Below.mono (by first | (with_reducible assumption) | exact Grow.below (by assumption)) (by first | omega | (simp; done) | (simp; omega)))))

theorem upon_arith {P : Program} {o : Oper} {a : Act} {K : Act → World → Prop} {Q : Exit → Act → World → Prop} {op : BinOp} {t : TypeId} {k : FloatKind} {x y : Nat} {va vb : Option Nat} {w : World} (hop : Arith op) (ix : Is k x va) (iy : Is k y vb)
    (h : ∀ r n, Is k r (fo op k va vb) → K (a.put o.dst (.float k r)) (w.drewN n)) :
    Oper.upon P o a K Q (((binOp op t (.float k x) (.float k y)).run P w).andThen fun v w' => .ok (.value v) w') := by
  obtain ⟨r, n, hr, hi⟩ := run_arith P w hop t k x y ix iy
  rw [hr]
  exact h r n hi

theorem upon_neg {P : Program} {o : Oper} {a : Act} {K : Act → World → Prop} {Q : Exit → Act → World → Prop} {k : FloatKind} {x : Nat} {va : Option Nat} {w : World} (ix : Is k x va)
    (h : ∀ r, Is k r (negO k va) → K (a.put o.dst (.float k r)) w) :
    Oper.upon P o a K Q (((Op.unary .neg (.float k x)).run P w).andThen fun v w' => .ok (.value v) w') := by
  have hr : (Op.unary .neg (.float k x)).run P w = .ok (.float k (Op.negFloat k x)) w := by simp [Op.unary]
  rw [hr]
  exact h _ (is_neg ix)

/-- The blocks below B are as in a world, and a block of three cells is there. -/
def KeepS (B : Nat) (st : World) (R : Nat) (w' : World) : Prop := B ≤ st.heap.size ∧ Below B st w' ∧ Has R 3 w'
theorem KeepS.drew {B R : Nat} {st X : World} (h : KeepS B st R X) : KeepS B st R X.drew := ⟨h.1, h.2.1.drew, h.2.2.drew⟩
theorem KeepS.drewN {B R : Nat} {st X : World} (h : KeepS B st R X) (n : Nat) : KeepS B st R (X.drewN n) := ⟨h.1, below_drewN h.2.1 n, h.2.2.drewN n⟩
theorem KeepS.at {B R : Nat} {st X Y : World} (h : KeepS B st R X) (g : Below X.heap.size X Y) : KeepS B st R Y :=
  ⟨h.1, h.2.1.trans (g.mono (Nat.le_trans h.1 h.2.1.size)), h.2.2.at g⟩
theorem KeepS.alloc {B R : Nat} {st X : World} (h : KeepS B st R X) (o : Obj) : KeepS B st R (X.alloc o) := h.at ((Below.refl _ _).alloc (Nat.le_refl _) o)
theorem KeepS.set3 {B R : Nat} {st X : World} (h : KeepS B st R X) (hB : B ≤ R) (u0 u1 u2 : Value) : KeepS B st R (((X.setCell ⟨R, 0, none⟩ u0).setCell ⟨R, 1, none⟩ u1).setCell ⟨R, 2, none⟩ u2) :=
  ⟨h.1, ((h.2.1.setCell (by exact hB) u0).setCell (by exact hB) u1).setCell (by exact hB) u2, ((h.2.2.setCell _ _).setCell _ _).setCell _ _⟩
theorem KeepS.setb {B R b : Nat} {st X : World} (h : KeepS B st R X) (hB : B ≤ b) (u0 u1 u2 : Value) : KeepS B st R (((X.setCell ⟨b, 0, none⟩ u0).setCell ⟨b, 1, none⟩ u1).setCell ⟨b, 2, none⟩ u2) :=
  ⟨h.1, ((h.2.1.setCell (by exact hB) u0).setCell (by exact hB) u1).setCell (by exact hB) u2, ((h.2.2.setCell _ _).setCell _ _).setCell _ _⟩
theorem KeepS.cells {B R : Nat} {st X : World} (h : KeepS B st R X) : X.cell? ⟨R, 0, none⟩ = some (rdc X R 0) ∧ X.cell? ⟨R, 1, none⟩ = some (rdc X R 1) ∧ X.cell? ⟨R, 2, none⟩ = some (rdc X R 2) ∧ ∀ o, X.frozen? ⟨R, o, none⟩ = false :=
  ⟨h.2.2.cell (by decide), h.2.2.cell (by decide), h.2.2.cell (by decide), h.2.2.frz⟩

theorem KeepS.fresh3 {B R : Nat} {st X : World} (h : KeepS B st R X) (a b c : Value) (T : TypeId) : Has X.heap.size 3 (X.alloc (.cells #[a, b, c] T)) ∧ B ≤ X.heap.size ∧ KeepS B st R (X.alloc (.cells #[a, b, c] T)) :=
  ⟨has_alloc3 X a b c T, Nat.le_trans h.1 h.2.1.size, h.alloc _⟩

theorem RetF.belowF {k : FloatKind} {v : Option Nat} {w w' : World} {e : Ending} (h : RetF k v w e w') : (∃ r, e = .returned (.float k r) ∧ Is k r v) ∧ Below w.heap.size w w' := by
  obtain ⟨r, n, he, hi, hw⟩ := h
  exact ⟨⟨r, he, hi⟩, by rw [hw]; exact below_drewN (Below.refl _ _) _⟩
end Go.Proofs.Ytngjpbfiijkibaa
