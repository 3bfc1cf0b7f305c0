/-
  Lists of turned bodies, of the program. No condition.
-/
import Derived.Test.YtfcfejniodbbdaaTrn
namespace Go.Proofs.Ytfcfejniodbbdaa
open Go.RowKit

/-- Cosine and sine of a turn. -/
def cosT (t : Option Nat) : Option Nat := sinT (fo .add .f32 t (some 1048576000))
/-- The values of bodies turned by t. -/
def tunV (v : Nat → Option Nat) (t : Option Nat) : Nat → Option Nat := trnV v (cosT t) (sinT t)
/-- Whether turned bodies are handed back. -/
def tunOk (v : Nat → Option Nat) (t : Option Nat) (n : Nat) : Bool := finS t && (areB v n && areB (tunV v t) n)

theorem RetList.mono {u : Nat → Option Nat} {n : Nat} {ok : Bool} {w X W : World} {e : Ending} (h : RetList u n ok X e W) (hb : Below w.heap.size w X) : RetList u n ok w e W := by
  obtain ⟨⟨v, he, hr⟩, hB⟩ := h
  refine ⟨⟨v, he, ?_⟩, hb.trans (hB.mono hb.size)⟩
  rcases hr with h | ⟨g, c, r, e', hl, hh, ho, hi⟩
  · exact .inl h
  · exact .inr ⟨g, c, r, e', Nat.le_trans hb.size hl, hh, ho, hi⟩

theorem has_alloc1 (w : World) (a : Value) (T : TypeId) : Has w.heap.size 1 (w.alloc (.cells #[a] T)) := by
  refine ⟨by simp, fun o ho => ?_, fun o => by simp⟩
  match o, ho with
  | 0, _ => simp

theorem cell_alloc1 (w : World) (a : Value) (T : TypeId) : (w.alloc (.cells #[a] T)).cell? ⟨w.heap.size, 0, none⟩ = some a := by simp

theorem cellE {b : Nat} {w : World} {a : Value} {T : TypeId} (h : b = w.heap.size) : (w.alloc (.cells #[a] T)).cell? ⟨b, 0, none⟩ = some a := by subst h; exact cell_alloc1 _ _ _

theorem iTurnC (b off n cap : Nat) (f : Nat → Nat) (v : Nat → Option Nat) {cw sw : Nat} {c s : Option Nat} (gc : Is .f32 cw c) (gs : Is .f32 sw s) (pb ps : Nat) (W : World) (hn : n ≤ 1048576) (hb : b < W.heap.size) (hr : ∀ i, i < 7 * n → W.cell? ⟨b, off + i, none⟩ = some (.float .f32 (f i))) (hv : ∀ i, i < 7 * n → Is .f32 (f i) (v i))
    (lb : pb < W.heap.size) (ls : ps < W.heap.size) (d0 : W.cell? ⟨pb, 0, none⟩ = some (.float .f32 cw)) (e0 : W.cell? ⟨ps, 0, none⟩ = some (.float .f32 sw)) :
    Calls Try.prog 20 #[.slice (some ⟨b, off, none⟩) n cap, .func (.func 21) #[] #[.pointer (some ⟨pb, 0, none⟩), .pointer (some ⟨ps, 0, none⟩)]] W (RetList (trnV v c s) n (areB v n && areB (trnV v c s) n) W) :=
  iChangedC 21 #[.pointer (some ⟨pb, 0, none⟩), .pointer (some ⟨ps, 0, none⟩)] b off n cap f v (trnV v c s) W hn hb hr hv (enters_of Try.func21 (by kernel_rfl) rfl) (fun k hk X hX => (iTrnF (hv (7 * k) (by omega)) (hv (7 * k + 1) (by omega)) (hv (7 * k + 2) (by omega)) (hv (7 * k + 3) (by omega)) (hv (7 * k + 4) (by omega)) (hv (7 * k + 5) (by omega)) gc gs pb ps X (Nat.lt_of_lt_of_le lb hX.size) (Nat.lt_of_lt_of_le ls hX.size) ((hX.cell (p := ⟨pb, 0, none⟩) lb).trans d0) ((hX.cell (p := ⟨ps, 0, none⟩) ls).trans e0)).mono fun e w' ⟨⟨r0, r1, r2, r3, r4, r5, he, i0, i1, i2, i3, i4, i5⟩, hb⟩ => ⟨⟨_, _, _, _, _, _, _, he, by rw [trnV_0]; exact i0, by rw [trnV_1]; exact i1, by rw [trnV_2]; exact i2, by rw [trnV_3]; exact i3, by rw [trnV_4]; exact i4, by rw [trnV_5]; exact i5, by rw [trnV_6]; exact hv _ (by omega)⟩, hb⟩)

set_option maxHeartbeats 1600000 in
theorem iTurn (b off n cap : Nat) (f : Nat → Nat) (v : Nat → Option Nat) {t : Nat} {y : Option Nat} (it : Is .f32 t y) (w : World) (hn : n ≤ 1048576) (hb : b < w.heap.size) (hr : ∀ i, i < 7 * n → w.cell? ⟨b, off + i, none⟩ = some (.float .f32 (f i))) (hv : ∀ i, i < 7 * n → Is .f32 (f i) (v i)) :
    Calls Try.prog 7 #[.slice (some ⟨b, off, none⟩) n cap, .float .f32 t] w (RetList (tunV v y) n (tunOk v y n) w) := by
  have HR := Lib.hid hr
  have HV := Lib.hid hv
  clear hr hv
  unfold tunOk
  have FA := sFinite it
  cases hA : finS y with
  | false =>
    rw [hA] at FA
    go_enter Try.func7, Try.ntmps7
    go_wp2_with (go_at_call 18; refine (FA _).mono ?_; rintro eq wq ⟨nq, rfl, rfl⟩)
    go_ret2
    exact RetList.no (by repeat' (first | with_reducible exact Below.refl _ _ | with_reducible assumption | (with_reducible refine Below.setCell ?_ (by first | omega | (simp; done) | (simp; omega)) _) | (with_reducible refine Below.alloc ?_ (by first | omega | (simp; done) | (simp; omega)) _) | (with_reducible refine below_drewN ?_ _) | (with_reducible refine Below.drew ?_) | (with_reducible refine Below.trans ?_ (Below.mono (by first | (with_reducible assumption) | exact Grow.below (by assumption)) (by first | omega | (simp; done) | (simp; omega))))))
  | true =>
    rw [hA] at FA
    rw [show (true && (areB v n && areB (tunV v y) n)) = (areB v n && areB (tunV v y) n) from rfl]
    have hst := run_store_float Try.prog
    have bA : ∀ (W : World) (o p : Obj), Below (W.heap.size + 1) (W.alloc o) ((W.alloc o).alloc p) := fun W o p => (Below.refl _ _).alloc (by simp) _
    have fz0 : ∀ N, (((w.drewN N).alloc (.cells #[.float .f32 0] 23)).alloc (.cells #[.float .f32 0] 23)).frozen? ⟨w.heap.size, 0, none⟩ = false := fun N => by
      rw [(bA _ _ _).frozen (p := ⟨w.heap.size, 0, none⟩) (by simp)]
      have := (has_alloc1 (w.drewN N) (.float .f32 0) 23).frz 0
      simpa using this
    have fz1 : ∀ N, (((w.drewN N).alloc (.cells #[.float .f32 0] 23)).alloc (.cells #[.float .f32 0] 23)).frozen? ⟨w.heap.size + 1, 0, none⟩ = false := fun N => by
      have := (has_alloc1 ((w.drewN N).alloc (.cells #[.float .f32 0] 23)) (.float .f32 0) 23).frz 0
      simpa using this
    have cz0 : ∀ N, (((w.drewN N).alloc (.cells #[.float .f32 0] 23)).alloc (.cells #[.float .f32 0] 23)).cell? ⟨w.heap.size, 0, none⟩ = some (.float .f32 0) := fun N => by
      rw [(bA _ _ _).cell (p := ⟨w.heap.size, 0, none⟩) (by simp)]; exact cell_alloc1 (w.drewN N) _ _
    have cz1 : ∀ N, (((w.drewN N).alloc (.cells #[.float .f32 0] 23)).alloc (.cells #[.float .f32 0] 23)).cell? ⟨w.heap.size + 1, 0, none⟩ = some (.float .f32 0) := fun N => by
      rw [show w.heap.size + 1 = ((w.drewN N).alloc (.cells #[.float .f32 0] 23)).heap.size by simp]; exact cell_alloc1 _ _ _
    go_enter Try.func7, Try.ntmps7
    go_wp2_with (first | (go_at_call 18; refine (FA _).mono ?_; rintro eq wq ⟨nq, rfl, rfl⟩) | (apply wpList_arith; rfl; simp [Arith]; rfl; rfl; (first | assumption | exact is_lit64 _ (by decide) | exact is_lit32 _ (by decide)); (first | assumption | exact is_lit64 _ (by decide) | exact is_lit32 _ (by decide)); intro Kq hKq rq nq hq; go_simp) | (go_at_call 19; refine (iSinT (by assumption) _).mono ?_; rintro eq wq ⟨rq, nq, rfl, hq, rfl⟩))
    refine Calls.mono (iTurnC b off n cap f v (c := cosT y) (s := sinT y) (by assumption) (by assumption) _ _ _ hn ?hB ?hR HV.out ?lb ?ls ?d0 ?e0) ?_
    case hB => simp; omega
    case hR => intro i hi; rw [← HR.out i hi]; refine Below.cell (B := w.heap.size) ?_ hb; repeat' (first | with_reducible exact Below.refl _ _ | with_reducible assumption | (with_reducible refine Below.setCell ?_ (by first | omega | (simp; done) | (simp; omega)) _) | (with_reducible refine Below.alloc ?_ (by first | omega | (simp; done) | (simp; omega)) _) | (with_reducible refine below_drewN ?_ _) | (with_reducible refine Below.drew ?_) | (with_reducible refine Below.trans ?_ (Below.mono (by first | (with_reducible assumption) | exact Grow.below (by assumption)) (by first | omega | (simp; done) | (simp; omega)))))
    case lb => simp; omega
    case ls => simp
    case d0 =>
      rw [((Below.refl (w.heap.size + 1) _).alloc (by simp) _).cell (p := ⟨w.heap.size, 0, none⟩) (by simp)]
      exact World.cell?_setCell_same _ _ _ (cell_alloc1 (w.drewN _) _ _)
    case e0 => exact cellE (by simp)
    rintro _ W3 ⟨⟨v1, rfl, h1⟩, b3⟩
    go_wp2_with fail
    go_ret2
    exact RetList.mono ⟨⟨_, rfl, h1⟩, b3⟩ (by repeat' (first | with_reducible exact Below.refl _ _ | with_reducible assumption | (with_reducible refine Below.setCell ?_ (by first | omega | (simp; done) | (simp; omega)) _) | (with_reducible refine Below.alloc ?_ (by first | omega | (simp; done) | (simp; omega)) _) | (with_reducible refine below_drewN ?_ _) | (with_reducible refine Below.drew ?_) | (with_reducible refine Below.trans ?_ (Below.mono (by first | (with_reducible assumption) | exact Grow.below (by assumption)) (by first | omega | (simp; done) | (simp; omega))))))
end Go.Proofs.Ytfcfejniodbbdaa
