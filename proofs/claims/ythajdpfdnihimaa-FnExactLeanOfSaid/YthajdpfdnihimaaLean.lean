/-
  The lean of a phase, of the program and of the model. No condition.
-/
import Derived.Test.YthajdpfdnihimaaSwg
import Derived.Test.YthajdpfdnihimaaShf
import Derived.Test.YthajdpfdnihimaaExpS
namespace Go.Proofs.Ythajdpfdnihimaa
open Go.RowKit

/-- Whatever lies below 2 ^ t is greater than what is at most - 2 ^ t. -/
theorem order_gt {k : FloatKind} {x y : Nat} {t : Int} (hx : Low (k.decode x) t) {n : Nat} {j : Int} (hy : k.decode y = .number true n j) (hn : n ≠ 0) (ht : t ≤ (n.log2 : Int) + j) : k.format.order x y = some .gt := by
  obtain ⟨s, m, i, hd, hm⟩ := hx
  unfold FloatKind.decode at hd hy
  simp only [Ieee.Format.order, hd, hy, Ieee.Datum.order, Option.some.injEq]
  have a1 : m <<< (i - min i j).toNat < n <<< (j - min i j).toNat ∨ (m = 0) := by
    by_cases hm0 : m = 0
    · exact .inr hm0
    · have h2 := hm hm0
      refine .inl (Nat.lt_of_lt_of_le (shift_lt (base := min i j) (by omega) hm) ?_)
      rw [Nat.shiftLeft_eq]
      calc 2 ^ (t - min i j).toNat ≤ 2 ^ (n.log2 + (j - min i j).toNat) := Nat.pow_le_pow_right (by decide) (by omega)
        _ = 2 ^ n.log2 * 2 ^ (j - min i j).toNat := Nat.pow_add ..
        _ ≤ n * 2 ^ (j - min i j).toNat := Nat.mul_le_mul_right _ (Nat.log2_self_le hn)
  have a2 : 0 < n <<< (j - min i j).toNat := by rw [Nat.shiftLeft_eq]; exact Nat.mul_pos (Nat.pos_of_ne_zero hn) (Nat.two_pow_pos _)
  have a4 : Ieee.signed true n (j - min i j).toNat < Ieee.signed s m (i - min i j).toNat := by
    have e1 : Ieee.signed true n (j - min i j).toNat = -((n <<< (j - min i j).toNat : Nat) : Int) := rfl
    have e2 : -((m <<< (i - min i j).toNat : Nat) : Int) ≤ Ieee.signed s m (i - min i j).toNat := by
      unfold Ieee.signed
      generalize m <<< (i - min i j).toNat = X
      split <;> omega
    rcases a1 with h | h
    · omega
    · subst h; simp at e2; omega
  rw [Int.compare_eq_gt]
  exact a4

theorem lq_low {d : Ieee.Datum} {t : Int} (h : Lq d t) : Low d (t + 1) := by
  obtain ⟨s, m, e, rfl, hm⟩ := h
  refine ⟨s, m, e, rfl, fun h0 => ?_⟩
  obtain ⟨a, ha, hae⟩ := hm h0
  have := (Nat.log2_lt h0).2 (Nat.lt_of_le_of_lt ha (Nat.pow_lt_pow_right (by decide) (Nat.lt_succ_self a)))
  omega

theorem exp_in {v : Option Nat} (h : SmO .f64 v 4) (hv : ∀ b, v = some b → b < 2 ^ 64) : cmpB .neq .f64 v v = false ∧ cmpB .gtr .f64 v (some 4641240890982006784) = false ∧ cmpB .lss .f64 v (some 13864612927836782592) = false := by
  obtain ⟨⟨x, rfl⟩, hl⟩ := h
  have hlow := lq_low (hl x rfl)
  have h1 := order_lt (k := .f64) (y := 4641240890982006784) (t := 5) (n := 7036874417766400) (j := -45) hlow rfl (by decide) (by decide)
  have h2 := order_gt (k := .f64) (y := 13864612927836782592) (t := 5) (n := 7036874417766400) (j := -45) hlow rfl (by decide) (by decide)
  obtain ⟨s, m, e, hd, -⟩ := hl x rfl
  have ix : Is .f64 x (some x) := ⟨by unfold nrm; rw [hd]; rfl, hv x rfl⟩
  refine ⟨neq_self ix, ?_, ?_⟩
  · unfold cmpB; simp only [ordO, Option.bind_some, h1]; rfl
  · unfold cmpB; simp only [ordO, Option.bind_some, h2]; rfl

theorem sm_neg {v : Option Nat} {t : Int} (h : SmO .f64 v t) (hv : ∀ b, v = some b → b < 2 ^ 64) : SmO .f64 (negO .f64 v) t := by
  refine ⟨?_, le_neg hv h.2⟩
  obtain ⟨⟨x, rfl⟩, -⟩ := h
  exact ⟨_, rfl⟩

/-- Half of the difference of two powers. -/
def shO (c : Option Nat) : Option Nat := fo .quo .f64 (fo .sub .f64 (expE c) (expE (negO .f64 c))) (some 4611686018427387904)
/-- A Round times this, less the lean. -/
def lnP (e c : Option Nat) : Option Nat := fo .sub .f64 (fo .mul .f64 e (shO c)) c

theorem sSinh {x : Nat} {v : Option Nat} (ix : Is .f64 x v) (hs : SmO .f64 v 4) (w : World) : Calls Try.prog 68 #[.float .f64 x] w (RetF .f64 (shO v) w) := by
  have hv : ∀ b, v = some b → b < 2 ^ 64 := fun b hb => by subst hb; obtain rfl := ix.notNaN; exact ix.2
  obtain ⟨p0, p1, p2⟩ := exp_in hs hv
  have ixn := is_neg ix
  have hvn : ∀ b, negO .f64 v = some b → b < 2 ^ 64 := fun b hb => by have h := ixn; rw [hb] at h; obtain e := h.notNaN; rw [← e]; exact h.2
  obtain ⟨n0, n1, n2⟩ := exp_in (sm_neg hs hv) hvn
  unfold shO
  go_enter Try.func68, Try.ntmps68
  go_wp2_with (first | (apply wpList_arith; rfl; simp [Arith]; rfl; rfl; (first | assumption | exact is_lit64 _ (by decide) | exact is_lit32 _ (by decide)); (first | assumption | exact is_lit64 _ (by decide) | exact is_lit32 _ (by decide)); intro Kq hKq rq nq hq; go_simp) | (apply wpList_neg; rfl; rfl; assumption; intro Kq hKq rq hq; go_simp) | (go_at_call 75; refine (sExp_any (by assumption) p0 p1 p2 _).mono ?_; rintro eq wq ⟨rq, nq, rfl, hq, rfl⟩) | (go_at_call 75; refine (sExp_any hq n0 n1 n2 _).mono ?_; rintro eq wq ⟨rq, nq, rfl, hq, rfl⟩))
  go_ret
  have he := half_quo (by assumption : Is .f64 _ (fo .sub .f64 (expE v) (expE (negO .f64 v))))
  exact ⟨_, _, rfl, he ▸ hq, rfl⟩

theorem sLnP {a x : Nat} {u v : Option Nat} (ia : Is .f64 a u) (ix : Is .f64 x v) (hs : SmO .f64 v 4) (w : World) : Calls Try.prog 59 #[.float .f64 a, .float .f64 x] w (RetF .f64 (lnP u v) w) := by
  unfold lnP
  go_enter Try.func59, Try.ntmps59
  go_wp2_with (first | (apply wpList_arith; rfl; simp [Arith]; rfl; rfl; (first | assumption | exact is_lit64 _ (by decide) | exact is_lit32 _ (by decide)); (first | assumption | exact is_lit64 _ (by decide) | exact is_lit32 _ (by decide)); intro Kq hKq rq nq hq; go_simp) | (go_at_call 68; refine (sSinh (by assumption) hs _).mono ?_; rintro eq wq ⟨rq, nq, rfl, hq, rfl⟩))
  go_ret
  exact ⟨_, _, rfl, by assumption, rfl⟩

theorem iSwells {x : Nat} {v : Option Nat} (ix : Is .f64 x v) (hs : SmO .f64 v 4) (w : World) : Calls Try.prog 69 #[.float .f64 x] w fun e w' => ∃ r1 r2 n, e = .returned (.tuple #[.float .f64 r1, .float .f64 r2]) ∧ Is .f64 r1 (shO v) ∧ w' = w.drewN n := by
  have hv : ∀ b, v = some b → b < 2 ^ 64 := fun b hb => by subst hb; obtain rfl := ix.notNaN; exact ix.2
  obtain ⟨p0, p1, p2⟩ := exp_in hs hv
  have ixn := is_neg ix
  have hvn : ∀ b, negO .f64 v = some b → b < 2 ^ 64 := fun b hb => by have h := ixn; rw [hb] at h; obtain e := h.notNaN; rw [← e]; exact h.2
  obtain ⟨n0, n1, n2⟩ := exp_in (sm_neg hs hv) hvn
  unfold shO
  go_enter Try.func69, Try.ntmps69
  go_wp2_with (first | (apply wpList_arith; rfl; simp [Arith]; rfl; rfl; (first | assumption | exact is_lit64 _ (by decide) | exact is_lit32 _ (by decide)); (first | assumption | exact is_lit64 _ (by decide) | exact is_lit32 _ (by decide)); intro Kq hKq rq nq hq; go_simp) | (apply wpList_neg; rfl; rfl; assumption; intro Kq hKq rq hq; go_simp) | (go_at_call 76; refine (exp_any (by assumption) p1 p2 _).mono ?_; rintro eq wq ⟨rq, nq, rfl, hq, rfl⟩) | (go_at_call 76; refine (exp_any hq n1 n2 _).mono ?_; rintro eq wq ⟨rq, nq, rfl, hq, rfl⟩))
  go_ret2
  exact ⟨_, _, _, rfl, by assumption, rfl⟩

theorem iLnP {a x : Nat} {u v : Option Nat} (ia : Is .f64 a u) (ix : Is .f64 x v) (hs : SmO .f64 v 4) (w : World) : Calls Try.prog 60 #[.float .f64 a, .float .f64 x] w (RetB .f64 (lnP u v) w) := by
  have hst := run_store_float Try.prog
  unfold lnP
  go_enter Try.func60, Try.ntmps60
  go_wp2_with (first | (apply wpList_arith; rfl; simp [Arith]; rfl; rfl; (first | assumption | exact is_lit64 _ (by decide) | exact is_lit32 _ (by decide)); (first | assumption | exact is_lit64 _ (by decide) | exact is_lit32 _ (by decide)); intro Kq hKq rq nq hq; go_simp) | (go_at_call 69; refine (iSwells (by assumption) hs _).mono ?_; rintro _ _ ⟨r1, r2, n1, rfl, i1, rfl⟩) | (go_at_call 52; refine (iMul2 _ ia i1 (by rw [alloc_drewN]; simp; done) (by rw [alloc_drewN]; simp; done)).mono ?_; rintro eq wq ⟨rq2, nq2, rfl, hq2, rfl⟩))
  go_ret
  refine ⟨⟨_, rfl, by assumption⟩, ?_⟩
  repeat' (first | with_reducible exact Below.refl _ _ | with_reducible assumption | (with_reducible refine Below.setCell ?_ (by first | omega | (simp; done) | (simp; omega)) _) | (with_reducible refine Below.alloc ?_ (by first | omega | (simp; done) | (simp; omega)) _) | (with_reducible refine below_drewN ?_ _) | (with_reducible refine Below.drew ?_) | (with_reducible refine Below.trans ?_ (Below.mono (by first | (with_reducible assumption) | exact Grow.below (by assumption)) (by first | omega | (simp; done) | (simp; omega)))))

theorem iAbvL {a g c : Nat} {u f v : Option Nat} (ia : Is .f64 a u) (ig : Is .f64 g f) (ic : Is .f64 c v) (hs : SmO .f64 v 4) (be bg bt : Nat) (w : World) (ct : w.cell? ⟨bt, 0, none⟩ = some (.func (.func 60) #[] #[])) (ce : w.cell? ⟨be, 0, none⟩ = some (.float .f64 a)) (cg : w.cell? ⟨bg, 0, none⟩ = some (.float .f64 g)) (ht : bt < w.heap.size) (he : be < w.heap.size) (hg : bg < w.heap.size) :
    Calls Try.prog 67 #[.float .f64 c, .pointer (some ⟨bt, 0, none⟩), .pointer (some ⟨be, 0, none⟩), .pointer (some ⟨bg, 0, none⟩)] w fun e w' => e = .returned (.bool (cmpB .gtr .f64 (lnP u v) f)) ∧ Below w.heap.size w w' := by
  have kt : ∀ w', Below w.heap.size w w' → w'.cell? ⟨bt, 0, none⟩ = some (.func (.func 60) #[] #[]) := fun w' h => by rw [h.cell (by assumption), ct]
  have ke : ∀ w', Below w.heap.size w w' → w'.cell? ⟨be, 0, none⟩ = some (.float .f64 a) := fun w' h => by rw [h.cell (by assumption), ce]
  have kg : ∀ w', Below w.heap.size w w' → w'.cell? ⟨bg, 0, none⟩ = some (.float .f64 g) := fun w' h => by rw [h.cell (by assumption), cg]
  go_enter Try.func67, Try.ntmps67
  go_wp2_with fail
  go_region_held3 (fun w' => Below w.heap.size w w') (first | with_reducible assumption | with_reducible exact (Below.refl _ _).drew | with_reducible exact Below.refl _ _ | with_reducible exact Below.trans (by with_reducible assumption) (Below.mono (by with_reducible assumption) (Below.size (by with_reducible assumption))) | (with_reducible refine below_drewN ?_ _; with_reducible assumption) | (with_reducible refine Below.drew ?_; with_reducible assumption))
    (first | (go_at_call 60; refine (iLnP ia ic hs _).mono ?_; rintro eq wq ⟨⟨rq, rfl, hq⟩, hb⟩))
  rename_i hHeld
  have hb2 : (FloatKind.f64.format.order rq g == some Ordering.gt) = cmpB .gtr .f64 (lnP u v) f := by rw [order_fo, hq.1, ig.1]; rfl
  go_wp2
  go_ret
  exact ⟨by rw [hb2]; rfl, hHeld⟩

theorem iAbvLF {a g : Nat} {u f : Option Nat} (ia : Is .f64 a u) (ig : Is .f64 g f) (be bg bt : Nat) (W0 : World) (ct : W0.cell? ⟨bt, 0, none⟩ = some (.func (.func 60) #[] #[])) (ce : W0.cell? ⟨be, 0, none⟩ = some (.float .f64 a)) (cg : W0.cell? ⟨bg, 0, none⟩ = some (.float .f64 g)) (ht : bt < W0.heap.size) (he : be < W0.heap.size) (hg : bg < W0.heap.size) (c : Nat) (v : Option Nat) (ic : Is .f64 c v) (hs : SmO .f64 v 4) (W : World) (hW : Below W0.heap.size W0 W) :
    Calls Try.prog 67 (#[.float .f64 c] ++ #[.pointer (some ⟨bt, 0, none⟩), .pointer (some ⟨be, 0, none⟩), .pointer (some ⟨bg, 0, none⟩)]) W fun e w' => e = .returned (.bool (cmpB .gtr .f64 (lnP u v) f)) ∧ Below W.heap.size W w' :=
  iAbvL ia ig ic hs be bg bt W (by rw [hW.cell (by assumption), ct]) (by rw [hW.cell (by assumption), ce]) (by rw [hW.cell (by assumption), cg]) (Nat.lt_of_lt_of_le ht hW.size) (Nat.lt_of_lt_of_le he hW.size) (Nat.lt_of_lt_of_le hg hW.size)
end Go.Proofs.Ythajdpfdnihimaa
