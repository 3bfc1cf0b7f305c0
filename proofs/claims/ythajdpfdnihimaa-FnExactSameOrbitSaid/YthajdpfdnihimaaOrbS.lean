/-
  Whether six numbers are an orbit, of the model, and that the program says the same; the copy of an orbit that the laws make. No condition.
-/
import Derived.Test.YthajdpfdnihimaaOrb
namespace Go.Proofs.Ythajdpfdnihimaa
open Go.RowKit

theorem fin_cases {x : Nat} {v : Option Nat} (ix : Is .f32 x v) : finS v = true ∨ v = none ∨ ∃ s, v = some x ∧ FloatKind.f32.decode x = .infinity s := by
  cases v with
  | none => exact .inr (.inl rfl)
  | some z =>
    obtain rfl := ix.notNaN
    rcases single_low ix.dec with ⟨s, hs⟩ | ⟨s, m, e, hd, hm⟩
    · exact .inr (.inr ⟨s, rfl, hs⟩)
    · refine .inl ?_
      have hsub : fo .sub .f32 (some x) (some x) = some 0 := by
        unfold FloatKind.decode at hd
        have h0 : Ieee.signed s m 0 + Ieee.signed (!s) m 0 = 0 := by cases s <;> simp [Ieee.signed] <;> omega
        simp [fo, floatBits, Ieee.Format.sub, hd, Ieee.Datum.opposite, Ieee.Datum.sum, h0]
        cases s <;> rfl
      unfold finS
      rw [hsub]
      decide

/-- A number that is at least 0 and less than 1 is finite. -/
theorem part_fin {x : Nat} {v : Option Nat} (ix : Is .f32 x v) (h : finS v = false) : partB v = false := by
  rcases fin_cases ix with h' | rfl | ⟨s, rfl, hs⟩
  · rw [h'] at h; cases h
  · rfl
  · have r0 : FloatKind.f32.format.read 0 = .number false 0 (-149) := by rfl
    have r1 : FloatKind.f32.format.read 1065353216 = .number false 8388608 (-23) := by rfl
    unfold FloatKind.decode at hs
    have o0 : ordO .f32 (some x) (some 0) = (if s then some .lt else some .gt) := by
      simp only [ordO, Option.bind_some, Ieee.Format.order, hs, r0]
      cases s <;> rfl
    have o1 : ordO .f32 (some x) (some 1065353216) = (if s then some .lt else some .gt) := by
      simp only [ordO, Option.bind_some, Ieee.Format.order, hs, r1]
      cases s <;> rfl
    unfold partB cmpB
    simp only [o0, o1]
    cases s <;> rfl

theorem gtr_lss {a b : Option Nat} (h : cmpB .gtr .f32 a b = true) : cmpB .lss .f32 a b = false := by
  unfold cmpB at h ⊢
  cases ho : ordO .f32 a b with
  | none => simp
  | some q => rw [ho] at h; cases q <;> simp_all

/-- As the model asks. -/
def orbS (l r t n p f : Option Nat) : Bool := finS l && (finS r && (tiltB t && (partB n && (partB p && (if cmpB .gtr .f32 l (some 0) then partB r && partB f else cmpB .lss .f32 l (some 0) && (cmpB .gtr .f32 r (some 1065353216) && brP f))))))

theorem orb_same {r : Nat} {x0 x1 x2 x3 x4 x5 : Option Nat} (h1 : Is .f32 r x1) : orbS x0 x1 x2 x3 x4 x5 = orbB x0 x1 x2 x3 x4 x5 := by
  unfold orbS orbB ellB braB brR
  cases hf : finS x1 with
  | false => rw [part_fin h1 hf]; simp
  | true =>
    cases hg : cmpB .gtr .f32 x0 (some 0) with
    | true => rw [gtr_lss hg]; simp
    | false => simp

set_option maxHeartbeats 3200000 in
theorem sIs {a0 a1 a2 a3 a4 a5 : Nat} {x0 x1 x2 x3 x4 x5 : Option Nat} (h0 : Is .f32 a0 x0) (h1 : Is .f32 a1 x1) (h2 : Is .f32 a2 x2) (h3 : Is .f32 a3 x3) (h4 : Is .f32 a4 x4) (h5 : Is .f32 a5 x5) (b o : Nat) (w : World) (_ : b < w.heap.size) (c0 : w.cell? ⟨b, o, none⟩ = some (.float .f32 a0)) (c1 : w.cell? ⟨b, o + 1, none⟩ = some (.float .f32 a1)) (c2 : w.cell? ⟨b, o + 2, none⟩ = some (.float .f32 a2)) (c3 : w.cell? ⟨b, o + 3, none⟩ = some (.float .f32 a3)) (c4 : w.cell? ⟨b, o + 4, none⟩ = some (.float .f32 a4)) (c5 : w.cell? ⟨b, o + 5, none⟩ = some (.float .f32 a5)) :
    Calls Try.prog 24 #[.pointer (some ⟨b, o, none⟩)] w (RetV (.bool (orbS x0 x1 x2 x3 x4 x5)) w) := by
  have go : ∀ b0 b1 b2 b3 b4 b5 b6 : Bool, b0 = false ∨ b0 = true ∧ (b1 = false ∨ b1 = true ∧ (b2 = false ∨ b2 = true ∧ (b3 = false ∨ b3 = true ∧ (b4 = false ∨ b4 = true ∧ (b5 = false ∨ b5 = true ∧ (b6 = false ∨ b6 = true)))))) := by
    intro b0 b1 b2 b3 b4 b5 b6
    cases b0 <;> cases b1 <;> cases b2 <;> cases b3 <;> cases b4 <;> cases b5 <;> cases b6 <;> decide
  have hg := go (finS x0) (finS x1) (cmpB .geq .f32 x2 (some 0)) (cmpB .leq .f32 x2 (some 1056964608)) (partB x3) (partB x4) (cmpB .gtr .f32 x0 (some 0))
  clear go
  rcases hg with hA | ⟨hA, hB | ⟨hB, hC | ⟨hC, hD | ⟨hD, hE | ⟨hE, hF | ⟨hF, hG | hG⟩⟩⟩⟩⟩⟩
  case inr.inr.inr.inr.inr.inr.inl =>
    cases hH : cmpB .lss .f32 x0 (some 0) <;> cases hI : cmpB .gtr .f32 x1 (some 1065353216) <;> cases hJ : cmpB .geq .f32 x5 (some 3246391296) <;>
      (go_enter Try.func24, Try.ntmps24
       go_wp2_with (first | (apply wpList_cmp; rfl; simp [Cmp]; rfl; rfl; (first | assumption | exact is_lit64 _ (by decide) | exact is_lit32 _ (by decide)); (first | assumption | exact is_lit64 _ (by decide) | exact is_lit32 _ (by decide)); intro Kq hKq; go_simp) | (go_at_call 34; refine (finite_any (by assumption) _).mono ?_; rintro eq wq ⟨nq, rfl, rfl⟩) | (go_at_call 33; refine (sPart (by assumption) _).mono ?_; rintro eq wq ⟨nq, rfl, rfl⟩))
       go_ret
       exact RetV.eq _ (by simp [orbS, tiltB, brP, *]))
  case inr.inr.inr.inr.inr.inr.inr =>
    cases hH : cmpB .geq .f32 x1 (some 0) <;> cases hI : cmpB .lss .f32 x1 (some 1065353216) <;>
      (have hP : partB x1 = (cmpB .geq .f32 x1 (some 0) && cmpB .lss .f32 x1 (some 1065353216)) := rfl
       rw [hH, hI] at hP
       simp only [Bool.and_self, Bool.and_false, Bool.and_true] at hP
       go_enter Try.func24, Try.ntmps24
       go_wp2_with (first | (apply wpList_cmp; rfl; simp [Cmp]; rfl; rfl; (first | assumption | exact is_lit64 _ (by decide) | exact is_lit32 _ (by decide)); (first | assumption | exact is_lit64 _ (by decide) | exact is_lit32 _ (by decide)); intro Kq hKq; go_simp) | (go_at_call 34; refine (finite_any (by assumption) _).mono ?_; rintro eq wq ⟨nq, rfl, rfl⟩) | (go_at_call 33; refine (sPart (by assumption) _).mono ?_; rintro eq wq ⟨nq, rfl, rfl⟩))
       go_ret
       exact RetV.eq _ (by simp [orbS, tiltB, *]))
  all_goals
    go_enter Try.func24, Try.ntmps24
    go_wp2_with (first | (apply wpList_cmp; rfl; simp [Cmp]; rfl; rfl; (first | assumption | exact is_lit64 _ (by decide) | exact is_lit32 _ (by decide)); (first | assumption | exact is_lit64 _ (by decide) | exact is_lit32 _ (by decide)); intro Kq hKq; go_simp) | (go_at_call 34; refine (finite_any (by assumption) _).mono ?_; rintro eq wq ⟨nq, rfl, rfl⟩) | (go_at_call 33; refine (sPart (by assumption) _).mono ?_; rintro eq wq ⟨nq, rfl, rfl⟩))
    go_ret
    exact RetV.eq _ (by simp [orbS, tiltB, *])

theorem specOrb {a0 a1 a2 a3 a4 a5 : Nat} {x0 x1 x2 x3 x4 x5 : Option Nat} (h0 : Is .f32 a0 x0) (h1 : Is .f32 a1 x1) (h2 : Is .f32 a2 x2) (h3 : Is .f32 a3 x3) (h4 : Is .f32 a4 x4) (h5 : Is .f32 a5 x5) (w : World) :
    Calls Try.prog 9 #[orbV a0 a1 a2 a3 a4 a5] w fun e w' => e = .returned (.bool (orbB x0 x1 x2 x3 x4 x5)) ∧ Below w.heap.size w w' := by
  rw [← orb_same h1]
  go_enter Try.func9, Try.ntmps9
  go_wp2_with (go_at_call 24; refine (sIs h0 h1 h2 h3 h4 h5 w.heap.size 0 _ (by simp) (by simp) (by simp) (by simp) (by simp) (by simp) (by simp)).mono ?_; rintro eq wq ⟨nq, rfl, rfl⟩)
  go_ret
  refine ⟨rfl, ?_⟩
  repeat' (first | with_reducible exact Below.refl _ _ | with_reducible assumption | (with_reducible refine Below.setCell ?_ (by first | omega | (simp; done) | (simp; omega)) _) | (with_reducible refine Below.alloc ?_ (by first | omega | (simp; done) | (simp; omega)) _) | (with_reducible refine below_drewN ?_ _) | (with_reducible refine Below.drew ?_) | (with_reducible refine Below.trans ?_ (Below.mono (by first | (with_reducible assumption) | exact Grow.below (by assumption)) (by first | omega | (simp; done) | (simp; omega)))))

theorem toOrb {a0 a1 a2 a3 a4 a5 : Nat} (w : World) :
    Calls Try.prog 10 #[orbV a0 a1 a2 a3 a4 a5] w fun e w' => e = .returned (orbV a0 a1 a2 a3 a4 a5) ∧ Below w.heap.size w w' := by
  have hst := run_store_float Try.prog
  go_enter Try.func10, Try.ntmps10
  go_wp2
  refine bodyPost_ret (v := orbV a0 a1 a2 a3 a4 a5) (by simp [results, Try.results10, go_sem]) rfl ⟨rfl, ?_⟩
  repeat' (first | with_reducible exact Below.refl _ _ | with_reducible assumption | (with_reducible refine Below.setCell ?_ (by first | omega | (simp; done) | (simp; omega)) _) | (with_reducible refine Below.alloc ?_ (by first | omega | (simp; done) | (simp; omega)) _) | (with_reducible refine below_drewN ?_ _) | (with_reducible refine Below.drew ?_) | (with_reducible refine Below.trans ?_ (Below.mono (by first | (with_reducible assumption) | exact Grow.below (by assumption)) (by first | omega | (simp; done) | (simp; omega)))))

set_option maxHeartbeats 1600000 in
theorem walk_FnExactValidOrbit (a0 a1 a2 a3 a4 a5 : Nat) (w : World) (k0 : a0 < 2 ^ 32) (k1 : a1 < 2 ^ 32) (k2 : a2 < 2 ^ 32) (k3 : a3 < 2 ^ 32) (k4 : a4 < 2 ^ 32) (k5 : a5 < 2 ^ 32) :
    Calls Try.prog 3 #[orbV a0 a1 a2 a3 a4 a5] w fun e w' => e = .returned (.bool true) ∧ Below w.heap.size w w' := by
  have h0 := Is.self (k := .f32) k0
  have h1 := Is.self (k := .f32) k1
  have h2 := Is.self (k := .f32) k2
  have h3 := Is.self (k := .f32) k3
  have h4 := Is.self (k := .f32) k4
  have h5 := Is.self (k := .f32) k5
  go_enter Try.func3, Try.ntmps3
  go_wp2_with (first | (go_at_call 10; refine (toOrb _).mono ?_; rintro eq wq ⟨rfl, hb⟩; obtain ⟨hc, hf⟩ := bcell hb; have hz := hb.size; (try simp at hz); (try have hl : w.heap.size < wq.heap.size := (by omega))) | (go_at_call 9; refine (specOrb h0 h1 h2 h3 h4 h5 _).mono ?_; rintro eq wq ⟨rfl, hb⟩; obtain ⟨hc, hf⟩ := bcell hb; have hz := hb.size; (try simp at hz); (try have hl : w.heap.size < wq.heap.size := (by omega))) | (go_at_call 11; refine (iOrb h0 h1 h2 h3 h4 h5 _).mono ?_; rintro eq wq ⟨rfl, hb⟩; obtain ⟨hc, hf⟩ := bcell hb; have hz := hb.size; (try simp at hz); (try have hl : w.heap.size < wq.heap.size := (by omega))))
  go_ret
  refine ⟨rfl, ?_⟩
  repeat' (first | with_reducible exact Below.refl _ _ | with_reducible assumption | (with_reducible refine Below.setCell ?_ (by first | omega | (simp; done) | (simp; omega)) _) | (with_reducible refine Below.alloc ?_ (by first | omega | (simp; done) | (simp; omega)) _) | (with_reducible refine below_drewN ?_ _) | (with_reducible refine Below.drew ?_) | (with_reducible refine Below.trans ?_ (Below.mono (by first | (with_reducible assumption) | exact Grow.below (by assumption)) (by first | omega | (simp; done) | (simp; omega)))))
end Go.Proofs.Ythajdpfdnihimaa
