/-
  Whether six numbers are an orbit, of the model, and that the program says the same; the copy of an orbit that the laws make. No condition.
-/
import Derived.Test.YtbcbaejfafamjaaDoorOrbD
namespace Go.Proofs.YtbcbaejfafamjaaDoor
open Go.RowKit

theorem gtr_lss {a b : Option Nat} (h : cmpB .gtr .f32 a b = true) : cmpB .lss .f32 a b = false := by
  unfold cmpB at h ⊢
  cases ho : ordO .f32 a b with
  | none => simp
  | some q => rw [ho] at h; cases q <;> simp_all

/-- As the model asks. -/
def orbS (l r t n p f : Option Nat) : Bool := finS l && (finS r && (tiltB t && (partB n && (partB p && (if cmpB .gtr .f32 l (some 0) then partB r && partB f else cmpB .lss .f32 l (some 0) && (cmpB .gtr .f32 r (some 1065353216) && brP f))))))

theorem orb_same {r : Nat} {x0 x1 x2 x3 x4 x5 : Option Nat} (h1 : Is .f32 r x1) : orbS x0 x1 x2 x3 x4 x5 = orbB x0 x1 x2 x3 x4 x5 := by
  unfold orbS orbB ellB braB brR
  cases hf : finS x1 with
  | false => rw [part_fin h1 hf]; simp
  | true =>
    cases hg : cmpB .gtr .f32 x0 (some 0) with
    | true => rw [gtr_lss hg]; simp
    | false => simp

set_option maxHeartbeats 3200000 in
theorem sIs {a0 a1 a2 a3 a4 a5 : Nat} {x0 x1 x2 x3 x4 x5 : Option Nat} (h0 : Is .f32 a0 x0) (h1 : Is .f32 a1 x1) (h2 : Is .f32 a2 x2) (h3 : Is .f32 a3 x3) (h4 : Is .f32 a4 x4) (h5 : Is .f32 a5 x5) (b o : Nat) (w : World) (_ : b < w.heap.size) (c0 : w.cell? ⟨b, o, none⟩ = some (.float .f32 a0)) (c1 : w.cell? ⟨b, o + 1, none⟩ = some (.float .f32 a1)) (c2 : w.cell? ⟨b, o + 2, none⟩ = some (.float .f32 a2)) (c3 : w.cell? ⟨b, o + 3, none⟩ = some (.float .f32 a3)) (c4 : w.cell? ⟨b, o + 4, none⟩ = some (.float .f32 a4)) (c5 : w.cell? ⟨b, o + 5, none⟩ = some (.float .f32 a5)) :
    Calls Tryd.prog 74 #[.pointer (some ⟨b, o, none⟩)] w (RetV (.bool (orbS x0 x1 x2 x3 x4 x5)) w) := by
  have go : ∀ b0 b1 b2 b3 b4 b5 b6 : Bool, b0 = false ∨ b0 = true ∧ (b1 = false ∨ b1 = true ∧ (b2 = false ∨ b2 = true ∧ (b3 = false ∨ b3 = true ∧ (b4 = false ∨ b4 = true ∧ (b5 = false ∨ b5 = true ∧ (b6 = false ∨ b6 = true)))))) := by
    intro b0 b1 b2 b3 b4 b5 b6
    cases b0 <;> cases b1 <;> cases b2 <;> cases b3 <;> cases b4 <;> cases b5 <;> cases b6 <;> decide
  have hg := go (finS x0) (finS x1) (cmpB .geq .f32 x2 (some 0)) (cmpB .leq .f32 x2 (some 1056964608)) (partB x3) (partB x4) (cmpB .gtr .f32 x0 (some 0))
  clear go
  rcases hg with hA | ⟨hA, hB | ⟨hB, hC | ⟨hC, hD | ⟨hD, hE | ⟨hE, hF | ⟨hF, hG | hG⟩⟩⟩⟩⟩⟩
  case inr.inr.inr.inr.inr.inr.inl =>
    cases hH : cmpB .lss .f32 x0 (some 0) <;> cases hI : cmpB .gtr .f32 x1 (some 1065353216) <;> cases hJ : cmpB .geq .f32 x5 (some 3246391296) <;>
      (go_enter Tryd.func74, Tryd.ntmps74
       go_wp2_with (first | (apply wpList_cmp; rfl; simp [Cmp]; rfl; rfl; (first | assumption | exact is_lit64 _ (by decide) | exact is_lit32 _ (by decide)); (first | assumption | exact is_lit64 _ (by decide) | exact is_lit32 _ (by decide)); intro Kq hKq; go_simp) | (go_at_call 71; refine (finite_any (by assumption) _).mono ?_; rintro eq wq ⟨nq, rfl, rfl⟩) | (go_at_call 94; refine (sPart (by assumption) _).mono ?_; rintro eq wq ⟨nq, rfl, rfl⟩))
       go_ret
       exact RetV.eq _ (by simp [orbS, tiltB, brP, *]))
  case inr.inr.inr.inr.inr.inr.inr =>
    cases hH : cmpB .geq .f32 x1 (some 0) <;> cases hI : cmpB .lss .f32 x1 (some 1065353216) <;>
      (have hP : partB x1 = (cmpB .geq .f32 x1 (some 0) && cmpB .lss .f32 x1 (some 1065353216)) := rfl
       rw [hH, hI] at hP
       simp only [Bool.and_self, Bool.and_false, Bool.and_true] at hP
       go_enter Tryd.func74, Tryd.ntmps74
       go_wp2_with (first | (apply wpList_cmp; rfl; simp [Cmp]; rfl; rfl; (first | assumption | exact is_lit64 _ (by decide) | exact is_lit32 _ (by decide)); (first | assumption | exact is_lit64 _ (by decide) | exact is_lit32 _ (by decide)); intro Kq hKq; go_simp) | (go_at_call 71; refine (finite_any (by assumption) _).mono ?_; rintro eq wq ⟨nq, rfl, rfl⟩) | (go_at_call 94; refine (sPart (by assumption) _).mono ?_; rintro eq wq ⟨nq, rfl, rfl⟩))
       go_ret
       exact RetV.eq _ (by simp [orbS, tiltB, *]))
  all_goals
    go_enter Tryd.func74, Tryd.ntmps74
    go_wp2_with (first | (apply wpList_cmp; rfl; simp [Cmp]; rfl; rfl; (first | assumption | exact is_lit64 _ (by decide) | exact is_lit32 _ (by decide)); (first | assumption | exact is_lit64 _ (by decide) | exact is_lit32 _ (by decide)); intro Kq hKq; go_simp) | (go_at_call 71; refine (finite_any (by assumption) _).mono ?_; rintro eq wq ⟨nq, rfl, rfl⟩) | (go_at_call 94; refine (sPart (by assumption) _).mono ?_; rintro eq wq ⟨nq, rfl, rfl⟩))
    go_ret
    exact RetV.eq _ (by simp [orbS, tiltB, *])

end Go.Proofs.YtbcbaejfafamjaaDoor
