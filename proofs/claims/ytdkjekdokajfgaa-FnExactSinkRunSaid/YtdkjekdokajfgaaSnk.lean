/-
  What becomes of the Long of a circle in air: for every input the law's text returns true, and writes nothing that was there. No condition.
-/
import Derived.Test.YtdkjekdokajfgaaBal
import Derived.Test.YtdkjekdokajfgaaZer
import Derived.Test.YtdkjekdokajfgaaRooS
import Derived.Test.YtdkjekdokajfgaaNumF
import Derived.Test.YtdkjekdokajfgaaSame
import Derived.Test.YtdkjekdokajfgaaExpT
import Derived.Test.YtdkjekdokajfgaaSin0
namespace Go.Proofs.Ytdkjekdokajfgaa
open Go.RowKit

theorem or_step (b : Bool) {P : Prop} (h : P) : b = false ∨ b = true ∧ P := by cases b; exact .inl rfl; exact .inr ⟨rfl, h⟩
theorem or_end (b : Bool) : b = false ∨ b = true := by cases b; exact .inl rfl; exact .inr rfl

def prdL (f : Nat → Option Nat) : Nat → Option Nat
  | 0 => some 1065353216
  | k + 1 => fo .mul .f32 (prdL f k) (f k)

theorem iPrdL (b n cap : Nat) (g : Nat → Nat) (f : Nat → Option Nat) (w : World) (hn : n ≤ 16) (hw : ∀ i, i < n → Is .f32 (g i) (f i)) (hr : ∀ i, i < n → w.cell? ⟨b, i, none⟩ = some (.float .f32 (g i))) :
    Calls Try.prog 29 #[.slice (some ⟨b, 0, none⟩) n cap] w (RetF .f32 (prdL f n) w) := by
  have HR := Lib.hid hr
  have HW := Lib.hid hw
  clear hr hw
  have ho : Is .f32 1065353216 (some 1065353216) := is_lit32 _ (by decide)
  go_enter Try.func29, Try.ntmps29
  go_wp2
  go_loopw [3, 8] (fun x i wr => ∃ k r m : Nat, k ≤ n ∧ i = .int .i64 k ∧ x = .float .f32 r ∧ Is .f32 r (prdL f k) ∧ wr = w.drewN m) (fun _ i _ => n - (intOf i).toNat)
  case atStart => exact ⟨0, _, 0, Nat.zero_le _, rfl, rfl, ho, rfl⟩
  case round =>
    obtain ⟨k, r, m, hk, rfl, rfl, ha, rfl⟩ := hrel
    by_cases hlt : k < n
    · have hc := HR.out k hlt
      have hi : Is .f32 (g k) (f k) := HW.out k hlt
      go_wp2_with (apply wpList_arith; rfl; simp [Arith]; rfl; rfl; (first | assumption | exact is_lit64 _ (by decide) | exact is_lit32 _ (by decide)); (first | assumption | exact is_lit64 _ (by decide) | exact is_lit32 _ (by decide)); intro Kq hKq rq nq hq; go_simp)
      go_roundw
      case rel => exact ⟨k + 1, _, _, by omega, by go_num, rfl, by assumption, rfl⟩
      case measure => simp [intOf]; omega
    · have hkn : k = n := by omega
      subst hkn
      go_wp2
      go_ret
      exact ⟨_, _, rfl, ha, rfl⟩

def four {α : Type} (a b c d : α) : Nat → α
  | 0 => a
  | 1 => b
  | 2 => c
  | _ => d

theorem prdL4 {x : Nat} {u v t s : Option Nat} (ix : Is .f32 x u) : prdL (four u v t s) 4 = fo .mul .f32 (fo .mul .f32 (fo .mul .f32 u v) t) s := by
  show fo .mul .f32 (fo .mul .f32 (fo .mul .f32 (fo .mul .f32 (some 1065353216) u) v) t) s = _
  rw [one_mul32 ix]

theorem iPrd4 {b x y z q cap : Nat} {u v t s : Option Nat} (w : World) (ix : Is .f32 x u) (iy : Is .f32 y v) (iz : Is .f32 z t) (iq : Is .f32 q s) (c0 : w.cell? ⟨b, 0, none⟩ = some (.float .f32 x)) (c1 : w.cell? ⟨b, 1, none⟩ = some (.float .f32 y)) (c2 : w.cell? ⟨b, 2, none⟩ = some (.float .f32 z)) (c3 : w.cell? ⟨b, 3, none⟩ = some (.float .f32 q)) :
    Calls Try.prog 29 #[.slice (some ⟨b, 0, none⟩) 4 cap] w (RetF .f32 (fo .mul .f32 (fo .mul .f32 (fo .mul .f32 u v) t) s) w) := by
  have h := iPrdL b 4 cap (four x y z q) (four u v t s) w (by decide) (fun i hi => by match i, hi with | 0, _ => exact ix | 1, _ => exact iy | 2, _ => exact iz | 3, _ => exact iq) (fun i hi => by match i, hi with | 0, _ => exact c0 | 1, _ => exact c1 | 2, _ => exact c2 | 3, _ => exact c3)
  rw [prdL4 ix] at h
  exact h

section
variable (x0 x1 x2 x3 l d s c t : Option Nat)
def snkH : Option Nat := fo .sub .f32 l x1
def snkT : Option Nat := fo .mul .f32 s (expT (negO .f32 (fo .quo .f32 (snkH x1 l) c)))
def snkX : Option Nat := fo .sub .f32 l (fo .mul .f32 (fo .mul .f32 (fo .mul .f32 t d) (snkT x1 l s c)) (rootO (fo .mul .f32 x0 l)))
def airB : Bool := balB x0 x1 x2 x3 && (zerB d && (zerB s && (posB c && zerB t)))
def canB : Bool := airB x0 x1 x2 x3 d s c t && (finS l && cmpB .gtr .f32 l x1)
def snkOk : Bool := finS (snkX x0 x1 l d s c t) && (finS (snkT x1 l s c) && finS (snkH x1 l))
def snkB : Bool := canB x0 x1 x2 x3 l d s c t && snkOk x0 x1 l d s c t
def snkV : Option Nat := if snkB x0 x1 x2 x3 l d s c t then snkX x0 x1 l d s c t else some 0
end

section
variable {a0 a1 a2 a3 lw dw sw cw tw : Nat} {x0 x1 x2 x3 l d s c t : Option Nat} (h0 : Is .f32 a0 x0) (h1 : Is .f32 a1 x1) (h2 : Is .f32 a2 x2) (h3 : Is .f32 a3 x3) (il : Is .f32 lw l) (id : Is .f32 dw d) (is : Is .f32 sw s) (ic : Is .f32 cw c) (it : Is .f32 tw t)

include h0 h1 h2 h3 is ic in
theorem iThinT {g : Nat} {vg : Option Nat} (ig : Is .f32 g vg) (oB : balB x0 x1 x2 x3 = true) (oS : zerB s = true) (oC : posB c = true) (hn : NpO .f32 (negO .f32 (fo .quo .f32 vg c))) (w : World) :
    Calls Try.prog 27 #[balV a0 a1 a2 a3, .float .f32 sw, .float .f32 cw, .float .f32 g] w
      (RetNum (if finS vg then finN (fo .mul .f32 s (expT (negO .f32 (fo .quo .f32 vg c)))) else some 0) (finS vg && finS (fo .mul .f32 s (expT (negO .f32 (fo .quo .f32 vg c))))) w) := by
  have HB := fun w => iBal h0 h1 h2 h3 w
  rw [oB] at HB
  cases hg : finS vg with
  | false =>
    simp only [Bool.false_eq_true, if_false, Bool.false_and]
    go_enter Try.func27, Try.ntmps27
    go_wp2_with (first | (go_at_call 23; refine (HB _).mono ?_; rintro eq wq ⟨rfl, hb⟩; obtain ⟨hc, hf⟩ := bcell hb; have hz := hb.size; (try simp at hz); (try have hl : w.heap.size < wq.heap.size := (by omega))) | (go_at_call 25; refine (iZer (by assumption) _).mono ?_; rintro eq wq ⟨nq, rfl, rfl⟩) | (go_at_call 26; refine (iPos (by assumption) _).mono ?_; rintro eq wq ⟨nq, rfl, rfl⟩) | (go_at_call 24; refine (sFinite (by assumption) _).mono ?_; rintro eq wq ⟨nq, rfl, rfl⟩))
    go_ret2
    refine ⟨⟨_, rfl, zero32⟩, ?_⟩
    repeat' (first | with_reducible exact Below.refl _ _ | with_reducible assumption | (with_reducible refine Below.setCell ?_ (by first | omega | (simp; done) | (simp; omega)) _) | (with_reducible refine Below.alloc ?_ (by first | omega | (simp; done) | (simp; omega)) _) | (with_reducible refine below_drewN ?_ _) | (with_reducible refine Below.drew ?_) | (with_reducible refine Below.trans ?_ (Below.mono (by first | (with_reducible assumption) | exact Grow.below (by assumption)) (by first | omega | (simp; done) | (simp; omega)))))
  | true =>
    simp only [if_true, Bool.true_and]
    obtain ⟨ev, hev⟩ : ∃ ev, ev = expT (negO .f32 (fo .quo .f32 vg c)) := ⟨_, rfl⟩
    rw [← hev]
    have EX := fun {x : Nat} (ix : Is .f32 x (negO .f32 (fo .quo .f32 vg c))) (W : World) => iExpT ix hn W
    rw [← hev] at EX
    clear hev
    go_enter Try.func27, Try.ntmps27
    go_wp2_with (first | (apply wpList_arith; rfl; simp [Arith]; rfl; rfl; (first | assumption | exact is_lit64 _ (by decide) | exact is_lit32 _ (by decide)); (first | assumption | exact is_lit64 _ (by decide) | exact is_lit32 _ (by decide)); intro Kq hKq rq nq hq; go_simp) | (apply wpList_neg; rfl; rfl; (first | assumption | exact is_lit64 _ (by decide) | exact is_lit32 _ (by decide)); intro Kq hKq rq hq; go_simp) | (go_at_call 23; refine (HB _).mono ?_; rintro eq wq ⟨rfl, hb⟩; obtain ⟨hc, hf⟩ := bcell hb; have hz := hb.size; (try simp at hz); (try have hl : w.heap.size < wq.heap.size := (by omega))) | (go_at_call 25; refine (iZer (by assumption) _).mono ?_; rintro eq wq ⟨nq, rfl, rfl⟩) | (go_at_call 26; refine (iPos (by assumption) _).mono ?_; rintro eq wq ⟨nq, rfl, rfl⟩) | (go_at_call 24; refine (sFinite (by assumption) _).mono ?_; rintro eq wq ⟨nq, rfl, rfl⟩) | (go_at_call 37; refine (EX (by assumption) _).mono ?_; rintro eq wq ⟨rq, nq, rfl, hq, rfl⟩) | (go_at_call 28; refine (iFinN (v := fo .mul .f32 s ev) (by assumption) _).mono ?_; rintro _ W1 ⟨⟨r1, rfl, i1⟩, b1⟩))
    go_ret2
    refine ⟨⟨_, rfl, i1⟩, ?_⟩
    repeat' (first | with_reducible exact Below.refl _ _ | with_reducible assumption | (with_reducible refine Below.setCell ?_ (by first | omega | (simp; done) | (simp; omega)) _) | (with_reducible refine Below.alloc ?_ (by first | omega | (simp; done) | (simp; omega)) _) | (with_reducible refine below_drewN ?_ _) | (with_reducible refine Below.drew ?_) | (with_reducible refine Below.trans ?_ (Below.mono (by first | (with_reducible assumption) | exact Grow.below (by assumption)) (by first | omega | (simp; done) | (simp; omega)))))

include h0 h1 h2 h3 is ic in
theorem iThinAny {g : Nat} {vg : Option Nat} (ig : Is .f32 g vg) (w : World) :
    Calls Try.prog 27 #[balV a0 a1 a2 a3, .float .f32 sw, .float .f32 cw, .float .f32 g] w (fun e w' => (∃ r ok, e = .returned (.tuple #[.float .f32 r, .bool ok])) ∧ Below w.heap.size w w') := by
  have HB := fun w => iBal h0 h1 h2 h3 w
  have EX := fun {x : Nat} {v : Option Nat} (ix : Is .f32 x v) (W : World) => iExpAny ix W
  cases oB : balB x0 x1 x2 x3 <;> rw [oB] at HB
  case false =>
    go_enter Try.func27, Try.ntmps27
    go_wp2_with (first | (go_at_call 23; refine (HB _).mono ?_; rintro eq wq ⟨rfl, hb⟩; obtain ⟨hc, hf⟩ := bcell hb; have hz := hb.size; (try simp at hz); (try have hl : w.heap.size < wq.heap.size := (by omega))))
    go_ret2
    refine ⟨⟨_, _, rfl⟩, ?_⟩
    repeat' (first | with_reducible exact Below.refl _ _ | with_reducible assumption | (with_reducible refine Below.setCell ?_ (by first | omega | (simp; done) | (simp; omega)) _) | (with_reducible refine Below.alloc ?_ (by first | omega | (simp; done) | (simp; omega)) _) | (with_reducible refine below_drewN ?_ _) | (with_reducible refine Below.drew ?_) | (with_reducible refine Below.trans ?_ (Below.mono (by first | (with_reducible assumption) | exact Grow.below (by assumption)) (by first | omega | (simp; done) | (simp; omega)))))
  cases oS : zerB s
  case false =>
    go_enter Try.func27, Try.ntmps27
    go_wp2_with (first | (go_at_call 23; refine (HB _).mono ?_; rintro eq wq ⟨rfl, hb⟩; obtain ⟨hc, hf⟩ := bcell hb; have hz := hb.size; (try simp at hz); (try have hl : w.heap.size < wq.heap.size := (by omega))) | (go_at_call 25; refine (iZer (by assumption) _).mono ?_; rintro eq wq ⟨nq, rfl, rfl⟩))
    go_ret2
    refine ⟨⟨_, _, rfl⟩, ?_⟩
    repeat' (first | with_reducible exact Below.refl _ _ | with_reducible assumption | (with_reducible refine Below.setCell ?_ (by first | omega | (simp; done) | (simp; omega)) _) | (with_reducible refine Below.alloc ?_ (by first | omega | (simp; done) | (simp; omega)) _) | (with_reducible refine below_drewN ?_ _) | (with_reducible refine Below.drew ?_) | (with_reducible refine Below.trans ?_ (Below.mono (by first | (with_reducible assumption) | exact Grow.below (by assumption)) (by first | omega | (simp; done) | (simp; omega)))))
  cases oC : posB c
  case false =>
    go_enter Try.func27, Try.ntmps27
    go_wp2_with (first | (go_at_call 23; refine (HB _).mono ?_; rintro eq wq ⟨rfl, hb⟩; obtain ⟨hc, hf⟩ := bcell hb; have hz := hb.size; (try simp at hz); (try have hl : w.heap.size < wq.heap.size := (by omega))) | (go_at_call 25; refine (iZer (by assumption) _).mono ?_; rintro eq wq ⟨nq, rfl, rfl⟩) | (go_at_call 26; refine (iPos (by assumption) _).mono ?_; rintro eq wq ⟨nq, rfl, rfl⟩))
    go_ret2
    refine ⟨⟨_, _, rfl⟩, ?_⟩
    repeat' (first | with_reducible exact Below.refl _ _ | with_reducible assumption | (with_reducible refine Below.setCell ?_ (by first | omega | (simp; done) | (simp; omega)) _) | (with_reducible refine Below.alloc ?_ (by first | omega | (simp; done) | (simp; omega)) _) | (with_reducible refine below_drewN ?_ _) | (with_reducible refine Below.drew ?_) | (with_reducible refine Below.trans ?_ (Below.mono (by first | (with_reducible assumption) | exact Grow.below (by assumption)) (by first | omega | (simp; done) | (simp; omega)))))
  cases hg : finS vg
  case false =>
    go_enter Try.func27, Try.ntmps27
    go_wp2_with (first | (go_at_call 23; refine (HB _).mono ?_; rintro eq wq ⟨rfl, hb⟩; obtain ⟨hc, hf⟩ := bcell hb; have hz := hb.size; (try simp at hz); (try have hl : w.heap.size < wq.heap.size := (by omega))) | (go_at_call 25; refine (iZer (by assumption) _).mono ?_; rintro eq wq ⟨nq, rfl, rfl⟩) | (go_at_call 26; refine (iPos (by assumption) _).mono ?_; rintro eq wq ⟨nq, rfl, rfl⟩) | (go_at_call 24; refine (sFinite (by assumption) _).mono ?_; rintro eq wq ⟨nq, rfl, rfl⟩))
    go_ret2
    refine ⟨⟨_, _, rfl⟩, ?_⟩
    repeat' (first | with_reducible exact Below.refl _ _ | with_reducible assumption | (with_reducible refine Below.setCell ?_ (by first | omega | (simp; done) | (simp; omega)) _) | (with_reducible refine Below.alloc ?_ (by first | omega | (simp; done) | (simp; omega)) _) | (with_reducible refine below_drewN ?_ _) | (with_reducible refine Below.drew ?_) | (with_reducible refine Below.trans ?_ (Below.mono (by first | (with_reducible assumption) | exact Grow.below (by assumption)) (by first | omega | (simp; done) | (simp; omega)))))
  go_enter Try.func27, Try.ntmps27
  go_wp2_with (first | (apply wpList_arith; rfl; simp [Arith]; rfl; rfl; (first | assumption | exact is_lit64 _ (by decide) | exact is_lit32 _ (by decide)); (first | assumption | exact is_lit64 _ (by decide) | exact is_lit32 _ (by decide)); intro Kq hKq rq nq hq; go_simp) | (apply wpList_neg; rfl; rfl; (first | assumption | exact is_lit64 _ (by decide) | exact is_lit32 _ (by decide)); intro Kq hKq rq hq; go_simp) | (go_at_call 23; refine (HB _).mono ?_; rintro eq wq ⟨rfl, hb⟩; obtain ⟨hc, hf⟩ := bcell hb; have hz := hb.size; (try simp at hz); (try have hl : w.heap.size < wq.heap.size := (by omega))) | (go_at_call 25; refine (iZer (by assumption) _).mono ?_; rintro eq wq ⟨nq, rfl, rfl⟩) | (go_at_call 26; refine (iPos (by assumption) _).mono ?_; rintro eq wq ⟨nq, rfl, rfl⟩) | (go_at_call 24; refine (sFinite (by assumption) _).mono ?_; rintro eq wq ⟨nq, rfl, rfl⟩) | (go_at_call 37; refine (EX (by assumption) _).mono ?_; rintro eq wq ⟨⟨rq, rfl, hlt⟩, hbq⟩; have hzq := hbq.size; (try simp at hzq); have hqe := Is.self (k := .f32) hlt) | (go_at_call 28; refine (iFinN (by assumption) _).mono ?_; rintro _ W1 ⟨⟨r1, rfl, i1⟩, b1⟩))
  go_ret2
  refine ⟨⟨_, _, rfl⟩, ?_⟩
  repeat' (first | with_reducible exact Below.refl _ _ | with_reducible assumption | (with_reducible refine Below.setCell ?_ (by first | omega | (simp; done) | (simp; omega)) _) | (with_reducible refine Below.alloc ?_ (by first | omega | (simp; done) | (simp; omega)) _) | (with_reducible refine below_drewN ?_ _) | (with_reducible refine Below.drew ?_) | (with_reducible refine Below.trans ?_ (Below.mono (by first | (with_reducible assumption) | exact Grow.below (by assumption)) (by first | omega | (simp; done) | (simp; omega)))))
end

section
variable {a0 a1 a2 a3 lw dw sw cw tw : Nat} {x0 x1 x2 x3 l d s c t : Option Nat} (h0 : Is .f32 a0 x0) (h1 : Is .f32 a1 x1) (h2 : Is .f32 a2 x2) (h3 : Is .f32 a3 x3) (il : Is .f32 lw l) (id : Is .f32 dw d) (is : Is .f32 sw s) (ic : Is .f32 cw c) (it : Is .f32 tw t)
include h0 h1 h2 h3 il id is ic it

theorem iCan (w : World) : Calls Try.prog 14 #[balV a0 a1 a2 a3, .float .f32 lw, .float .f32 dw, .float .f32 sw, .float .f32 cw, .float .f32 tw] w fun e w' => e = .returned (.bool (canB x0 x1 x2 x3 l d s c t)) ∧ Below w.heap.size w w' := by
  have HB := fun w => iBal h0 h1 h2 h3 w
  have hc : canB x0 x1 x2 x3 l d s c t = (balB x0 x1 x2 x3 && (finS l && (cmpB .gtr .f32 l x1 && (zerB d && (zerB s && (posB c && zerB t)))))) := by
    unfold canB airB
    cases balB x0 x1 x2 x3 <;> cases finS l <;> cases cmpB .gtr .f32 l x1 <;> cases zerB d <;> cases zerB s <;> cases posB c <;> cases zerB t <;> rfl
  rw [hc]
  clear hc
  rcases or_step (balB x0 x1 x2 x3) (or_step (finS l) (or_step (cmpB .gtr .f32 l x1) (or_step (zerB d) (or_step (zerB s) (or_step (posB c) (or_end (zerB t))))))) with e0 | ⟨e0, e1 | ⟨e1, e2 | ⟨e2, e3 | ⟨e3, e4 | ⟨e4, e5 | ⟨e5, e6 | e6⟩⟩⟩⟩⟩⟩ <;> rw [e0] at HB <;>
    (go_enter Try.func14, Try.ntmps14
     go_wp2_with (first | (apply wpList_cmp; rfl; simp [Cmp]; rfl; rfl; (first | assumption | exact is_lit64 _ (by decide) | exact is_lit32 _ (by decide)); (first | assumption | exact is_lit64 _ (by decide) | exact is_lit32 _ (by decide)); intro Kq hKq; go_simp) | (go_at_call 23; refine (HB _).mono ?_; rintro eq wq ⟨rfl, hb⟩; obtain ⟨hc, hf⟩ := bcell hb; have hz := hb.size; (try simp at hz); (try have hl : w.heap.size < wq.heap.size := (by omega))) | (go_at_call 25; refine (iZer (by assumption) _).mono ?_; rintro eq wq ⟨nq, rfl, rfl⟩) | (go_at_call 26; refine (iPos (by assumption) _).mono ?_; rintro eq wq ⟨nq, rfl, rfl⟩) | (go_at_call 24; refine (sFinite (by assumption) _).mono ?_; rintro eq wq ⟨nq, rfl, rfl⟩))
     go_ret
     refine ⟨by simp [*], ?_⟩
     repeat' (first | with_reducible exact Below.refl _ _ | with_reducible assumption | (with_reducible refine Below.setCell ?_ (by first | omega | (simp; done) | (simp; omega)) _) | (with_reducible refine Below.alloc ?_ (by first | omega | (simp; done) | (simp; omega)) _) | (with_reducible refine below_drewN ?_ _) | (with_reducible refine Below.drew ?_) | (with_reducible refine Below.trans ?_ (Below.mono (by first | (with_reducible assumption) | exact Grow.below (by assumption)) (by first | omega | (simp; done) | (simp; omega))))))

omit il in
theorem sAirP (bb : Nat) (w : World) (hb : bb < w.heap.size) (c0 : w.cell? ⟨bb, 0, none⟩ = some (.float .f32 a0)) (c1 : w.cell? ⟨bb, 0 + 1, none⟩ = some (.float .f32 a1)) (c2 : w.cell? ⟨bb, 0 + 2, none⟩ = some (.float .f32 a2)) (c3 : w.cell? ⟨bb, 0 + 3, none⟩ = some (.float .f32 a3)) :
    Calls Try.prog 10 #[.pointer (some ⟨bb, 0, none⟩), .float .f32 dw, .float .f32 sw, .float .f32 cw, .float .f32 tw] w fun e w' => e = .returned (.bool (airB x0 x1 x2 x3 d s c t)) ∧ Below w.heap.size w w' := by
  have HB := sBalP h0 h1 h2 h3 bb 0 w hb c0 c1 c2 c3
  unfold airB
  rcases or_step (balB x0 x1 x2 x3) (or_step (zerB d) (or_step (zerB s) (or_step (posB c) (or_end (zerB t))))) with e0 | ⟨e0, e3 | ⟨e3, e4 | ⟨e4, e5 | ⟨e5, e6 | e6⟩⟩⟩⟩ <;> rw [e0] at HB <;>
    (go_enter Try.func10, Try.ntmps10
     go_wp2_with (first | (go_at_call 17; refine HB.mono ?_; rintro eq wq ⟨rfl, hb⟩; have hz := hb.size; clear HB) | (go_at_call 18; refine (sZer (by assumption) _).mono ?_; rintro eq wq ⟨nq, rfl, rfl⟩) | (go_at_call 19; refine (sPos (by assumption) _).mono ?_; rintro eq wq ⟨nq, rfl, rfl⟩))
     go_ret
     refine ⟨by simp [*], ?_⟩
     repeat' (first | with_reducible exact Below.refl _ _ | with_reducible assumption | (with_reducible refine Below.setCell ?_ (by first | omega | (simp; done) | (simp; omega)) _) | (with_reducible refine Below.alloc ?_ (by first | omega | (simp; done) | (simp; omega)) _) | (with_reducible refine below_drewN ?_ _) | (with_reducible refine Below.drew ?_) | (with_reducible refine Below.trans ?_ (Below.mono (by first | (with_reducible assumption) | exact Grow.below (by assumption)) (by first | omega | (simp; done) | (simp; omega))))))
end
end Go.Proofs.Ytdkjekdokajfgaa
