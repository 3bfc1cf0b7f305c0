/-
  How a circle in air sinks step by step, of the program and of the model. No condition.
-/
import Derived.Test.YtdkjekdokajfgaaSnkS
import Derived.Test.YtdkjekdokajfgaaFltL
import Derived.Test.YtdkjekdokajfgaaApp
namespace Go.Proofs.Ytdkjekdokajfgaa
open Go.RowKit

section
variable (x0 x1 d s c t : Option Nat)
/-- The numbers of some steps from a number on, and the last one; none where a step fails. -/
def runL : Nat → Option Nat → Option (List Nat × Option Nat)
  | 0, v => some ([], v)
  | n + 1, v => if cmpB .gtr .f32 v x1 then if snkOk x0 x1 v d s c t then (runL n (snkX x0 x1 v d s c t)).map fun p => ((snkX x0 x1 v d s c t).getD 0 :: p.1, p.2) else none else some ([], v)
end
def rnXs (p : Option (List Nat × Option Nat)) : List Nat := match p with | none => [] | some q => q.1
def rnB (x1 : Option Nat) (p : Option (List Nat × Option Nat)) : Bool := match p with | none => false | some q => !cmpB .gtr .f32 q.2 x1

section
variable {x0 x1 d s c t : Option Nat}
theorem run_len : ∀ n v, (rnXs (runL x0 x1 d s c t n v)).length ≤ n
  | 0, v => Nat.zero_le _
  | n + 1, v => by
    unfold runL
    split
    · split
      · have h := run_len n (snkX x0 x1 v d s c t)
        cases hr : runL x0 x1 d s c t n (snkX x0 x1 v d s c t) with
        | none => exact Nat.zero_le _
        | some p => rw [hr] at h; simpa [rnXs] using h
      · exact Nat.zero_le _
    · exact Nat.zero_le _
theorem snkX_lt (v : Option Nat) : (snkX x0 x1 v d s c t).getD 0 < 4294967296 := by
  cases h : snkX x0 x1 v d s c t with
  | none => exact Nat.zero_lt_succ _
  | some r => exact fo_lt (show fo .sub .f32 _ _ = some r from h)
theorem run_lt : ∀ n v, ∀ x ∈ rnXs (runL x0 x1 d s c t n v), x < 4294967296
  | 0, v => fun x hx => by cases hx
  | n + 1, v => by
    unfold runL
    split
    · split
      · have h := run_lt n (snkX x0 x1 v d s c t)
        cases hr : runL x0 x1 d s c t n (snkX x0 x1 v d s c t) with
        | none => intro x hx; cases hx
        | some p =>
          rw [hr] at h
          intro x hx
          simp only [Option.map_some, rnXs, List.mem_cons] at hx
          rcases hx with rfl | hx
          · exact snkX_lt v
          · exact h x hx
      · intro x hx; cases hx
    · intro x hx; cases hx

/-- What is left of a run behind some steps. -/
def Left (n : Nat) (l : Option Nat) (k : Nat) (xs : List Nat) (v : Option Nat) (x0 x1 d s c t : Option Nat) : Prop :=
  k ≤ n ∧ xs.length = k ∧ finS v = true ∧ (k = 0 → v = l) ∧ runL x0 x1 d s c t n l = (runL x0 x1 d s c t (n - k) v).map fun p => (xs ++ p.1, p.2)

theorem Left.start (n : Nat) {l : Option Nat} (h : finS l = true) : Left n l 0 [] l x0 x1 d s c t :=
  ⟨Nat.zero_le _, rfl, h, fun _ => rfl, by simp⟩
theorem fin_some {k : Nat} {v : Option Nat} (ix : Is .f32 k v) (h : finS v = true) : v = some k := by
  cases v with
  | none => cases h
  | some z => rw [ix.notNaN]
theorem Left.next {n k : Nat} {l v : Option Nat} {xs : List Nat} (h : Left n l k xs v x0 x1 d s c t) (hk : k < n) (hg : cmpB .gtr .f32 v x1 = true) (ho : snkOk x0 x1 v d s c t = true) {r : Nat} (ir : Is .f32 r (snkX x0 x1 v d s c t)) :
    Left n l (k + 1) (xs ++ [r]) (snkX x0 x1 v d s c t) x0 x1 d s c t := by
  obtain ⟨h1, h2, h3, h4, h5⟩ := h
  have hf : finS (snkX x0 x1 v d s c t) = true := by unfold snkOk at ho; simp only [Bool.and_eq_true] at ho; exact ho.1
  refine ⟨by omega, by simp [h2], hf, fun h => by omega, ?_⟩
  rw [h5, show n - k = (n - (k + 1)) + 1 by omega, runL, if_pos hg, if_pos ho]
  have hr := fin_some ir hf
  cases hq : runL x0 x1 d s c t (n - (k + 1)) (snkX x0 x1 v d s c t) with
  | none => rfl
  | some p => simp only [Option.map_some, hr, Option.getD_some, List.append_assoc, List.cons_append, List.nil_append]
theorem Left.fail {n k : Nat} {l v : Option Nat} {xs : List Nat} (h : Left n l k xs v x0 x1 d s c t) (hk : k < n) (hg : cmpB .gtr .f32 v x1 = true) (ho : snkOk x0 x1 v d s c t = false) : runL x0 x1 d s c t n l = none := by
  obtain ⟨h1, h2, h3, h4, h5⟩ := h
  rw [h5, show n - k = (n - (k + 1)) + 1 by omega, runL, if_pos hg, if_neg (by rw [ho]; decide)]
  rfl
theorem Left.done {n k : Nat} {l v : Option Nat} {xs : List Nat} (h : Left n l k xs v x0 x1 d s c t) (he : k = n ∨ cmpB .gtr .f32 v x1 = false) : runL x0 x1 d s c t n l = some (xs, v) := by
  obtain ⟨h1, h2, h3, h4, h5⟩ := h
  rw [h5]
  by_cases hk : k = n
  · rw [show n - k = 0 by omega, runL]; simp
  · have hg : cmpB .gtr .f32 v x1 = false := he.resolve_left hk
    rw [show n - k = (n - (k + 1)) + 1 by omega, runL, if_neg (by rw [hg]; decide)]
    simp
end

theorem leq_not {a b : Option Nat} (ha : finS a = true) (hb : finS b = true) {x y : Nat} (ix : Is .f32 x a) (iy : Is .f32 y b) : cmpB .leq .f32 a b = !cmpB .gtr .f32 a b := by
  obtain rfl := fin_some ix ha
  obtain rfl := fin_some iy hb
  have dx := ix.dec
  have dy := iy.dec
  unfold FloatKind.decode at dx dy
  unfold cmpB ordO
  simp only [Option.bind_some, Ieee.Format.order]
  cases hx : FloatKind.f32.format.read x with
  | nan s f => rw [hx] at dx; cases dx
  | infinity s =>
    cases hy : FloatKind.f32.format.read y with
    | nan s f => rw [hy] at dy; cases dy
    | infinity t => simp only [Ieee.Datum.order]; cases compare t.toNat s.toNat <;> rfl
    | number t n j => simp only [Ieee.Datum.order]; cases s <;> rfl
  | number s m i =>
    cases hy : FloatKind.f32.format.read y with
    | nan s f => rw [hy] at dy; cases dy
    | infinity t => simp only [Ieee.Datum.order]; cases t <;> rfl
    | number t n j => simp only [Ieee.Datum.order]; generalize compare (Ieee.signed s m (i - min i j).toNat) (Ieee.signed t n (j - min i j).toNat) = o; cases o <;> rfl

theorem leq_words {x y : Nat} {va vb : Option Nat} (ix : Is .f32 x va) (iy : Is .f32 y vb) {q : Bool} (h : cmpB .leq .f32 va vb = q) : (FloatKind.f32.format.order x y == some Ordering.lt || FloatKind.f32.format.order x y == some Ordering.eq) = q := by
  rw [← h, order_fo, ix.1, iy.1]; rfl
theorem gtr_words {x y : Nat} {va vb : Option Nat} (ix : Is .f32 x va) (iy : Is .f32 y vb) {q : Bool} (h : cmpB .gtr .f32 va vb = q) : (FloatKind.f32.format.order x y == some Ordering.gt) = q := by
  rw [← h, order_fo, ix.1, iy.1]; rfl

theorem ownsRow_drew' {w : World} {base : Nat} {e : TypeId} {size : Nat} {v : Value} {n : Nat} {xs : List Value} (h : w.ownsRow base e size v n xs) : w.drew.ownsRow base e size v n xs := ownsRow_below h (Below.refl _ _).drew

/-- The length of a list. -/
def lenOf : Value → Nat
  | .slice _ n _ => n
  | _ => 0

theorem row_form {w : World} {b : Nat} {e : TypeId} {size n : Nat} {v : Value} {xs : List Value} (h : w.ownsRow b e size v n xs) : ∃ a cap, v = .slice a n cap := by
  rcases Nat.eq_zero_or_pos n with h0 | h0
  · subst h0; exact row_zero h
  · obtain ⟨g, cap, rfl, _⟩ := h.form h0; exact ⟨_, _, rfl⟩

theorem pos_fin {v : Option Nat} (h : posB v = true) : finS v = true := by unfold posB at h; rw [Bool.and_eq_true] at h; exact h.1

section
variable {a0 a1 a2 a3 lw dw sw cw tw : Nat} {x0 x1 x2 x3 l d s c t : Option Nat} (h0 : Is .f32 a0 x0) (h1 : Is .f32 a1 x1) (h2 : Is .f32 a2 x2) (h3 : Is .f32 a3 x3) (il : Is .f32 lw l) (id : Is .f32 dw d) (is : Is .f32 sw s) (ic : Is .f32 cw c) (it : Is .f32 tw t)
include h0 h1 h2 h3 il id is ic it

set_option maxHeartbeats 6400000 in
theorem iRunT (n : Nat) (hn : n ≤ 64) (w : World) (hC : canB x0 x1 x2 x3 l d s c t = true) :
    Calls Try.prog 6 #[balV a0 a1 a2 a3, .float .f32 lw, .float .f32 dw, .float .f32 sw, .float .f32 cw, .float .f32 tw, .int .i64 n] w
      (RetF2 (rnXs (runL x0 x1 d s c t n l)) (rnB x1 (runL x0 x1 d s c t n l)) (runL x0 x1 d s c t n l).isSome w) := by
  have CA := fun (W : World) => iCan h0 h1 h2 h3 il id is ic it W
  rw [hC] at CA
  have hC' := hC
  unfold canB at hC'
  simp only [Bool.and_eq_true] at hC'
  obtain ⟨oA, oL, oG⟩ := hC'
  have hfx : finS x1 = true := by
    unfold airB balB at oA
    simp only [Bool.and_eq_true] at oA
    exact pos_fin oA.1.2.1
  obtain ⟨i0, hi, hz0, hz1, hz2⟩ := info_parts infoF
  have hd1 : decide (((n : Nat) : Int) < 0) = false := by simp
  have hd2 : decide (64 < ((n : Nat) : Int)) = false := by simp; omega
  have ST := fun {v : Option Nat} {k : Nat} (iv : Is .f32 k v) (W : World) => iSnk h0 h1 h2 h3 iv id is ic it W
  clear hC
  go_enter Try.func6, Try.ntmps6
  go_wp2_with fail
  (go_at_call 14; refine (CA _).mono ?_; rintro _ W0 ⟨rfl, b0⟩)
  have hzb := b0.size
  simp at hzb
  have bw : Below w.heap.size w W0 := ((Below.refl w.heap.size w).alloc (Nat.le_refl _) _).trans (b0.mono (by simp))
  have kb : ∀ wr, Below W0.heap.size W0 wr → wr.cell? ⟨w.heap.size, 0, none⟩ = some (.float .f32 a0) ∧ wr.cell? ⟨w.heap.size, 1, none⟩ = some (.float .f32 a1) ∧ wr.cell? ⟨w.heap.size, 2, none⟩ = some (.float .f32 a2) ∧ wr.cell? ⟨w.heap.size, 3, none⟩ = some (.float .f32 a3) := fun wr hb =>
    ⟨by rw [hb.cell (p := ⟨w.heap.size, 0, none⟩) (by show w.heap.size < W0.heap.size; omega), b0.cell (p := ⟨w.heap.size, 0, none⟩) (by simp)]; simp, by rw [hb.cell (p := ⟨w.heap.size, 1, none⟩) (by show w.heap.size < W0.heap.size; omega), b0.cell (p := ⟨w.heap.size, 1, none⟩) (by simp)]; simp, by rw [hb.cell (p := ⟨w.heap.size, 2, none⟩) (by show w.heap.size < W0.heap.size; omega), b0.cell (p := ⟨w.heap.size, 2, none⟩) (by simp)]; simp, by rw [hb.cell (p := ⟨w.heap.size, 3, none⟩) (by show w.heap.size < W0.heap.size; omega), b0.cell (p := ⟨w.heap.size, 3, none⟩) (by simp)]; simp⟩
  have KB := Lib.hid kb
  have BW := Lib.hid bw
  clear kb b0 bw CA
  go_wp2_with fail
  go_loopw [1, 17] (fun lng lst wr => ∃ (k lw' : Nat) (v : Option Nat) (xs : List Nat), lng = .float .f32 lw' ∧ Is .f32 lw' v ∧ Left n l k xs v x0 x1 d s c t ∧ wr.ownsRow W0.heap.size 22 1 lst xs.length (xs.map (Value.float .f32)) ∧ Below W0.heap.size W0 wr) (fun _ lst _ => n - lenOf lst)
  case atStart => exact ⟨0, lw, l, [], rfl, il, Left.start n oL, World.ownsRow_nil _ _ _ _, Below.refl _ _⟩
  case round =>
    obtain ⟨k, lw', v, xs, rfl, iv, hl, hrow, hbw⟩ := hrel
    have hk := hl.1
    obtain rfl : xs.length = k := hl.2.1
    have hfv := hl.2.2.1
    have HL := Lib.hid hl
    have HO := Lib.hid hrow
    have HB := Lib.hid hbw
    obtain ⟨al, cap, rfl⟩ := row_form hrow
    obtain ⟨c0, c1, c2, c3⟩ := KB.out wr hbw
    clear hl hrow hbw
    have hlt' : decide (((xs.length : Nat) : Int) < (n : Int)) = decide (xs.length < n) := by simp
    by_cases hlt : xs.length < n
    · rw [decide_eq_true hlt] at hlt'
      cases hg : cmpB .gtr .f32 v x1 with
      | true =>
        have hcan : canB x0 x1 x2 x3 v d s c t = true := by unfold canB; rw [oA, hfv, hg]; rfl
        have S1 := fun (W : World) => ST iv W
        unfold snkV snkB at S1
        rw [hcan] at S1
        clear hcan
        cases ho : snkOk x0 x1 v d s c t with
        | false =>
          have e := HL.out.fail hlt hg ho
          rw [ho] at S1
          simp only [Bool.true_and, Bool.false_eq_true, if_false] at S1
          clear ho HL
          go_wp2_with (first | (apply wpList_cmp; rfl; simp [Cmp]; rfl; rfl; (first | assumption | exact is_lit64 _ (by decide) | exact is_lit32 _ (by decide)); (first | assumption | exact is_lit64 _ (by decide) | exact is_lit32 _ (by decide)); intro Kq hKq; go_simp) | (go_at_call 15; refine (S1 _).mono ?_; rintro _ W3 ⟨⟨r3, rfl, i3⟩, b3⟩))
          go_ret3
          rw [e]
          exact RetF2.bad (BW.out.trans ((HB.out.trans (b3.mono HB.out.size)).mono BW.out.size))
        | true =>
          rw [ho] at S1
          simp only [Bool.true_and, if_true] at S1
          have hnx := fun (r : Nat) (ir : Is .f32 r (snkX x0 x1 v d s c t)) => HL.out.next hlt hg ho ir
          have HN := Lib.hid hnx
          clear ho hnx HL
          generalize snkX x0 x1 v d s c t = nv at S1 HN
          go_wp2_with (first | (apply wpList_cmp; rfl; simp [Cmp]; rfl; rfl; (first | assumption | exact is_lit64 _ (by decide) | exact is_lit32 _ (by decide)); (first | assumption | exact is_lit64 _ (by decide) | exact is_lit32 _ (by decide)); intro Kq hKq; go_simp) | (go_at_call 15; refine (S1 _).mono ?_; rintro _ W3 ⟨⟨r3, rfl, i3⟩, b3⟩; have hz3 := b3.size; have hO3 := ownsRow_below HO.out b3) | (at_builtin; go_loud (refine wpList_append_form (by rfl) (.tmp 58) (.tmp 60) 25 (by rfl) W0.heap.size 22 i0 (.float .f32 0) 1 4 Try.underlying25 hi hz0 hz1 hz2 rfl (by decide) _ xs.length _ (by rfl) (hO3.alloc _) ⟨W3.heap.size, 0, none⟩ 1 1 [_] (by rfl) rfl (new1 _ _ _) (fun v h => by rw [List.mem_singleton.1 h]; rfl) (by unfold maxLen; omega) (by omega) (by have := HB.out.size; simp; omega) (by omega) ?_); intro g' cap' w3 hown' hgrow))
          go_roundw
          case rel => exact ⟨xs.length + 1, r3, nv, xs ++ [r3], rfl, i3, HN.out _ i3, by simpa using hown', Below.grown ((HB.out.trans (b3.mono HB.out.size)).alloc (by have := HB.out.size; omega) _) hgrow (by have := HB.out.size; simp; omega) (fun i hi => (hO3.lt i hi).1)⟩
          case measure => simp [lenOf]; omega
      | false =>
        have e := HL.out.done (.inr hg)
        have hp : 0 < xs.length := by
          refine Nat.pos_of_ne_zero fun h => ?_
          have := HL.out.2.2.2.1 h
          rw [this, oG] at hg; cases hg
        have hp' : decide ((0 : Int) < ((xs.length : Nat) : Int)) = true := by simp; omega
        have hq : cmpB .leq .f32 v x1 = true := by rw [leq_not hfv hfx iv h1, hg]; rfl
        go_wp2_with (apply wpList_cmp; rfl; simp [Cmp]; rfl; rfl; (first | assumption | exact is_lit64 _ (by decide) | exact is_lit32 _ (by decide)); (first | assumption | exact is_lit64 _ (by decide) | exact is_lit32 _ (by decide)); intro Kq hKq; go_simp)
        have hcm := leq_words iv h1 hq
        go_region
        all_goals
          go_wp2_with fail
          go_ret3
          rw [e]
          exact ⟨_, by rw [show rnB x1 (some (xs, v)) = true by simp [rnB, hg]]; rfl, ownsRow_drew' (ownsRow_base HO.out BW.out.size), BW.out.trans ((HB.out.mono BW.out.size).drew)⟩
    · rw [decide_eq_false hlt] at hlt'
      have e := HL.out.done (.inl (by omega))
      by_cases hp : 0 < xs.length
      · have hp' : decide ((0 : Int) < ((xs.length : Nat) : Int)) = true := by simp; omega
        cases hg : cmpB .gtr .f32 v x1 with
        | true =>
          have hcm := leq_words iv h1 (show cmpB .leq .f32 v x1 = false by rw [leq_not hfv hfx iv h1, hg]; rfl)
          go_wp2_with (apply wpList_cmp; rfl; simp [Cmp]; rfl; rfl; (first | assumption | exact is_lit64 _ (by decide) | exact is_lit32 _ (by decide)); (first | assumption | exact is_lit64 _ (by decide) | exact is_lit32 _ (by decide)); intro Kq hKq; go_simp)
          go_region
          all_goals
            go_wp2_with fail
            go_ret3
            rw [e]
            exact ⟨_, by rw [show rnB x1 (some (xs, v)) = false by simp [rnB, hg]]; rfl, ownsRow_drew' (ownsRow_base HO.out BW.out.size), BW.out.trans ((HB.out.mono BW.out.size).drew)⟩
        | false =>
          have hcm := leq_words iv h1 (show cmpB .leq .f32 v x1 = true by rw [leq_not hfv hfx iv h1, hg]; rfl)
          go_wp2_with (apply wpList_cmp; rfl; simp [Cmp]; rfl; rfl; (first | assumption | exact is_lit64 _ (by decide) | exact is_lit32 _ (by decide)); (first | assumption | exact is_lit64 _ (by decide) | exact is_lit32 _ (by decide)); intro Kq hKq; go_simp)
          go_region
          all_goals
            go_wp2_with fail
            go_ret3
            rw [e]
            exact ⟨_, by rw [show rnB x1 (some (xs, v)) = true by simp [rnB, hg]]; rfl, ownsRow_drew' (ownsRow_base HO.out BW.out.size), BW.out.trans ((HB.out.mono BW.out.size).drew)⟩
      · have hp' : decide ((0 : Int) < ((xs.length : Nat) : Int)) = false := decide_eq_false (by omega)
        have h0 : xs.length = 0 := Nat.eq_zero_of_not_pos hp
        have hv := HL.out.2.2.2.1 h0
        have hg : cmpB .gtr .f32 v x1 = true := by rw [hv]; exact oG
        clear hv h0
        go_wp2_with (apply wpList_cmp; rfl; simp [Cmp]; rfl; rfl; (first | assumption | exact is_lit64 _ (by decide) | exact is_lit32 _ (by decide)); (first | assumption | exact is_lit64 _ (by decide) | exact is_lit32 _ (by decide)); intro Kq hKq; go_simp)
        go_region
        all_goals
          go_wp2_with fail
          go_ret3
          rw [e]
          exact ⟨_, by rw [show rnB x1 (some (xs, v)) = false by simp [rnB, hg]]; rfl, ownsRow_drew' (ownsRow_base HO.out BW.out.size), BW.out.trans ((HB.out.mono BW.out.size).drew)⟩

set_option maxHeartbeats 1600000 in
theorem iRunF (n : Int) (w : World) (hC : canB x0 x1 x2 x3 l d s c t = false ∨ n < 0 ∨ 64 < n) :
    Calls Try.prog 6 #[balV a0 a1 a2 a3, .float .f32 lw, .float .f32 dw, .float .f32 sw, .float .f32 cw, .float .f32 tw, .int .i64 n] w (RetF2 [] false false w) := by
  have CA := fun (W : World) => iCan h0 h1 h2 h3 il id is ic it W
  cases hc : canB x0 x1 x2 x3 l d s c t <;> rw [hc] at CA
  · go_enter Try.func6, Try.ntmps6
    go_wp2_with (go_at_call 14; refine (CA _).mono ?_; rintro _ W0 ⟨rfl, b0⟩)
    go_ret3
    exact RetF2.bad (((Below.refl w.heap.size w).alloc (Nat.le_refl _) _).trans (b0.mono (by simp)))
  · by_cases h1 : n < 0
    · have hd1 : decide (n < 0) = true := decide_eq_true h1
      go_enter Try.func6, Try.ntmps6
      go_wp2_with (go_at_call 14; refine (CA _).mono ?_; rintro _ W0 ⟨rfl, b0⟩)
      go_ret3
      exact RetF2.bad (((Below.refl w.heap.size w).alloc (Nat.le_refl _) _).trans (b0.mono (by simp)))
    · have hd1 : decide (n < 0) = false := decide_eq_false h1
      have hd2 : decide (64 < n) = true := decide_eq_true (by rcases hC with h | h | h; rw [hc] at h; cases h; exact absurd h h1; exact h)
      go_enter Try.func6, Try.ntmps6
      go_wp2_with (go_at_call 14; refine (CA _).mono ?_; rintro _ W0 ⟨rfl, b0⟩)
      go_ret3
      exact RetF2.bad (((Below.refl w.heap.size w).alloc (Nat.le_refl _) _).trans (b0.mono (by simp)))
end
end Go.Proofs.Ytdkjekdokajfgaa
