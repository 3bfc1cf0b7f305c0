/-
  Lists of vectors that are handed back: found equal, marked, and asked for their marks. No condition.
-/
import Derived.Test.YtnnilmmgdjkdaaaMarkB
import Derived.Test.YtnnilmmgdjkdaaaEqB
namespace Go.Proofs.Ytnnilmmgdjkdaaa
open Go.RowKit

theorem ov3 {w : World} {b n : Nat} {f : Nat → Value} (h : Own w b (3 * n) f) {k : Nat} (hk : k < n) :
    w.cell? ⟨b, k * 3, none⟩ = some (f (3 * k)) ∧ w.cell? ⟨b, k * 3 + 1, none⟩ = some (f (3 * k + 1)) ∧ w.cell? ⟨b, k * 3 + 2, none⟩ = some (f (3 * k + 2)) := by
  refine ⟨?_, ?_, ?_⟩ <;> rw [h.2.1 _ (by omega)] <;> congr 1 <;> congr 1 <;> omega
theorem cells3 {w : World} {b off n : Nat} {f : Nat → Nat} (h : ∀ i, i < 3 * n → w.cell? ⟨b, off + i, none⟩ = some (.float .f32 (f i))) {k : Nat} (hk : k < n) :
    w.cell? ⟨b, off + k * 3, none⟩ = some (.float .f32 (f (3 * k))) ∧ w.cell? ⟨b, off + k * 3 + 1, none⟩ = some (.float .f32 (f (3 * k + 1))) ∧ w.cell? ⟨b, off + k * 3 + 2, none⟩ = some (.float .f32 (f (3 * k + 2))) := by
  have e := fun j (hj : j < 3) => h (3 * k + j) (by omega)
  have e0 := e 0 (by omega)
  have e1 := e 1 (by omega)
  have e2 := e 2 (by omega)
  rw [show off + (3 * k + 0) = off + k * 3 by omega] at e0
  rw [show off + (3 * k + 1) = off + k * 3 + 1 by omega] at e1
  rw [show off + (3 * k + 2) = off + k * 3 + 2 by omega] at e2
  exact ⟨e0, e1, e2⟩
theorem oset3 {w : World} {b n : Nat} {g g' : Nat → Value} (h : Own w b (3 * n) g) {k : Nat} (hk : k < n) {v0 v1 v2 : Value} (e0 : g' (3 * k) = v0) (e1 : g' (3 * k + 1) = v1) (e2 : g' (3 * k + 2) = v2) (ho : ∀ j, j < 3 * n → (j < 3 * k ∨ 3 * k + 3 ≤ j) → g' j = g j) :
    Own (((w.setCell ⟨b, k * 3, none⟩ v0).setCell ⟨b, k * 3 + 1, none⟩ v1).setCell ⟨b, k * 3 + 2, none⟩ v2) b (3 * n) g' := by
  refine (((h.set (by omega) v0).set (by omega) v1).set (by omega) v2).congr fun j hj => ?_
  have hc : j < 3 * k ∨ j = 3 * k ∨ j = 3 * k + 1 ∨ j = 3 * k + 2 ∨ 3 * k + 3 ≤ j := by omega
  rcases hc with hc | rfl | rfl | rfl | hc
  · rw [ho j hj (.inl hc), if_neg (by omega), if_neg (by omega), if_neg (by omega)]
  · rw [e0, if_neg (by omega), if_neg (by omega), if_pos (by omega)]
  · rw [e1, if_neg (by omega), if_pos (by omega)]
  · rw [e2, if_pos (by omega)]
  · rw [ho j hj (.inr hc), if_neg (by omega), if_neg (by omega), if_neg (by omega)]

set_option maxHeartbeats 1600000 in
theorem eqVS (ba oa bb ob n ca cb : Nat) (f g : Nat → Nat) (v : Nat → Option Nat) (w : World) (hn : n ≤ 1048576) (la : ba < w.heap.size) (lb : bb < w.heap.size) (ra : ∀ i, i < 3 * n → w.cell? ⟨ba, oa + i, none⟩ = some (.float .f32 (f i))) (rb : ∀ i, i < 3 * n → w.cell? ⟨bb, ob + i, none⟩ = some (.float .f32 (g i))) (ia : ∀ i, i < 3 * n → Is .f32 (f i) (v i)) (ib : ∀ i, i < 3 * n → Is .f32 (g i) (v i)) :
    Calls Try.prog 11 #[.slice (some ⟨ba, oa, none⟩) n ca, .slice (some ⟨bb, ob, none⟩) n cb] w fun e w' => e = .returned (.bool true) ∧ Below w.heap.size w w' := by
  have HA := Lib.hid ra
  have HB := Lib.hid rb
  have IA := Lib.hid ia
  have IB := Lib.hid ib
  clear ra rb ia ib
  go_enter Try.func11, Try.ntmps11
  go_wp2
  go_loopw [5] (fun i wr => ∃ k : Nat, k ≤ n ∧ i = .int .i64 k ∧ Below w.heap.size w wr) (fun i _ => n - (intOf i).toNat)
  case atStart => exact ⟨0, Nat.zero_le _, rfl, Below.refl _ _⟩
  case round =>
    obtain ⟨k, hk, rfl, hbel⟩ := hrel
    by_cases hlt : k < n
    · obtain ⟨c0, c1, c2⟩ := cells3 HA.out hlt
      rw [← hbel.cell (by exact la)] at c0 c1 c2
      obtain ⟨d0, d1, d2⟩ := cells3 HB.out hlt
      rw [← hbel.cell (by exact lb)] at d0 d1 d2
      have hz := hbel.size
      have CC := fun (W : World) => eqV_any (IA.out (3 * k) (by omega)) (IA.out (3 * k + 1) (by omega)) (IA.out (3 * k + 2) (by omega)) (IB.out (3 * k) (by omega)) (IB.out (3 * k + 1) (by omega)) (IB.out (3 * k + 2) (by omega)) W
      go_wp2_with fail
      go_region_with (go_at_call 32; refine (CC _).mono ?_; rintro eq wq ⟨rfl, hq⟩)
      all_goals
        go_wp2
        go_roundw
        case rel => exact ⟨k + 1, by omega, by go_num, hbel.drew.trans (hq.1.mono hz)⟩
        case measure => simp [intOf]; omega
    · go_wp2
      go_ret
      exact ⟨rfl, hbel⟩

theorem eqVS0 (a a' : Option Addr) (ca cb : Nat) (w : World) :
    Calls Try.prog 11 #[.slice a 0 ca, .slice a' 0 cb] w fun e w' => e = .returned (.bool true) ∧ Below w.heap.size w w' := by
  go_enter Try.func11, Try.ntmps11
  go_wp2
  go_loopw [5] (fun i wr => i = .int .i64 0 ∧ wr = w) (fun i _ => 0)
  case atStart => exact ⟨rfl, rfl⟩
  case round =>
    obtain ⟨rfl, rfl⟩ := hrel
    go_wp2
    go_ret
    exact ⟨rfl, Below.refl _ _⟩

set_option maxHeartbeats 3200000 in
theorem markVr (b n cap : Nat) (f : Nat → Value) (w : World) (hn : n ≤ 1048576) (h : Own w b (3 * n) f) :
    Calls Try.prog 14 #[.slice (some ⟨b, 0, none⟩) n cap, .int .i64 1] w fun e w' => e = .returned (.int .i64 (1 + 3 * (n : Int))) ∧ Own w' b (3 * n) markV ∧ Touch b w w' := by
  have hst := run_store_float Try.prog
  have HO := Lib.hid h
  clear h
  go_enter Try.func14, Try.ntmps14
  go_wp2
  go_loopw [1, 5] (fun q i wr => ∃ k : Nat, k ≤ n ∧ q = .int .i64 (1 + 3 * (k : Int)) ∧ i = .int .i64 (k : Nat) ∧ Own wr b (3 * n) (fun j => if j < 3 * k then markV j else f j) ∧ Touch b w wr) (fun _ i _ => n - (intOf i).toNat)
  case atStart => exact ⟨0, Nat.zero_le _, rfl, rfl, HO.out.congr (fun i hi => by rw [if_neg (by omega)]), Touch.refl _ _⟩
  case round =>
    obtain ⟨k, hk, rfl, rfl, hrow, ht⟩ := hrel
    by_cases hlt : k < n
    · obtain ⟨d0, d1, d2⟩ := ov3 hrow hlt
      have hfz : ∀ o, wr.frozen? ⟨b, o, none⟩ = false := hrow.2.2
      have HROW := Lib.hid hrow
      have HT := Lib.hid ht
      clear hrow ht
      go_wp2
      go_roundw
      case rel =>
        refine ⟨k + 1, by omega, by go_num, by go_num, oset3 HROW.out hlt ?_ ?_ ?_ ?_, ((HT.out.setCell _ _).setCell _ _).setCell _ _⟩
        all_goals first | (rw [if_pos (by omega)]; show Value.float .f32 (mw _) = _; unfold mw; congr 2 <;> (push_cast; omega)) | skip
        intro j hj h
        rcases h with h | h
        · rw [if_pos (by omega), if_pos (by omega)]
        · rw [if_neg (by omega), if_neg (by omega)]
      case measure => simp [intOf]; omega
    · have hkn : Hid (k = n) := (show k = n by omega)
      go_wp2
      go_ret
      exact ⟨by rw [hkn.out]; rfl, hrow.congr (fun j hj => by rw [if_pos (by rw [hkn.out]; exact hj)]), ht⟩

theorem markVr0 (a : Option Addr) (cap : Nat) (w : World) :
    Calls Try.prog 14 #[.slice a 0 cap, .int .i64 1] w fun e w' => e = .returned (.int .i64 1) ∧ w' = w := by
  go_enter Try.func14, Try.ntmps14
  go_wp2
  go_loopw [1, 5] (fun q i wr => q = .int .i64 1 ∧ i = .int .i64 0 ∧ wr = w) (fun _ i _ => 0)
  case atStart => exact ⟨rfl, rfl, rfl⟩
  case round =>
    obtain ⟨rfl, rfl, rfl⟩ := hrel
    go_wp2
    go_ret
    exact ⟨rfl, rfl⟩

theorem heldVr0 (a : Option Addr) (cap : Nat) (w : World) :
    Calls Try.prog 15 #[.slice a 0 cap, .int .i64 1] w (RetV (.int .i64 1) w) := by
  go_enter Try.func15, Try.ntmps15
  go_wp2
  go_loopw [1, 5] (fun q i wr => q = .int .i64 1 ∧ i = .int .i64 0 ∧ wr = w) (fun _ i _ => 0)
  case atStart => exact ⟨rfl, rfl, rfl⟩
  case round =>
    obtain ⟨rfl, rfl, rfl⟩ := hrel
    go_wp2
    go_ret
    exact RetV.mk0

set_option maxRecDepth 20000 in
set_option maxHeartbeats 3200000 in
theorem heldVr (b n cap : Nat) (w : World) (hn : n ≤ 1048576) (h : Own w b (3 * n) markV) :
    Calls Try.prog 15 #[.slice (some ⟨b, 0, none⟩) n cap, .int .i64 1] w (RetV (.int .i64 (1 + 3 * (n : Int))) w) := by
  have HO := Lib.hid h
  clear h
  go_enter Try.func15, Try.ntmps15
  go_wp2
  go_loopw [1, 5] (fun q i wr => ∃ k m : Nat, k ≤ n ∧ q = .int .i64 (1 + 3 * (k : Int)) ∧ i = .int .i64 (k : Nat) ∧ wr = w.drewN m) (fun _ i _ => n - (intOf i).toNat)
  case atStart => exact ⟨0, 0, Nat.zero_le _, rfl, rfl, rfl⟩
  case round =>
    obtain ⟨k, m, hk, rfl, rfl, rfl⟩ := hrel
    by_cases hlt : k < n
    · obtain ⟨d0, d1, d2⟩ := ov3 HO.out hlt
      have m0 : mw (3 * k) = floatOfInt .f32 (1 + 3 * (k : Int)) := by unfold mw; congr 1
      have m1 : mw (3 * k + 1) = floatOfInt .f32 (1 + 3 * (k : Int) + 1) := by unfold mw; congr 1 <;> first | done | (push_cast; first | done | omega)
      have m2 : mw (3 * k + 2) = floatOfInt .f32 (1 + 3 * (k : Int) + 1 + 1) := by unfold mw; congr 1 <;> first | done | (push_cast; first | done | omega)
      simp only [markV] at d0 d1 d2
      rw [m0] at d0
      rw [m1] at d1
      rw [m2] at d2
      clear m0 m1 m2
      have hs := fun n : Int => neq_of (is_ifS n)
      have hsome : ∀ n : Int, (ifS n).isNone = false := fun _ => rfl
      simp only [hsome] at hs
      go_wp2_with (apply wpList_cmp; rfl; simp [Cmp]; rfl; rfl; exact is_ifS _; exact is_ifS _; intro Kq hKq; go_simp)
      go_roundw
      case rel => exact ⟨k + 1, m, by omega, by go_num, by go_num, rfl⟩
      case measure => simp [intOf]; omega
    · have hkn : Hid (k = n) := (show k = n by omega)
      go_wp2
      go_ret
      exact ⟨m, by rw [hkn.out]; rfl, rfl⟩

/-- The value is a list of m vectors whose words stand for u, in a block from lo to hi. -/
def RowVr (lo hi : Nat) (w : World) (v : Value) (m : Nat) (u : Nat → Option Nat) : Prop :=
  (m = 0 ∧ ∃ a c, v = .slice a 0 c) ∨ ∃ g c r, v = .slice (some ⟨g, 0, none⟩) m c ∧ lo ≤ g ∧ g < hi ∧ Own w g (3 * m) (wordV r) ∧ ∀ i, i < 3 * m → Is .f32 (r i) (u i)
/-- The value is a list of m vectors that are marked. -/
def MarkedVr (lo hi : Nat) (w : World) (v : Value) (m : Nat) : Prop :=
  (m = 0 ∧ ∃ a c, v = .slice a 0 c) ∨ ∃ g c, v = .slice (some ⟨g, 0, none⟩) m c ∧ lo ≤ g ∧ g < hi ∧ Own w g (3 * m) markV

theorem RowVr.step {lo hi m : Nat} {w W : World} {v : Value} {u : Nat → Option Nat} (h : RowVr lo hi w v m u) (hb : Below w.heap.size w W) : RowVr lo hi W v m u := by
  rcases h with h | ⟨g, c, r, e, hl, hh, ho, hi⟩
  · exact .inl h
  · exact .inr ⟨g, c, r, e, hl, hh, ho.step hb, hi⟩
theorem RowVr.heap {lo hi m : Nat} {w W : World} {v : Value} {u : Nat → Option Nat} (h : RowVr lo hi w v m u) (e : W.heap = w.heap) : RowVr lo hi W v m u := by
  rcases h with h | ⟨g, c, r, e', hl, hh, ho, hi⟩
  · exact .inl h
  · exact .inr ⟨g, c, r, e', hl, hh, ho.heap e, hi⟩
theorem RowVr.touch {lo hi m b : Nat} {w W : World} {v : Value} {u : Nat → Option Nat} (h : RowVr lo hi w v m u) (ht : Touch b w W) (hb : b < lo ∨ hi ≤ b) : RowVr lo hi W v m u := by
  rcases h with h | ⟨g, c, r, e, hl, hh, ho, hi⟩
  · exact .inl h
  · exact .inr ⟨g, c, r, e, hl, hh, ht.own (by omega) ho, hi⟩
theorem MarkedVr.step {lo hi m : Nat} {w W : World} {v : Value} (h : MarkedVr lo hi w v m) (hb : Below w.heap.size w W) : MarkedVr lo hi W v m := by
  rcases h with h | ⟨g, c, e, hl, hh, ho⟩
  · exact .inl h
  · exact .inr ⟨g, c, e, hl, hh, ho.step hb⟩
theorem MarkedVr.heap {lo hi m : Nat} {w W : World} {v : Value} (h : MarkedVr lo hi w v m) (e : W.heap = w.heap) : MarkedVr lo hi W v m := by
  rcases h with h | ⟨g, c, e', hl, hh, ho⟩
  · exact .inl h
  · exact .inr ⟨g, c, e', hl, hh, ho.heap e⟩

theorem eqOkV {l1 h1 l2 h2 m : Nat} {w : World} {v1 v2 : Value} {u : Nat → Option Nat} (hm : m ≤ 1048576) (a : RowVr l1 h1 w v1 m u) (b : RowVr l2 h2 w v2 m u) :
    Calls Try.prog 11 #[v1, v2] w fun e w' => e = .returned (.bool true) ∧ Below w.heap.size w w' := by
  rcases Nat.eq_zero_or_pos m with rfl | hp
  · have z : ∀ {l h : Nat} {v : Value}, RowVr l h w v 0 u → ∃ a c, v = .slice a 0 c := by
      intro l h v x
      rcases x with ⟨_, x⟩ | ⟨g, c, r, e, _⟩
      · exact x
      · exact ⟨_, _, e⟩
    obtain ⟨a1, c1, rfl⟩ := z a
    obtain ⟨a2, c2, rfl⟩ := z b
    exact eqVS0 a1 a2 c1 c2 w
  · rcases a with ⟨h0, _⟩ | ⟨g, c, r, rfl, _, _, ho, hi⟩
    · omega
    · rcases b with ⟨h0, _⟩ | ⟨g', c', r', rfl, _, _, ho', hi'⟩
      · omega
      · exact eqVS g 0 g' 0 m c c' r r' u w hm ho.1 ho'.1 (ownCells ho) (ownCells ho') hi hi'

theorem markOkV {lo hi m : Nat} {w : World} {v : Value} {u : Nat → Option Nat} (hm : m ≤ 1048576) (hlh : lo ≤ hi) (a : RowVr lo hi w v m u) :
    Calls Try.prog 14 #[v, .int .i64 1] w fun e w' => e = .returned (.int .i64 (1 + 3 * (m : Int))) ∧ MarkedVr lo hi w' v m ∧ ∃ b, lo ≤ b ∧ Touch b w w' := by
  rcases a with ⟨rfl, x, c, rfl⟩ | ⟨g, c, r, rfl, hl, hh, ho, _⟩
  · exact (markVr0 x c w).mono fun e w' ⟨he, hw⟩ => by subst he hw; exact ⟨rfl, .inl ⟨rfl, _, _, rfl⟩, lo, Nat.le_refl _, Touch.refl _ _⟩
  · exact (markVr g m c _ w hm ho).mono fun e w' ⟨he, ho', ht⟩ => ⟨he, .inr ⟨g, c, rfl, hl, hh, ho'⟩, g, hl, ht⟩

theorem heldOkV {lo hi m : Nat} {w : World} {v : Value} (hm : m ≤ 1048576) (a : MarkedVr lo hi w v m) :
    Calls Try.prog 15 #[v, .int .i64 1] w (RetV (.int .i64 (1 + 3 * (m : Int))) w) := by
  rcases a with ⟨rfl, x, c, rfl⟩ | ⟨g, c, rfl, hl, hh, ho⟩
  · exact heldVr0 x c w
  · exact heldVr g m c w hm ho

/-- A list of vectors is handed back, and whether it is good. -/
def RetVecs (u : Nat → Option Nat) (n : Nat) (ok : Bool) (w : World) (e : Ending) (w' : World) : Prop :=
  (∃ v, e = .returned (.tuple #[v, .bool ok]) ∧ RowVr w.heap.size w'.heap.size w' v (if ok then n else 0) u) ∧ Below w.heap.size w w'
theorem RetVecs.no {u : Nat → Option Nat} {n : Nat} {w w' : World} (h : Below w.heap.size w w') : RetVecs u n false w (.returned (.tuple #[.slice none 0 0, .bool false])) w' := ⟨⟨_, rfl, .inl ⟨rfl, _, _, rfl⟩⟩, h⟩
end Go.Proofs.Ytnnilmmgdjkdaaa
