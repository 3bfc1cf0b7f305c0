/-
  Moved bodies, of the model. No condition.
-/
import Derived.Test.YtkhinppmldodiaaMov2
import Derived.Test.YtkhinppmldodiaaSet3
namespace Go.Proofs.Ytkhinppmldodiaa
open Go.RowKit

theorem sMove0 (b off cap : Nat) (w : World) {b0 b1 b2 c0 c1 c2 : Nat} :
    Calls Try.prog 33 #[.slice (some ⟨b, off, none⟩) 0 cap, vecV b0 b1 b2, vecV c0 c1 c2] w fun e w' => (∃ a c, e = .returned (.slice a 0 c)) ∧ Below w.heap.size w w' := by
  go_enter Try.func33, Try.ntmps33
  go_wp2_with (go_at_call 59; refine (sOwn0 b off cap _).mono ?_; rintro _ W2 ⟨⟨a2, q2, rfl⟩, bl2⟩)
  have BW : Below w.heap.size w W2 := by repeat' (first | with_reducible exact Below.refl _ _ | with_reducible assumption | (with_reducible refine Below.setCell ?_ (by first | omega | (simp; done) | (simp; omega)) _) | (with_reducible refine Below.alloc ?_ (by first | omega | (simp; done) | (simp; omega)) _) | (with_reducible refine below_drewN ?_ _) | (with_reducible refine Below.drew ?_) | (with_reducible refine Below.trans ?_ (Below.mono (by first | (with_reducible assumption) | exact Grow.below (by assumption)) (by first | omega | (simp; done) | (simp; omega)))))
  go_loopw [8] (fun i wr => i = .int .i64 0 ∧ wr = W2) (fun i _ => 0)
  case atStart => exact ⟨rfl, rfl⟩
  case round =>
    obtain ⟨rfl, rfl⟩ := hrel
    go_wp2
    go_ret
    exact ⟨⟨_, _, rfl⟩, BW⟩

/-- What is moved of some first numbers. -/
def movP (v y s : Nat → Option Nat) (m : Nat) (i : Nat) : Option Nat := if i < m then movV v y s i else v i
theorem movP_t {v y s : Nat → Option Nat} {m i : Nat} (h : i < m) : movP v y s m i = movV v y s i := if_pos h
theorem movP_f {v y s : Nat → Option Nat} {m i : Nat} (h : ¬ i < m) : movP v y s m i = v i := if_neg h
theorem movP_step {v y s : Nat → Option Nat} {m p : Nat} (h : p = m + 3) {i : Nat} (hi : i < m ∨ m + 3 ≤ i) : movP v y s p i = movP v y s m i := by
  subst h
  rcases hi with hi | hi
  · rw [movP_t hi, movP_t (by omega)]
  · rw [movP_f (by omega), movP_f (by omega)]
theorem movP_seven {v y s : Nat → Option Nat} {k : Nat} (i : Nat) : movP v y s (7 * k + 6) i = movP v y s (7 * (k + 1)) i := by
  by_cases h : i < 7 * k + 6
  · rw [movP_t h, movP_t (by omega)]
  · by_cases h2 : i = 7 * k + 6
    · subst h2; rw [movP_f (by omega), movP_t (by omega), movV_6]
    · rw [movP_f h, movP_f (by omega)]

set_option maxHeartbeats 6400000 in
theorem sMove (b off n cap : Nat) (f : Nat → Nat) (v y s : Nat → Option Nat) {b0 b1 b2 c0 c1 c2 : Nat} (g0 : Is .f32 b0 (y 0)) (g1 : Is .f32 b1 (y 1)) (g2 : Is .f32 b2 (y 2)) (k0 : Is .f32 c0 (s 0)) (k1 : Is .f32 c1 (s 1)) (k2 : Is .f32 c2 (s 2)) (w : World) (h0 : 0 < n) (hn : n ≤ 1048576) (hb : b < w.heap.size) (hr : ∀ i, i < 7 * n → w.cell? ⟨b, off + i, none⟩ = some (.float .f32 (f i))) (hv : ∀ i, i < 7 * n → Is .f32 (f i) (v i)) :
    Calls Try.prog 33 #[.slice (some ⟨b, off, none⟩) n cap, vecV b0 b1 b2, vecV c0 c1 c2] w fun e w' => (∃ g c r, e = .returned (.slice (some ⟨g, 0, none⟩) n c) ∧ w.heap.size ≤ g ∧ Own w' g (7 * n) (wordV r) ∧ ∀ i, i < 7 * n → Is .f32 (r i) (movV v y s i)) ∧ Below w.heap.size w w' := by
  have hst := run_store_float Try.prog
  have HV := Lib.hid hv
  have HR := Lib.hid hr
  clear hr hv
  go_enter Try.func33, Try.ntmps33
  go_wp2_with fail
  have BS : Below w.heap.size w ((w.alloc (.cells #[.float .f32 b0, .float .f32 b1, .float .f32 b2] 33)).alloc (.cells #[.float .f32 c0, .float .f32 c1, .float .f32 c2] 33)) := ((Below.refl _ _).alloc (Nat.le_refl _) _).alloc (by simp) _
  refine (sOwn b off n cap f _ h0 hn (Nat.lt_of_lt_of_le hb BS.size) (fun i hi => (BS.cell (p := ⟨b, off + i, none⟩) hb).trans (HR.out i hi))).mono ?_
  rintro _ W2 ⟨⟨g, q, rfl, hg, ho⟩, bl2⟩
  simp at hg
  have BW : Below w.heap.size w W2 := BS.trans (bl2.mono BS.size)
  have d0 : ∀ w', Below (w.heap.size + 2) W2 w' → w'.cell? ⟨w.heap.size, 0, none⟩ = some (.float .f32 b0) := fun w' h => by rw [h.cell (by simp), bl2.cell (by first | omega | (simp; done) | (simp; omega))]; simp
  have d1 : ∀ w', Below (w.heap.size + 2) W2 w' → w'.cell? ⟨w.heap.size, 1, none⟩ = some (.float .f32 b1) := fun w' h => by rw [h.cell (by simp), bl2.cell (by first | omega | (simp; done) | (simp; omega))]; simp
  have d2 : ∀ w', Below (w.heap.size + 2) W2 w' → w'.cell? ⟨w.heap.size, 2, none⟩ = some (.float .f32 b2) := fun w' h => by rw [h.cell (by simp), bl2.cell (by first | omega | (simp; done) | (simp; omega))]; simp
  have e0 : ∀ w', Below (w.heap.size + 2) W2 w' → w'.cell? ⟨w.heap.size + 1, 0, none⟩ = some (.float .f32 c0) := fun w' h => by rw [h.cell (by simp), bl2.cell (by first | omega | (simp; done) | (simp; omega))]; simp
  have e1 : ∀ w', Below (w.heap.size + 2) W2 w' → w'.cell? ⟨w.heap.size + 1, 1, none⟩ = some (.float .f32 c1) := fun w' h => by rw [h.cell (by simp), bl2.cell (by first | omega | (simp; done) | (simp; omega))]; simp
  have e2 : ∀ w', Below (w.heap.size + 2) W2 w' → w'.cell? ⟨w.heap.size + 1, 2, none⟩ = some (.float .f32 c2) := fun w' h => by rw [h.cell (by simp), bl2.cell (by first | omega | (simp; done) | (simp; omega))]; simp
  have HD0 := Lib.hid d0
  have HD1 := Lib.hid d1
  have HD2 := Lib.hid d2
  have HE0 := Lib.hid e0
  have HE1 := Lib.hid e1
  have HE2 := Lib.hid e2
  clear d0 e0 d1 e1 d2 e2 BS bl2
  go_wp2_with fail
  go_loopw [8] (fun i wr => ∃ (k : Nat) (r : Nat → Nat), k ≤ n ∧ i = .int .i64 k ∧ Own wr g (7 * n) (wordV r) ∧ (∀ i, i < 7 * n → Is .f32 (r i) (movP v y s (7 * k) i)) ∧ Below w.heap.size w wr ∧ Below (w.heap.size + 2) W2 wr) (fun i _ => n - (intOf i).toNat)
  case atStart => exact ⟨0, f, Nat.zero_le _, rfl, ho, fun i hi => by rw [movP_f (by omega)]; exact HV.out i hi, BW, Below.refl _ _⟩
  case round =>
    obtain ⟨k, r, hk, rfl, ho, hi, hbel, hbl2⟩ := hrel
    have HO := Lib.hid ho
    have HI := Lib.hid hi
    by_cases hlt : k < n
    · obtain ⟨p0, p1, p2, p3, p4, p5, p6⟩ := own7 ho hlt
      have fz : ∀ o, wr.frozen? ⟨g, o, none⟩ = false := ho.2.2
      have hgl := ho.1
      have i0 : Is .f32 (r (7 * k)) (v (7 * k)) := by have := hi (7 * k) (by omega); rw [movP_f (by omega)] at this; exact this
      have i1 : Is .f32 (r (7 * k + 1)) (v (7 * k + 1)) := by have := hi (7 * k + 1) (by omega); rw [movP_f (by omega)] at this; exact this
      have i2 : Is .f32 (r (7 * k + 2)) (v (7 * k + 2)) := by have := hi (7 * k + 2) (by omega); rw [movP_f (by omega)] at this; exact this
      have i3 : Is .f32 (r (7 * k + 3)) (v (7 * k + 3)) := by have := hi (7 * k + 3) (by omega); rw [movP_f (by omega)] at this; exact this
      have i4 : Is .f32 (r (7 * k + 4)) (v (7 * k + 4)) := by have := hi (7 * k + 4) (by omega); rw [movP_f (by omega)] at this; exact this
      have i5 : Is .f32 (r (7 * k + 5)) (v (7 * k + 5)) := by have := hi (7 * k + 5) (by omega); rw [movP_f (by omega)] at this; exact this
      have d0 := HD0.out _ hbl2
      have d1 := HD1.out _ hbl2
      have d2 := HD2.out _ hbl2
      have sz := hbl2.size
      have l0 : w.heap.size < wr.heap.size := by omega
      clear ho hi
      go_wp2_with fail
      go_cut [8] (fun s8 wx => ∃ r' : Nat → Nat, s8 = .int .i64 k ∧ Own wx g (7 * n) (wordV r') ∧ (∀ i, i < 7 * n → Is .f32 (r' i) (movP v y s (7 * k + 3) i)) ∧ Below w.heap.size w wx ∧ Below (w.heap.size + 2) W2 wx)
      case first =>
        go_region_with (go_at_call 38; refine (sAdd i0 i1 i2 g0 g1 g2 _).mono ?_; rintro eq wq ⟨rq0, rq1, rq2, rfl, hq0, hq1, hq2, hbq⟩; have hz := hbq.2; (try simp at hz); have gq : g < wq.heap.size := (by omega); have tf : ∀ o, wq.frozen? ⟨g, o, none⟩ = false := (fun o => (hbq.1.frozen (p := ⟨g, o, none⟩) (by simpa using hgl)).trans (by simpa using fz o)); have t0 := (hbq.1.cell (p := ⟨g, k * 7, none⟩) (by simpa using hgl)).trans (by simpa using p0); have t1 := (hbq.1.cell (p := ⟨g, k * 7 + 1, none⟩) (by simpa using hgl)).trans (by simpa using p1); have t2 := (hbq.1.cell (p := ⟨g, k * 7 + 2, none⟩) (by simpa using hgl)).trans (by simpa using p2))
        all_goals
          go_wp2_with fail
          go_meet
          have e2 : Below (w.heap.size + 2) W2 wq := hbl2.drew.trans (hbq.1.mono (by simp; omega))
          have e1 : Below w.heap.size w wq := hbel.drew.trans (hbq.1.mono (by simp; omega))
          refine ⟨put3 r (7 * k) rq0 rq1 rq2, rfl, own3 ((HO.out.heap (W := wr.drew) rfl).step hbq.1) (7 * k) (by omega) rq0 rq1 rq2 (by omega) (by omega) (by omega), ?_, ((e1.setCell (by simp; omega) _).setCell (by simp; omega) _).setCell (by simp; omega) _, ((e2.setCell (by simp; omega) _).setCell (by simp; omega) _).setCell (by simp; omega) _⟩
          exact is_put3 HI.out (by rw [movP_t (by omega), movV_0]; exact hq0) (by rw [movP_t (by omega), movV_1]; exact hq1) (by rw [movP_t (by omega), movV_2]; exact hq2) (fun i _ hi => movP_step rfl hi)
      case rest =>
        obtain ⟨r', rfl, ho', hi', hbel', hbl2'⟩ := hcut
        have HO' := Lib.hid ho'
        have HI' := Lib.hid hi'
        clear fz hgl p0 p1 p2 p3 p4 p5 p6 i0 i1 i2 i3 i4 i5
        obtain ⟨p0, p1, p2, p3, p4, p5, p6⟩ := own7 ho' hlt
        have fz' : ∀ o, wc.frozen? ⟨g, o, none⟩ = false := ho'.2.2
        have hgl' := ho'.1
        have i3 : Is .f32 (r' (7 * k + 3)) (v (7 * k + 3)) := by have := hi' (7 * k + 3) (by omega); rw [movP_f (by omega)] at this; exact this
        have i4 : Is .f32 (r' (7 * k + 4)) (v (7 * k + 4)) := by have := hi' (7 * k + 4) (by omega); rw [movP_f (by omega)] at this; exact this
        have i5 : Is .f32 (r' (7 * k + 5)) (v (7 * k + 5)) := by have := hi' (7 * k + 5) (by omega); rw [movP_f (by omega)] at this; exact this
        have e0 := HE0.out _ hbl2'
        have e1 := HE1.out _ hbl2'
        have e2 := HE2.out _ hbl2'
        have sz' := hbl2'.size
        have l0' : w.heap.size + 1 < wc.heap.size := by omega
        clear ho' hi' d0 d1 d2
        go_wp2_with fail
        go_region_with (go_at_call 38; refine (sAdd i3 i4 i5 k0 k1 k2 _).mono ?_; rintro eq wq ⟨rq0, rq1, rq2, rfl, hq0, hq1, hq2, hbq⟩; have hz := hbq.2; (try simp at hz); have gq : g < wq.heap.size := (by omega); have tf : ∀ o, wq.frozen? ⟨g, o, none⟩ = false := (fun o => (hbq.1.frozen (p := ⟨g, o, none⟩) (by simpa using hgl')).trans (by simpa using fz' o)); have t0 := (hbq.1.cell (p := ⟨g, k * 7 + 3, none⟩) (by simpa using hgl')).trans (by simpa using p3); have t1 := (hbq.1.cell (p := ⟨g, k * 7 + 3 + 1, none⟩) (by simpa using hgl')).trans (by simpa using p4); have t2 := (hbq.1.cell (p := ⟨g, k * 7 + 3 + 2, none⟩) (by simpa using hgl')).trans (by simpa using p5))
        all_goals
          go_wp2_with fail
          go_roundw
          case rel =>
            have e2 : Below (w.heap.size + 2) W2 wq := hbl2'.drew.trans (hbq.1.mono (by simp; omega))
            have e1 : Below w.heap.size w wq := hbel'.drew.trans (hbq.1.mono (by simp; omega))
            refine ⟨k + 1, put3 r' (7 * k + 3) rq0 rq1 rq2, by omega, by go_num, own3 ((HO'.out.heap (W := wc.drew) rfl).step hbq.1) (7 * k + 3) (by omega) rq0 rq1 rq2 (by omega) (by omega) (by omega), ?_, ((e1.setCell (by simp; omega) _).setCell (by simp; omega) _).setCell (by simp; omega) _, ((e2.setCell (by simp; omega) _).setCell (by simp; omega) _).setCell (by simp; omega) _⟩
            intro i hi
            rw [← movP_seven]
            exact is_put3 (u' := movP v y s (7 * k + 6)) HI'.out (by rw [movP_t (by omega), movV_3]; exact hq0) (by rw [movP_t (by omega), show 7 * k + 3 + 1 = 7 * k + 4 from rfl, movV_4]; exact hq1) (by rw [movP_t (by omega), show 7 * k + 3 + 2 = 7 * k + 5 from rfl, movV_5]; exact hq2) (fun i _ hi => movP_step rfl hi) i hi
          case measure => simp [intOf]; omega
    · have hkn : Hid (k = n) := (show k = n by omega)
      clear ho hi
      go_wp2_with fail
      go_ret
      exact ⟨⟨g, _, r, rfl, by omega, HO.out, fun i hi => by have := HI.out i hi; rw [movP_t (by rw [hkn.out]; exact hi)] at this; exact this⟩, hbel⟩
end Go.Proofs.Ytkhinppmldodiaa
