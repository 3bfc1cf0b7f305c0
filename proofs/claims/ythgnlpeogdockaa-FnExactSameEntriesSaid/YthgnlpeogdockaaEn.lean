/-
  Whether a text and seven numbers are an entry, of the program and of the model; the copy of an entry that the laws make. No condition.
-/
import Derived.Test.YthgnlpeogdockaaNam
import Derived.Test.YthgnlpeogdockaaOrbSD
import Derived.Test.YthgnlpeogdockaaPos
namespace Go.Proofs.Ythgnlpeogdockaa
open Go.RowKit

/-- An entry of a text and seven words. -/
abbrev enV (s : ByteArray) (a0 a1 a2 a3 a4 a5 a6 : Nat) : Value := .agg #[.string s, .float .f32 a0, .float .f32 a1, .float .f32 a2, .float .f32 a3, .float .f32 a4, .float .f32 a5, .float .f32 a6]
/-- Whether a text and seven numbers are an entry. -/
def enB (s : ByteArray) (x0 x1 x2 x3 x4 x5 x6 : Option Nat) : Bool := nameB s && (orbB x1 x2 x3 x4 x5 x6 && posB x0)

section
variable {s : ByteArray} {a0 a1 a2 a3 a4 a5 a6 : Nat} {x0 x1 x2 x3 x4 x5 x6 : Option Nat} (hs : s.size ≤ maxLen) (h0 : Is .f32 a0 x0) (h1 : Is .f32 a1 x1) (h2 : Is .f32 a2 x2) (h3 : Is .f32 a3 x3) (h4 : Is .f32 a4 x4) (h5 : Is .f32 a5 x5) (h6 : Is .f32 a6 x6)
include h0 h1 h2 h3 h4 h5 h6

theorem iAround (w : World) : Calls Try.prog 45 #[orbV a1 a2 a3 a4 a5 a6, .float .f32 a0] w fun e w' => e = .returned (.bool (orbB x1 x2 x3 x4 x5 x6 && posB x0)) ∧ Below w.heap.size w w' := by
  have CC := fun (W : World) => iOrb h1 h2 h3 h4 h5 h6 W
  generalize orbB x1 x2 x3 x4 x5 x6 = O at CC ⊢
  cases O <;>
    (go_enter Try.func45, Try.ntmps45
     go_wp2_with (first | (go_at_call 68; refine (CC _).mono ?_; rintro eq wq ⟨rfl, hb⟩; obtain ⟨hc, hf⟩ := bcell hb; have hz := hb.size; (try simp at hz); (try have hl : w.heap.size < wq.heap.size := (by omega))) | (go_at_call 69; refine (iPos h0 _).mono ?_; rintro eq wq ⟨nq, rfl, rfl⟩))
     go_ret
     refine ⟨by simp, ?_⟩
     repeat' (first | with_reducible exact Below.refl _ _ | with_reducible assumption | (with_reducible refine Below.setCell ?_ (by first | omega | (simp; done) | (simp; omega)) _) | (with_reducible refine Below.alloc ?_ (by first | omega | (simp; done) | (simp; omega)) _) | (with_reducible refine below_drewN ?_ _) | (with_reducible refine Below.drew ?_) | (with_reducible refine Below.trans ?_ (Below.mono (by first | (with_reducible assumption) | exact Grow.below (by assumption)) (by first | omega | (simp; done) | (simp; omega))))))

include hs
theorem iEntry (w : World) : Calls Try.prog 20 #[enV s a0 a1 a2 a3 a4 a5 a6] w fun e w' => e = .returned (.bool (enB s x0 x1 x2 x3 x4 x5 x6)) ∧ Below w.heap.size w w' := by
  have CC := fun (W : World) => iAround h0 h1 h2 h3 h4 h5 h6 W
  have CN := fun (W : World) => implName s W hs
  unfold enB
  generalize nameB s = N at CN ⊢
  generalize (orbB x1 x2 x3 x4 x5 x6 && posB x0) = O at CC ⊢
  cases N <;>
    (go_enter Try.func20, Try.ntmps20
     go_wp2_with (first | (go_at_call 44; refine (CN _).mono ?_; rintro eq wq ⟨nq, rfl, rfl⟩) | (go_at_call 45; refine (CC _).mono ?_; rintro eq wq ⟨rfl, hb⟩; obtain ⟨hc, hf⟩ := bcell hb; have hz := hb.size; (try simp at hz); (try have hl : w.heap.size < wq.heap.size := (by omega))))
     go_ret
     refine ⟨by simp, ?_⟩
     repeat' (first | with_reducible exact Below.refl _ _ | with_reducible assumption | (with_reducible refine Below.setCell ?_ (by first | omega | (simp; done) | (simp; omega)) _) | (with_reducible refine Below.alloc ?_ (by first | omega | (simp; done) | (simp; omega)) _) | (with_reducible refine below_drewN ?_ _) | (with_reducible refine Below.drew ?_) | (with_reducible refine Below.trans ?_ (Below.mono (by first | (with_reducible assumption) | exact Grow.below (by assumption)) (by first | omega | (simp; done) | (simp; omega))))))

theorem sEntryP (b o : Nat) (w : World) (hb : b < w.heap.size) (c0 : w.cell? ⟨b, o, none⟩ = some (.string s)) (c1 : w.cell? ⟨b, o + 1, none⟩ = some (.float .f32 a0)) (c2 : w.cell? ⟨b, o + 2, none⟩ = some (.float .f32 a1)) (c3 : w.cell? ⟨b, o + 3, none⟩ = some (.float .f32 a2)) (c4 : w.cell? ⟨b, o + 4, none⟩ = some (.float .f32 a3)) (c5 : w.cell? ⟨b, o + 5, none⟩ = some (.float .f32 a4)) (c6 : w.cell? ⟨b, o + 6, none⟩ = some (.float .f32 a5)) (c7 : w.cell? ⟨b, o + 7, none⟩ = some (.float .f32 a6)) :
    Calls Try.prog 42 #[.pointer (some ⟨b, o, none⟩)] w fun e w' => e = .returned (.bool (enB s x0 x1 x2 x3 x4 x5 x6)) ∧ Below w.heap.size w w' := by
  have CO := fun (m : Nat) => sIs h1 h2 h3 h4 h5 h6 b (o + 2) (w.drewN m) hb c2 c3 c4 c5 c6 c7
  have CN := fun (W : World) => specName s W hs
  have CP := fun (W : World) => sPos h0 W
  unfold enB
  rw [orb_same h2] at CO
  generalize nameB s = N at CN ⊢
  generalize orbB x1 x2 x3 x4 x5 x6 = O at CO ⊢
  generalize posB x0 = P at CP ⊢
  cases N <;> cases P <;>
    (go_enter Try.func42, Try.ntmps42
     go_wp2_with (first | (go_at_call 65; refine (CN _).mono ?_; rintro eq wq ⟨nq, rfl, rfl⟩) | (go_at_call 66; refine (CP _).mono ?_; rintro eq wq ⟨nq, rfl, rfl⟩) | (go_at_call 67; refine (CO _).mono ?_; rintro eq wq ⟨nq, rfl, rfl⟩))
     go_ret
     refine ⟨by simp, ?_⟩
     repeat' (first | with_reducible exact Below.refl _ _ | with_reducible assumption | (with_reducible refine Below.setCell ?_ (by first | omega | (simp; done) | (simp; omega)) _) | (with_reducible refine Below.alloc ?_ (by first | omega | (simp; done) | (simp; omega)) _) | (with_reducible refine below_drewN ?_ _) | (with_reducible refine Below.drew ?_) | (with_reducible refine Below.trans ?_ (Below.mono (by first | (with_reducible assumption) | exact Grow.below (by assumption)) (by first | omega | (simp; done) | (simp; omega))))))

theorem sEntry (w : World) : Calls Try.prog 18 #[enV s a0 a1 a2 a3 a4 a5 a6] w fun e w' => e = .returned (.bool (enB s x0 x1 x2 x3 x4 x5 x6)) ∧ Below w.heap.size w w' := by
  go_enter Try.func18, Try.ntmps18
  go_wp2_with fail
  refine (sEntryP hs h0 h1 h2 h3 h4 h5 h6 w.heap.size 0 _ (by simp) (by simp) (by simp) (by simp) (by simp) (by simp) (by simp) (by simp) (by simp)).mono ?_
  rintro eq wq ⟨rfl, hb⟩
  go_wp2_with fail
  go_ret
  refine ⟨rfl, ?_⟩
  have hz := hb.size
  simp at hz
  repeat' (first | with_reducible exact Below.refl _ _ | with_reducible assumption | (with_reducible refine Below.setCell ?_ (by first | omega | (simp; done) | (simp; omega)) _) | (with_reducible refine Below.alloc ?_ (by first | omega | (simp; done) | (simp; omega)) _) | (with_reducible refine below_drewN ?_ _) | (with_reducible refine Below.drew ?_) | (with_reducible refine Below.trans ?_ (Below.mono (by first | (with_reducible assumption) | exact Grow.below (by assumption)) (by first | omega | (simp; done) | (simp; omega)))))
end

set_option maxHeartbeats 1600000 in
theorem toEn {s : ByteArray} {a0 a1 a2 a3 a4 a5 a6 : Nat} (w : World) : Calls Try.prog 19 #[enV s a0 a1 a2 a3 a4 a5 a6] w fun e w' => e = .returned (enV s a0 a1 a2 a3 a4 a5 a6) ∧ Below w.heap.size w w' := by
  have hst := run_store_float Try.prog
  go_enter Try.func19, Try.ntmps19
  go_wp2_with (go_at_call 43; refine (toOrb _).mono ?_; rintro eq wq ⟨rfl, hb⟩; obtain ⟨hc, hf⟩ := bcell hb; have hz := hb.size; (try simp at hz); (try have hl : w.heap.size < wq.heap.size := (by omega)))
  refine bodyPost_ret (v := enV s a0 a1 a2 a3 a4 a5 a6) (by simp [results, Try.results19, go_sem, hc]) rfl ⟨rfl, ?_⟩
  repeat' (first | with_reducible exact Below.refl _ _ | with_reducible assumption | (with_reducible refine Below.setCell ?_ (by first | omega | (simp; done) | (simp; omega)) _) | (with_reducible refine Below.alloc ?_ (by first | omega | (simp; done) | (simp; omega)) _) | (with_reducible refine below_drewN ?_ _) | (with_reducible refine Below.drew ?_) | (with_reducible refine Below.trans ?_ (Below.mono (by first | (with_reducible assumption) | exact Grow.below (by assumption)) (by first | omega | (simp; done) | (simp; omega)))))

theorem szEn {s : ByteArray} {a0 a1 a2 a3 a4 a5 a6 : Nat} (L : Int) (w : World) (hs : s.size ≤ maxLen) (h0 : 0 ≤ L) (h1 : L ≤ 1048576) :
    Calls Try.prog 17 #[enV s a0 a1 a2 a3 a4 a5 a6, .int .i64 L] w fun e w' => e = .returned (.int .i64 (if L < s.size then -1 else L - s.size)) ∧ Below w.heap.size w w' := by
  unfold maxLen at hs
  have hw : wrap64 (L - (s.size : Int)) = L - s.size := by unfold wrap64; omega
  by_cases hl : L < (s.size : Int)
  · have hd : decide (L - (s.size : Int) < 0) = true := by simp; omega
    rw [if_pos hl]
    go_enter Try.func17, Try.ntmps17
    go_wp2
    go_ret
    refine ⟨rfl, ?_⟩
    repeat' (first | with_reducible exact Below.refl _ _ | with_reducible assumption | (with_reducible refine Below.setCell ?_ (by first | omega | (simp; done) | (simp; omega)) _) | (with_reducible refine Below.alloc ?_ (by first | omega | (simp; done) | (simp; omega)) _) | (with_reducible refine below_drewN ?_ _) | (with_reducible refine Below.drew ?_) | (with_reducible refine Below.trans ?_ (Below.mono (by first | (with_reducible assumption) | exact Grow.below (by assumption)) (by first | omega | (simp; done) | (simp; omega)))))
  · have hd : decide (L - (s.size : Int) < 0) = false := by simp; omega
    rw [if_neg hl]
    go_enter Try.func17, Try.ntmps17
    go_wp2
    go_ret
    refine ⟨rfl, ?_⟩
    repeat' (first | with_reducible exact Below.refl _ _ | with_reducible assumption | (with_reducible refine Below.setCell ?_ (by first | omega | (simp; done) | (simp; omega)) _) | (with_reducible refine Below.alloc ?_ (by first | omega | (simp; done) | (simp; omega)) _) | (with_reducible refine below_drewN ?_ _) | (with_reducible refine Below.drew ?_) | (with_reducible refine Below.trans ?_ (Below.mono (by first | (with_reducible assumption) | exact Grow.below (by assumption)) (by first | omega | (simp; done) | (simp; omega)))))
end Go.Proofs.Ythgnlpeogdockaa
