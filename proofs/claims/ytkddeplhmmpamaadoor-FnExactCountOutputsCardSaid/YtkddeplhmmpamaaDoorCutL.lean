/-
  The pieces of a text between newlines, of the model; the library's count and pieces. No condition.
-/
import Derived.Test.YtkddeplhmmpamaaDoorPcsL
import Derived.Test.YtkddeplhmmpamaaDoorApp
import Derived.Test.YtkddeplhmmpamaaDoorSpl
import Derived.Deep.AppendLies
import Derived.OwnWalk
namespace Go.Proofs.YtkddeplhmmpamaaDoor
open Go.RowKit

theorem infoT : (Tryd.prog.info? 9).map (fun i => (i.zero, i.size, i.bytes)) = some (some (.string ⟨#[]⟩), 1, 16) := by kernel_rfl
theorem cell_of_block {w : World} {g k : Nat} {cs : Array Value} {e : TypeId} {v : Value} (h : w.heap[g]? = some (.cells cs e (0, 0))) (hk : cs[k]? = some v) : w.cell? ⟨g, k, none⟩ = some v := by
  simp [World.cell?, h, hk]
theorem new1 (w : World) (v : Value) (e : TypeId) : ∀ i u, [v][i]? = some u → (w.alloc (.cells #[v] e)).cell? ((⟨w.heap.size, 0, none⟩ : Addr).add i) = some u := by
  intro i u h
  cases i with
  | zero => cases h; exact cell_of_block (heap_alloc_new w _) rfl
  | succ i => simp at h

/-- While the text is cut: from is where the piece begins, i how far it has been looked at. -/
structure CutIs (s : ByteArray) (done : List ByteArray) (fr i : Nat) : Prop where
  le : fr ≤ i
  top : i ≤ s.size
  none : ∀ j, fr ≤ j → j < i → s.data.toList[j]? ≠ some 10
  eq : done ++ pieces (s.extract fr s.size) = pieces s
  len : done.length ≤ fr

theorem CutIs.start (s : ByteArray) : CutIs s [] 0 0 := ⟨Nat.le_refl _, Nat.zero_le _, fun j _ h => by omega, by rw [show s.extract 0 s.size = s from by simp]; rfl, by simp⟩
theorem extract_get (s : ByteArray) (a j : Nat) : (s.extract a s.size).data.toList[j]? = s.data.toList[a + j]? := by
  rw [Lib.extract_to_end]; simp
theorem CutIs.skip {s : ByteArray} {done : List ByteArray} {fr i : Nat} (h : CutIs s done fr i) (hi : i < s.size) (hc : s.data.toList[i]? ≠ some 10) : CutIs s done fr (i + 1) :=
  ⟨Nat.le_succ_of_le h.le, hi, fun j h1 h2 => by
    rcases Nat.lt_or_ge j i with h3 | h3
    · exact h.none j h1 h3
    · obtain rfl : j = i := by omega
      exact hc, h.eq, h.len⟩
theorem CutIs.hit {s : ByteArray} {done : List ByteArray} {fr i : Nat} (h : CutIs s done fr i) (hi : i < s.size) (hc : s.data.toList[i]? = some 10) : CutIs s (done ++ [s.extract fr i]) (i + 1) (i + 1) := by
  have hl := h.le
  refine ⟨Nat.le_refl _, hi, fun j h1 h2 => by omega, ?_, by have := h.len; simp; omega⟩
  have hp := pieces_hit (s.extract fr s.size) (i - fr) (by rw [extract_get, show fr + (i - fr) = i from by omega]; exact hc) (fun j hj => by rw [extract_get]; exact h.none _ (by omega) (by omega))
  rw [← h.eq, hp, List.append_assoc]
  congr 1
  have e1 : (s.extract fr s.size).extract 0 (i - fr) = s.extract fr i := by
    rw [ByteArray.extract_extract]; congr 1 <;> omega
  have e2 : (s.extract fr s.size).extract (i - fr + 1) (s.extract fr s.size).size = s.extract (i + 1) s.size := by
    rw [ByteArray.extract_extract, ByteArray.size_extract]; congr 1 <;> omega
  rw [e1, e2]; rfl
theorem CutIs.last {s : ByteArray} {done : List ByteArray} {fr : Nat} (h : CutIs s done fr s.size) : done ++ [s.extract fr s.size] = pieces s := by
  rw [← h.eq, pieces_end (s.extract fr s.size) (fun j => by
    rw [extract_get]
    rcases Nat.lt_or_ge (fr + j) s.size with h1 | h1
    · exact h.none _ (by omega) h1
    · rw [List.getElem?_eq_none (by simpa using h1)]; simp)]

def lenOf2 : Value → Nat
  | .slice _ n _ => n
  | _ => 0
theorem ownsRow_zeroT (w : World) (base : Nat) (e : TypeId) (hb : base ≤ w.heap.size) :
    (w.alloc (.cells #[] e)).ownsRow base e 1 (.slice (some ⟨w.heap.size, 0, none⟩) 0 0) 0 [] :=
  World.ownsRow_made w #[] 0 hb (Nat.zero_le _) rfl

set_option maxHeartbeats 1600000 in
set_option maxRecDepth 100000 in
theorem specCut (s : ByteArray) (hs : s.size ≤ 1048576) (w : World) :
    Calls Tryd.prog 8 #[.string s, .int .u8 10] w fun e w' => (∃ g cap n, e = .returned (.slice (some ⟨g, 0, none⟩) n cap) ∧ n = (pieces s).length ∧ w'.ownsRow w.heap.size 9 1 (.slice (some ⟨g, 0, none⟩) n cap) n ((pieces s).map Value.string)) ∧ Below w.heap.size w w' := by
  obtain ⟨i0, hi, hz0, hz1, hz2⟩ := info_parts infoT
  go_enter Tryd.func8, Tryd.ntmps8
  go_wp2
  go_loopw [5, 6, 7] (fun o f i wr => ∃ (done : List ByteArray) (g cap fr k : Nat), o = .slice (some ⟨g, 0, none⟩) done.length cap ∧ f = .int .i64 (fr : Nat) ∧ i = .int .i64 (k : Nat) ∧ wr.ownsRow w.heap.size 9 1 o done.length (done.map Value.string) ∧ Below w.heap.size w wr ∧ (CutIs s done fr k ∨ (k = s.size + 1 ∧ done = pieces s))) (fun _ _ i _ => s.size + 1 - (intOf i).toNat)
  case atStart => exact ⟨[], _, 0, 0, 0, rfl, rfl, rfl, ownsRow_zeroT _ _ _ (Nat.le_refl _), (Below.refl _ _).alloc (Nat.le_refl _) _, .inl (CutIs.start s)⟩
  case round =>
    obtain ⟨done, g, cap, fr, k, rfl, rfl, rfl, hown, hb, hcut⟩ := hrel
    have hbs := hb.size
    have HO := Lib.hid hown
    have HB := Lib.hid hb
    clear hown hb
    rcases hcut with hcut | ⟨rfl, hdone⟩
    · have hfk := hcut.le
      have hks := hcut.top
      have hlen := hcut.len
      by_cases hlt : k < s.size
      · have hne : ((k : Int) == (s.size : Int)) = false := by simp; omega
        have hget : s.data.toList[k]? = some s[k] := by rw [List.getElem?_eq_getElem (by simpa using hlt)]; rfl
        by_cases h44 : s[k] = 10
        · have hq : ((s[k].toNat : Int) == 10) = true := by rw [h44]; rfl
          have HC := Lib.hid (hcut.hit hlt (by rw [hget, h44]))
          clear hcut hget
          go_wp2_with (at_builtin; go_loud (refine wpList_append_form (by rfl) (.tmp 26) (.tmp 31) 25 (by rfl) w.heap.size 9 i0 (.string ⟨#[]⟩) 1 16 Tryd.underlying25 hi hz0 hz1 hz2 rfl (by decide) _ done.length (done.map Value.string) (by rfl) (HO.out.alloc _) ⟨wr.heap.size, 0, none⟩ 1 1 [_] (by rfl) rfl (new1 _ _ _) (fun v h => by rw [List.mem_singleton.1 h]; rfl) (by unfold maxLen; omega) (by omega) (by simp; omega) (by omega) ?_); intro g' cap' w1 hown' hgrow)
          go_roundw
          case rel => exact ⟨done ++ [s.extract fr k], g', cap', k + 1, k + 1, by rw [List.length_append]; rfl, by go_num, by go_num, by rw [List.map_append, List.length_append]; exact hown', Below.grown (HB.out.alloc hbs _) hgrow (by simp; omega) (fun i hi => (HO.out.lt i hi).1), .inl HC.out⟩
          case measure => simp [intOf]; omega
        · have hq : ((s[k].toNat : Int) == 10) = false := by
            simp only [beq_eq_false_iff_ne]; intro h
            exact h44 (by apply UInt8.toNat_inj.1; have h45 : (10 : UInt8).toNat = 10 := rfl; omega)
          have HC := Lib.hid (hcut.skip hlt (by rw [hget]; intro h; exact h44 (Option.some.inj h)))
          clear hcut hget
          go_wp2
          go_roundw
          case rel => exact ⟨done, g, cap, fr, k + 1, rfl, rfl, by go_num, HO.out, HB.out, .inl HC.out⟩
          case measure => simp [intOf]; omega
      · have hk : k = s.size := by omega
        subst hk
        have HC := Lib.hid hcut.last
        clear hcut
        go_wp2_with (at_builtin; go_loud (refine wpList_append_form (by rfl) (.tmp 26) (.tmp 31) 25 (by rfl) w.heap.size 9 i0 (.string ⟨#[]⟩) 1 16 Tryd.underlying25 hi hz0 hz1 hz2 rfl (by decide) _ done.length (done.map Value.string) (by rfl) (HO.out.alloc _) ⟨wr.heap.size, 0, none⟩ 1 1 [_] (by rfl) rfl (new1 _ _ _) (fun v h => by rw [List.mem_singleton.1 h]; rfl) (by unfold maxLen; omega) (by omega) (by simp; omega) (by omega) ?_); intro g' cap' w1 hown' hgrow)
        go_roundw
        case rel => exact ⟨done ++ [s.extract fr s.size], g', cap', s.size + 1, s.size + 1, by rw [List.length_append]; rfl, by go_num, by go_num, by rw [List.map_append, List.length_append]; exact hown', Below.grown (HB.out.alloc hbs _) hgrow (by simp; omega) (fun i hi => (HO.out.lt i hi).1), .inr ⟨rfl, HC.out⟩⟩
        case measure => simp [intOf]
    · have hd : decide (((s.size + 1 : Nat) : Int) ≤ (s.size : Int)) = false := by first | (simp; done) | (simp; omega)
      have HD := Lib.hid hdone
      clear hdone
      go_wp2
      go_ret
      exact ⟨⟨g, cap, done.length, rfl, by rw [HD.out], by rw [← HD.out]; exact HO.out⟩, HB.out⟩
end Go.Proofs.YtkddeplhmmpamaaDoor
