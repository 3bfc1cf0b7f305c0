/-
  How many lines of a text are refusals: for every text the law returns true, and writes nothing that was there. Condition: that the library's limit is a number.
-/
import Derived.Test.YtkddeplhmmpamaaDoorRows
import Derived.Test.YtkddeplhmmpamaaDoorCutL
import Derived.Shelf.Vars
import Derived.LaidMore
import Derived.Stop.Joined
import Derived.Stop.LaidErr
import Derived.Lib.SmallJoins
import Derived.Lib.LaidTab
namespace Go.Proofs.YtkddeplhmmpamaaDoor
open Go.RowKit

theorem row_cell {w : World} {b : Nat} {e : TypeId} {g n cap : Nat} {xs : List Value} (h : w.ownsRow b e 1 (.slice (some ⟨g, 0, none⟩) n cap) n xs) {k : Nat} {u : Value} (hk : xs[k]? = some u) : w.cell? ⟨g, k, none⟩ = some u := by
  have := h.cells (g := g) rfl k u hk
  rwa [show (⟨g, 0, none⟩ : Addr).add k = ⟨g, k, none⟩ by unfold Addr.add; split <;> simp_all] at this
theorem row_caps {w : World} {b : Nat} {e : TypeId} {size g n cap : Nat} {xs : List Value} (h : w.ownsRow b e size (.slice (some ⟨g, 0, none⟩) n cap) n xs) : n ≤ cap ∧ cap ≤ maxLen := by
  obtain ⟨_, ⟨h, _⟩ | ⟨g', cap', cur, h, _, _, h5, h6, _⟩⟩ := h
  · cases h
  · cases h; exact ⟨h5, h6⟩
theorem get_str (ps : List ByteArray) {i : Nat} (h : i < ps.length) : (ps.map Value.string)[i]? = some (.string (ps.getD i ⟨#[]⟩)) := by
  rw [List.getElem?_map, List.getElem?_eq_getElem h, List.getD_eq_getElem?_getD, List.getElem?_eq_getElem h]; rfl
def badB (p : ByteArray) : Bool := (p.toList == [110, 111]) || (p.toList == [119, 104, 97, 116])
/-- How many of the first k lines are refusals. -/
def badN (ps : List ByteArray) : Nat → Nat
  | 0 => 0
  | k + 1 => badN ps k + if badB (ps.getD k ⟨#[]⟩) then 1 else 0
theorem badN_t {ps : List ByteArray} {k : Nat} (hb : badB (ps.getD k ⟨#[]⟩) = true) : badN ps (k + 1) = badN ps k + 1 := by simp only [badN, hb, if_true]
theorem badN_f {ps : List ByteArray} {k : Nat} (hb : badB (ps.getD k ⟨#[]⟩) = false) : badN ps (k + 1) = badN ps k := by simp only [badN, hb, Bool.false_eq_true, if_false, Nat.add_zero]
theorem badN_le (ps : List ByteArray) : ∀ k, badN ps k ≤ k
  | 0 => Nat.le_refl _
  | k + 1 => by
    have := badN_le ps k
    unfold badN
    split <;> omega

/-- The lines of a text, and whether nothing goes on behind the last one. -/
def HasL (ps : List ByteArray) (m g : Nat) (w : World) : Prop := ∀ i, i < m → w.cell? ⟨g, i, none⟩ = some (.string (ps.getD i ⟨#[]⟩))

def RetLi (ps : List ByteArray) (m : Nat) (f : Value) (w : World) (r : Ending) (w' : World) : Prop := (∃ g cap, r = .returned (.tuple #[.slice (some ⟨g, 0, none⟩) m cap, f]) ∧ HasL ps m g w' ∧ g < w'.heap.size) ∧ Below w.heap.size w w'
set_option maxHeartbeats 1600000 in
theorem iLines (s : ByteArray) (hs : s.size ≤ 16000) (m : Nat) (ps : List ByteArray) (hps : pieces s = ps) (hm : ps.length = m + 1) (e : Bool) (he : (ps.getD m ⟨#[]⟩).toList.isEmpty = e) (w : World) (hL : ∃ q, w.cell? ⟨0, 0, none⟩ = some (.int .i64 q)) :
    Calls Tryd.prog 7 #[.string s] w (RetLi ps m (.bool e) w) := by
  obtain ⟨q, hq⟩ := hL
  have HSp := Tryd.strings_Split s comma q w (by omega) hq (by decide)
  have hpl := pieces_length s
  rw [← hpl] at HSp
  have hpd : Lib.splitB comma 0 (Lib.countB s comma) s = pieces s := rfl
  rw [hpd] at HSp
  have hple := pieces_le s
  rw [hps] at HSp hple
  have hd : decide (16000 < ((s.size : Nat) : Int)) = false := by simp; omega
  have hmm : m ≤ 16000 := by omega
  have hw1 : wrap64 ((m : Nat) : Int) = ((m : Nat) : Int) := by unfold wrap64; omega
  have HG := Lib.hid (fun i (h : i < m + 1) => get_str ps (i := i) (by omega))
  rw [hm] at HSp
  clear hpl hpd hq hple hps hm
  unfold comma at HSp
  have HE := Lib.hid he
  clear he
  go_enter Tryd.func7, Tryd.ntmps7
  go_wp2_with (go_at_call 9; refine HSp.mono ?_; rintro eq wq ⟨rfl, rfl⟩)
  have hcl : ∀ i, i < m + 1 → (w.alloc (.cells (ps.map Value.string).toArray 9)).cell? ⟨w.heap.size, i, none⟩ = some (.string (ps.getD i ⟨#[]⟩)) := fun i hi => cell_of_block (heap_alloc_new w _) (by simpa using HG.out i hi)
  have hcm := hcl m (by omega)
  have bW : Below w.heap.size w (w.alloc (.cells (ps.map Value.string).toArray 9)) := (Below.refl _ _).alloc (Nat.le_refl _) _
  have hsz : w.heap.size < (w.alloc (.cells (ps.map Value.string).toArray 9)).heap.size := by simp
  have HCL := Lib.hid hcl
  have he := HE.out
  clear hcl HE
  generalize (w.alloc (.cells (ps.map Value.string).toArray 9)) = W at *
  generalize ps.getD m ⟨#[]⟩ = last at hcm he
  have h0 : (0 : Int) ≤ (m : Int) := by omega
  have h1 : (m : Int) ≤ (m : Int) + 1 := by omega
  have h2 : (m : Int) < (m : Int) + 1 := by omega
  have h4 : (m : Int).toNat = m := by omega
  have h3 : ¬ (m : Int) < 0 := by omega
  go_region
  go_wp2_with fail
  go_ret2
  exact ⟨⟨w.heap.size, m + 1, by first | rfl | (rw [← he]; rfl), fun i hi => by have := HCL.out i (by omega); simpa using this, by simpa using hsz⟩, by repeat' (first | with_reducible exact Below.refl _ _ | with_reducible assumption | (with_reducible refine Below.setCell ?_ (by first | omega | (simp; done) | (simp; omega)) _) | (with_reducible refine Below.alloc ?_ (by first | omega | (simp; done) | (simp; omega)) _) | (with_reducible refine below_drewN ?_ _) | (with_reducible refine Below.drew ?_) | (with_reducible refine Below.trans ?_ (Below.mono (by first | (with_reducible assumption) | exact Grow.below (by assumption)) (by first | omega | (simp; done) | (simp; omega)))))⟩

set_option maxHeartbeats 1600000 in
theorem sLines (s : ByteArray) (hs : s.size ≤ 16000) (m : Nat) (ps : List ByteArray) (hps : pieces s = ps) (hm : ps.length = m + 1) (last : ByteArray) (hl : ps.getD m ⟨#[]⟩ = last) (w : World) :
    Calls Tryd.prog 6 #[.string s] w (RetLi ps m (.string last) w) := by
  have HC := specCut s (by omega) w
  rw [hps, hm] at HC
  have hple := pieces_le s
  rw [hps] at hple
  have hmm : m ≤ 16000 := by omega
  have hw1 : wrap64 ((m : Nat) : Int) = ((m : Nat) : Int) := by unfold wrap64; omega
  have HG := Lib.hid (fun i (h : i < m + 1) => get_str ps (i := i) (by omega))
  have HLL := Lib.hid hl
  clear hple hps hm hl
  go_enter Tryd.func6, Tryd.ntmps6
  go_wp2_with fail
  (go_at_call 8; refine HC.mono ?_; rintro eq W ⟨⟨g, cap, n, rfl, rfl, hown⟩, hb⟩)
  have hcap := row_caps hown
  have hcl : ∀ i, i < m + 1 → W.cell? ⟨g, i, none⟩ = some (.string (ps.getD i ⟨#[]⟩)) := fun i hi => row_cell hown (HG.out i hi)
  have hcm := hcl m (by omega)
  rw [HLL.out] at hcm
  have hgl : g < W.heap.size := (hown.lt g rfl).2
  have HCL := Lib.hid hcl
  clear hcl hown
  have h0 : (0 : Int) ≤ (m : Int) := by omega
  have h1 : (m : Int) ≤ (cap : Int) := by omega
  have h2 : (m : Int) < (m : Int) + 1 := by omega
  have h4 : (m : Int).toNat = m := by omega
  have h3 : ¬ (m : Int) < 0 := by omega
  go_wp2_with fail
  go_region
  go_wp2_with fail
  go_ret2
  exact ⟨⟨g, cap, rfl, fun i hi => by have := HCL.out i (by omega); simpa using this, by simpa using hgl⟩, by repeat' (first | with_reducible exact Below.refl _ _ | with_reducible assumption | (with_reducible refine Below.setCell ?_ (by first | omega | (simp; done) | (simp; omega)) _) | (with_reducible refine Below.alloc ?_ (by first | omega | (simp; done) | (simp; omega)) _) | (with_reducible refine below_drewN ?_ _) | (with_reducible refine Below.drew ?_) | (with_reducible refine Below.trans ?_ (Below.mono (by first | (with_reducible assumption) | exact Grow.below (by assumption)) (by first | omega | (simp; done) | (simp; omega)))))⟩

/-- Three results: how many are refusals, how many are others, and whether the text has lines. -/
def RetK (a b : Nat) (ok : Bool) (w : World) (e : Ending) (w' : World) : Prop := e = .returned (.tuple #[.int .i64 (a : Int), .int .i64 (b : Int), .bool ok]) ∧ Below w.heap.size w w'
/-- The pieces of a text: its lines, and what goes on behind the last one. -/
def mOf (s : ByteArray) : Nat := (pieces s).length - 1
def okK (s : ByteArray) : Bool := decide (s.size ≤ 16000) && ((pieces s).getD (mOf s) ⟨#[]⟩).toList.isEmpty
def aK (s : ByteArray) : Nat := if okK s then badN (pieces s) (mOf s) else 0
def bK (s : ByteArray) : Nat := if okK s then mOf s - badN (pieces s) (mOf s) else 0

set_option maxHeartbeats 3200000 in
theorem iCount (s : ByteArray) (w : World) (hL : ∃ q, w.cell? ⟨0, 0, none⟩ = some (.int .i64 q)) : Calls Tryd.prog 5 #[.string s] w (RetK (aK s) (bK s) (okK s) w) := by
  by_cases hs : s.size ≤ 16000
  · have hm : (pieces s).length = mOf s + 1 := by unfold mOf; have := pieces_length s; omega
    have hok : okK s = ((pieces s).getD (mOf s) ⟨#[]⟩).toList.isEmpty := by unfold okK; rw [decide_eq_true hs]; rfl
    have HL := iLines s hs (mOf s) (pieces s) rfl hm (okK s) hok.symm w hL
    have hple := pieces_le s
    have ha : aK s = if okK s then badN (pieces s) (mOf s) else 0 := rfl
    have hb : bK s = if okK s then mOf s - badN (pieces s) (mOf s) else 0 := rfl
    rw [ha, hb]
    have hmm : mOf s ≤ 16000 := by omega
    clear ha hb hok hL hm hple
    generalize pieces s = ps at HL ⊢
    generalize mOf s = m at HL hmm ⊢
    generalize okK s = ok at HL ⊢
    cases ok with
    | false =>
      go_enter Tryd.func5, Tryd.ntmps5
      go_wp2_with fail
      (go_at_call 7; refine HL.mono ?_; rintro _ W ⟨⟨g, cap, rfl, -, -⟩, hb⟩)
      go_wp2_with fail
      go_ret3
      exact ⟨rfl, hb⟩
    | true =>
      go_enter Tryd.func5, Tryd.ntmps5
      go_wp2_with fail
      (go_at_call 7; refine HL.mono ?_; rintro _ W ⟨⟨g, cap, rfl, hc, hg⟩, hb⟩)
      have HC := Lib.hid hc
      clear hc HL
      go_wp2_with fail
      go_loopw [20, 7, 8] (fun i a o wr => ∃ k : Nat, k ≤ m ∧ i = .int .i64 (k : Nat) ∧ a = .int .i64 (badN ps k : Nat) ∧ o = .int .i64 ((k - badN ps k : Nat) : Int) ∧ wr = W) (fun i _ _ _ => m - (intOf i).toNat)
      case atStart => exact ⟨0, Nat.zero_le _, rfl, rfl, rfl, rfl⟩
      case round =>
        obtain ⟨k, hk, rfl, rfl, rfl, rfl⟩ := hrel
        have hble := badN_le ps k
        by_cases hlt : k < m
        · have hck := HC.out k hlt
          have hT : badB (ps.getD k ⟨#[]⟩) = true → badN ps (k + 1) = badN ps k + 1 := badN_t
          have hF : badB (ps.getD k ⟨#[]⟩) = false → badN ps (k + 1) = badN ps k := badN_f
          have HT := Lib.hid hT
          have HF := Lib.hid hF
          clear hT hF
          generalize hp : ps.getD k ⟨#[]⟩ = p at hck
          have HP := Lib.hid hp
          clear hp
          generalize hq : badN ps k = q at *
          have HQ := Lib.hid hq
          clear hq
          have w1 : wrap64 ((q : Int) + 1) = ((q + 1 : Nat) : Int) := by unfold wrap64; omega
          have w2 : wrap64 (((k - q : Nat) : Int) + 1) = ((k - q + 1 : Nat) : Int) := by unfold wrap64; omega
          have W1 := Lib.hid w1
          have W2 := Lib.hid w2
          cases b1 : (p.toList == [110, 111]) with
          | true =>
            have HN := Lib.hid (show badN ps (k + 1) = q + 1 from by rw [HT.out (by rw [HP.out]; unfold badB; rw [b1]; rfl)])
            go_wp2_with fail
            go_roundw
            case rel => exact ⟨k + 1, by omega, by go_num, by rw [HN.out]; go_num, by rw [HN.out]; congr 1; omega, trivial⟩
            case measure => simp [intOf]; omega
          | false =>
            cases b2 : (p.toList == [119, 104, 97, 116]) with
            | true =>
              have HN := Lib.hid (show badN ps (k + 1) = q + 1 from by rw [HT.out (by rw [HP.out]; unfold badB; rw [b1, b2]; rfl)])
              go_wp2_with fail
              go_roundw
              case rel => exact ⟨k + 1, by omega, by go_num, by rw [HN.out]; go_num, by rw [HN.out]; congr 1; omega, trivial⟩
              case measure => simp [intOf]; omega
            | false =>
              have HN := Lib.hid (show badN ps (k + 1) = q from by rw [HF.out (by rw [HP.out]; unfold badB; rw [b1, b2]; rfl)])
              go_wp2_with fail
              go_roundw
              case rel => exact ⟨k + 1, by omega, by go_num, by rw [HN.out], by rw [HN.out, show k + 1 - q = k - q + 1 by omega]; go_num, trivial⟩
              case measure => simp [intOf]; omega
        · have hkm : k = m := by omega
          subst hkm
          go_wp2_with fail
          go_ret3
          exact ⟨rfl, hb⟩
  · have hd : decide (16000 < ((s.size : Nat) : Int)) = true := by simp; omega
    have h0 : okK s = false := by unfold okK; rw [decide_eq_false hs]; rfl
    rw [show aK s = 0 by unfold aK; rw [h0]; rfl, show bK s = 0 by unfold bK; rw [h0]; rfl, h0]
    go_enter Tryd.func5, Tryd.ntmps5
    go_wp2_with (go_at_call 7; go_in)
    go_ret3
    exact ⟨rfl, Below.refl _ _⟩

set_option maxHeartbeats 3200000 in
theorem sCount (s : ByteArray) (w : World) : Calls Tryd.prog 4 #[.string s] w (RetK (aK s) (bK s) (okK s) w) := by
  by_cases hs : s.size ≤ 16000
  · have hd : decide (16000 < ((s.size : Nat) : Int)) = false := by simp; omega
    have hm : (pieces s).length = mOf s + 1 := by unfold mOf; have := pieces_length s; omega
    have hok : okK s = ((pieces s).getD (mOf s) ⟨#[]⟩).toList.isEmpty := by unfold okK; rw [decide_eq_true hs]; rfl
    have HL := fun last hl => sLines s hs (mOf s) (pieces s) rfl hm last hl w
    have hple := pieces_le s
    have ha : aK s = if okK s then badN (pieces s) (mOf s) else 0 := rfl
    have hb : bK s = if okK s then mOf s - badN (pieces s) (mOf s) else 0 := rfl
    rw [ha, hb]
    have hmm : mOf s ≤ 16000 := by omega
    clear ha hb hm hple
    generalize pieces s = ps at HL hok ⊢
    generalize mOf s = m at HL hmm hok ⊢
    generalize okK s = ok at hok ⊢
    obtain ⟨last, hlast⟩ : ∃ last, ps.getD m ⟨#[]⟩ = last := ⟨_, rfl⟩
    replace HL := HL last hlast
    rw [hlast] at hok
    clear hlast
    cases ok with
    | false =>
      have hq := hok.symm
      clear hok
      go_enter Tryd.func4, Tryd.ntmps4
      go_wp2_with fail
      (go_at_call 6; refine HL.mono ?_; rintro _ W ⟨⟨g, cap, rfl, -, -⟩, hb⟩)
      go_wp2_with fail
      go_ret3
      exact ⟨rfl, hb⟩
    | true =>
      have hq := hok.symm
      clear hok
      go_enter Tryd.func4, Tryd.ntmps4
      go_wp2_with fail
      (go_at_call 6; refine HL.mono ?_; rintro _ W ⟨⟨g, cap, rfl, hc, hg⟩, hb⟩)
      have HC := Lib.hid hc
      clear hc HL
      go_wp2_with fail
      go_loopw [8, 7] (fun i a wr => ∃ k : Nat, k ≤ m ∧ i = .int .i64 (k : Nat) ∧ a = .int .i64 (badN ps k : Nat) ∧ wr = W) (fun i _ _ => m - (intOf i).toNat)
      case atStart => exact ⟨0, Nat.zero_le _, rfl, rfl, rfl⟩
      case round =>
        obtain ⟨k, hk, rfl, rfl, rfl⟩ := hrel
        have hble := badN_le ps k
        by_cases hlt : k < m
        · have hck := HC.out k hlt
          have hT : badB (ps.getD k ⟨#[]⟩) = true → badN ps (k + 1) = badN ps k + 1 := badN_t
          have hF : badB (ps.getD k ⟨#[]⟩) = false → badN ps (k + 1) = badN ps k := badN_f
          have HT := Lib.hid hT
          have HF := Lib.hid hF
          clear hT hF
          generalize hp : ps.getD k ⟨#[]⟩ = p at hck
          have HP := Lib.hid hp
          clear hp
          generalize hq2 : badN ps k = q at *
          have HQ := Lib.hid hq2
          clear hq2
          have w1 : wrap64 ((q : Int) + 1) = ((q + 1 : Nat) : Int) := by unfold wrap64; omega
          have W1 := Lib.hid w1
          cases b1 : (p.toList == [110, 111]) with
          | true =>
            have HN := Lib.hid (show badN ps (k + 1) = q + 1 from by rw [HT.out (by rw [HP.out]; unfold badB; rw [b1]; rfl)])
            go_wp2_with fail
            go_roundw
            case rel => exact ⟨k + 1, by omega, by go_num, by rw [HN.out]; go_num, trivial⟩
            case measure => simp [intOf]; omega
          | false =>
            cases b2 : (p.toList == [119, 104, 97, 116]) with
            | true =>
              have HN := Lib.hid (show badN ps (k + 1) = q + 1 from by rw [HT.out (by rw [HP.out]; unfold badB; rw [b1, b2]; rfl)])
              go_wp2_with fail
              go_roundw
              case rel => exact ⟨k + 1, by omega, by go_num, by rw [HN.out]; go_num, trivial⟩
              case measure => simp [intOf]; omega
            | false =>
              have HN := Lib.hid (show badN ps (k + 1) = q from by rw [HF.out (by rw [HP.out]; unfold badB; rw [b1, b2]; rfl)])
              go_wp2_with fail
              go_roundw
              case rel => exact ⟨k + 1, by omega, by go_num, by rw [HN.out], trivial⟩
              case measure => simp [intOf]; omega
        · have hkm : k = m := by omega
          subst hkm
          have w3 : wrap64 ((k : Int) - (badN ps k : Nat)) = ((k - badN ps k : Nat) : Int) := by unfold wrap64; omega
          generalize badN ps k = q at *
          go_wp2_with fail
          go_ret3
          exact ⟨by first | rfl | (simp [w3]; omega), hb⟩
  · have hd : decide (16000 < ((s.size : Nat) : Int)) = true := by simp; omega
    have h0 : okK s = false := by unfold okK; rw [decide_eq_false hs]; rfl
    rw [show aK s = 0 by unfold aK; rw [h0]; rfl, show bK s = 0 by unfold bK; rw [h0]; rfl, h0]
    go_enter Tryd.func4, Tryd.ntmps4
    go_wp2_with fail
    go_ret3
    exact ⟨rfl, Below.refl _ _⟩

theorem walk_FnExactCountOutputs (s : ByteArray) (W : World) (_hw : s.size ≤ maxLen) (_hL : laidMetH Tryd.prog Rows.fnExactCountOutputsRow.laid W) (hsh : W.ShapedOpen Tryd.prog) :
    Calls Tryd.prog 3 #[.string s] W fun e w' => e = .returned (.bool true) ∧ Below W.heap.size W w' := by
  have hM : ∃ q, W.cell? ⟨0, 0, none⟩ = some (.int .i64 q) := cell_of_shapedOpen_int (zero := #[.int .i64 0]) (t := 3) hsh (of_decide_eq_true (by kernel_rfl)) (by kernel_rfl) rfl (by kernel_rfl) (by kernel_rfl) Tryd.underlying3
  clear hsh _hL _hw
  by_cases hs : s.size ≤ 1048576
  · have hn' : decide (1048576 < ((s.size : Nat) : Int)) = false := by simp; omega
    have HS := fun w => sCount s w
    have HI := fun (w' : World) (hb : Below W.heap.size W w') => iCount s w' (hM.elim fun q h => ⟨q, (hb.cell (p := ⟨0, 0, none⟩) (World.block_lt_of_cell? _ _ h)).trans h⟩)
    generalize aK s = a at HS HI
    generalize bK s = b at HS HI
    generalize okK s = ok at HS HI
    clear hM
    go_enter Tryd.func3, Tryd.ntmps3
    go_wp2_with (first | (go_at_call 4; refine (HS _).mono ?_; rintro _ w1 ⟨rfl, hb0⟩) | (go_at_call 5; refine (HI _ hb0).mono ?_; rintro _ w2 ⟨rfl, hb1⟩))
    go_ret
    exact ⟨rfl, hb0.trans (hb1.mono hb0.size)⟩
  · have hn' : decide (1048576 < ((s.size : Nat) : Int)) = true := by simp; omega
    go_enter Tryd.func3, Tryd.ntmps3
    go_wp2_with fail
    go_ret
    exact ⟨rfl, Below.refl _ _⟩
end Go.Proofs.YtkddeplhmmpamaaDoor
