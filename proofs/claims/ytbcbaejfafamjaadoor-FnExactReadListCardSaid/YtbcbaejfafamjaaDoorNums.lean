/-
  The list with a text, of the model. No condition.
-/
import Derived.Test.YtbcbaejfafamjaaDoorCut
namespace Go.Proofs.YtbcbaejfafamjaaDoor
open Go.RowKit

def noneB : ByteArray := ⟨#[110, 111, 110, 101]⟩
def okP (p : ByteArray) : Bool := okV p.data.toList
def spP (p : ByteArray) : Int := spells p.data.toList
def isNone (s : ByteArray) : Bool := s.toList == [110, 111, 110, 101]
def okL (s : ByteArray) : Bool := isNone s || (decide ((pieces s).length ≤ 64) && (pieces s).all okP)
def valsL (s : ByteArray) : List Int := if isNone s then [] else if okL s then (pieces s).map spP else []
/-- A list of its own is handed back, and a yes or no; nothing that was there is written. -/
def RetL (xs : List Int) (ok : Bool) (w : World) (e : Ending) (w' : World) : Prop :=
  ∃ v, e = .returned (.tuple #[v, .bool ok]) ∧ w'.ownsRow w.heap.size 2 1 v xs.length (xs.map (Value.int .i64)) ∧ Below w.heap.size w w'
theorem RetL.bad {w w' : World} (hb : Below w.heap.size w w') : RetL [] false w (.returned (.tuple #[.slice none 0 0, .bool false])) w' := ⟨_, rfl, World.ownsRow_nil _ _ _ _, hb⟩

theorem ownsRow_zeroQ (w : World) (base : Nat) (e : TypeId) (hb : base ≤ w.heap.size) :
    (w.alloc (.cells #[] e)).ownsRow base e 1 (.slice (some ⟨w.heap.size, 0, none⟩) 0 0) 0 [] :=
  World.ownsRow_made w #[] 0 hb (Nat.zero_le _) rfl
theorem infoQ : (Tryd.prog.info? 2).map (fun i => (i.zero, i.size, i.bytes)) = some (some (.int .i64 0), 1, 8) := by kernel_rfl

theorem split_size (sep : ByteArray) : ∀ (k : Nat) (s : ByteArray), ∀ p ∈ Lib.splitB sep 0 k s, p.size ≤ s.size
  | 0, s, p, h => by rw [Lib.splitB_zero] at h; rw [List.mem_singleton.1 h]; exact Nat.le_refl _
  | k + 1, s, p, h => by
    rcases Lib.indexB_cases s sep with hix | ⟨i, hix, _⟩
    · rw [Lib.splitB_miss sep 0 _ s hix] at h; rw [List.mem_singleton.1 h]; exact Nat.le_refl _
    · rw [Lib.splitB_hit sep 0 k s i hix] at h
      rcases List.mem_cons.1 h with h | h
      · rw [h, ByteArray.size_extract]; omega
      · have := split_size sep k _ p h
        rw [ByteArray.size_extract] at this; omega
theorem pieces_size (s : ByteArray) (p : ByteArray) (h : p ∈ pieces s) : p.size ≤ s.size := split_size comma _ s p h

theorem ownsRow_below {w w' : World} {base : Nat} {e : TypeId} {size : Nat} {v : Value} {n : Nat} {xs : List Value} (h : w.ownsRow base e size v n xs) (hb : Below w.heap.size w w') : w'.ownsRow base e size v n xs := by
  obtain ⟨h1, h2 | ⟨g, cap, cur, h2, h3, h4, h5⟩⟩ := h
  · exact ⟨h1, .inl h2⟩
  · refine ⟨h1, .inr ⟨g, cap, cur, h2, h3, ?_, h5⟩⟩
    rw [hb.block g ?_]; exact h4
    rcases Nat.lt_or_ge g w.heap.size with h | h
    · exact h
    · rw [Array.getElem?_eq_none h] at h4; cases h4
theorem rows_ne {w : World} {b1 b2 : Nat} {e1 e2 : TypeId} {s1 s2 g1 g2 n1 n2 c1 c2 : Nat} {x1 x2 : List Value} (h1 : w.ownsRow b1 e1 s1 (.slice (some ⟨g1, 0, none⟩) n1 c1) n1 x1) (h2 : w.ownsRow b2 e2 s2 (.slice (some ⟨g2, 0, none⟩) n2 c2) n2 x2) (he : e1 ≠ e2) : g1 ≠ g2 := by
  intro hg
  subst hg
  obtain ⟨_, ⟨h, _⟩ | ⟨g, cap, cur, h, _, h4, _⟩⟩ := h1
  · cases h
  · obtain ⟨_, ⟨k, _⟩ | ⟨g', cap', cur', k, _, k4, _⟩⟩ := h2
    · cases k
    · cases h; cases k
      rw [h4] at k4; cases k4; exact he rfl

theorem ownsRow_base {w : World} {b b' : Nat} {e : TypeId} {size : Nat} {v : Value} {n : Nat} {xs : List Value} (h : w.ownsRow b e size v n xs) (hb : b' ≤ b) : w.ownsRow b' e size v n xs := by
  obtain ⟨h1, h2 | ⟨g, cap, cur, h2, h3, h4⟩⟩ := h
  · exact ⟨h1, .inl h2⟩
  · exact ⟨h1, .inr ⟨g, cap, cur, h2, Nat.le_trans hb h3, h4⟩⟩
theorem row_cell {w : World} {b : Nat} {e : TypeId} {g n cap : Nat} {xs : List Value} (h : w.ownsRow b e 1 (.slice (some ⟨g, 0, none⟩) n cap) n xs) {k : Nat} {u : Value} (hk : xs[k]? = some u) : w.cell? ⟨g, k, none⟩ = some u := by
  have := h.cells (g := g) rfl k u hk
  rwa [Lib.add_plain, Nat.zero_add] at this
theorem take_map_succ (ps : List ByteArray) (k : Nat) (h : k < ps.length) : ((ps.take (k + 1)).map spP).map (Value.int .i64) = ((ps.take k).map spP).map (Value.int .i64) ++ [.int .i64 (spP ps[k])] := by
  rw [List.take_succ_eq_append_getElem h, List.map_append, List.map_append]; rfl
theorem take_all_succ (ps : List ByteArray) (k : Nat) (h : k < ps.length) (ha : (ps.take k).all okP = true) (hp : okP ps[k] = true) : (ps.take (k + 1)).all okP = true := by
  rw [List.take_succ_eq_append_getElem h, List.all_append, ha]; simp [hp]

set_option maxHeartbeats 1600000 in
theorem specNums (s : ByteArray) (hs : s.size ≤ 1048576) (w : World) :
    Calls Tryd.prog 27 #[.string s] w (RetL (valsL s) (okL s) w) := by
  obtain ⟨i0, hi, hz0, hz1, hz2⟩ := info_parts infoQ
  have HC := fun w => specCut s hs w
  cases hN : isNone s with
  | true =>
    have hq : (s.toList == [110, 111, 110, 101]) = true := hN
    have e1 : okL s = true := by unfold okL; rw [hN]; rfl
    have e2 : valsL s = [] := by unfold valsL; rw [hN]; rfl
    rw [e1, e2]
    clear e1 e2 hN HC
    go_enter Tryd.func27, Tryd.ntmps27
    go_wp2_with fail
    go_ret2
    exact ⟨_, rfl, ownsRow_zeroT _ _ _ (Nat.le_refl _), (Below.refl _ _).alloc (Nat.le_refl _) _⟩
  | false =>
    have hq : (s.toList == [110, 111, 110, 101]) = false := hN
    have hsz := pieces_size s
    have HA := Lib.hid (show okL s = (decide ((pieces s).length ≤ 64) && (pieces s).all okP) by unfold okL; rw [hN]; rfl)
    have HV := Lib.hid (show valsL s = if okL s then (pieces s).map spP else [] by unfold valsL; rw [hN]; rfl)
    clear hN
    generalize okL s = ok at HA HV ⊢
    generalize valsL s = vs at HV ⊢
    generalize pieces s = ps at HA HV HC hsz
    have HS := fun (p : ByteArray) (hp : p ∈ ps) (w : World) => specRead p (Nat.le_trans (hsz p hp) hs) w
    clear hsz
    have HSh := Lib.hid HS
    clear HS
    by_cases h64 : ps.length ≤ 64
    · have hd : decide (64 < ((ps.length : Nat) : Int)) = false := by simp; omega
      go_enter Tryd.func27, Tryd.ntmps27
      go_wp2_with (go_at_call 40; refine (HC _).mono ?_; rintro eq wq ⟨⟨g, cap, n, rfl, rfl, hown⟩, hb⟩)
      go_loopw [4, 6] (fun o i wr => ∃ (k g0 cap0 : Nat), k ≤ ps.length ∧ i = .int .i64 (k : Nat) ∧ o = .slice (some ⟨g0, 0, none⟩) k cap0 ∧ (ps.take k).all okP = true ∧ wr.ownsRow w.heap.size 2 1 o k (((ps.take k).map spP).map (Value.int .i64)) ∧ wr.ownsRow w.heap.size 9 1 (.slice (some ⟨g, 0, none⟩) ps.length cap) ps.length (ps.map Value.string) ∧ Below w.heap.size w wr) (fun _ i _ => ps.length - (intOf i).toNat)
      case atStart =>
        exact ⟨0, w.heap.size, 0, Nat.zero_le _, rfl, rfl, rfl, ownsRow_below (ownsRow_zeroQ w _ _ (Nat.le_refl _)) hb, ownsRow_base hown (by simp), ((Below.refl _ _).alloc (Nat.le_refl _) _).trans (hb.mono (by simp))⟩
      case round =>
        obtain ⟨k, g0, cap0, hk, rfl, rfl, hall, hrow, hpar, hbw⟩ := hrel
        have HO := Lib.hid hrow
        have HP := Lib.hid hpar
        have HB := Lib.hid hbw
        have HL := Lib.hid hall
        clear hrow hpar hbw hall hown hb
        by_cases hlt : k < ps.length
        · have hc := row_cell HP.out (k := k) (u := .string ps[k]) (by rw [List.getElem?_map, List.getElem?_eq_getElem hlt]; rfl)
          have hR := HSh.out ps[k] (List.getElem_mem hlt)
          unfold RetR at hR
          cases hok : okP ps[k] with
          | true =>
            rw [show okV ps[k].data.toList = true from hok, if_pos rfl] at hR
            have HT := Lib.hid (show ((ps.take (k + 1)).map spP).map (Value.int .i64) = ((ps.take k).map spP).map (Value.int .i64) ++ [.int .i64 (spells ps[k].data.toList)] from take_map_succ ps k hlt)
            have HL2 := Lib.hid (take_all_succ ps k hlt HL.out hok)
            generalize spells ps[k].data.toList = z at hR HT
            generalize ps[k] = p at hc hR
            clear hok
            go_wp2_with (first | (go_at_call 41; refine (hR _).mono ?_; rintro eq w2 ⟨rfl, hb2⟩; have HO2 := Lib.hid (ownsRow_below HO.out hb2); have HP2 := Lib.hid (ownsRow_below HP.out hb2); have HB2 := Lib.hid (HB.out.trans (hb2.mono HB.out.size)); clear hb2) | (at_builtin; go_loud (refine wpList_append_form (by rfl) (.tmp 34) (.tmp 36) 22 (by rfl) w.heap.size 2 i0 (.int .i64 0) 1 8 Tryd.underlying22 hi hz0 hz1 hz2 rfl (by decide) _ k _ (by rfl) (HO2.out.alloc _) ⟨w2.heap.size, 0, none⟩ 1 1 [_] (by rfl) rfl (new1 _ _ _) (fun v h => by rw [List.mem_singleton.1 h]; rfl) (by unfold maxLen; omega) (by omega) (by have := HB2.out.size; simp; omega) (by omega) ?_); intro g' cap' w3 hown' hgrow))
            go_roundw
            case rel => exact ⟨k + 1, g', cap', by omega, by go_num, rfl, HL2.out, by rw [HT.out]; exact hown', (HP2.out.alloc _).kept hgrow (.inr (by
              intro h
              have := rows_ne (HP2.out.alloc _) (HO2.out.alloc (.cells #[Value.int .i64 z] 2)) (by decide)
              exact this (Option.some.inj h))), Below.grown (HB2.out.alloc HB2.out.size _) hgrow (by have := HB2.out.size; simp; omega) (fun i hi => (HO2.out.lt i hi).1)⟩
            case measure => simp [intOf]; omega
          | false =>
            rw [show okV ps[k].data.toList = false from hok, if_neg (by decide)] at hR
            have e1 : ok = false := by
              rw [HA.out]
              have : ps.all okP = false := by rw [List.all_eq_false]; exact ⟨ps[k], List.getElem_mem hlt, by simp [hok]⟩
              rw [this, Bool.and_false]
            have e2 : vs = [] := by rw [HV.out, e1]; rfl
            subst e1; subst e2
            generalize ps[k] = p at hc hR
            clear hok
            go_wp2_with (first | (go_at_call 41; refine (hR _).mono ?_; rintro eq w2 ⟨rfl, hb2⟩))
            go_ret2
            exact RetL.bad (HB.out.trans (hb2.mono HB.out.size))
        · have hkn : k = ps.length := by omega
          subst hkn
          have e1 : ok = true := by
            rw [HA.out, decide_eq_true h64]
            have := HL.out; rw [List.take_length] at this; rw [this]; rfl
          have e2 : vs = ps.map spP := by rw [HV.out, e1]; rfl
          have HE := Lib.hid (show wr.ownsRow w.heap.size 2 1 (.slice (some ⟨g0, 0, none⟩) ps.length cap0) vs.length (vs.map (Value.int .i64)) by
            have := HO.out; rw [List.take_length] at this; rw [e2, List.length_map]; exact this)
          subst e1
          clear e2
          go_wp2
          go_ret2
          exact ⟨_, rfl, HE.out, HB.out⟩
    · have hd : decide (64 < ((ps.length : Nat) : Int)) = true := by simp; omega
      have e1 : ok = false := by rw [HA.out]; simp [h64]
      have e2 : vs = [] := by rw [HV.out, e1]; rfl
      subst e1; subst e2
      go_enter Tryd.func27, Tryd.ntmps27
      go_wp2_with (go_at_call 40; refine (HC _).mono ?_; rintro eq wq ⟨⟨g, cap, n, rfl, rfl, hown⟩, hb⟩; have HB := Lib.hid hb; clear hb hown)
      go_ret2
      exact RetL.bad (((Below.refl _ _).alloc (Nat.le_refl _) _).trans (HB.out.mono (by simp)))
end Go.Proofs.YtbcbaejfafamjaaDoor
