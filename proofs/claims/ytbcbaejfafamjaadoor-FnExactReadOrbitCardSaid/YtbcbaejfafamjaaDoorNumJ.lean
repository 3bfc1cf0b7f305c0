/-
  The numbers with a text, of the program. Conditions: what the library's tables and errors hold.
-/
import Derived.Test.YtbcbaejfafamjaaDoorNumN
namespace Go.Proofs.YtbcbaejfafamjaaDoor
open Go.RowKit

/-- What the library's parts of the world hold, and that its limit is a number. -/
def LibM (w : World) : Prop := LibN w ∧ ∃ m, w.cell? ⟨0, 0, none⟩ = some (.int .i64 m)
theorem LibM.stays {w w' : World} (h : LibM w) (hb : Below w.heap.size w w') : LibM w' := by
  obtain ⟨h1, m, hm⟩ := h
  exact ⟨h1.stays hb, m, (hb.cell (p := ⟨0, 0, none⟩) (World.block_lt_of_cell? _ _ hm)).trans hm⟩

theorem mk0 (c : Nat) (hc : c ≤ 1048577) (w : World) : (Instr.makeSlice 28 (.int .i64 0) (.int .i64 (c : Int))).run Tryd.prog w = .ok (.slice (some ⟨w.heap.size, 0, none⟩) 0 c) (w.alloc (.cells (madeCells (Value.float .f32 0).cells c) 33)) := by
  obtain ⟨i0, hi, hz0, hz1, hz2⟩ := info_parts infoF
  rw [run_make w 28 33 i0 (.float .f32 0) Tryd.underlying28 hi hz0 .i64 .i64 0 c (by omega) (by omega) (by rw [hz2]; omega) (by omega)]
  rw [hz1]; simp

theorem count_pieces (s : ByteArray) : Lib.countByte s.data.toList 44 + 1 = (pieces s).length := by
  rw [pieces_length]
  show s.data.toList.count 44 + 1 = Lib.count s.data.toList [44] + 1
  rw [Lib.count_one]

theorem parts_row (w : World) (o : Obj) (ps : List ByteArray) (h : ps.length ≤ maxLen) : ((w.alloc o).alloc (.cells (ps.map Value.string).toArray 9)).ownsRow w.heap.size 9 1 (.slice (some ⟨w.heap.size + 1, 0, none⟩) ps.length ps.length) ps.length (ps.map Value.string) := by
  have hz : (w.alloc o).heap.size = w.heap.size + 1 := by simp
  have := World.ownsRow_lit (base := w.heap.size) (size := 1) (e := 9) (w.alloc o) (ps.map Value.string).toArray ps.length (by omega) h (by simp)
  rw [hz] at this
  simpa using this

set_option maxHeartbeats 1600000 in
theorem implSplitN (s : ByteArray) (hs : s.size ≤ 1048576) (w : World) (hL : LibM w) :
    Calls Tryd.prog 31 #[.string s, .string comma, .int .i64 256, .func (.func 32) #[] #[]] w (RetF32 (valsN s) (okN s) w) := by
  obtain ⟨i0, hi, hz0, hz1, hz2⟩ := info_parts infoF
  cases hN : isNone s with
  | true =>
    have hq : (s.toList == [110, 111, 110, 101]) = true := hN
    have e1 : okN s = true := by unfold okN; rw [hN]; rfl
    have e2 : valsN s = [] := by unfold valsN; rw [hN]; rfl
    rw [e1, e2]
    clear e1 e2 hN hL
    go_enter Tryd.func31, Tryd.ntmps31
    go_wp2_with fail
    go_ret2
    exact ⟨_, rfl, World.ownsRow_nil _ _ _ _, Below.refl _ _⟩
  | false =>
    have hq : (s.toList == [110, 111, 110, 101]) = false := hN
    have hple := pieces_le s
    have HCt := fun w => Tryd.strings_Count_one s 44 w
    have hcp := count_pieces s
    have HSp := fun (w' : World) (hb : Below w.heap.size w w') => (let ⟨m, hm⟩ := (hL.stays hb).2; Tryd.strings_Split s comma m w' (by omega) hm (by decide))
    have hsz := pieces_size s
    have HA := Lib.hid (show okN s = (decide ((pieces s).length ≤ 256) && (pieces s).all okQ) by unfold okN; rw [hN]; rfl)
    have HV := Lib.hid (show valsN s = if okN s then (pieces s).map vlQ else [] by unfold valsN; rw [hN]; rfl)
    have hpl := pieces_length s
    rw [← hpl] at HSp
    have hpd : Lib.splitB comma 0 (Lib.countB s comma) s = pieces s := rfl
    rw [hpd] at HSp
    clear hN hpl hpd
    generalize okN s = ok at HA HV ⊢
    generalize valsN s = vs at HV ⊢
    generalize pieces s = ps at HA HV hsz hcp HSp hple
    have HS := Lib.hid (fun (p : ByteArray) (hp : p ∈ ps) (w' : World) (hb : Below w.heap.size w w') => implRd p (Nat.le_trans (hsz p hp) hs) w' (hL.stays hb).1)
    generalize hcn : Lib.countByte s.data.toList 44 = cn at HCt hcp
    have hc1 : (cn : Int) + 1 = (ps.length : Nat) := by omega
    clear hsz hL hcn hcp
    by_cases h64 : ps.length ≤ 256
    · have hd : decide (256 < ((ps.length : Nat) : Int)) = false := by simp; omega
      have hmk := mk0 ps.length (by omega)
      unfold comma at HSp
      go_enter Tryd.func31, Tryd.ntmps31
      go_wp2_with (first | (go_at_call 42; refine (HCt _).mono ?_; rintro eq wq ⟨rfl, rfl⟩) | (go_at_call 43; refine (HSp _ ((Below.refl _ _).alloc (Nat.le_refl _) _)).mono ?_; rintro eq wq ⟨rfl, rfl⟩))
      have hpsz : ps.length ≤ maxLen := by unfold maxLen; omega
      go_loopw [11, 31] (fun o i wr => ∃ (k g0 cap0 : Nat), k ≤ ps.length ∧ i = .int .i64 (k : Nat) ∧ o = .slice (some ⟨g0, 0, none⟩) k cap0 ∧ (ps.take k).all okQ = true ∧ wr.ownsRow wq.heap.size 33 1 o k (((ps.take k).map vlQ).map (Value.float .f32)) ∧ wr.ownsRow wq.heap.size 9 1 (.slice (some ⟨wq.heap.size + 1, 0, none⟩) ps.length ps.length) ps.length (ps.map Value.string) ∧ Below wq.heap.size wq wr) (fun _ i _ => ps.length - (intOf i).toNat)
      case atStart =>
        exact ⟨0, wq.heap.size, ps.length, Nat.zero_le _, rfl, rfl, rfl, ownsRow_below (World.ownsRow_made wq _ _ (Nat.le_refl _) hpsz (by simp [madeCells])) ((Below.refl _ _).alloc (Nat.le_refl _) _), parts_row wq _ ps hpsz, ((Below.refl _ _).alloc (Nat.le_refl _) _).alloc (by simp) _⟩
      case round =>
        obtain ⟨k, g0, cap0, hk, rfl, rfl, hall, hrow, hpar, hbw⟩ := hrel
        have HO := Lib.hid hrow
        have HP := Lib.hid hpar
        have HB := Lib.hid hbw
        have HL := Lib.hid hall
        clear hrow hpar hbw hall
        by_cases hlt : k < ps.length
        · have hc := row_cell HP.out (k := k) (u := .string ps[k]) (by rw [List.getElem?_map, List.getElem?_eq_getElem hlt]; rfl)
          have hR := fun w' hb => HS.out ps[k] (List.getElem_mem hlt) w' hb
          unfold RetX at hR
          cases hok : okQ ps[k] with
          | true =>
            rw [show okXB ps[k].data.toList = true from hok, if_pos rfl] at hR
            have HT := Lib.hid (show ((ps.take (k + 1)).map vlQ).map (Value.float .f32) = ((ps.take k).map vlQ).map (Value.float .f32) ++ [.float .f32 (spH ps[k].data.toList)] from take_map_succQ ps k hlt)
            have HL2 := Lib.hid (take_all_succQ ps k hlt HL.out hok)
            generalize spH ps[k].data.toList = z at hR HT
            generalize ps[k] = p at hc hR
            clear hok
            go_wp2_with (first | (go_at_call 32; refine (hR _ HB.out).mono ?_; rintro eq w2 ⟨rfl, hb2⟩; have HO2 := Lib.hid (ownsRow_below HO.out hb2); have HP2 := Lib.hid (ownsRow_below HP.out hb2); have HB2 := Lib.hid (HB.out.trans (hb2.mono HB.out.size)); clear hb2) | (at_builtin; go_loud (refine wpList_append_form (by rfl) (.tmp 43) (.tmp 45) 28 (by rfl) wq.heap.size 33 i0 (.float .f32 0) 1 4 Tryd.underlying28 hi hz0 hz1 hz2 rfl (by decide) _ k _ (by rfl) (HO2.out.alloc _) ⟨w2.heap.size, 0, none⟩ 1 1 [_] (by rfl) rfl (new1 _ _ _) (fun v h => by rw [List.mem_singleton.1 h]; rfl) (by unfold maxLen; omega) (by omega) (by have := HB2.out.size; simp; omega) (by omega) ?_); intro g' cap' w3 hown' hgrow))
            go_roundw
            case rel => exact ⟨k + 1, g', cap', by omega, by go_num, rfl, HL2.out, by rw [HT.out]; exact hown', (HP2.out.alloc _).kept hgrow (.inr (by
              intro h
              have := rows_ne (HP2.out.alloc _) (HO2.out.alloc (.cells #[Value.float .f32 z] 33)) (by decide)
              exact this (Option.some.inj h))), Below.grown (HB2.out.alloc HB2.out.size _) hgrow (by have := HB2.out.size; simp; omega) (fun i hi => (HO2.out.lt i hi).1)⟩
            case measure => simp [intOf]; omega
          | false =>
            rw [show okXB ps[k].data.toList = false from hok, if_neg (by decide)] at hR
            have e1 : ok = false := by
              rw [HA.out]
              have : ps.all okQ = false := by rw [List.all_eq_false]; exact ⟨ps[k], List.getElem_mem hlt, by simp [hok]⟩
              rw [this, Bool.and_false]
            have e2 : vs = [] := by rw [HV.out, e1]; rfl
            subst e1; subst e2
            generalize ps[k] = p at hc hR
            clear hok
            go_wp2_with (first | (go_at_call 32; refine (hR _ HB.out).mono ?_; rintro eq w2 ⟨rfl, hb2⟩))
            go_ret2
            exact RetF32.bad (HB.out.trans (hb2.mono HB.out.size))
        · have hkn : k = ps.length := by omega
          subst hkn
          have e1 : ok = true := by
            rw [HA.out, decide_eq_true h64]
            have := HL.out; rw [List.take_length] at this; rw [this]; rfl
          have e2 : vs = ps.map vlQ := by rw [HV.out, e1]; rfl
          have HE := Lib.hid (show wr.ownsRow wq.heap.size 33 1 (.slice (some ⟨g0, 0, none⟩) ps.length cap0) vs.length (vs.map (Value.float .f32)) by
            have := HO.out; rw [List.take_length] at this; rw [e2, List.length_map]; exact this)
          subst e1
          clear e2
          go_wp2
          go_ret2
          exact ⟨_, rfl, HE.out, HB.out⟩
    · have hd : decide (256 < ((ps.length : Nat) : Int)) = true := by simp; omega
      have e1 : ok = false := by rw [HA.out]; simp [h64]
      have e2 : vs = [] := by rw [HV.out, e1]; rfl
      subst e1; subst e2
      go_enter Tryd.func31, Tryd.ntmps31
      go_wp2_with (first | (go_at_call 42; refine (HCt _).mono ?_; rintro eq wq ⟨rfl, rfl⟩))
      go_ret2
      exact RetF32.bad (Below.refl _ _)

theorem implNumsN (s : ByteArray) (hs : s.size ≤ 1048576) (w : World) (hL : LibM w) :
    Calls Tryd.prog 14 #[.string s] w (RetF32 (valsN s) (okN s) w) := by
  have HC := implSplitN s hs w hL
  generalize okN s = ok at HC ⊢
  generalize valsN s = vs at HC ⊢
  clear hL
  go_enter Tryd.func14, Tryd.ntmps14
  go_wp2_with (go_at_call 31; refine HC.mono ?_; rintro eq wq ⟨v, rfl, hrow, hb⟩)
  go_ret2
  exact ⟨_, rfl, hrow, hb⟩
end Go.Proofs.YtbcbaejfafamjaaDoor
