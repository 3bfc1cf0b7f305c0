/-
  The numbers with a text, of the model. No condition.
-/
import Derived.Test.YtbcbaejfafamjaaDoorNumN
namespace Go.Proofs.YtbcbaejfafamjaaDoor
open Go.RowKit

theorem take_div {s : ByteArray} (h : okH s) : ∀ j, j ≤ 8 → spH (s.data.toList.take (8 - j)) = spH s.data.toList / 16 ^ j
  | 0, _ => by rw [List.take_of_length_le (by have := h.1; simp; omega)]; simp
  | j + 1, hj => by
    have e := take_div h j (by omega)
    have hl : 8 - (j + 1) < s.size := by have := h.1; omega
    rw [show 8 - j = 8 - (j + 1) + 1 from by omega, take_snocH s _ hl, spH_snoc] at e
    have hd := dgH_lt (h.2 _ hl)
    rw [Nat.pow_succ, ← Nat.div_div_eq_div_mul, ← e]; omega
theorem hex8_spH {s : ByteArray} (h : okH s) : hex8 (spH s.data.toList) = s.data.toList := by
  have hs := h.1
  apply List.ext_getElem
  · rw [hex8_length]; simp [hs]
  · intro i h1 h2
    have h1' : i < 8 := by rw [hex8_length] at h1; exact h1
    have hl : i < s.size := by omega
    have e := take_div h (7 - i) (by omega)
    rw [show 8 - (7 - i) = i + 1 from by omega, take_snocH s i hl, spH_snoc] at e
    have hd := dgH_lt (h.2 i hl)
    have e2 : (hex8 (spH s.data.toList))[i] = UInt8.ofNat (hxc (spH s.data.toList / 16 ^ (7 - i) % 16)) := by simp [hex8]
    refine e2.trans ?_
    rw [← e, show (16 * spH (s.data.toList.take i) + dgH s[i]) % 16 = dgH s[i] from by omega, hxc_dgH (h.2 i hl)]; rfl
theorem okXB_iff {s : ByteArray} (h : okH s) : okXB s.data.toList = decide (bitsN (nrm .f32 (spH s.data.toList)) = spH s.data.toList) := by
  unfold okXB
  by_cases hb : bitsN (nrm .f32 (spH s.data.toList)) = spH s.data.toList
  · rw [decide_eq_true hb, hb]; exact decide_eq_true (hex8_spH h)
  · rw [decide_eq_false hb]
    refine decide_eq_false fun h2 => hb ?_
    have h3 := spH_lt s h 8 (Nat.le_refl _)
    have h4 : (16 : Nat) ^ 8 = 4294967296 := by decide
    rw [List.take_of_length_le (by have := h.1; simp; omega), h4] at h3
    have hlt := bitsN_lt (Is.self (k := .f32) (b := spH s.data.toList) h3)
    have := spH_hex8 hlt
    rw [h2] at this
    exact this.symm
theorem f32fromS (n : Int) (w : World) : (callFunc 66 #[.int .u32 n]).run Tryd.prog w = .ok (.value (.float .f32 n.toNat)) w := f32from n w

set_option maxHeartbeats 6400000 in
set_option maxRecDepth 100000 in
theorem specNRd (s : ByteArray) (hs : s.size ≤ 1048576) (w : World) :
    Calls Tryd.prog 30 #[.string s] w (RetF32 (valsN s) (okN s) w) := by
  obtain ⟨i0, hi, hz0, hz1, hz2⟩ := info_parts infoF
  have HC := fun w => specCut s hs w
  cases hN : isNone s with
  | true =>
    have hq : (s.toList == [110, 111, 110, 101]) = true := hN
    have e1 : okN s = true := by unfold okN; rw [hN]; rfl
    have e2 : valsN s = [] := by unfold valsN; rw [hN]; rfl
    rw [e1, e2]
    clear e1 e2 hN HC
    go_enter Tryd.func30, Tryd.ntmps30
    go_wp2_with fail
    go_ret2
    exact ⟨_, rfl, ownsRow_zeroT _ _ _ (Nat.le_refl _), (Below.refl _ _).alloc (Nat.le_refl _) _⟩
  | false =>
    have hq : (s.toList == [110, 111, 110, 101]) = false := hN
    have hsz := pieces_size s
    have HA := Lib.hid (show okN s = (decide ((pieces s).length ≤ 256) && (pieces s).all okQ) by unfold okN; rw [hN]; rfl)
    have HV := Lib.hid (show valsN s = if okN s then (pieces s).map vlQ else [] by unfold valsN; rw [hN]; rfl)
    clear hN
    generalize okN s = ok at HA HV ⊢
    generalize valsN s = vs at HV ⊢
    generalize pieces s = ps at HA HV HC hsz
    have HS := fun (p : ByteArray) (hp : p ∈ ps) => Nat.le_trans (hsz p hp) hs
    clear hsz
    have HSh := Lib.hid HS
    clear HS
    by_cases h64 : ps.length ≤ 256
    · have hd : decide (256 < ((ps.length : Nat) : Int)) = false := by simp; omega
      go_enter Tryd.func30, Tryd.ntmps30
      go_wp2_with (go_at_call 40; refine (HC _).mono ?_; rintro eq wq ⟨⟨g, cap, n, rfl, rfl, hown⟩, hb⟩)
      go_loopw [4, 6] (fun o i wr => ∃ (k g0 cap0 : Nat), k ≤ ps.length ∧ i = .int .i64 (k : Nat) ∧ o = .slice (some ⟨g0, 0, none⟩) k cap0 ∧ (ps.take k).all okQ = true ∧ wr.ownsRow w.heap.size 33 1 o k (((ps.take k).map vlQ).map (Value.float .f32)) ∧ wr.ownsRow w.heap.size 9 1 (.slice (some ⟨g, 0, none⟩) ps.length cap) ps.length (ps.map Value.string) ∧ Below w.heap.size w wr) (fun _ i _ => ps.length - (intOf i).toNat)
      case atStart =>
        exact ⟨0, w.heap.size, 0, Nat.zero_le _, rfl, rfl, rfl, ownsRow_below (ownsRow_zeroQ w _ _ (Nat.le_refl _)) hb, ownsRow_base hown (by simp), ((Below.refl _ _).alloc (Nat.le_refl _) _).trans (hb.mono (by simp))⟩
      case round =>
        obtain ⟨k, g0, cap0, hk, rfl, rfl, hall, hrow, hpar, hbw⟩ := hrel
        have HO := Lib.hid hrow
        have HP := Lib.hid hpar
        have HB := Lib.hid hbw
        have HL := Lib.hid hall
        clear hrow hpar hbw hall hown hb
        by_cases hlt : k < ps.length
        · have hc := row_cell HP.out (k := k) (u := .string ps[k]) (by rw [List.getElem?_map, List.getElem?_eq_getElem hlt]; rfl)
          have hfail : okQ ps[k] = false → ok = false ∧ vs = [] := fun hbad => by
            have e1 : ok = false := by
              rw [HA.out]
              have : ps.all okQ = false := by rw [List.all_eq_false]; exact ⟨ps[k], List.getElem_mem hlt, by simp [hbad]⟩
              rw [this, Bool.and_false]
            exact ⟨e1, by rw [HV.out, e1]; rfl⟩
          have HF := Lib.hid hfail
          have HT := Lib.hid (take_map_succQ ps k hlt)
          have HL2 := Lib.hid (fun h => take_all_succQ ps k hlt HL.out h)
          clear hfail HA HV HSh
          have HQ := Lib.hid (show ∀ b, okQ ps[k] = b → okXB ps[k].data.toList = b from fun b h => h)
          generalize hp : ps[k] = p at hc HF HT HL2 HQ
          clear hp
          by_cases h8 : p.size = 8
          · have h8b : ((p.size : Int) != 8) = false := by rw [h8]; rfl
            go_wp2_with fail
            go_loopw [7, 8] (fun n q wx => ∃ (j : Nat) (z : Int), j ≤ 8 ∧ q = .int .i64 (j : Nat) ∧ n = .int .i64 z ∧ 0 ≤ z ∧ z < 4294967296 ∧ Hid (z = (spH (p.data.toList.take j) : Nat) ∧ spH (p.data.toList.take j) < 16 ^ j ∧ ∀ (i : Nat) (h : i < p.size), i < j → isH p[i] = true) ∧ wx = wr) (fun _ q _ => 8 - (intOf q).toNat)
            case atStart => exact ⟨0, 0, Nat.zero_le _, rfl, rfl, by decide, by decide, Lib.hid ⟨rfl, by simp [spH], fun i h hi => by omega⟩, rfl⟩
            case round =>
              obtain ⟨j, z, hj, rfl, rfl, z0, z1, HZ, rfl⟩ := hrel
              by_cases hj8 : j < 8
              · have hl : j < p.size := by omega
                have hj' : (j : Int) < 8 := by omega
                by_cases hA : 48 ≤ p[j].toNat ∧ p[j].toNat ≤ 57
                · obtain ⟨a0, a1⟩ := hA
                  have HN := Lib.hid (show 16 * z + ((p[j].toNat : Int) - 48) = (spH (p.data.toList.take (j + 1)) : Nat) ∧ spH (p.data.toList.take (j + 1)) < 16 ^ (j + 1) ∧ ∀ (i : Nat) (h : i < p.size), i < j + 1 → isH p[i] = true from by
                    obtain ⟨a, b, c⟩ := HZ.out
                    have hi : isH p[j] = true := by unfold isH; simp; omega
                    have hd := dgH_lt hi
                    refine ⟨by rw [take_snocH p j hl, spH_snoc, a]; unfold dgH; split <;> omega, by rw [take_snocH p j hl, spH_snoc, Nat.pow_succ]; omega, fun i h hij => ?_⟩
                    rcases Nat.lt_or_ge i j with h1 | h1
                    · exact c i h h1
                    · obtain rfl : i = j := by omega
                      exact hi)
                  have hz16 : z < 268435456 := by
                    obtain ⟨a, b, _⟩ := HZ.out
                    have h3 : (16 : Nat) ^ j ≤ 16 ^ 7 := Nat.pow_le_pow_right (by decide) (by omega)
                    have h4 : (16 : Nat) ^ 7 = 268435456 := by decide
                    omega
                  have hw : wrap64 (16 * z) = 16 * z := by unfold wrap64; omega
                  have hw2 : wrap64 (16 * z + ((p[j].toNat : Int) - 48)) = 16 * z + ((p[j].toNat : Int) - 48) := by unfold wrap64; omega
                  clear HQ HT HL2 HF
                  have b0 : (48 : Int) ≤ (p[j].toNat : Int) := by omega
                  have b1 : (p[j].toNat : Int) ≤ 57 := by omega
                  go_wp2_with fail
                  go_roundw
                  case rel => exact ⟨j + 1, _, by omega, by go_num, rfl, by omega, by omega, HN, trivial⟩
                  case measure => simp [intOf]; omega
                · by_cases hB : 97 ≤ p[j].toNat ∧ p[j].toNat ≤ 102
                  · obtain ⟨a0, a1⟩ := hB
                    have HN := Lib.hid (show 16 * z + ((p[j].toNat : Int) - 97 + 10) = (spH (p.data.toList.take (j + 1)) : Nat) ∧ spH (p.data.toList.take (j + 1)) < 16 ^ (j + 1) ∧ ∀ (i : Nat) (h : i < p.size), i < j + 1 → isH p[i] = true from by
                      obtain ⟨a, b, c⟩ := HZ.out
                      have hi : isH p[j] = true := by unfold isH; simp; omega
                      have hd := dgH_lt hi
                      refine ⟨by rw [take_snocH p j hl, spH_snoc, a]; unfold dgH; split <;> omega, by rw [take_snocH p j hl, spH_snoc, Nat.pow_succ]; omega, fun i h hij => ?_⟩
                      rcases Nat.lt_or_ge i j with h1 | h1
                      · exact c i h h1
                      · obtain rfl : i = j := by omega
                        exact hi)
                    have hz16 : z < 268435456 := by
                      obtain ⟨a, b, _⟩ := HZ.out
                      have h3 : (16 : Nat) ^ j ≤ 16 ^ 7 := Nat.pow_le_pow_right (by decide) (by omega)
                      have h4 : (16 : Nat) ^ 7 = 268435456 := by decide
                      omega
                    have hw : wrap64 (16 * z) = 16 * z := by unfold wrap64; omega
                    have hw2 : wrap64 (16 * z + ((p[j].toNat : Int) - 97 + 10)) = 16 * z + ((p[j].toNat : Int) - 97 + 10) := by unfold wrap64; omega
                    clear HQ HT HL2 HF
                    have b0 : (97 : Int) ≤ (p[j].toNat : Int) := by omega
                    have b1 : (p[j].toNat : Int) ≤ 102 := by omega
                    go_wp2_with fail
                    go_roundw
                    case rel => exact ⟨j + 1, _, by omega, by go_num, rfl, by omega, by omega, HN, trivial⟩
                    case measure => simp [intOf]; omega
                  · have hb : okQ p = false := by
                      cases h : okQ p with
                      | false => rfl
                      | true =>
                        have := (okXB_okH h).2 j hl
                        unfold isH at this; simp at this; omega
                    obtain ⟨e1, e2⟩ := HF.out hb
                    subst e1; subst e2
                    have hor : ((p[j].toNat : Int) < 48 ∨ 57 < (p[j].toNat : Int)) ∧ ((p[j].toNat : Int) < 97 ∨ 102 < (p[j].toNat : Int)) := by omega
                    clear hb hA hB HZ HQ HT HL2 HF
                    rcases hor with ⟨q1 | q1, q2 | q2⟩
                    all_goals go_wp2_with fail
                    all_goals go_ret2
                    all_goals exact RetF32.bad HB.out
              · have hj8' : j = 8 := by omega
                subst hj8'
                have hz : z.toNat < 4294967296 := by omega
                have HBt := fun w => l01Bits_any (Is.self (k := .f32) (b := z.toNat) hz) w
                rw [bitsN_I] at HBt
                have hf := f32from
                have hw32 : IntKind.u32.wrap z = z := by rw [IntKind.wrap_u32]; omega
                have HE := Lib.hid (show okQ p = decide (bitsN (nrm .f32 z.toNat) = z.toNat) ∧ spH p.data.toList = z.toNat from by
                  obtain ⟨a, b, c⟩ := HZ.out
                  have hk : okH p := ⟨h8, fun i h => c i h (by omega)⟩
                  rw [List.take_of_length_le (by simp; omega)] at a
                  have e : z.toNat = spH p.data.toList := by omega
                  exact ⟨by rw [e]; exact okXB_iff hk, e.symm⟩)
                have hzn : (z.toNat : Int) = z := Int.toNat_of_nonneg z0
                clear HZ HQ
                by_cases hbz : bitsN (nrm .f32 z.toNat) = z.toNat
                · have HG := Lib.hid (show okQ p = true from by rw [HE.out.1]; exact decide_eq_true hbz)
                  rw [hbz, hzn] at HBt
                  clear hbz hzn HF
                  have HT2 := HT.out
                  rw [HE.out.2] at HT2
                  have HT3 := Lib.hid HT2
                  have HLz := Lib.hid (HL2.out HG.out)
                  clear HT2 HT HL2 HE HG
                  have HO2 := Lib.hid (fun n2 => ownsRow_below HO.out (below_drewN (Below.refl wr.heap.size wr) n2))
                  have HP2 := Lib.hid (fun n2 => ownsRow_below HP.out (below_drewN (Below.refl wr.heap.size wr) n2))
                  generalize hzz : z.toNat = zn at HT3 HBt
                  go_wp2_with (first | (go_at_call 47; go_in) | (go_at_call 48; refine (HBt _).mono ?_; rintro eq w2 ⟨n2, rfl, rfl⟩) | (at_builtin; go_loud (refine wpList_append_form (by rfl) (.tmp 74) (.tmp 76) 28 (by rfl) w.heap.size 33 i0 (.float .f32 0) 1 4 Tryd.underlying28 hi hz0 hz1 hz2 rfl (by decide) _ k _ (by rfl) ((HO2.out n2).alloc _) ⟨wr.heap.size, 0, none⟩ 1 1 [_] (by rfl) rfl (new1 (wr.drewN n2) _ _) (fun v h => by rw [List.mem_singleton.1 h]; rfl) (by unfold maxLen; omega) (by omega) (by have := HB.out.size; simp; omega) (by omega) ?_); intro g' cap' w3 hown' hgrow))
                  go_roundw
                  case rel => exact ⟨k + 1, g', cap', by omega, by go_num, rfl, HLz.out, by rw [HT3.out]; exact hown', ((HP2.out n2).alloc _).kept hgrow (.inr (by
                    intro h
                    have := rows_ne ((HP2.out n2).alloc (.cells #[Value.float .f32 zn] 33)) ((HO2.out n2).alloc (.cells #[Value.float .f32 zn] 33)) (by decide)
                    exact this (Option.some.inj h))), Below.grown ((below_drewN HB.out n2).alloc (below_drewN HB.out n2).size _) hgrow (by have := HB.out.size; simp; omega) (fun i hi => ((HO2.out n2).lt i hi).1)⟩
                  case measure => simp [intOf]; omega
                · have hbad : okQ p = false := by rw [HE.out.1]; exact decide_eq_false hbz
                  obtain ⟨e1, e2⟩ := HF.out hbad
                  subst e1; subst e2
                  have hne : ((bitsN (nrm .f32 z.toNat) : Int) != z) = true := by
                    simp only [bne_iff_ne]; intro h; exact hbz (by omega)
                  generalize bitsN (nrm .f32 z.toNat) = bz at HBt hne
                  clear hbz hzn HF HE hbad HT HL2
                  go_wp2_with (first | (go_at_call 47; go_in) | (go_at_call 48; refine (HBt _).mono ?_; rintro eq w2 ⟨n2, rfl, rfl⟩))
                  go_ret2
                  exact RetF32.bad (below_drewN HB.out _)
          · have h8b : ((p.size : Int) != 8) = true := by simp; omega
            have hb : okQ p = false := by
              cases h : okQ p with
              | false => rfl
              | true => exact absurd (okXB_okH h).1 h8
            obtain ⟨e1, e2⟩ := HF.out hb
            subst e1; subst e2
            clear hb
            go_wp2_with fail
            go_ret2
            exact RetF32.bad HB.out
        · have hkn : k = ps.length := by omega
          subst hkn
          have e1 : ok = true := by
            rw [HA.out, decide_eq_true h64]
            have := HL.out; rw [List.take_length] at this; rw [this]; rfl
          have e2 : vs = ps.map vlQ := by rw [HV.out, e1]; rfl
          have HE := Lib.hid (show wr.ownsRow w.heap.size 33 1 (.slice (some ⟨g0, 0, none⟩) ps.length cap0) vs.length (vs.map (Value.float .f32)) by
            have := HO.out; rw [List.take_length] at this; rw [e2, List.length_map]; exact this)
          subst e1
          clear e2
          go_wp2
          go_ret2
          exact ⟨_, rfl, HE.out, HB.out⟩
    · have hd : decide (256 < ((ps.length : Nat) : Int)) = true := by simp; omega
      have e1 : ok = false := by rw [HA.out]; simp [h64]
      have e2 : vs = [] := by rw [HV.out, e1]; rfl
      subst e1; subst e2
      go_enter Tryd.func30, Tryd.ntmps30
      go_wp2_with (go_at_call 40; refine (HC _).mono ?_; rintro eq wq ⟨⟨g, cap, n, rfl, rfl, hown⟩, hb⟩; have HB := Lib.hid hb; clear hb hown)
      go_ret2
      exact RetF32.bad (((Below.refl _ _).alloc (Nat.le_refl _) _).trans (HB.out.mono (by simp)))
end Go.Proofs.YtbcbaejfafamjaaDoor
