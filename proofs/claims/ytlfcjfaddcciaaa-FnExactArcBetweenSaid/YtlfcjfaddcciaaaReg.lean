/-
  A region that draws its order, whose first operations yield what is told of each of them in whatever order they come up: one step for each operation instead of one for each order. No condition.
-/
import Derived.Deep.RegionHeld3
import Derived.Test.YtlfcjfaddcciaaaNum
namespace Go.Proofs.Ytlfcjfaddcciaaa

section
variable {P : Program} {ops : Array Oper} {Q : Exit → Act → World → Prop} {S : World → Prop}

/-- Whether an operation waits for number j. -/
def waits (o : Oper) (j : Nat) : Bool := o.after.any fun e => Region.binds .any e && e.on == j

/-- The first m operations yield into the slots from b on, wait only for earlier ones, and each of them but the last is waited for by a later one of them; all others wait for the last of them or for a later one. -/
def regB (ops : Array Oper) (b m : Nat) : Bool :=
  (List.range m).all (fun i => match ops[i]? with
    | none => false
    | some o => o.dst == some (b + i) && o.after.all (fun e => !Region.binds .any e || decide (e.on < i)) && (decide (i + 1 = m) || (List.range m).any (fun k => decide (i < k) && match ops[k]? with | none => false | some p => waits p i))) &&
  (List.range ops.size).all (fun i => decide (i < m) || match ops[i]? with
    | none => false
    | some o => (List.range i).any (fun j => decide (m ≤ j + 1) && waits o j))

structure RegOk (ops : Array Oper) (b m : Nat) : Prop where
  dst : ∀ i o, i < m → ops[i]? = some o → o.dst = some (b + i)
  back : ∀ i o e, i < m → ops[i]? = some o → e ∈ o.after → Region.binds .any e = true → e.on < i
  need : ∀ i, i + 1 < m → ∃ k p e, i < k ∧ k < m ∧ ops[k]? = some p ∧ e ∈ p.after ∧ Region.binds .any e = true ∧ e.on = i
  rest : ∀ i o, m ≤ i → ops[i]? = some o → ∃ e ∈ o.after, Region.binds .any e = true ∧ m ≤ e.on + 1 ∧ e.on < i

theorem waits_spec {o : Oper} {j : Nat} (h : waits o j = true) : ∃ e ∈ o.after, Region.binds .any e = true ∧ e.on = j := by
  unfold waits at h
  rw [Array.any_eq_true'] at h
  obtain ⟨e, he, h⟩ := h
  rw [Bool.and_eq_true, beq_iff_eq] at h
  exact ⟨e, he, h.1, h.2⟩

theorem regOk {b m : Nat} (h : regB ops b m = true) (hm : m ≤ ops.size) : RegOk ops b m := by
  unfold regB at h
  rw [Bool.and_eq_true, List.all_eq_true, List.all_eq_true] at h
  obtain ⟨h1, h2⟩ := h
  have k1 : ∀ i o, i < m → ops[i]? = some o → (o.dst == some (b + i) && o.after.all (fun e => !Region.binds .any e || decide (e.on < i)) && (decide (i + 1 = m) || (List.range m).any (fun k => decide (i < k) && match ops[k]? with | none => false | some p => waits p i))) = true := fun i o hi ho => by
    have := h1 i (List.mem_range.2 hi)
    rw [ho] at this
    exact this
  refine ⟨fun i o hi ho => ?_, fun i o e hi ho he hb => ?_, fun i hi => ?_, fun i o hi ho => ?_⟩
  · have := k1 i o hi ho
    rw [Bool.and_eq_true, Bool.and_eq_true, beq_iff_eq] at this
    exact this.1.1
  · have := k1 i o hi ho
    rw [Bool.and_eq_true, Bool.and_eq_true, Array.all_eq_true'] at this
    have h3 := this.1.2 e he
    rw [hb] at h3
    simpa using h3
  · obtain ⟨o, ho⟩ : ∃ o, ops[i]? = some o := ⟨ops[i]'(by omega), Array.getElem?_eq_getElem _⟩
    have := k1 i o (by omega) ho
    rw [Bool.and_eq_true] at this
    have h3 := this.2
    rw [decide_eq_false (by omega), Bool.false_or, List.any_eq_true] at h3
    obtain ⟨k, hk, h4⟩ := h3
    rw [Bool.and_eq_true, decide_eq_true_eq] at h4
    obtain ⟨h5, h6⟩ := h4
    cases hp : ops[k]? with
    | none => rw [hp] at h6; cases h6
    | some p =>
      rw [hp] at h6
      obtain ⟨e, he, hb, hj⟩ := waits_spec h6
      exact ⟨k, p, e, h5, List.mem_range.1 hk, hp, he, hb, hj⟩
  · have hlt : i < ops.size := by
      rcases Nat.lt_or_ge i ops.size with h | h
      · exact h
      · rw [Array.getElem?_eq_none h] at ho; cases ho
    have := h2 i (List.mem_range.2 hlt)
    rw [decide_eq_false (by omega), Bool.false_or, ho] at this
    simp only at this
    rw [List.any_eq_true] at this
    obtain ⟨j, hj, h4⟩ := this
    rw [Bool.and_eq_true, decide_eq_true_eq] at h4
    obtain ⟨e, he, hb, hj2⟩ := waits_spec h4.2
    exact ⟨e, he, hb, by omega, by have := List.mem_range.1 hj; omega⟩

/-- The first m are listed. -/
def mask (m n : Nat) : Array Bool := ((List.range n).map fun i => decide (i < m)).toArray

/-- What is known while the first ones come up: c of them are still to come. -/
structure RegIn (ops : Array Oper) (b m N : Nat) (T0 : Array Value) (D : List Deferred) (Φ : Nat → Value → Prop) (c : Nat) (listed : Array Bool) (a : Act) : Prop where
  size : listed.size = ops.size
  closed : ∀ i o e, listed.getD i false = true → ops[i]? = some o → e ∈ o.after → Region.binds .any e = true → listed.getD e.on false = true
  only : ∀ i, m ≤ i → listed.getD i false = false
  count : ((List.range m).filter fun i => !listed.getD i false).length = c
  defers : a.defers = D
  tmps : a.tmps.size = N
  frame : ∀ s, s < b ∨ b + m ≤ s → a.tmps[s]? = T0[s]?
  vals : ∀ i, i < m → listed.getD i false = true → ∃ v, a.tmps[b + i]? = some v ∧ Φ i v

theorem down_all {b m : Nat} (ok : RegOk ops b m) {listed : Array Bool} (closed : ∀ i o e, listed.getD i false = true → ops[i]? = some o → e ∈ o.after → Region.binds .any e = true → listed.getD e.on false = true)
    (hl : listed.getD (m - 1) false = true) : ∀ d i, d + i + 1 = m → listed.getD i false = true := by
  intro d
  induction d using Nat.strongRecOn with
  | ind d ih =>
    intro i hi
    by_cases h0 : d = 0
    · rw [show i = m - 1 by omega]; exact hl
    · obtain ⟨k, p, e, h1, h2, h3, h4, h5, h6⟩ := ok.need i (by omega)
      have := closed k p e (ih (m - 1 - k) (by omega) k (by omega)) h3 h4 h5
      rw [h6] at this
      exact this

theorem rest_last {b m : Nat} (ok : RegOk ops b m) {listed : Array Bool} (only : ∀ i, m ≤ i → listed.getD i false = false) {i : Nat} {o : Oper} (hi : m ≤ i) (ho : ops[i]? = some o) (hm : 0 < m)
    (hall : ∀ e ∈ o.after, Region.binds .any e = true → listed.getD e.on false = true) : listed.getD (m - 1) false = true := by
  obtain ⟨e, he, hb, h1, h2⟩ := ok.rest i o hi ho
  have := hall e he hb
  by_cases hc : m ≤ e.on
  · rw [only e.on hc] at this; cases this
  · rw [show m - 1 = e.on by omega]; exact this

theorem getD_iff {l : Array Bool} {i : Nat} (h : i < l.size) (d : Bool) : l.getD i d = l.getD i false := by
  simp [Array.getD, h]

theorem count_set {m : Nat} {l : Array Bool} {i : Nat} (hi : i < m) (hs : i < l.size) (h0 : l.getD i false = false) :
    ((List.range m).filter fun j => !l.getD j false).length = ((List.range m).filter fun j => !(l.setIfInBounds i true).getD j false).length + 1 := by
  induction m with
  | zero => omega
  | succ m ih =>
    rw [List.range_succ, List.filter_append, List.filter_append, List.length_append, List.length_append]
    by_cases h : i = m
    · subst h
      have e1 : ((List.range i).filter fun j => !l.getD j false) = ((List.range i).filter fun j => !(l.setIfInBounds i true).getD j false) := by
        refine List.filter_congr fun j hj => ?_
        have hj := List.mem_range.1 hj
        rw [getD_set_ne false (by omega)]
      have e2 : (l.setIfInBounds i true).getD i false = true := by simp [hs]
      rw [e1]
      simp only [List.filter_cons, List.filter_nil, h0, e2]
      simp
    · rw [ih (by omega)]
      have : (l.setIfInBounds i true).getD m false = l.getD m false := getD_set_ne false h
      simp only [List.filter_cons, List.filter_nil, this]
      omega

/-- The rule: what holds of each of the first operations in whatever order, and what follows behind them. -/
theorem region_in {b m N : Nat} {T0 : Array Value} {D : List Deferred} {Φ : Nat → Value → Prop} (ok : RegOk ops b m) (hm0 : 0 < m) (hmn : m ≤ ops.size) (hN : b + m ≤ N)
    (hop : ∀ i o T w, i < m → ops[i]? = some o → T.size = N → (∀ s, s < b ∨ b + m ≤ s → T[s]? = T0[s]?) → (∀ j, waits o j = true → ∃ v, T[b + j]? = some v ∧ Φ j v) → S w →
      ∀ K : Act → World → Prop, Shut (∀ v w', Φ i v → S w' → K { tmps := T.setIfInBounds (b + i) v, defers := D } w') → if Region.wanted o (yielded ops T) = true then Oper.wp P o { tmps := T, defers := D } w K Q else K { tmps := T.setIfInBounds (b + i) undef, defers := D } w)
    (hend : ∀ T w, T.size = N → (∀ s, s < b ∨ b + m ≤ s → T[s]? = T0[s]?) → (∀ i, i < m → ∃ v, T[b + i]? = some v ∧ Φ i v) → S w → wpAnyH P .any ops Q S (ops.size - m) (mask m ops.size) { tmps := T, defers := D } w) :
    ∀ c listed a w, c ≤ m → RegIn ops b m N T0 D Φ c listed a → S w → wpAnyH P .any ops Q S (ops.size - m + c) listed a w
  | 0, listed, a, w, _, h, hS => by
    have hall : ∀ i, i < m → listed.getD i false = true := fun i hi => by
      have := List.length_eq_zero_iff.1 h.count
      rw [List.filter_eq_nil_iff] at this
      have := this i (List.mem_range.2 hi)
      simpa using this
    have hl : listed = mask m ops.size := by
      apply Array.ext
      · rw [h.size]; simp [mask]
      · intro i h1 h2
        have e1 : listed[i] = listed.getD i false := by simp [h1]
        rw [e1]
        simp only [mask, List.getElem_toArray, List.getElem_map, List.getElem_range]
        by_cases hi : i < m
        · rw [hall i hi, decide_eq_true hi]
        · rw [h.only i (by omega), decide_eq_false hi]
    subst hl
    obtain ⟨T, D'⟩ := a
    obtain rfl : D' = D := h.defers
    exact hend T w h.tmps h.frame (fun i hi => h.vals i hi (hall i hi)) hS
  | c + 1, listed, a, w, hc, h, hS => by
    obtain ⟨T, D'⟩ := a
    obtain rfl : D' = D := h.defers
    have hlast : listed.getD (m - 1) false = false := by
      cases hb : listed.getD (m - 1) false with
      | false => rfl
      | true =>
        have hall : ∀ i, i < m → listed.getD i false = true := fun i hi => down_all ok h.closed hb (m - 1 - i) i (by omega)
        have : ((List.range m).filter fun i => !listed.getD i false) = [] := by
          rw [List.filter_eq_nil_iff]
          intro i hi
          rw [hall i (List.mem_range.1 hi)]; simp
        have h2 := h.count
        rw [this] at h2
        cases h2
    -- some operation comes up
    have hsome : ∃ i, i < m ∧ listed.getD i false = false ∧ ∀ j, j < i → listed.getD j false = true := by
      have key : ∀ n, n ≤ m → (∀ j, j < n → listed.getD j false = true) ∨ ∃ i, i < n ∧ listed.getD i false = false ∧ ∀ j, j < i → listed.getD j false = true := by
        intro n
        induction n with
        | zero => intro _; exact .inl (fun j hj => by omega)
        | succ n ih =>
          intro hn
          rcases ih (by omega) with h1 | ⟨i, h1, h2, h3⟩
          · cases hb : listed.getD n false with
            | true => exact .inl (fun j hj => by
                by_cases e : j = n
                · subst e; exact hb
                · exact h1 j (by omega))
            | false => exact .inr ⟨n, by omega, hb, h1⟩
          · exact .inr ⟨i, by omega, h2, h3⟩
      rcases key m (Nat.le_refl _) with h1 | h1
      · rw [h1 (m - 1) (by omega)] at hlast; cases hlast
      · exact h1
    refine ⟨fun hr => ?_, fun i hi => ?_⟩
    · exfalso
      obtain ⟨i, h1, h2, h3⟩ := hsome
      have hlt : i < ops.size := by omega
      have : i ∈ Region.ready .any ops listed := mem_ready.2 ⟨by rw [getD_iff (by rw [h.size]; exact hlt)]; exact h2, ops[i], Array.getElem?_eq_getElem _, fun e he hb => h3 _ (ok.back i _ e h1 (Array.getElem?_eq_getElem hlt) he hb)⟩
      rw [hr] at this
      cases this
    · obtain ⟨h1, o, ho, hall⟩ := mem_ready.1 hi
      have him : i < m := by
        rcases Nat.lt_or_ge i m with h2 | h2
        · exact h2
        · rw [rest_last ok h.only h2 ho hm0 hall] at hlast; cases hlast
      have hlt : i < listed.size := by rw [h.size]; omega
      have h0 : listed.getD i false = false := by rw [← getD_iff hlt true]; exact h1
      have hd := ok.dst i o him ho
      refine wpOp_step ho (fun K' hK => ?_)
      have step : ∀ v w', Φ i v → S w' → K' { tmps := T.setIfInBounds (b + i) v, defers := D' } w' := fun v w' hv hw' => by
        refine hK _ _ ⟨hw', ?_⟩
        refine region_in ok hm0 hmn hN hop hend c (listed.setIfInBounds i true) _ w' (by omega) ⟨by rw [Array.size_setIfInBounds]; exact h.size, fun j p e hj hp he hb => ?_, fun j hj => by rw [getD_set_ne false (by omega)]; exact h.only j hj, ?_, rfl, by rw [Array.size_setIfInBounds]; exact h.tmps, fun s hs => ?_, fun j hj hl => ?_⟩ hw'
        · by_cases e1 : j = i
          · subst e1
            rw [ho] at hp
            cases hp
            exact getD_set_true (hall e he hb)
          · rw [getD_set_ne false (Ne.symm e1)] at hj
            exact getD_set_true (h.closed j p e hj hp he hb)
        · have := count_set him hlt h0
          have h2 := h.count
          omega
        · show (T.setIfInBounds (b + i) v)[s]? = T0[s]?
          rw [Array.getElem?_setIfInBounds_ne (by omega)]
          exact h.frame s hs
        · show ∃ u, (T.setIfInBounds (b + i) v)[b + j]? = some u ∧ Φ j u
          have hT : T.size = N := h.tmps
          by_cases e1 : j = i
          · subst e1
            exact ⟨v, by rw [Array.getElem?_setIfInBounds_self_of_lt (by omega)], hv⟩
          · rw [getD_set_ne false (Ne.symm e1)] at hl
            obtain ⟨u, hu, hp⟩ := h.vals j hj hl
            exact ⟨u, by rw [Array.getElem?_setIfInBounds_ne (by omega)]; exact hu, hp⟩
      have := hop i o T w him ho h.tmps h.frame (fun j hj => by
        obtain ⟨e, he, hb, rfl⟩ := waits_spec hj
        exact h.vals e.on (Nat.lt_trans (ok.back i o e him ho he hb) him) (hall e he hb)) hS K' step
      have hput : ∀ v, (Act.put { tmps := T, defers := D' } o.dst v) = { tmps := T.setIfInBounds (b + i) v, defers := D' } := fun v => by rw [hd]; rfl
      rw [hput]
      exact this

theorem mask_zero (n : Nat) : Array.replicate n false = mask 0 n := by
  apply Array.ext
  · simp [mask]
  · intro i h1 h2; simp [mask]

theorem rep_get (n i : Nat) : (Array.replicate n false).getD i false = false := by
  by_cases h : i < n
  · simp [Array.getD, h]
  · simp [Array.getD, h]

theorem wp_region_in {id b m N : Nat} {T0 : Array Value} {D : List Deferred} {Φ : Nat → Value → Prop} {w : World} (hmo : P.follows .mixedOrders = true) (hok : regB ops b m = true) (hm0 : 0 < m) (hmn : m ≤ ops.size) (hN : b + m ≤ N) (hT : T0.size = N) (hS : S w.drew)
    (hop : ∀ i o T w, i < m → ops[i]? = some o → T.size = N → (∀ s, s < b ∨ b + m ≤ s → T[s]? = T0[s]?) → (∀ j, waits o j = true → ∃ v, T[b + j]? = some v ∧ Φ j v) → S w →
      ∀ K : Act → World → Prop, Shut (∀ v w', Φ i v → S w' → K { tmps := T.setIfInBounds (b + i) v, defers := D } w') → if Region.wanted o (yielded ops T) = true then Oper.wp P o { tmps := T, defers := D } w K Q else K { tmps := T.setIfInBounds (b + i) undef, defers := D } w)
    (hend : ∀ T w, T.size = N → (∀ s, s < b ∨ b + m ≤ s → T[s]? = T0[s]?) → (∀ i, i < m → ∃ v, T[b + i]? = some v ∧ Φ i v) → S w → wpAnyH P .any ops Q S (ops.size - m) (mask m ops.size) { tmps := T, defers := D } w) :
    (Code.region id ops true).wp P Q { tmps := T0, defers := D } w := by
  refine wp_region_held_drew (S := S) hmo hS (fun _ => ?_)
  have := region_in (S := S) (Q := Q) (P := P) (Φ := Φ) (T0 := T0) (D := D) (regOk hok hmn) hm0 hmn hN hop hend m (Array.replicate ops.size false) { tmps := T0, defers := D } w.drew (Nat.le_refl _)
    ⟨by simp, fun i o e hi => absurd hi (by rw [rep_get]; decide), fun i hi => rep_get _ _, ?_, rfl, hT, fun s _ => rfl, fun i hi hl => absurd hl (by rw [rep_get]; decide)⟩ hS
  · rw [Nat.sub_add_cancel hmn] at this
    exact this
  · have : ((List.range m).filter fun i => !(Array.replicate ops.size false).getD i false) = List.range m := by
      rw [List.filter_eq_self]
      intro i hi
      rw [rep_get]; rfl
    rw [this, List.length_range]
theorem lit_arr {T : Array Value} {N : Nat} (h : T.size = N) : ∃ g : Nat → Value, T = ((List.range N).map g).toArray ∧ ∀ s, s < N → T[s]? = some (g s) := by
  refine ⟨fun s => T.getD s undef, ?_, fun s hs => by simp [h, hs]⟩
  apply Array.ext
  · simp [h]
  · intro i h1 h2
    simp [h1]
end

/-! ### The steps of the operations that such a region holds -/
section
variable {P : Program} {Q : Exit → Act → World → Prop} {K : Act → World → Prop} {T : Array Value} {D : List Deferred} {w : World} {o : Oper}

theorem ev {k : Nat} {v : Value} (h : T[k]? = some v) : Act.eval { tmps := T, defers := D } (.tmp k) = v := by simp [Act.eval, h]

/-- An operation that hands a value on, and leaves a world. -/
theorem in_val {d : Nat} {v : Value} {w' : World} (hd : o.dst = some d) (h : (execOp (Act.eval { tmps := T, defers := D }) o).run P w = .ok (.value v) w') (hk : K { tmps := T.setIfInBounds d v, defers := D } w') : Oper.wp P o { tmps := T, defers := D } w K Q := by
  unfold Oper.wp
  rw [h]
  show K (Act.put _ o.dst v) w'
  rw [hd]
  exact hk

theorem in_move {d k : Nat} {v : Value} (ho : o.op = .move (.tmp k)) (hd : o.dst = some d) (hv : T[k]? = some v) (hk : K { tmps := T.setIfInBounds d v, defers := D } w) : Oper.wp P o { tmps := T, defers := D } w K Q := by
  refine in_val hd ?_ hk
  unfold execOp
  rw [ho]
  show Result.ok (Next.value (Act.eval { tmps := T, defers := D } (.tmp k))) w = _
  rw [ev hv]

theorem in_arith {d i j x y : Nat} {op : BinOp} {t yt : TypeId} {k : FloatKind} {va vb : Option Nat} (ho : o.op = .binOp op t (.tmp i) (.tmp j) yt) (hd : o.dst = some d) (hop : Arith op) (hx : T[i]? = some (.float k x)) (hy : T[j]? = some (.float k y)) (ix : Is k x va) (iy : Is k y vb)
    (hk : ∀ r n, Is k r (fo op k va vb) → K { tmps := T.setIfInBounds d (.float k r), defers := D } (w.drewN n)) : Oper.wp P o { tmps := T, defers := D } w K Q := by
  obtain ⟨r, n, hr, hi⟩ := run_arith P w hop t k x y ix iy
  refine in_val hd ?_ (hk r n hi)
  have hg : (eqGuard op t (.tmp i) (.tmp j) (.float k x) (.float k y)).run P w = .ok () w := by
    rcases hop with rfl | rfl | rfl | rfl <;> rfl
  unfold execOp
  rw [ho]
  simp [ev hx, ev hy, hg, hr, Result.andThen]

/-- A call of a Go function. -/
theorem in_call {d : Nat} {f : FuncId} {xs : Array Operand} {ats : Array TypeId} {args : Array Value} {R : Ending → World → Prop} (ho : o.op = .call { callee := .value (.func f), args := xs, argTypes := ats }) (hd : o.dst = some d) (hx : xs.map (Act.eval { tmps := T, defers := D }) = args)
    (hf : (callFunc f args).run P w = .ok (.enter f args) w) (hc : Calls P f args w R) (hk : ∀ e w', R e w' → ∃ v, e = .returned v ∧ K { tmps := T.setIfInBounds d v, defers := D } w') : Oper.wp P o { tmps := T, defers := D } w K Q := by
  have he : execOp (Act.eval { tmps := T, defers := D }) o = callFunc f args := by
    cases o with
    | mk dst op' type pos after guard =>
      simp only at ho
      subst ho
      show callFunc f (#[] ++ xs.map (Act.eval { tmps := T, defers := D }) ++ #[]) = _
      rw [hx]; simp
  unfold Oper.wp
  rw [he, hf]
  show Calls P f args w _
  refine hc.mono fun e w' h => ?_
  obtain ⟨v, rfl, h2⟩ := hk e w' h
  show K (Act.put _ o.dst v) w'
  rw [hd]
  exact h2
end
end Go.Proofs.Ytlfcjfaddcciaaa
