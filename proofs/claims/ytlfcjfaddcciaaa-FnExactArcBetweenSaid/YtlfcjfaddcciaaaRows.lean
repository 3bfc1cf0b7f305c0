/-
  No cell of these rows narrows 'for every input' (looked for: loops, veiled, ifaces, maps, wideKeys, modest, calm, conditions, laid).
  DERIVED. THE GIVEN ROWS OF THIS SEAT. 7 by the template 'for every input the law returns true; each argument reads behind the call as it read before'; 0 by the template 'total and deterministic' (their statements: YtlfcjfaddcciaaaTotals.lean).
  GIVEN WITH THE SEED: the statements are not yours to turn. If you find one false, say at which input.
  Laid BY PROGRAM, IN A SANDBOX (cutbox-rows.mjs): the forced cells as the released guide's own fill.sh prints them over the translation 8807902975480402… (all of the seat's roots in one cut). By AI agents, Wed Nov 11 2026. No macro, syntax, notation, axiom, sorry.
-/
import Derived.Test.YtlfcjfaddcciaaaChecked
import GoSem.Claim
import GoSem.ClaimJoined
import GoSem.ClaimMapViews
import Derived.JoinedTies
import Derived.KernelRfl
namespace Go.Proofs.Ytlfcjfaddcciaaa
/- THE CELL 'sum', in the pinned program and in every row, IS THE sha256 OF THE DUMP (.gsa) THAT YtlfcjfaddcciaaaProg.lean LOADS. Nothing in Lean hashes anything: it is a label: what it is worth is what the hold of that sum in a sandbox is worth. -/
noncomputable def Try.pinned : Pinned := { name := "ytlfcjfaddcciaaa", sum := "880790297548040272b851ee0290f775b36920088d8a82ad36f4f045a5d8360b", checked := Try.checked }
namespace Rows
def none {H : Type} : Left H := { results := [], args := [] }

/-- 'laws.FnExactPlaceOf': WHATEVER THE INPUT: true; the input reads as it did. -/
def fnExactPlaceOfSpec : ChangeSpec := { name := "fnExactPlaceOf", fn := fun _ => fun
  | [d1, d2, d3] => { results := [.lit (.bool true)], args := [d1, d2, d3] }
  | _ => none }
def fnExactPlaceOfRow : OpenClaim := { program := "ytlfcjfaddcciaaa", sum := "880790297548040272b851ee0290f775b36920088d8a82ad36f4f045a5d8360b", func := "loop.example/g01284/laws.FnExactPlaceOf", spec := "fnExactPlaceOf", inPlace := ["math.Float64frombits", "math.Float64bits", "math.archTrunc"], apart := false }
def FnExactPlaceOfSaid : Prop := fnExactPlaceOfRow.holds Try.pinned (OpenSpec.ofChange fnExactPlaceOfSpec)

/-- ITS FALSE NEIGHBOUR: 'it returns false'. Refute it at one input. -/
def fnExactPlaceOfWrong : ChangeSpec := { name := "fnExactPlaceOf", fn := fun _ => fun
  | [d1, d2, d3] => { results := [.lit (.bool false)], args := [d1, d2, d3] }
  | _ => none }
def FnExactPlaceOfWrongFalsely : Prop := fnExactPlaceOfRow.holds Try.pinned (OpenSpec.ofChange fnExactPlaceOfWrong)

/-- 'laws.FnExactRiseAt': WHATEVER THE INPUT: true; the input reads as it did. -/
def fnExactRiseAtSpec : ChangeSpec := { name := "fnExactRiseAt", fn := fun _ => fun
  | [d1, d2, d3, d4] => { results := [.lit (.bool true)], args := [d1, d2, d3, d4] }
  | _ => none }
def fnExactRiseAtRow : OpenClaim := { program := "ytlfcjfaddcciaaa", sum := "880790297548040272b851ee0290f775b36920088d8a82ad36f4f045a5d8360b", func := "loop.example/g01284/laws.FnExactRiseAt", spec := "fnExactRiseAt", inPlace := ["math.Float64frombits", "math.sqrt", "math.Float64bits", "math.archTrunc"], apart := false }
def FnExactRiseAtSaid : Prop := fnExactRiseAtRow.holds Try.pinned (OpenSpec.ofChange fnExactRiseAtSpec)

/-- ITS FALSE NEIGHBOUR: 'it returns false'. Refute it at one input. -/
def fnExactRiseAtWrong : ChangeSpec := { name := "fnExactRiseAt", fn := fun _ => fun
  | [d1, d2, d3, d4] => { results := [.lit (.bool false)], args := [d1, d2, d3, d4] }
  | _ => none }
def FnExactRiseAtWrongFalsely : Prop := fnExactRiseAtRow.holds Try.pinned (OpenSpec.ofChange fnExactRiseAtWrong)

/-- 'laws.FnExactArcBetween': WHATEVER THE INPUT: true; the input reads as it did. -/
def fnExactArcBetweenSpec : ChangeSpec := { name := "fnExactArcBetween", fn := fun _ => fun
  | [d1, d2] => { results := [.lit (.bool true)], args := [d1, d2] }
  | _ => none }
def fnExactArcBetweenRow : OpenClaim := { program := "ytlfcjfaddcciaaa", sum := "880790297548040272b851ee0290f775b36920088d8a82ad36f4f045a5d8360b", func := "loop.example/g01284/laws.FnExactArcBetween", spec := "fnExactArcBetween", inPlace := ["math.Float64frombits", "math.sqrt", "math.Float64bits", "math.archTrunc"], apart := false }
def FnExactArcBetweenSaid : Prop := fnExactArcBetweenRow.holds Try.pinned (OpenSpec.ofChange fnExactArcBetweenSpec)

/-- ITS FALSE NEIGHBOUR: 'it returns false'. Refute it at one input. -/
def fnExactArcBetweenWrong : ChangeSpec := { name := "fnExactArcBetween", fn := fun _ => fun
  | [d1, d2] => { results := [.lit (.bool false)], args := [d1, d2] }
  | _ => none }
def FnExactArcBetweenWrongFalsely : Prop := fnExactArcBetweenRow.holds Try.pinned (OpenSpec.ofChange fnExactArcBetweenWrong)

/-- 'laws.FnExactMarkOf': WHATEVER THE INPUT: true; the input reads as it did. -/
def fnExactMarkOfSpec : ChangeSpec := { name := "fnExactMarkOf", fn := fun _ => fun
  | [d1, d2, d3] => { results := [.lit (.bool true)], args := [d1, d2, d3] }
  | _ => none }
def fnExactMarkOfRow : OpenClaim := { program := "ytlfcjfaddcciaaa", sum := "880790297548040272b851ee0290f775b36920088d8a82ad36f4f045a5d8360b", func := "loop.example/g01284/laws.FnExactMarkOf", spec := "fnExactMarkOf", inPlace := ["math.sqrt", "math.Float64frombits", "math.Float64bits", "math.archFloor", "math.archTrunc"], apart := false }
def FnExactMarkOfSaid : Prop := fnExactMarkOfRow.holds Try.pinned (OpenSpec.ofChange fnExactMarkOfSpec)

/-- ITS FALSE NEIGHBOUR: 'it returns false'. Refute it at one input. -/
def fnExactMarkOfWrong : ChangeSpec := { name := "fnExactMarkOf", fn := fun _ => fun
  | [d1, d2, d3] => { results := [.lit (.bool false)], args := [d1, d2, d3] }
  | _ => none }
def FnExactMarkOfWrongFalsely : Prop := fnExactMarkOfRow.holds Try.pinned (OpenSpec.ofChange fnExactMarkOfWrong)

/-- 'laws.FnExactCoverOf': WHATEVER THE INPUT: true; the input reads as it did. -/
def fnExactCoverOfSpec : ChangeSpec := { name := "fnExactCoverOf", fn := fun _ => fun
  | [d1, d2, d3, d4, d5, d6] => { results := [.lit (.bool true)], args := [d1, d2, d3, d4, d5, d6] }
  | _ => none }
def fnExactCoverOfRow : OpenClaim := { program := "ytlfcjfaddcciaaa", sum := "880790297548040272b851ee0290f775b36920088d8a82ad36f4f045a5d8360b", func := "loop.example/g01284/laws.FnExactCoverOf", spec := "fnExactCoverOf", inPlace := ["math.Float64frombits", "math.sqrt", "math.Float64bits", "math.archTrunc"], apart := false }
def FnExactCoverOfSaid : Prop := fnExactCoverOfRow.holds Try.pinned (OpenSpec.ofChange fnExactCoverOfSpec)

/-- ITS FALSE NEIGHBOUR: 'it returns false'. Refute it at one input. -/
def fnExactCoverOfWrong : ChangeSpec := { name := "fnExactCoverOf", fn := fun _ => fun
  | [d1, d2, d3, d4, d5, d6] => { results := [.lit (.bool false)], args := [d1, d2, d3, d4, d5, d6] }
  | _ => none }
def FnExactCoverOfWrongFalsely : Prop := fnExactCoverOfRow.holds Try.pinned (OpenSpec.ofChange fnExactCoverOfWrong)

/-- 'laws.FnExactCoverShared': WHATEVER THE INPUT: true; the input reads as it did. -/
def fnExactCoverSharedSpec : ChangeSpec := { name := "fnExactCoverShared", fn := fun _ => fun
  | [d1, d2, d3, d4, d5, d6, d7] => { results := [.lit (.bool true)], args := [d1, d2, d3, d4, d5, d6, d7] }
  | _ => none }
def fnExactCoverSharedRow : OpenClaim := { program := "ytlfcjfaddcciaaa", sum := "880790297548040272b851ee0290f775b36920088d8a82ad36f4f045a5d8360b", func := "loop.example/g01284/laws.FnExactCoverShared", spec := "fnExactCoverShared", inPlace := ["math.Float64frombits", "math.sqrt", "(*sync.WaitGroup).Add", "internal/race.ReleaseMerge", "internal/race.Disable", "internal/race.Enable", "internal/synctest.IsInBubble", "internal/synctest.Associate[sync.WaitGroup]", "sync.fatal", "sync/atomic.OrUint64", "sync/atomic.AddUint64", "internal/race.Read", "sync/atomic.LoadUint64", "sync/atomic.StoreUint64", "internal/synctest.Disassociate[sync.WaitGroup]", "sync.runtime_Semrelease", "(*sync.WaitGroup).Done", "math.Float64bits", "math.archTrunc", "(*sync.WaitGroup).Wait", "internal/race.Acquire", "internal/synctest.IsAssociated[sync.WaitGroup]", "sync/atomic.CompareAndSwapUint64", "internal/race.Write", "sync.runtime_SemacquireWaitGroup"], unfollowed := true, recurses := true, leaving := true, apart := false }
def FnExactCoverSharedSaid : Prop := fnExactCoverSharedRow.holds Try.pinned (OpenSpec.ofChange fnExactCoverSharedSpec)

/-- ITS FALSE NEIGHBOUR: 'it returns false'. Refute it at one input. -/
def fnExactCoverSharedWrong : ChangeSpec := { name := "fnExactCoverShared", fn := fun _ => fun
  | [d1, d2, d3, d4, d5, d6, d7] => { results := [.lit (.bool false)], args := [d1, d2, d3, d4, d5, d6, d7] }
  | _ => none }
def FnExactCoverSharedWrongFalsely : Prop := fnExactCoverSharedRow.holds Try.pinned (OpenSpec.ofChange fnExactCoverSharedWrong)

/-- 'laws.FnExactCoverShare': WHATEVER THE INPUT: true; the input reads as it did. -/
def fnExactCoverShareSpec : ChangeSpec := { name := "fnExactCoverShare", fn := fun _ => fun
  | [d1, d2, d3] => { results := [.lit (.bool true)], args := [d1, d2, d3] }
  | _ => none }
def fnExactCoverShareRow : OpenClaim := { program := "ytlfcjfaddcciaaa", sum := "880790297548040272b851ee0290f775b36920088d8a82ad36f4f045a5d8360b", func := "loop.example/g01284/laws.FnExactCoverShare", spec := "fnExactCoverShare", inPlace := ["math.Float64frombits", "math.archTrunc", "math.Float64bits"], apart := false }
def FnExactCoverShareSaid : Prop := fnExactCoverShareRow.holds Try.pinned (OpenSpec.ofChange fnExactCoverShareSpec)

/-- ITS FALSE NEIGHBOUR: 'it returns false'. Refute it at one input. -/
def fnExactCoverShareWrong : ChangeSpec := { name := "fnExactCoverShare", fn := fun _ => fun
  | [d1, d2, d3] => { results := [.lit (.bool false)], args := [d1, d2, d3] }
  | _ => none }
def FnExactCoverShareWrongFalsely : Prop := fnExactCoverShareRow.holds Try.pinned (OpenSpec.ofChange fnExactCoverShareWrong)

/- THE SECOND FORM. 'bulk': how many values and letters a reading holds, each counted each time it is reached (what is shared counts as often as it is met; a slice's spare places count too). A statement '..UptoSaid' is the law's where the arguments, and the package variables that the reading takes, are together of bulk at most 1048576: NARROWER than '..Said'. Prove '..Said' where nothing that the law and all that it calls make is longer than what came in: it says more and counts as full. Else prove '..UptoSaid'. A law counts once. -/
mutual
def uptoBulk {H : Type} : DataW H → Nat
  | .lit (.string bytes) => bytes.length + 1
  | .lit _ => 1
  | .nil => 1
  | .ptr d => uptoBulk d + 1
  | .slice elems spare => uptoBulkAll elems + uptoBulkAll spare + 1
  | .agg parts => uptoBulkAll parts + 1
  | .iface _ d => uptoBulk d + 1
  | .map entries => uptoBulkEntries entries + 1
  | .held _ => 1
def uptoBulkAll {H : Type} : List (DataW H) → Nat
  | [] => 0
  | d :: r => uptoBulk d + uptoBulkAll r
def uptoBulkEntries {H : Type} : List (Lit × DataW H) → Nat
  | [] => 0
  | x :: r => uptoBulkEntry x + uptoBulkEntries r
def uptoBulkEntry {H : Type} : Lit × DataW H → Nat
  | (.string bytes, d) => bytes.length + uptoBulk d + 1
  | (_, d) => uptoBulk d + 1
 end
def uptoSmall : (H : Type) → List (DataW H) → Bool := fun _ ds => decide (uptoBulkAll ds ≤ 1048576)
def OpenSpec.upto (s : _root_.Go.ChangeSpec) : _root_.Go.OpenSpec := { _root_.Go.OpenSpec.ofChange s with cond := some uptoSmall }

/-- 'laws.FnExactPlaceOf', WHERE WHAT IT READS IS OF BULK AT MOST 1048576: true; the input reads as it did. -/
def fnExactPlaceOfUptoRow : OpenClaim := { program := "ytlfcjfaddcciaaa", sum := "880790297548040272b851ee0290f775b36920088d8a82ad36f4f045a5d8360b", func := "loop.example/g01284/laws.FnExactPlaceOf", spec := "fnExactPlaceOf", inPlace := ["math.Float64frombits", "math.Float64bits", "math.archTrunc"], apart := false, narrowed := true }
def FnExactPlaceOfUptoSaid : Prop := fnExactPlaceOfUptoRow.holds Try.pinned (OpenSpec.upto fnExactPlaceOfSpec)

/-- 'laws.FnExactRiseAt', WHERE WHAT IT READS IS OF BULK AT MOST 1048576: true; the input reads as it did. -/
def fnExactRiseAtUptoRow : OpenClaim := { program := "ytlfcjfaddcciaaa", sum := "880790297548040272b851ee0290f775b36920088d8a82ad36f4f045a5d8360b", func := "loop.example/g01284/laws.FnExactRiseAt", spec := "fnExactRiseAt", inPlace := ["math.Float64frombits", "math.sqrt", "math.Float64bits", "math.archTrunc"], apart := false, narrowed := true }
def FnExactRiseAtUptoSaid : Prop := fnExactRiseAtUptoRow.holds Try.pinned (OpenSpec.upto fnExactRiseAtSpec)

/-- 'laws.FnExactArcBetween', WHERE WHAT IT READS IS OF BULK AT MOST 1048576: true; the input reads as it did. -/
def fnExactArcBetweenUptoRow : OpenClaim := { program := "ytlfcjfaddcciaaa", sum := "880790297548040272b851ee0290f775b36920088d8a82ad36f4f045a5d8360b", func := "loop.example/g01284/laws.FnExactArcBetween", spec := "fnExactArcBetween", inPlace := ["math.Float64frombits", "math.sqrt", "math.Float64bits", "math.archTrunc"], apart := false, narrowed := true }
def FnExactArcBetweenUptoSaid : Prop := fnExactArcBetweenUptoRow.holds Try.pinned (OpenSpec.upto fnExactArcBetweenSpec)

/-- 'laws.FnExactMarkOf', WHERE WHAT IT READS IS OF BULK AT MOST 1048576: true; the input reads as it did. -/
def fnExactMarkOfUptoRow : OpenClaim := { program := "ytlfcjfaddcciaaa", sum := "880790297548040272b851ee0290f775b36920088d8a82ad36f4f045a5d8360b", func := "loop.example/g01284/laws.FnExactMarkOf", spec := "fnExactMarkOf", inPlace := ["math.sqrt", "math.Float64frombits", "math.Float64bits", "math.archFloor", "math.archTrunc"], apart := false, narrowed := true }
def FnExactMarkOfUptoSaid : Prop := fnExactMarkOfUptoRow.holds Try.pinned (OpenSpec.upto fnExactMarkOfSpec)

/-- 'laws.FnExactCoverOf', WHERE WHAT IT READS IS OF BULK AT MOST 1048576: true; the input reads as it did. -/
def fnExactCoverOfUptoRow : OpenClaim := { program := "ytlfcjfaddcciaaa", sum := "880790297548040272b851ee0290f775b36920088d8a82ad36f4f045a5d8360b", func := "loop.example/g01284/laws.FnExactCoverOf", spec := "fnExactCoverOf", inPlace := ["math.Float64frombits", "math.sqrt", "math.Float64bits", "math.archTrunc"], apart := false, narrowed := true }
def FnExactCoverOfUptoSaid : Prop := fnExactCoverOfUptoRow.holds Try.pinned (OpenSpec.upto fnExactCoverOfSpec)

/-- 'laws.FnExactCoverShared', WHERE WHAT IT READS IS OF BULK AT MOST 1048576: true; the input reads as it did. -/
def fnExactCoverSharedUptoRow : OpenClaim := { program := "ytlfcjfaddcciaaa", sum := "880790297548040272b851ee0290f775b36920088d8a82ad36f4f045a5d8360b", func := "loop.example/g01284/laws.FnExactCoverShared", spec := "fnExactCoverShared", inPlace := ["math.Float64frombits", "math.sqrt", "(*sync.WaitGroup).Add", "internal/race.ReleaseMerge", "internal/race.Disable", "internal/race.Enable", "internal/synctest.IsInBubble", "internal/synctest.Associate[sync.WaitGroup]", "sync.fatal", "sync/atomic.OrUint64", "sync/atomic.AddUint64", "internal/race.Read", "sync/atomic.LoadUint64", "sync/atomic.StoreUint64", "internal/synctest.Disassociate[sync.WaitGroup]", "sync.runtime_Semrelease", "(*sync.WaitGroup).Done", "math.Float64bits", "math.archTrunc", "(*sync.WaitGroup).Wait", "internal/race.Acquire", "internal/synctest.IsAssociated[sync.WaitGroup]", "sync/atomic.CompareAndSwapUint64", "internal/race.Write", "sync.runtime_SemacquireWaitGroup"], unfollowed := true, recurses := true, leaving := true, apart := false, narrowed := true }
def FnExactCoverSharedUptoSaid : Prop := fnExactCoverSharedUptoRow.holds Try.pinned (OpenSpec.upto fnExactCoverSharedSpec)

/-- 'laws.FnExactCoverShare', WHERE WHAT IT READS IS OF BULK AT MOST 1048576: true; the input reads as it did. -/
def fnExactCoverShareUptoRow : OpenClaim := { program := "ytlfcjfaddcciaaa", sum := "880790297548040272b851ee0290f775b36920088d8a82ad36f4f045a5d8360b", func := "loop.example/g01284/laws.FnExactCoverShare", spec := "fnExactCoverShare", inPlace := ["math.Float64frombits", "math.archTrunc", "math.Float64bits"], apart := false, narrowed := true }
def FnExactCoverShareUptoSaid : Prop := fnExactCoverShareUptoRow.holds Try.pinned (OpenSpec.upto fnExactCoverShareSpec)

end Rows
end Go.Proofs.Ytlfcjfaddcciaaa
