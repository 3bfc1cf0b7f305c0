/-
  No cell of these rows narrows 'for every input' (looked for: loops, veiled, ifaces, maps, wideKeys, modest, calm, conditions, laid).
  DERIVED. THE GIVEN ROWS OF THIS SEAT. 4 by the template 'for every input the law returns true; each argument reads behind the call as it read before'; 0 by the template 'total and deterministic' (their statements: YtngjpbfiijkibaaTotals.lean).
  GIVEN WITH THE SEED: the statements are not yours to turn. If you find one false, say at which input.
  Laid BY PROGRAM, IN A SANDBOX (cutbox-rows.mjs): the forced cells as the released guide's own fill.sh prints them over the translation 9e6d2eb319dfc754… (all of the seat's roots in one cut). By AI agents, Wed Nov 11 2026. No macro, syntax, notation, axiom, sorry.
-/
import Derived.Test.YtngjpbfiijkibaaChecked
import GoSem.Claim
import GoSem.ClaimJoined
import GoSem.ClaimMapViews
import Derived.JoinedTies
import Derived.KernelRfl
namespace Go.Proofs.Ytngjpbfiijkibaa
/- THE CELL 'sum', in the pinned program and in every row, IS THE sha256 OF THE DUMP (.gsa) THAT YtngjpbfiijkibaaProg.lean LOADS. Nothing in Lean hashes anything: it is a label: what it is worth is what the hold of that sum in a sandbox is worth. -/
noncomputable def Try.pinned : Pinned := { name := "ytngjpbfiijkibaa", sum := "9e6d2eb319dfc754bff1b42b246ec0693e4ff0b8003d6c56074e29af7fcc67b1", checked := Try.checked }
namespace Rows
def none {H : Type} : Left H := { results := [], args := [] }

/-- 'laws.FnExactMarkOf': WHATEVER THE INPUT: true; the input reads as it did. -/
def fnExactMarkOfSpec : ChangeSpec := { name := "fnExactMarkOf", fn := fun _ => fun
  | [d1, d2, d3] => { results := [.lit (.bool true)], args := [d1, d2, d3] }
  | _ => none }
def fnExactMarkOfRow : OpenClaim := { program := "ytngjpbfiijkibaa", sum := "9e6d2eb319dfc754bff1b42b246ec0693e4ff0b8003d6c56074e29af7fcc67b1", func := "loop.example/g01284/laws.FnExactMarkOf", spec := "fnExactMarkOf", inPlace := ["math.sqrt", "math.Float64frombits", "math.Float64bits", "math.archFloor", "math.archTrunc"], apart := false }
def FnExactMarkOfSaid : Prop := fnExactMarkOfRow.holds Try.pinned (OpenSpec.ofChange fnExactMarkOfSpec)

/-- ITS FALSE NEIGHBOUR: 'it returns false'. Refute it at one input. -/
def fnExactMarkOfWrong : ChangeSpec := { name := "fnExactMarkOf", fn := fun _ => fun
  | [d1, d2, d3] => { results := [.lit (.bool false)], args := [d1, d2, d3] }
  | _ => none }
def FnExactMarkOfWrongFalsely : Prop := fnExactMarkOfRow.holds Try.pinned (OpenSpec.ofChange fnExactMarkOfWrong)

/-- 'laws.FnExactWrapTurn': WHATEVER THE INPUT: true; the input reads as it did. -/
def fnExactWrapTurnSpec : ChangeSpec := { name := "fnExactWrapTurn", fn := fun _ => fun
  | [d] => { results := [.lit (.bool true)], args := [d] }
  | _ => none }
def fnExactWrapTurnRow : OpenClaim := { program := "ytngjpbfiijkibaa", sum := "9e6d2eb319dfc754bff1b42b246ec0693e4ff0b8003d6c56074e29af7fcc67b1", func := "loop.example/g01284/laws.FnExactWrapTurn", spec := "fnExactWrapTurn", inPlace := ["math.archFloor", "math.Float64bits", "math.Float64frombits", "math.archTrunc"], apart := false }
def FnExactWrapTurnSaid : Prop := fnExactWrapTurnRow.holds Try.pinned (OpenSpec.ofChange fnExactWrapTurnSpec)

/-- ITS FALSE NEIGHBOUR: 'it returns false'. Refute it at one input. -/
def fnExactWrapTurnWrong : ChangeSpec := { name := "fnExactWrapTurn", fn := fun _ => fun
  | [d] => { results := [.lit (.bool false)], args := [d] }
  | _ => none }
def FnExactWrapTurnWrongFalsely : Prop := fnExactWrapTurnRow.holds Try.pinned (OpenSpec.ofChange fnExactWrapTurnWrong)

/-- 'laws.FnExactRiseAt': WHATEVER THE INPUT: true; the input reads as it did. -/
def fnExactRiseAtSpec : ChangeSpec := { name := "fnExactRiseAt", fn := fun _ => fun
  | [d1, d2, d3, d4] => { results := [.lit (.bool true)], args := [d1, d2, d3, d4] }
  | _ => none }
def fnExactRiseAtRow : OpenClaim := { program := "ytngjpbfiijkibaa", sum := "9e6d2eb319dfc754bff1b42b246ec0693e4ff0b8003d6c56074e29af7fcc67b1", func := "loop.example/g01284/laws.FnExactRiseAt", spec := "fnExactRiseAt", inPlace := ["math.Float64frombits", "math.sqrt", "math.Float64bits", "math.archTrunc"], apart := false }
def FnExactRiseAtSaid : Prop := fnExactRiseAtRow.holds Try.pinned (OpenSpec.ofChange fnExactRiseAtSpec)

/-- ITS FALSE NEIGHBOUR: 'it returns false'. Refute it at one input. -/
def fnExactRiseAtWrong : ChangeSpec := { name := "fnExactRiseAt", fn := fun _ => fun
  | [d1, d2, d3, d4] => { results := [.lit (.bool false)], args := [d1, d2, d3, d4] }
  | _ => none }
def FnExactRiseAtWrongFalsely : Prop := fnExactRiseAtRow.holds Try.pinned (OpenSpec.ofChange fnExactRiseAtWrong)

/-- 'laws.FnExactPlaceOf': WHATEVER THE INPUT: true; the input reads as it did. -/
def fnExactPlaceOfSpec : ChangeSpec := { name := "fnExactPlaceOf", fn := fun _ => fun
  | [d1, d2, d3] => { results := [.lit (.bool true)], args := [d1, d2, d3] }
  | _ => none }
def fnExactPlaceOfRow : OpenClaim := { program := "ytngjpbfiijkibaa", sum := "9e6d2eb319dfc754bff1b42b246ec0693e4ff0b8003d6c56074e29af7fcc67b1", func := "loop.example/g01284/laws.FnExactPlaceOf", spec := "fnExactPlaceOf", inPlace := ["math.Float64frombits", "math.Float64bits", "math.archTrunc"], apart := false }
def FnExactPlaceOfSaid : Prop := fnExactPlaceOfRow.holds Try.pinned (OpenSpec.ofChange fnExactPlaceOfSpec)

/-- ITS FALSE NEIGHBOUR: 'it returns false'. Refute it at one input. -/
def fnExactPlaceOfWrong : ChangeSpec := { name := "fnExactPlaceOf", fn := fun _ => fun
  | [d1, d2, d3] => { results := [.lit (.bool false)], args := [d1, d2, d3] }
  | _ => none }
def FnExactPlaceOfWrongFalsely : Prop := fnExactPlaceOfRow.holds Try.pinned (OpenSpec.ofChange fnExactPlaceOfWrong)

/- THE SECOND FORM. 'bulk': how many values and letters a reading holds, each counted each time it is reached (what is shared counts as often as it is met; a slice's spare places count too). A statement '..UptoSaid' is the law's where the arguments, and the package variables that the reading takes, are together of bulk at most 1048576: NARROWER than '..Said'. Prove '..Said' where nothing that the law and all that it calls make is longer than what came in: it says more and counts as full. Else prove '..UptoSaid'. A law counts once. -/
mutual
def uptoBulk {H : Type} : DataW H → Nat
  | .lit (.string bytes) => bytes.length + 1
  | .lit _ => 1
  | .nil => 1
  | .ptr d => uptoBulk d + 1
  | .slice elems spare => uptoBulkAll elems + uptoBulkAll spare + 1
  | .agg parts => uptoBulkAll parts + 1
  | .iface _ d => uptoBulk d + 1
  | .map entries => uptoBulkEntries entries + 1
  | .held _ => 1
def uptoBulkAll {H : Type} : List (DataW H) → Nat
  | [] => 0
  | d :: r => uptoBulk d + uptoBulkAll r
def uptoBulkEntries {H : Type} : List (Lit × DataW H) → Nat
  | [] => 0
  | x :: r => uptoBulkEntry x + uptoBulkEntries r
def uptoBulkEntry {H : Type} : Lit × DataW H → Nat
  | (.string bytes, d) => bytes.length + uptoBulk d + 1
  | (_, d) => uptoBulk d + 1
 end
def uptoSmall : (H : Type) → List (DataW H) → Bool := fun _ ds => decide (uptoBulkAll ds ≤ 1048576)
def OpenSpec.upto (s : _root_.Go.ChangeSpec) : _root_.Go.OpenSpec := { _root_.Go.OpenSpec.ofChange s with cond := some uptoSmall }

/-- 'laws.FnExactMarkOf', WHERE WHAT IT READS IS OF BULK AT MOST 1048576: true; the input reads as it did. -/
def fnExactMarkOfUptoRow : OpenClaim := { program := "ytngjpbfiijkibaa", sum := "9e6d2eb319dfc754bff1b42b246ec0693e4ff0b8003d6c56074e29af7fcc67b1", func := "loop.example/g01284/laws.FnExactMarkOf", spec := "fnExactMarkOf", inPlace := ["math.sqrt", "math.Float64frombits", "math.Float64bits", "math.archFloor", "math.archTrunc"], apart := false, narrowed := true }
def FnExactMarkOfUptoSaid : Prop := fnExactMarkOfUptoRow.holds Try.pinned (OpenSpec.upto fnExactMarkOfSpec)

/-- 'laws.FnExactWrapTurn', WHERE WHAT IT READS IS OF BULK AT MOST 1048576: true; the input reads as it did. -/
def fnExactWrapTurnUptoRow : OpenClaim := { program := "ytngjpbfiijkibaa", sum := "9e6d2eb319dfc754bff1b42b246ec0693e4ff0b8003d6c56074e29af7fcc67b1", func := "loop.example/g01284/laws.FnExactWrapTurn", spec := "fnExactWrapTurn", inPlace := ["math.archFloor", "math.Float64bits", "math.Float64frombits", "math.archTrunc"], apart := false, narrowed := true }
def FnExactWrapTurnUptoSaid : Prop := fnExactWrapTurnUptoRow.holds Try.pinned (OpenSpec.upto fnExactWrapTurnSpec)

/-- 'laws.FnExactRiseAt', WHERE WHAT IT READS IS OF BULK AT MOST 1048576: true; the input reads as it did. -/
def fnExactRiseAtUptoRow : OpenClaim := { program := "ytngjpbfiijkibaa", sum := "9e6d2eb319dfc754bff1b42b246ec0693e4ff0b8003d6c56074e29af7fcc67b1", func := "loop.example/g01284/laws.FnExactRiseAt", spec := "fnExactRiseAt", inPlace := ["math.Float64frombits", "math.sqrt", "math.Float64bits", "math.archTrunc"], apart := false, narrowed := true }
def FnExactRiseAtUptoSaid : Prop := fnExactRiseAtUptoRow.holds Try.pinned (OpenSpec.upto fnExactRiseAtSpec)

/-- 'laws.FnExactPlaceOf', WHERE WHAT IT READS IS OF BULK AT MOST 1048576: true; the input reads as it did. -/
def fnExactPlaceOfUptoRow : OpenClaim := { program := "ytngjpbfiijkibaa", sum := "9e6d2eb319dfc754bff1b42b246ec0693e4ff0b8003d6c56074e29af7fcc67b1", func := "loop.example/g01284/laws.FnExactPlaceOf", spec := "fnExactPlaceOf", inPlace := ["math.Float64frombits", "math.Float64bits", "math.archTrunc"], apart := false, narrowed := true }
def FnExactPlaceOfUptoSaid : Prop := fnExactPlaceOfUptoRow.holds Try.pinned (OpenSpec.upto fnExactPlaceOfSpec)

end Rows
end Go.Proofs.Ytngjpbfiijkibaa
