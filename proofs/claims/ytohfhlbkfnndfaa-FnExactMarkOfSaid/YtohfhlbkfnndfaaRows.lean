/-
  No cell of these rows narrows 'for every input' (looked for: loops, veiled, ifaces, maps, wideKeys, modest, calm, conditions, laid).
  DERIVED. THE GIVEN ROWS OF THIS SEAT. 6 by the template 'for every input the law returns true; each argument reads behind the call as it read before'; 0 by the template 'total and deterministic' (their statements: YtohfhlbkfnndfaaTotals.lean).
  GIVEN WITH THE SEED: the statements are not yours to turn. If you find one false, say at which input.
  Laid BY PROGRAM, IN A SANDBOX (cutbox-rows.mjs): the forced cells as the released guide's own fill.sh prints them over the translation 9820346bd91ad4f7… (all of the seat's roots in one cut). By AI agents, Wed Nov 11 2026. No macro, syntax, notation, axiom, sorry.
-/
import Derived.Test.YtohfhlbkfnndfaaChecked
import GoSem.Claim
import GoSem.ClaimJoined
import GoSem.ClaimMapViews
import Derived.JoinedTies
import Derived.KernelRfl
namespace Go.Proofs.Ytohfhlbkfnndfaa
/- THE CELL 'sum', in the pinned program and in every row, IS THE sha256 OF THE DUMP (.gsa) THAT YtohfhlbkfnndfaaProg.lean LOADS. Nothing in Lean hashes anything: it is a label: what it is worth is what the hold of that sum in a sandbox is worth. -/
noncomputable def Try.pinned : Pinned := { name := "ytohfhlbkfnndfaa", sum := "9820346bd91ad4f739c9a6b000d140fe3a561df2c71be4fadb80697e02605f9a", checked := Try.checked }
namespace Rows
def none {H : Type} : Left H := { results := [], args := [] }

/-- 'laws.FnExactInShadow': WHATEVER THE INPUT: true; the input reads as it did. -/
def fnExactInShadowSpec : ChangeSpec := { name := "fnExactInShadow", fn := fun _ => fun
  | [d1, d2, d3] => { results := [.lit (.bool true)], args := [d1, d2, d3] }
  | _ => none }
def fnExactInShadowRow : OpenClaim := { program := "ytohfhlbkfnndfaa", sum := "9820346bd91ad4f739c9a6b000d140fe3a561df2c71be4fadb80697e02605f9a", func := "loop.example/g01284/laws.FnExactInShadow", spec := "fnExactInShadow", inPlace := ["math.sqrt", "math.Float64bits", "math.Float64frombits"], apart := false }
def FnExactInShadowSaid : Prop := fnExactInShadowRow.holds Try.pinned (OpenSpec.ofChange fnExactInShadowSpec)

/-- ITS FALSE NEIGHBOUR: 'it returns false'. Refute it at one input. -/
def fnExactInShadowWrong : ChangeSpec := { name := "fnExactInShadow", fn := fun _ => fun
  | [d1, d2, d3] => { results := [.lit (.bool false)], args := [d1, d2, d3] }
  | _ => none }
def FnExactInShadowWrongFalsely : Prop := fnExactInShadowRow.holds Try.pinned (OpenSpec.ofChange fnExactInShadowWrong)

/-- 'laws.FnExactRiseAt': WHATEVER THE INPUT: true; the input reads as it did. -/
def fnExactRiseAtSpec : ChangeSpec := { name := "fnExactRiseAt", fn := fun _ => fun
  | [d1, d2, d3, d4] => { results := [.lit (.bool true)], args := [d1, d2, d3, d4] }
  | _ => none }
def fnExactRiseAtRow : OpenClaim := { program := "ytohfhlbkfnndfaa", sum := "9820346bd91ad4f739c9a6b000d140fe3a561df2c71be4fadb80697e02605f9a", func := "loop.example/g01284/laws.FnExactRiseAt", spec := "fnExactRiseAt", inPlace := ["math.Float64frombits", "math.sqrt", "math.Float64bits", "math.archTrunc"], apart := false }
def FnExactRiseAtSaid : Prop := fnExactRiseAtRow.holds Try.pinned (OpenSpec.ofChange fnExactRiseAtSpec)

/-- ITS FALSE NEIGHBOUR: 'it returns false'. Refute it at one input. -/
def fnExactRiseAtWrong : ChangeSpec := { name := "fnExactRiseAt", fn := fun _ => fun
  | [d1, d2, d3, d4] => { results := [.lit (.bool false)], args := [d1, d2, d3, d4] }
  | _ => none }
def FnExactRiseAtWrongFalsely : Prop := fnExactRiseAtRow.holds Try.pinned (OpenSpec.ofChange fnExactRiseAtWrong)

/-- 'laws.FnExactMarkOf': WHATEVER THE INPUT: true; the input reads as it did. -/
def fnExactMarkOfSpec : ChangeSpec := { name := "fnExactMarkOf", fn := fun _ => fun
  | [d1, d2, d3] => { results := [.lit (.bool true)], args := [d1, d2, d3] }
  | _ => none }
def fnExactMarkOfRow : OpenClaim := { program := "ytohfhlbkfnndfaa", sum := "9820346bd91ad4f739c9a6b000d140fe3a561df2c71be4fadb80697e02605f9a", func := "loop.example/g01284/laws.FnExactMarkOf", spec := "fnExactMarkOf", inPlace := ["math.sqrt", "math.Float64frombits", "math.Float64bits", "math.archFloor", "math.archTrunc"], apart := false }
def FnExactMarkOfSaid : Prop := fnExactMarkOfRow.holds Try.pinned (OpenSpec.ofChange fnExactMarkOfSpec)

/-- ITS FALSE NEIGHBOUR: 'it returns false'. Refute it at one input. -/
def fnExactMarkOfWrong : ChangeSpec := { name := "fnExactMarkOf", fn := fun _ => fun
  | [d1, d2, d3] => { results := [.lit (.bool false)], args := [d1, d2, d3] }
  | _ => none }
def FnExactMarkOfWrongFalsely : Prop := fnExactMarkOfRow.holds Try.pinned (OpenSpec.ofChange fnExactMarkOfWrong)

/-- 'laws.FnExactWrapTurn': WHATEVER THE INPUT: true; the input reads as it did. -/
def fnExactWrapTurnSpec : ChangeSpec := { name := "fnExactWrapTurn", fn := fun _ => fun
  | [d] => { results := [.lit (.bool true)], args := [d] }
  | _ => none }
def fnExactWrapTurnRow : OpenClaim := { program := "ytohfhlbkfnndfaa", sum := "9820346bd91ad4f739c9a6b000d140fe3a561df2c71be4fadb80697e02605f9a", func := "loop.example/g01284/laws.FnExactWrapTurn", spec := "fnExactWrapTurn", inPlace := ["math.archFloor", "math.Float64bits", "math.Float64frombits", "math.archTrunc"], apart := false }
def FnExactWrapTurnSaid : Prop := fnExactWrapTurnRow.holds Try.pinned (OpenSpec.ofChange fnExactWrapTurnSpec)

/-- ITS FALSE NEIGHBOUR: 'it returns false'. Refute it at one input. -/
def fnExactWrapTurnWrong : ChangeSpec := { name := "fnExactWrapTurn", fn := fun _ => fun
  | [d] => { results := [.lit (.bool false)], args := [d] }
  | _ => none }
def FnExactWrapTurnWrongFalsely : Prop := fnExactWrapTurnRow.holds Try.pinned (OpenSpec.ofChange fnExactWrapTurnWrong)

/-- 'laws.FnExactSinkLong': WHATEVER THE INPUT: true; the input reads as it did. -/
def fnExactSinkLongSpec : ChangeSpec := { name := "fnExactSinkLong", fn := fun _ => fun
  | [d1, d2, d3, d4, d5, d6] => { results := [.lit (.bool true)], args := [d1, d2, d3, d4, d5, d6] }
  | _ => none }
def fnExactSinkLongRow : OpenClaim := { program := "ytohfhlbkfnndfaa", sum := "9820346bd91ad4f739c9a6b000d140fe3a561df2c71be4fadb80697e02605f9a", func := "loop.example/g01284/laws.FnExactSinkLong", spec := "fnExactSinkLong", inPlace := ["math.Float64frombits", "math.sqrt", "math.Float64bits"], apart := false }
def FnExactSinkLongSaid : Prop := fnExactSinkLongRow.holds Try.pinned (OpenSpec.ofChange fnExactSinkLongSpec)

/-- ITS FALSE NEIGHBOUR: 'it returns false'. Refute it at one input. -/
def fnExactSinkLongWrong : ChangeSpec := { name := "fnExactSinkLong", fn := fun _ => fun
  | [d1, d2, d3, d4, d5, d6] => { results := [.lit (.bool false)], args := [d1, d2, d3, d4, d5, d6] }
  | _ => none }
def FnExactSinkLongWrongFalsely : Prop := fnExactSinkLongRow.holds Try.pinned (OpenSpec.ofChange fnExactSinkLongWrong)

/-- 'laws.FnExactHorizonOf': WHATEVER THE INPUT: true; the input reads as it did. -/
def fnExactHorizonOfSpec : ChangeSpec := { name := "fnExactHorizonOf", fn := fun _ => fun
  | [d1, d2] => { results := [.lit (.bool true)], args := [d1, d2] }
  | _ => none }
def fnExactHorizonOfRow : OpenClaim := { program := "ytohfhlbkfnndfaa", sum := "9820346bd91ad4f739c9a6b000d140fe3a561df2c71be4fadb80697e02605f9a", func := "loop.example/g01284/laws.FnExactHorizonOf", spec := "fnExactHorizonOf", inPlace := ["math.sqrt", "math.Float64frombits", "math.Float64bits"], apart := false }
def FnExactHorizonOfSaid : Prop := fnExactHorizonOfRow.holds Try.pinned (OpenSpec.ofChange fnExactHorizonOfSpec)

/-- ITS FALSE NEIGHBOUR: 'it returns false'. Refute it at one input. -/
def fnExactHorizonOfWrong : ChangeSpec := { name := "fnExactHorizonOf", fn := fun _ => fun
  | [d1, d2] => { results := [.lit (.bool false)], args := [d1, d2] }
  | _ => none }
def FnExactHorizonOfWrongFalsely : Prop := fnExactHorizonOfRow.holds Try.pinned (OpenSpec.ofChange fnExactHorizonOfWrong)

/- THE SECOND FORM. 'bulk': how many values and letters a reading holds, each counted each time it is reached (what is shared counts as often as it is met; a slice's spare places count too). A statement '..UptoSaid' is the law's where the arguments, and the package variables that the reading takes, are together of bulk at most 1048576: NARROWER than '..Said'. Prove '..Said' where nothing that the law and all that it calls make is longer than what came in: it says more and counts as full. Else prove '..UptoSaid'. A law counts once. -/
mutual
def uptoBulk {H : Type} : DataW H → Nat
  | .lit (.string bytes) => bytes.length + 1
  | .lit _ => 1
  | .nil => 1
  | .ptr d => uptoBulk d + 1
  | .slice elems spare => uptoBulkAll elems + uptoBulkAll spare + 1
  | .agg parts => uptoBulkAll parts + 1
  | .iface _ d => uptoBulk d + 1
  | .map entries => uptoBulkEntries entries + 1
  | .held _ => 1
def uptoBulkAll {H : Type} : List (DataW H) → Nat
  | [] => 0
  | d :: r => uptoBulk d + uptoBulkAll r
def uptoBulkEntries {H : Type} : List (Lit × DataW H) → Nat
  | [] => 0
  | x :: r => uptoBulkEntry x + uptoBulkEntries r
def uptoBulkEntry {H : Type} : Lit × DataW H → Nat
  | (.string bytes, d) => bytes.length + uptoBulk d + 1
  | (_, d) => uptoBulk d + 1
 end
def uptoSmall : (H : Type) → List (DataW H) → Bool := fun _ ds => decide (uptoBulkAll ds ≤ 1048576)
def OpenSpec.upto (s : _root_.Go.ChangeSpec) : _root_.Go.OpenSpec := { _root_.Go.OpenSpec.ofChange s with cond := some uptoSmall }

/-- 'laws.FnExactInShadow', WHERE WHAT IT READS IS OF BULK AT MOST 1048576: true; the input reads as it did. -/
def fnExactInShadowUptoRow : OpenClaim := { program := "ytohfhlbkfnndfaa", sum := "9820346bd91ad4f739c9a6b000d140fe3a561df2c71be4fadb80697e02605f9a", func := "loop.example/g01284/laws.FnExactInShadow", spec := "fnExactInShadow", inPlace := ["math.sqrt", "math.Float64bits", "math.Float64frombits"], apart := false, narrowed := true }
def FnExactInShadowUptoSaid : Prop := fnExactInShadowUptoRow.holds Try.pinned (OpenSpec.upto fnExactInShadowSpec)

/-- 'laws.FnExactRiseAt', WHERE WHAT IT READS IS OF BULK AT MOST 1048576: true; the input reads as it did. -/
def fnExactRiseAtUptoRow : OpenClaim := { program := "ytohfhlbkfnndfaa", sum := "9820346bd91ad4f739c9a6b000d140fe3a561df2c71be4fadb80697e02605f9a", func := "loop.example/g01284/laws.FnExactRiseAt", spec := "fnExactRiseAt", inPlace := ["math.Float64frombits", "math.sqrt", "math.Float64bits", "math.archTrunc"], apart := false, narrowed := true }
def FnExactRiseAtUptoSaid : Prop := fnExactRiseAtUptoRow.holds Try.pinned (OpenSpec.upto fnExactRiseAtSpec)

/-- 'laws.FnExactMarkOf', WHERE WHAT IT READS IS OF BULK AT MOST 1048576: true; the input reads as it did. -/
def fnExactMarkOfUptoRow : OpenClaim := { program := "ytohfhlbkfnndfaa", sum := "9820346bd91ad4f739c9a6b000d140fe3a561df2c71be4fadb80697e02605f9a", func := "loop.example/g01284/laws.FnExactMarkOf", spec := "fnExactMarkOf", inPlace := ["math.sqrt", "math.Float64frombits", "math.Float64bits", "math.archFloor", "math.archTrunc"], apart := false, narrowed := true }
def FnExactMarkOfUptoSaid : Prop := fnExactMarkOfUptoRow.holds Try.pinned (OpenSpec.upto fnExactMarkOfSpec)

/-- 'laws.FnExactWrapTurn', WHERE WHAT IT READS IS OF BULK AT MOST 1048576: true; the input reads as it did. -/
def fnExactWrapTurnUptoRow : OpenClaim := { program := "ytohfhlbkfnndfaa", sum := "9820346bd91ad4f739c9a6b000d140fe3a561df2c71be4fadb80697e02605f9a", func := "loop.example/g01284/laws.FnExactWrapTurn", spec := "fnExactWrapTurn", inPlace := ["math.archFloor", "math.Float64bits", "math.Float64frombits", "math.archTrunc"], apart := false, narrowed := true }
def FnExactWrapTurnUptoSaid : Prop := fnExactWrapTurnUptoRow.holds Try.pinned (OpenSpec.upto fnExactWrapTurnSpec)

/-- 'laws.FnExactSinkLong', WHERE WHAT IT READS IS OF BULK AT MOST 1048576: true; the input reads as it did. -/
def fnExactSinkLongUptoRow : OpenClaim := { program := "ytohfhlbkfnndfaa", sum := "9820346bd91ad4f739c9a6b000d140fe3a561df2c71be4fadb80697e02605f9a", func := "loop.example/g01284/laws.FnExactSinkLong", spec := "fnExactSinkLong", inPlace := ["math.Float64frombits", "math.sqrt", "math.Float64bits"], apart := false, narrowed := true }
def FnExactSinkLongUptoSaid : Prop := fnExactSinkLongUptoRow.holds Try.pinned (OpenSpec.upto fnExactSinkLongSpec)

/-- 'laws.FnExactHorizonOf', WHERE WHAT IT READS IS OF BULK AT MOST 1048576: true; the input reads as it did. -/
def fnExactHorizonOfUptoRow : OpenClaim := { program := "ytohfhlbkfnndfaa", sum := "9820346bd91ad4f739c9a6b000d140fe3a561df2c71be4fadb80697e02605f9a", func := "loop.example/g01284/laws.FnExactHorizonOf", spec := "fnExactHorizonOf", inPlace := ["math.sqrt", "math.Float64frombits", "math.Float64bits"], apart := false, narrowed := true }
def FnExactHorizonOfUptoSaid : Prop := fnExactHorizonOfUptoRow.holds Try.pinned (OpenSpec.upto fnExactHorizonOfSpec)

end Rows
end Go.Proofs.Ytohfhlbkfnndfaa
