/-
  No cell of these rows narrows 'for every input' (looked for: loops, veiled, ifaces, maps, wideKeys, modest, calm, conditions, laid).
  DERIVED. THE GIVEN ROWS OF THIS SEAT. 9 by the template 'for every input the law returns true; each argument reads behind the call as it read before'; 0 by the template 'total and deterministic' (their statements: YthlijhnplalflaaTotals.lean).
  GIVEN WITH THE SEED: the statements are not yours to turn. If you find one false, say at which input.
  Laid BY PROGRAM, IN A SANDBOX (cutbox-rows.mjs): the forced cells as the released guide's own fill.sh prints them over the translation 6648b73dcaf759c0… (all of the seat's roots in one cut). By AI agents, Wed Nov 11 2026. No macro, syntax, notation, axiom, sorry.
-/
import Derived.Test.YthlijhnplalflaaChecked
import GoSem.Claim
import GoSem.ClaimJoined
import GoSem.ClaimMapViews
import Derived.JoinedTies
import Derived.KernelRfl
namespace Go.Proofs.Ythlijhnplalflaa
/- THE CELL 'sum', in the pinned program and in every row, IS THE sha256 OF THE DUMP (.gsa) THAT YthlijhnplalflaaProg.lean LOADS. Nothing in Lean hashes anything: it is a label: what it is worth is what the hold of that sum in a sandbox is worth. -/
noncomputable def Try.pinned : Pinned := { name := "ythlijhnplalflaa", sum := "6648b73dcaf759c0f3d606d2a8e6e64a35e190c688c097006cd3b342d7216d38", checked := Try.checked }
namespace Rows
def none {H : Type} : Left H := { results := [], args := [] }

/-- 'laws.FnExactValidBall': WHATEVER THE INPUT: true; the input reads as it did. -/
def fnExactValidBallSpec : ChangeSpec := { name := "fnExactValidBall", fn := fun _ => fun
  | [d] => { results := [.lit (.bool true)], args := [d] }
  | _ => none }
def fnExactValidBallRow : OpenClaim := { program := "ythlijhnplalflaa", sum := "6648b73dcaf759c0f3d606d2a8e6e64a35e190c688c097006cd3b342d7216d38", func := "loop.example/g01284/laws.FnExactValidBall", spec := "fnExactValidBall", inPlace := ["math.Float64bits", "math.Float64frombits"], apart := false }
def FnExactValidBallSaid : Prop := fnExactValidBallRow.holds Try.pinned (OpenSpec.ofChange fnExactValidBallSpec)

/-- ITS FALSE NEIGHBOUR: 'it returns false'. Refute it at one input. -/
def fnExactValidBallWrong : ChangeSpec := { name := "fnExactValidBall", fn := fun _ => fun
  | [d] => { results := [.lit (.bool false)], args := [d] }
  | _ => none }
def FnExactValidBallWrongFalsely : Prop := fnExactValidBallRow.holds Try.pinned (OpenSpec.ofChange fnExactValidBallWrong)

/-- 'laws.FnExactSameBall': WHATEVER THE INPUT: true; the input reads as it did. -/
def fnExactSameBallSpec : ChangeSpec := { name := "fnExactSameBall", fn := fun _ => fun
  | [d1, d2] => { results := [.lit (.bool true)], args := [d1, d2] }
  | _ => none }
def fnExactSameBallRow : OpenClaim := { program := "ythlijhnplalflaa", sum := "6648b73dcaf759c0f3d606d2a8e6e64a35e190c688c097006cd3b342d7216d38", func := "loop.example/g01284/laws.FnExactSameBall", spec := "fnExactSameBall", inPlace := ["math.Float32bits"], apart := false }
def FnExactSameBallSaid : Prop := fnExactSameBallRow.holds Try.pinned (OpenSpec.ofChange fnExactSameBallSpec)

/-- ITS FALSE NEIGHBOUR: 'it returns false'. Refute it at one input. -/
def fnExactSameBallWrong : ChangeSpec := { name := "fnExactSameBall", fn := fun _ => fun
  | [d1, d2] => { results := [.lit (.bool false)], args := [d1, d2] }
  | _ => none }
def FnExactSameBallWrongFalsely : Prop := fnExactSameBallRow.holds Try.pinned (OpenSpec.ofChange fnExactSameBallWrong)

/-- 'laws.FnExactValidMark': WHATEVER THE INPUT: true; the input reads as it did. -/
def fnExactValidMarkSpec : ChangeSpec := { name := "fnExactValidMark", fn := fun _ => fun
  | [d] => { results := [.lit (.bool true)], args := [d] }
  | _ => none }
def fnExactValidMarkRow : OpenClaim := { program := "ythlijhnplalflaa", sum := "6648b73dcaf759c0f3d606d2a8e6e64a35e190c688c097006cd3b342d7216d38", func := "loop.example/g01284/laws.FnExactValidMark", spec := "fnExactValidMark", inPlace := ["math.Float64bits", "math.Float64frombits"], apart := false }
def FnExactValidMarkSaid : Prop := fnExactValidMarkRow.holds Try.pinned (OpenSpec.ofChange fnExactValidMarkSpec)

/-- ITS FALSE NEIGHBOUR: 'it returns false'. Refute it at one input. -/
def fnExactValidMarkWrong : ChangeSpec := { name := "fnExactValidMark", fn := fun _ => fun
  | [d] => { results := [.lit (.bool false)], args := [d] }
  | _ => none }
def FnExactValidMarkWrongFalsely : Prop := fnExactValidMarkRow.holds Try.pinned (OpenSpec.ofChange fnExactValidMarkWrong)

/-- 'laws.FnExactSameMark': WHATEVER THE INPUT: true; the input reads as it did. -/
def fnExactSameMarkSpec : ChangeSpec := { name := "fnExactSameMark", fn := fun _ => fun
  | [d1, d2] => { results := [.lit (.bool true)], args := [d1, d2] }
  | _ => none }
def fnExactSameMarkRow : OpenClaim := { program := "ythlijhnplalflaa", sum := "6648b73dcaf759c0f3d606d2a8e6e64a35e190c688c097006cd3b342d7216d38", func := "loop.example/g01284/laws.FnExactSameMark", spec := "fnExactSameMark", inPlace := ["math.Float32bits"], apart := false }
def FnExactSameMarkSaid : Prop := fnExactSameMarkRow.holds Try.pinned (OpenSpec.ofChange fnExactSameMarkSpec)

/-- ITS FALSE NEIGHBOUR: 'it returns false'. Refute it at one input. -/
def fnExactSameMarkWrong : ChangeSpec := { name := "fnExactSameMark", fn := fun _ => fun
  | [d1, d2] => { results := [.lit (.bool false)], args := [d1, d2] }
  | _ => none }
def FnExactSameMarkWrongFalsely : Prop := fnExactSameMarkRow.holds Try.pinned (OpenSpec.ofChange fnExactSameMarkWrong)

/-- 'laws.FnExactWrapTurn': WHATEVER THE INPUT: true; the input reads as it did. -/
def fnExactWrapTurnSpec : ChangeSpec := { name := "fnExactWrapTurn", fn := fun _ => fun
  | [d] => { results := [.lit (.bool true)], args := [d] }
  | _ => none }
def fnExactWrapTurnRow : OpenClaim := { program := "ythlijhnplalflaa", sum := "6648b73dcaf759c0f3d606d2a8e6e64a35e190c688c097006cd3b342d7216d38", func := "loop.example/g01284/laws.FnExactWrapTurn", spec := "fnExactWrapTurn", inPlace := ["math.archFloor", "math.Float64bits", "math.Float64frombits", "math.archTrunc"], apart := false }
def FnExactWrapTurnSaid : Prop := fnExactWrapTurnRow.holds Try.pinned (OpenSpec.ofChange fnExactWrapTurnSpec)

/-- ITS FALSE NEIGHBOUR: 'it returns false'. Refute it at one input. -/
def fnExactWrapTurnWrong : ChangeSpec := { name := "fnExactWrapTurn", fn := fun _ => fun
  | [d] => { results := [.lit (.bool false)], args := [d] }
  | _ => none }
def FnExactWrapTurnWrongFalsely : Prop := fnExactWrapTurnRow.holds Try.pinned (OpenSpec.ofChange fnExactWrapTurnWrong)

/-- 'laws.FnExactHorizonOf': WHATEVER THE INPUT: true; the input reads as it did. -/
def fnExactHorizonOfSpec : ChangeSpec := { name := "fnExactHorizonOf", fn := fun _ => fun
  | [d1, d2] => { results := [.lit (.bool true)], args := [d1, d2] }
  | _ => none }
def fnExactHorizonOfRow : OpenClaim := { program := "ythlijhnplalflaa", sum := "6648b73dcaf759c0f3d606d2a8e6e64a35e190c688c097006cd3b342d7216d38", func := "loop.example/g01284/laws.FnExactHorizonOf", spec := "fnExactHorizonOf", inPlace := ["math.sqrt", "math.Float64frombits", "math.Float64bits"], apart := false }
def FnExactHorizonOfSaid : Prop := fnExactHorizonOfRow.holds Try.pinned (OpenSpec.ofChange fnExactHorizonOfSpec)

/-- ITS FALSE NEIGHBOUR: 'it returns false'. Refute it at one input. -/
def fnExactHorizonOfWrong : ChangeSpec := { name := "fnExactHorizonOf", fn := fun _ => fun
  | [d1, d2] => { results := [.lit (.bool false)], args := [d1, d2] }
  | _ => none }
def FnExactHorizonOfWrongFalsely : Prop := fnExactHorizonOfRow.holds Try.pinned (OpenSpec.ofChange fnExactHorizonOfWrong)

/-- 'laws.FnExactRisesIn': WHATEVER THE INPUT: true; the input reads as it did. -/
def fnExactRisesInSpec : ChangeSpec := { name := "fnExactRisesIn", fn := fun _ => fun
  | [d] => { results := [.lit (.bool true)], args := [d] }
  | _ => none }
def fnExactRisesInRow : OpenClaim := { program := "ythlijhnplalflaa", sum := "6648b73dcaf759c0f3d606d2a8e6e64a35e190c688c097006cd3b342d7216d38", func := "loop.example/g01284/laws.FnExactRisesIn", spec := "fnExactRisesIn", apart := false }
def FnExactRisesInSaid : Prop := fnExactRisesInRow.holds Try.pinned (OpenSpec.ofChange fnExactRisesInSpec)

/-- ITS FALSE NEIGHBOUR: 'it returns false'. Refute it at one input. -/
def fnExactRisesInWrong : ChangeSpec := { name := "fnExactRisesIn", fn := fun _ => fun
  | [d] => { results := [.lit (.bool false)], args := [d] }
  | _ => none }
def FnExactRisesInWrongFalsely : Prop := fnExactRisesInRow.holds Try.pinned (OpenSpec.ofChange fnExactRisesInWrong)

/-- 'laws.FnExactSetsIn': WHATEVER THE INPUT: true; the input reads as it did. -/
def fnExactSetsInSpec : ChangeSpec := { name := "fnExactSetsIn", fn := fun _ => fun
  | [d] => { results := [.lit (.bool true)], args := [d] }
  | _ => none }
def fnExactSetsInRow : OpenClaim := { program := "ythlijhnplalflaa", sum := "6648b73dcaf759c0f3d606d2a8e6e64a35e190c688c097006cd3b342d7216d38", func := "loop.example/g01284/laws.FnExactSetsIn", spec := "fnExactSetsIn", apart := false }
def FnExactSetsInSaid : Prop := fnExactSetsInRow.holds Try.pinned (OpenSpec.ofChange fnExactSetsInSpec)

/-- ITS FALSE NEIGHBOUR: 'it returns false'. Refute it at one input. -/
def fnExactSetsInWrong : ChangeSpec := { name := "fnExactSetsIn", fn := fun _ => fun
  | [d] => { results := [.lit (.bool false)], args := [d] }
  | _ => none }
def FnExactSetsInWrongFalsely : Prop := fnExactSetsInRow.holds Try.pinned (OpenSpec.ofChange fnExactSetsInWrong)

/-- 'laws.FnExactLongestPass': WHATEVER THE INPUT: true; the input reads as it did. -/
def fnExactLongestPassSpec : ChangeSpec := { name := "fnExactLongestPass", fn := fun _ => fun
  | [d] => { results := [.lit (.bool true)], args := [d] }
  | _ => none }
def fnExactLongestPassRow : OpenClaim := { program := "ythlijhnplalflaa", sum := "6648b73dcaf759c0f3d606d2a8e6e64a35e190c688c097006cd3b342d7216d38", func := "loop.example/g01284/laws.FnExactLongestPass", spec := "fnExactLongestPass", apart := false }
def FnExactLongestPassSaid : Prop := fnExactLongestPassRow.holds Try.pinned (OpenSpec.ofChange fnExactLongestPassSpec)

/-- ITS FALSE NEIGHBOUR: 'it returns false'. Refute it at one input. -/
def fnExactLongestPassWrong : ChangeSpec := { name := "fnExactLongestPass", fn := fun _ => fun
  | [d] => { results := [.lit (.bool false)], args := [d] }
  | _ => none }
def FnExactLongestPassWrongFalsely : Prop := fnExactLongestPassRow.holds Try.pinned (OpenSpec.ofChange fnExactLongestPassWrong)

/- THE SECOND FORM. 'bulk': how many values and letters a reading holds, each counted each time it is reached (what is shared counts as often as it is met; a slice's spare places count too). A statement '..UptoSaid' is the law's where the arguments, and the package variables that the reading takes, are together of bulk at most 1048576: NARROWER than '..Said'. Prove '..Said' where nothing that the law and all that it calls make is longer than what came in: it says more and counts as full. Else prove '..UptoSaid'. A law counts once. -/
mutual
def uptoBulk {H : Type} : DataW H → Nat
  | .lit (.string bytes) => bytes.length + 1
  | .lit _ => 1
  | .nil => 1
  | .ptr d => uptoBulk d + 1
  | .slice elems spare => uptoBulkAll elems + uptoBulkAll spare + 1
  | .agg parts => uptoBulkAll parts + 1
  | .iface _ d => uptoBulk d + 1
  | .map entries => uptoBulkEntries entries + 1
  | .held _ => 1
def uptoBulkAll {H : Type} : List (DataW H) → Nat
  | [] => 0
  | d :: r => uptoBulk d + uptoBulkAll r
def uptoBulkEntries {H : Type} : List (Lit × DataW H) → Nat
  | [] => 0
  | x :: r => uptoBulkEntry x + uptoBulkEntries r
def uptoBulkEntry {H : Type} : Lit × DataW H → Nat
  | (.string bytes, d) => bytes.length + uptoBulk d + 1
  | (_, d) => uptoBulk d + 1
 end
def uptoSmall : (H : Type) → List (DataW H) → Bool := fun _ ds => decide (uptoBulkAll ds ≤ 1048576)
def OpenSpec.upto (s : _root_.Go.ChangeSpec) : _root_.Go.OpenSpec := { _root_.Go.OpenSpec.ofChange s with cond := some uptoSmall }

/-- 'laws.FnExactValidBall', WHERE WHAT IT READS IS OF BULK AT MOST 1048576: true; the input reads as it did. -/
def fnExactValidBallUptoRow : OpenClaim := { program := "ythlijhnplalflaa", sum := "6648b73dcaf759c0f3d606d2a8e6e64a35e190c688c097006cd3b342d7216d38", func := "loop.example/g01284/laws.FnExactValidBall", spec := "fnExactValidBall", inPlace := ["math.Float64bits", "math.Float64frombits"], apart := false, narrowed := true }
def FnExactValidBallUptoSaid : Prop := fnExactValidBallUptoRow.holds Try.pinned (OpenSpec.upto fnExactValidBallSpec)

/-- 'laws.FnExactSameBall', WHERE WHAT IT READS IS OF BULK AT MOST 1048576: true; the input reads as it did. -/
def fnExactSameBallUptoRow : OpenClaim := { program := "ythlijhnplalflaa", sum := "6648b73dcaf759c0f3d606d2a8e6e64a35e190c688c097006cd3b342d7216d38", func := "loop.example/g01284/laws.FnExactSameBall", spec := "fnExactSameBall", inPlace := ["math.Float32bits"], apart := false, narrowed := true }
def FnExactSameBallUptoSaid : Prop := fnExactSameBallUptoRow.holds Try.pinned (OpenSpec.upto fnExactSameBallSpec)

/-- 'laws.FnExactValidMark', WHERE WHAT IT READS IS OF BULK AT MOST 1048576: true; the input reads as it did. -/
def fnExactValidMarkUptoRow : OpenClaim := { program := "ythlijhnplalflaa", sum := "6648b73dcaf759c0f3d606d2a8e6e64a35e190c688c097006cd3b342d7216d38", func := "loop.example/g01284/laws.FnExactValidMark", spec := "fnExactValidMark", inPlace := ["math.Float64bits", "math.Float64frombits"], apart := false, narrowed := true }
def FnExactValidMarkUptoSaid : Prop := fnExactValidMarkUptoRow.holds Try.pinned (OpenSpec.upto fnExactValidMarkSpec)

/-- 'laws.FnExactSameMark', WHERE WHAT IT READS IS OF BULK AT MOST 1048576: true; the input reads as it did. -/
def fnExactSameMarkUptoRow : OpenClaim := { program := "ythlijhnplalflaa", sum := "6648b73dcaf759c0f3d606d2a8e6e64a35e190c688c097006cd3b342d7216d38", func := "loop.example/g01284/laws.FnExactSameMark", spec := "fnExactSameMark", inPlace := ["math.Float32bits"], apart := false, narrowed := true }
def FnExactSameMarkUptoSaid : Prop := fnExactSameMarkUptoRow.holds Try.pinned (OpenSpec.upto fnExactSameMarkSpec)

/-- 'laws.FnExactWrapTurn', WHERE WHAT IT READS IS OF BULK AT MOST 1048576: true; the input reads as it did. -/
def fnExactWrapTurnUptoRow : OpenClaim := { program := "ythlijhnplalflaa", sum := "6648b73dcaf759c0f3d606d2a8e6e64a35e190c688c097006cd3b342d7216d38", func := "loop.example/g01284/laws.FnExactWrapTurn", spec := "fnExactWrapTurn", inPlace := ["math.archFloor", "math.Float64bits", "math.Float64frombits", "math.archTrunc"], apart := false, narrowed := true }
def FnExactWrapTurnUptoSaid : Prop := fnExactWrapTurnUptoRow.holds Try.pinned (OpenSpec.upto fnExactWrapTurnSpec)

/-- 'laws.FnExactHorizonOf', WHERE WHAT IT READS IS OF BULK AT MOST 1048576: true; the input reads as it did. -/
def fnExactHorizonOfUptoRow : OpenClaim := { program := "ythlijhnplalflaa", sum := "6648b73dcaf759c0f3d606d2a8e6e64a35e190c688c097006cd3b342d7216d38", func := "loop.example/g01284/laws.FnExactHorizonOf", spec := "fnExactHorizonOf", inPlace := ["math.sqrt", "math.Float64frombits", "math.Float64bits"], apart := false, narrowed := true }
def FnExactHorizonOfUptoSaid : Prop := fnExactHorizonOfUptoRow.holds Try.pinned (OpenSpec.upto fnExactHorizonOfSpec)

/-- 'laws.FnExactRisesIn', WHERE WHAT IT READS IS OF BULK AT MOST 1048576: true; the input reads as it did. -/
def fnExactRisesInUptoRow : OpenClaim := { program := "ythlijhnplalflaa", sum := "6648b73dcaf759c0f3d606d2a8e6e64a35e190c688c097006cd3b342d7216d38", func := "loop.example/g01284/laws.FnExactRisesIn", spec := "fnExactRisesIn", apart := false, narrowed := true }
def FnExactRisesInUptoSaid : Prop := fnExactRisesInUptoRow.holds Try.pinned (OpenSpec.upto fnExactRisesInSpec)

/-- 'laws.FnExactSetsIn', WHERE WHAT IT READS IS OF BULK AT MOST 1048576: true; the input reads as it did. -/
def fnExactSetsInUptoRow : OpenClaim := { program := "ythlijhnplalflaa", sum := "6648b73dcaf759c0f3d606d2a8e6e64a35e190c688c097006cd3b342d7216d38", func := "loop.example/g01284/laws.FnExactSetsIn", spec := "fnExactSetsIn", apart := false, narrowed := true }
def FnExactSetsInUptoSaid : Prop := fnExactSetsInUptoRow.holds Try.pinned (OpenSpec.upto fnExactSetsInSpec)

/-- 'laws.FnExactLongestPass', WHERE WHAT IT READS IS OF BULK AT MOST 1048576: true; the input reads as it did. -/
def fnExactLongestPassUptoRow : OpenClaim := { program := "ythlijhnplalflaa", sum := "6648b73dcaf759c0f3d606d2a8e6e64a35e190c688c097006cd3b342d7216d38", func := "loop.example/g01284/laws.FnExactLongestPass", spec := "fnExactLongestPass", apart := false, narrowed := true }
def FnExactLongestPassUptoSaid : Prop := fnExactLongestPassUptoRow.holds Try.pinned (OpenSpec.upto fnExactLongestPassSpec)

end Rows
end Go.Proofs.Ythlijhnplalflaa
