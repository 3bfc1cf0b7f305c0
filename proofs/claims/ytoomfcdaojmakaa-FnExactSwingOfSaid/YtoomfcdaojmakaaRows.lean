/-
  No cell of these rows narrows 'for every input' (looked for: loops, veiled, ifaces, maps, wideKeys, modest, calm, conditions, laid).
  DERIVED. THE GIVEN ROWS OF THIS SEAT. 4 by the template 'for every input the law returns true; each argument reads behind the call as it read before'; 0 by the template 'total and deterministic' (their statements: YtoomfcdaojmakaaTotals.lean).
  GIVEN WITH THE SEED: the statements are not yours to turn. If you find one false, say at which input.
  Laid BY PROGRAM, IN A SANDBOX (cutbox-rows.mjs): the forced cells as the released guide's own fill.sh prints them over the translation d5a1bc8a661bffc5… (all of the seat's roots in one cut). By AI agents, Wed Nov 11 2026. No macro, syntax, notation, axiom, sorry.
-/
import Derived.Test.YtoomfcdaojmakaaChecked
import GoSem.Claim
import GoSem.ClaimJoined
import GoSem.ClaimMapViews
import Derived.JoinedTies
import Derived.KernelRfl
namespace Go.Proofs.Ytoomfcdaojmakaa
/- THE CELL 'sum', in the pinned program and in every row, IS THE sha256 OF THE DUMP (.gsa) THAT YtoomfcdaojmakaaProg.lean LOADS. Nothing in Lean hashes anything: it is a label: what it is worth is what the hold of that sum in a sandbox is worth. -/
noncomputable def Try.pinned : Pinned := { name := "ytoomfcdaojmakaa", sum := "d5a1bc8a661bffc5136d40a8d6544a80e792a51f3b99e0234ec860c215eb9afc", checked := Try.checked }
namespace Rows
def none {H : Type} : Left H := { results := [], args := [] }

/-- 'laws.FnExactValidStage': WHATEVER THE INPUT: true; the input reads as it did. -/
def fnExactValidStageSpec : ChangeSpec := { name := "fnExactValidStage", fn := fun _ => fun
  | [d] => { results := [.lit (.bool true)], args := [d] }
  | _ => none }
def fnExactValidStageRow : OpenClaim := { program := "ytoomfcdaojmakaa", sum := "d5a1bc8a661bffc5136d40a8d6544a80e792a51f3b99e0234ec860c215eb9afc", func := "loop.example/g01284/laws.FnExactValidStage", spec := "fnExactValidStage", inPlace := ["math.Float64bits", "math.Float64frombits"], apart := false }
def FnExactValidStageSaid : Prop := fnExactValidStageRow.holds Try.pinned (OpenSpec.ofChange fnExactValidStageSpec)

/-- ITS FALSE NEIGHBOUR: 'it returns false'. Refute it at one input. -/
def fnExactValidStageWrong : ChangeSpec := { name := "fnExactValidStage", fn := fun _ => fun
  | [d] => { results := [.lit (.bool false)], args := [d] }
  | _ => none }
def FnExactValidStageWrongFalsely : Prop := fnExactValidStageRow.holds Try.pinned (OpenSpec.ofChange fnExactValidStageWrong)

/-- 'laws.FnExactFlybyTurn': WHATEVER THE INPUT: true; the input reads as it did. -/
def fnExactFlybyTurnSpec : ChangeSpec := { name := "fnExactFlybyTurn", fn := fun _ => fun
  | [d1, d2, d3] => { results := [.lit (.bool true)], args := [d1, d2, d3] }
  | _ => none }
def fnExactFlybyTurnRow : OpenClaim := { program := "ytoomfcdaojmakaa", sum := "d5a1bc8a661bffc5136d40a8d6544a80e792a51f3b99e0234ec860c215eb9afc", func := "loop.example/g01284/laws.FnExactFlybyTurn", spec := "fnExactFlybyTurn", inPlace := ["math.sqrt", "math.Float64frombits", "math.Float64bits"], apart := false }
def FnExactFlybyTurnSaid : Prop := fnExactFlybyTurnRow.holds Try.pinned (OpenSpec.ofChange fnExactFlybyTurnSpec)

/-- ITS FALSE NEIGHBOUR: 'it returns false'. Refute it at one input. -/
def fnExactFlybyTurnWrong : ChangeSpec := { name := "fnExactFlybyTurn", fn := fun _ => fun
  | [d1, d2, d3] => { results := [.lit (.bool false)], args := [d1, d2, d3] }
  | _ => none }
def FnExactFlybyTurnWrongFalsely : Prop := fnExactFlybyTurnRow.holds Try.pinned (OpenSpec.ofChange fnExactFlybyTurnWrong)

/-- 'laws.FnExactLeadOf': WHATEVER THE INPUT: true; the input reads as it did. -/
def fnExactLeadOfSpec : ChangeSpec := { name := "fnExactLeadOf", fn := fun _ => fun
  | [d1, d2, d3] => { results := [.lit (.bool true)], args := [d1, d2, d3] }
  | _ => none }
def fnExactLeadOfRow : OpenClaim := { program := "ytoomfcdaojmakaa", sum := "d5a1bc8a661bffc5136d40a8d6544a80e792a51f3b99e0234ec860c215eb9afc", func := "loop.example/g01284/laws.FnExactLeadOf", spec := "fnExactLeadOf", inPlace := ["math.sqrt", "math.archFloor", "math.Float64bits", "math.Float64frombits", "math.archTrunc"], apart := false }
def FnExactLeadOfSaid : Prop := fnExactLeadOfRow.holds Try.pinned (OpenSpec.ofChange fnExactLeadOfSpec)

/-- ITS FALSE NEIGHBOUR: 'it returns false'. Refute it at one input. -/
def fnExactLeadOfWrong : ChangeSpec := { name := "fnExactLeadOf", fn := fun _ => fun
  | [d1, d2, d3] => { results := [.lit (.bool false)], args := [d1, d2, d3] }
  | _ => none }
def FnExactLeadOfWrongFalsely : Prop := fnExactLeadOfRow.holds Try.pinned (OpenSpec.ofChange fnExactLeadOfWrong)

/-- 'laws.FnExactSwingOf': WHATEVER THE INPUT: true; the input reads as it did. -/
def fnExactSwingOfSpec : ChangeSpec := { name := "fnExactSwingOf", fn := fun _ => fun
  | [d1, d2] => { results := [.lit (.bool true)], args := [d1, d2] }
  | _ => none }
def fnExactSwingOfRow : OpenClaim := { program := "ytoomfcdaojmakaa", sum := "d5a1bc8a661bffc5136d40a8d6544a80e792a51f3b99e0234ec860c215eb9afc", func := "loop.example/g01284/laws.FnExactSwingOf", spec := "fnExactSwingOf", inPlace := ["math.archFloor", "math.Float64bits", "math.Float64frombits", "math.archTrunc"], unfollowed := true, recurses := true, apart := false }
def FnExactSwingOfSaid : Prop := fnExactSwingOfRow.holds Try.pinned (OpenSpec.ofChange fnExactSwingOfSpec)

/-- ITS FALSE NEIGHBOUR: 'it returns false'. Refute it at one input. -/
def fnExactSwingOfWrong : ChangeSpec := { name := "fnExactSwingOf", fn := fun _ => fun
  | [d1, d2] => { results := [.lit (.bool false)], args := [d1, d2] }
  | _ => none }
def FnExactSwingOfWrongFalsely : Prop := fnExactSwingOfRow.holds Try.pinned (OpenSpec.ofChange fnExactSwingOfWrong)

/- THE SECOND FORM. 'bulk': how many values and letters a reading holds, each counted each time it is reached (what is shared counts as often as it is met; a slice's spare places count too). A statement '..UptoSaid' is the law's where the arguments, and the package variables that the reading takes, are together of bulk at most 1048576: NARROWER than '..Said'. Prove '..Said' where nothing that the law and all that it calls make is longer than what came in: it says more and counts as full. Else prove '..UptoSaid'. A law counts once. -/
mutual
def uptoBulk {H : Type} : DataW H → Nat
  | .lit (.string bytes) => bytes.length + 1
  | .lit _ => 1
  | .nil => 1
  | .ptr d => uptoBulk d + 1
  | .slice elems spare => uptoBulkAll elems + uptoBulkAll spare + 1
  | .agg parts => uptoBulkAll parts + 1
  | .iface _ d => uptoBulk d + 1
  | .map entries => uptoBulkEntries entries + 1
  | .held _ => 1
def uptoBulkAll {H : Type} : List (DataW H) → Nat
  | [] => 0
  | d :: r => uptoBulk d + uptoBulkAll r
def uptoBulkEntries {H : Type} : List (Lit × DataW H) → Nat
  | [] => 0
  | x :: r => uptoBulkEntry x + uptoBulkEntries r
def uptoBulkEntry {H : Type} : Lit × DataW H → Nat
  | (.string bytes, d) => bytes.length + uptoBulk d + 1
  | (_, d) => uptoBulk d + 1
 end
def uptoSmall : (H : Type) → List (DataW H) → Bool := fun _ ds => decide (uptoBulkAll ds ≤ 1048576)
def OpenSpec.upto (s : _root_.Go.ChangeSpec) : _root_.Go.OpenSpec := { _root_.Go.OpenSpec.ofChange s with cond := some uptoSmall }

/-- 'laws.FnExactValidStage', WHERE WHAT IT READS IS OF BULK AT MOST 1048576: true; the input reads as it did. -/
def fnExactValidStageUptoRow : OpenClaim := { program := "ytoomfcdaojmakaa", sum := "d5a1bc8a661bffc5136d40a8d6544a80e792a51f3b99e0234ec860c215eb9afc", func := "loop.example/g01284/laws.FnExactValidStage", spec := "fnExactValidStage", inPlace := ["math.Float64bits", "math.Float64frombits"], apart := false, narrowed := true }
def FnExactValidStageUptoSaid : Prop := fnExactValidStageUptoRow.holds Try.pinned (OpenSpec.upto fnExactValidStageSpec)

/-- 'laws.FnExactFlybyTurn', WHERE WHAT IT READS IS OF BULK AT MOST 1048576: true; the input reads as it did. -/
def fnExactFlybyTurnUptoRow : OpenClaim := { program := "ytoomfcdaojmakaa", sum := "d5a1bc8a661bffc5136d40a8d6544a80e792a51f3b99e0234ec860c215eb9afc", func := "loop.example/g01284/laws.FnExactFlybyTurn", spec := "fnExactFlybyTurn", inPlace := ["math.sqrt", "math.Float64frombits", "math.Float64bits"], apart := false, narrowed := true }
def FnExactFlybyTurnUptoSaid : Prop := fnExactFlybyTurnUptoRow.holds Try.pinned (OpenSpec.upto fnExactFlybyTurnSpec)

/-- 'laws.FnExactLeadOf', WHERE WHAT IT READS IS OF BULK AT MOST 1048576: true; the input reads as it did. -/
def fnExactLeadOfUptoRow : OpenClaim := { program := "ytoomfcdaojmakaa", sum := "d5a1bc8a661bffc5136d40a8d6544a80e792a51f3b99e0234ec860c215eb9afc", func := "loop.example/g01284/laws.FnExactLeadOf", spec := "fnExactLeadOf", inPlace := ["math.sqrt", "math.archFloor", "math.Float64bits", "math.Float64frombits", "math.archTrunc"], apart := false, narrowed := true }
def FnExactLeadOfUptoSaid : Prop := fnExactLeadOfUptoRow.holds Try.pinned (OpenSpec.upto fnExactLeadOfSpec)

/-- 'laws.FnExactSwingOf', WHERE WHAT IT READS IS OF BULK AT MOST 1048576: true; the input reads as it did. -/
def fnExactSwingOfUptoRow : OpenClaim := { program := "ytoomfcdaojmakaa", sum := "d5a1bc8a661bffc5136d40a8d6544a80e792a51f3b99e0234ec860c215eb9afc", func := "loop.example/g01284/laws.FnExactSwingOf", spec := "fnExactSwingOf", inPlace := ["math.archFloor", "math.Float64bits", "math.Float64frombits", "math.archTrunc"], unfollowed := true, recurses := true, apart := false, narrowed := true }
def FnExactSwingOfUptoSaid : Prop := fnExactSwingOfUptoRow.holds Try.pinned (OpenSpec.upto fnExactSwingOfSpec)

end Rows
end Go.Proofs.Ytoomfcdaojmakaa
