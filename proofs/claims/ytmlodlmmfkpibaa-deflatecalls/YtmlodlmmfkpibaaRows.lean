/-
  No cell of these rows narrows 'for every input' (looked for: loops, veiled, ifaces, maps, wideKeys, modest, calm, conditions, laid).
  DERIVED. THE GIVEN ROWS OF THIS SEAT. 4 by the template 'for every input the law returns true; each argument reads behind the call as it read before'; 0 by the template 'total and deterministic' (their statements: YtmlodlmmfkpibaaTotals.lean).
  GIVEN WITH THE SEED: the statements are not yours to turn. If you find one false, say at which input.
  Laid BY PROGRAM, IN A SANDBOX (cutbox-rows.mjs): the forced cells as the released guide's own fill.sh prints them over the translation 7d94bdd4ff6d238a… (all of the seat's roots in one cut). By AI agents, Wed Nov 11 2026. No macro, syntax, notation, axiom, sorry.
-/
import Derived.Test.YtmlodlmmfkpibaaChecked
import GoSem.Claim
import GoSem.ClaimJoined
import GoSem.ClaimMapViews
import Derived.JoinedTies
import Derived.KernelRfl
namespace Go.Proofs.Ytmlodlmmfkpibaa
/- THE CELL 'sum', in the pinned program and in every row, IS THE sha256 OF THE DUMP (.gsa) THAT YtmlodlmmfkpibaaProg.lean LOADS. Nothing in Lean hashes anything: it is a label: what it is worth is what the hold of that sum in a sandbox is worth. -/
noncomputable def Try.pinned : Pinned := { name := "ytmlodlmmfkpibaa", sum := "7d94bdd4ff6d238a9011cdb0979dd124792346225cbafadb2e085fac6e88e4bb", checked := Try.checked }
namespace Rows
def none {H : Type} : Left H := { results := [], args := [] }

/-- 'sluicegatelaw05.DeflateNames': WHATEVER THE INPUT: true; the input reads as it did. -/
def deflateNamesSpec : ChangeSpec := { name := "deflateNames", fn := fun _ => fun
  | [] => { results := [.lit (.bool true)], args := [] }
  | _ => none }
def deflateNamesRow : OpenClaim := { program := "ytmlodlmmfkpibaa", sum := "7d94bdd4ff6d238a9011cdb0979dd124792346225cbafadb2e085fac6e88e4bb", func := "sluicegate/sluicegatelaw05.DeflateNames", spec := "deflateNames", plainKeys := false, apart := false }
def DeflateNamesSaid : Prop := deflateNamesRow.holds Try.pinned (OpenSpec.ofChange deflateNamesSpec)

/-- ITS FALSE NEIGHBOUR: 'it returns false'. Refute it at one input. -/
def deflateNamesWrong : ChangeSpec := { name := "deflateNames", fn := fun _ => fun
  | [] => { results := [.lit (.bool false)], args := [] }
  | _ => none }
def DeflateNamesWrongFalsely : Prop := deflateNamesRow.holds Try.pinned (OpenSpec.ofChange deflateNamesWrong)

/-- 'sluicegatelaw05.DeflateCalls': WHATEVER THE INPUT: true; the input reads as it did. -/
def deflateCallsSpec : ChangeSpec := { name := "deflateCalls", fn := fun _ => fun
  | [d] => { results := [.lit (.bool true)], args := [d] }
  | _ => none }
def deflateCallsRow : OpenClaim := { program := "ytmlodlmmfkpibaa", sum := "7d94bdd4ff6d238a9011cdb0979dd124792346225cbafadb2e085fac6e88e4bb", func := "sluicegate/sluicegatelaw05.DeflateCalls", spec := "deflateCalls", plainKeys := false, apart := false }
def DeflateCallsSaid : Prop := deflateCallsRow.holds Try.pinned (OpenSpec.ofChange deflateCallsSpec)

/-- ITS FALSE NEIGHBOUR: 'it returns false'. Refute it at one input. -/
def deflateCallsWrong : ChangeSpec := { name := "deflateCalls", fn := fun _ => fun
  | [d] => { results := [.lit (.bool false)], args := [d] }
  | _ => none }
def DeflateCallsWrongFalsely : Prop := deflateCallsRow.holds Try.pinned (OpenSpec.ofChange deflateCallsWrong)

/-- 'sluicegatelaw05.DeflatePieces': WHATEVER THE INPUT: true; the input reads as it did. -/
def deflatePiecesSpec : ChangeSpec := { name := "deflatePieces", fn := fun _ => fun
  | [d] => { results := [.lit (.bool true)], args := [d] }
  | _ => none }
def deflatePiecesRow : OpenClaim := { program := "ytmlodlmmfkpibaa", sum := "7d94bdd4ff6d238a9011cdb0979dd124792346225cbafadb2e085fac6e88e4bb", func := "sluicegate/sluicegatelaw05.DeflatePieces", spec := "deflatePieces", plainKeys := false, apart := false }
def DeflatePiecesSaid : Prop := deflatePiecesRow.holds Try.pinned (OpenSpec.ofChange deflatePiecesSpec)

/-- ITS FALSE NEIGHBOUR: 'it returns false'. Refute it at one input. -/
def deflatePiecesWrong : ChangeSpec := { name := "deflatePieces", fn := fun _ => fun
  | [d] => { results := [.lit (.bool false)], args := [d] }
  | _ => none }
def DeflatePiecesWrongFalsely : Prop := deflatePiecesRow.holds Try.pinned (OpenSpec.ofChange deflatePiecesWrong)

/-- 'sluicegatelaw05.DeflateGreedy': WHATEVER THE INPUT: true; the input reads as it did. -/
def deflateGreedySpec : ChangeSpec := { name := "deflateGreedy", fn := fun _ => fun
  | [d] => { results := [.lit (.bool true)], args := [d] }
  | _ => none }
def deflateGreedyRow : OpenClaim := { program := "ytmlodlmmfkpibaa", sum := "7d94bdd4ff6d238a9011cdb0979dd124792346225cbafadb2e085fac6e88e4bb", func := "sluicegate/sluicegatelaw05.DeflateGreedy", spec := "deflateGreedy", plainKeys := false, apart := false }
def DeflateGreedySaid : Prop := deflateGreedyRow.holds Try.pinned (OpenSpec.ofChange deflateGreedySpec)

/-- ITS FALSE NEIGHBOUR: 'it returns false'. Refute it at one input. -/
def deflateGreedyWrong : ChangeSpec := { name := "deflateGreedy", fn := fun _ => fun
  | [d] => { results := [.lit (.bool false)], args := [d] }
  | _ => none }
def DeflateGreedyWrongFalsely : Prop := deflateGreedyRow.holds Try.pinned (OpenSpec.ofChange deflateGreedyWrong)

/- THE SECOND FORM. 'bulk': how many values and letters a reading holds, each counted each time it is reached (what is shared counts as often as it is met; a slice's spare places count too). A statement '..UptoSaid' is the law's where the arguments, and the package variables that the reading takes, are together of bulk at most 1048576: NARROWER than '..Said'. Prove '..Said' where nothing that the law and all that it calls make is longer than what came in: it says more and counts as full. Else prove '..UptoSaid'. A law counts once. -/
mutual
def uptoBulk {H : Type} : DataW H → Nat
  | .lit (.string bytes) => bytes.length + 1
  | .lit _ => 1
  | .nil => 1
  | .ptr d => uptoBulk d + 1
  | .slice elems spare => uptoBulkAll elems + uptoBulkAll spare + 1
  | .agg parts => uptoBulkAll parts + 1
  | .iface _ d => uptoBulk d + 1
  | .map entries => uptoBulkEntries entries + 1
  | .held _ => 1
def uptoBulkAll {H : Type} : List (DataW H) → Nat
  | [] => 0
  | d :: r => uptoBulk d + uptoBulkAll r
def uptoBulkEntries {H : Type} : List (Lit × DataW H) → Nat
  | [] => 0
  | x :: r => uptoBulkEntry x + uptoBulkEntries r
def uptoBulkEntry {H : Type} : Lit × DataW H → Nat
  | (.string bytes, d) => bytes.length + uptoBulk d + 1
  | (_, d) => uptoBulk d + 1
 end
def uptoSmall : (H : Type) → List (DataW H) → Bool := fun _ ds => decide (uptoBulkAll ds ≤ 1048576)
def OpenSpec.upto (s : _root_.Go.ChangeSpec) : _root_.Go.OpenSpec := { _root_.Go.OpenSpec.ofChange s with cond := some uptoSmall }

/-- 'sluicegatelaw05.DeflateNames', WHERE WHAT IT READS IS OF BULK AT MOST 1048576: true; the input reads as it did. -/
def deflateNamesUptoRow : OpenClaim := { program := "ytmlodlmmfkpibaa", sum := "7d94bdd4ff6d238a9011cdb0979dd124792346225cbafadb2e085fac6e88e4bb", func := "sluicegate/sluicegatelaw05.DeflateNames", spec := "deflateNames", plainKeys := false, apart := false, narrowed := true }
def DeflateNamesUptoSaid : Prop := deflateNamesUptoRow.holds Try.pinned (OpenSpec.upto deflateNamesSpec)

/-- 'sluicegatelaw05.DeflateCalls', WHERE WHAT IT READS IS OF BULK AT MOST 1048576: true; the input reads as it did. -/
def deflateCallsUptoRow : OpenClaim := { program := "ytmlodlmmfkpibaa", sum := "7d94bdd4ff6d238a9011cdb0979dd124792346225cbafadb2e085fac6e88e4bb", func := "sluicegate/sluicegatelaw05.DeflateCalls", spec := "deflateCalls", plainKeys := false, apart := false, narrowed := true }
def DeflateCallsUptoSaid : Prop := deflateCallsUptoRow.holds Try.pinned (OpenSpec.upto deflateCallsSpec)

/-- 'sluicegatelaw05.DeflatePieces', WHERE WHAT IT READS IS OF BULK AT MOST 1048576: true; the input reads as it did. -/
def deflatePiecesUptoRow : OpenClaim := { program := "ytmlodlmmfkpibaa", sum := "7d94bdd4ff6d238a9011cdb0979dd124792346225cbafadb2e085fac6e88e4bb", func := "sluicegate/sluicegatelaw05.DeflatePieces", spec := "deflatePieces", plainKeys := false, apart := false, narrowed := true }
def DeflatePiecesUptoSaid : Prop := deflatePiecesUptoRow.holds Try.pinned (OpenSpec.upto deflatePiecesSpec)

/-- 'sluicegatelaw05.DeflateGreedy', WHERE WHAT IT READS IS OF BULK AT MOST 1048576: true; the input reads as it did. -/
def deflateGreedyUptoRow : OpenClaim := { program := "ytmlodlmmfkpibaa", sum := "7d94bdd4ff6d238a9011cdb0979dd124792346225cbafadb2e085fac6e88e4bb", func := "sluicegate/sluicegatelaw05.DeflateGreedy", spec := "deflateGreedy", plainKeys := false, apart := false, narrowed := true }
def DeflateGreedyUptoSaid : Prop := deflateGreedyUptoRow.holds Try.pinned (OpenSpec.upto deflateGreedySpec)

end Rows
end Go.Proofs.Ytmlodlmmfkpibaa
