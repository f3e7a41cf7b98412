/-
  NARROWER THAN 'FOR EVERY INPUT', by the rows' own cells (each row's printed sentence says how): CapsNames: laid · CapsCalls: laid · CapsBoth: laid · CapsBack: laid.
  DERIVED. THE GIVEN ROWS OF THIS SEAT. 4 by the template 'for every input the law returns true; each argument reads behind the call as it read before'; 0 by the template 'total and deterministic' (their statements: YtnoabdafmgmenaaDoorTotals.lean).
  GIVEN WITH THE SEED: the statements are not yours to turn. If you find one false, say at which input.
  Laid BY PROGRAM, IN A SANDBOX (cutbox-rows.mjs): the forced cells as the released guide's own fill.sh prints them over the translation 82acecb14aef22cd… (all of the seat's roots in one cut). By AI agents, Wed Nov 11 2026. No macro, syntax, notation, axiom, sorry.
-/
import Derived.Test.YtnoabdafmgmenaaDoorChecked
import GoSem.Claim
import GoSem.ClaimJoined
import GoSem.ClaimMapViews
import Derived.JoinedTies
import Derived.KernelRfl
namespace Go.Proofs.YtnoabdafmgmenaaDoor
/- THE CELL 'sum', in the pinned program and in every row, IS THE sha256 OF THE DUMP (.gsa) THAT YtnoabdafmgmenaaDoorProg.lean LOADS. Nothing in Lean hashes anything: it is a label: what it is worth is what the hold of that sum in a sandbox is worth. -/
noncomputable def Tryd.pinned : Pinned := { name := "ytnoabdafmgmenaadoor", sum := "82acecb14aef22cd657f9fca89e9ea5af5256d269bf14f7adde0eb0c3de21710", checked := Tryd.checked }
namespace Rows
def none {H : Type} : Left H := { results := [], args := [] }

/- WHAT THE LISTED PACKAGE-LEVEL VARIABLES READ AS WHEN THE CALL BEGINS. Each datum BY PROGRAM (the guide's laid-datum.mjs) off the statement by which the dump's own 'gosem.cut.vars' lays the variable. In a bare row this is a premise. The card (YtnoabdafmgmenaaDoorCards.lean) ties it to the program's text. -/
def laid_sluicegate_caps_pairs {H : Type} : DataW H := .slice [.agg [.lit (.int .u32 29294760), .lit (.int .u32 512)], .agg [.lit (.int .u32 3145728), .lit (.int .u32 524288)], .agg [.lit (.int .u32 65536), .lit (.int .u32 131072)]] []
def laid_sluicegate_caps_capNames {H : Type} : DataW H := .agg [.lit (.string [108, 111, 110, 103, 45, 112, 97, 115, 115, 119, 111, 114, 100]), .lit (.string [102, 111, 117, 110, 100, 45, 114, 111, 119, 115]), .lit (.string [108, 111, 110, 103, 45, 102, 108, 97, 103]), .lit (.string [99, 111, 110, 110, 101, 99, 116, 45, 119, 105, 116, 104, 45, 100, 98]), .lit (.string [110, 111, 45, 115, 99, 104, 101, 109, 97]), .lit (.string [99, 111, 109, 112, 114, 101, 115, 115]), .lit (.string [111, 100, 98, 99]), .lit (.string [108, 111, 99, 97, 108, 45, 102, 105, 108, 101, 115]), .lit (.string [105, 103, 110, 111, 114, 101, 45, 115, 112, 97, 99, 101]), .lit (.string [112, 114, 111, 116, 111, 99, 111, 108, 45, 52, 49]), .lit (.string [105, 110, 116, 101, 114, 97, 99, 116, 105, 118, 101]), .lit (.string [115, 115, 108]), .lit (.string [105, 103, 110, 111, 114, 101, 45, 115, 105, 103, 112, 105, 112, 101]), .lit (.string [116, 114, 97, 110, 115, 97, 99, 116, 105, 111, 110, 115]), .lit (.string [114, 101, 115, 101, 114, 118, 101, 100]), .lit (.string [115, 101, 99, 117, 114, 101]), .lit (.string [109, 117, 108, 116, 105, 45, 115, 116, 97, 116, 101, 109, 101, 110, 116]), .lit (.string [109, 117, 108, 116, 105, 45, 114, 101, 115, 117, 108, 116, 115]), .lit (.string [112, 115, 45, 109, 117, 108, 116, 105, 45, 114, 101, 115, 117, 108, 116, 115]), .lit (.string [112, 108, 117, 103, 105, 110, 45, 97, 117, 116, 104]), .lit (.string [99, 111, 110, 110, 101, 99, 116, 45, 97, 116, 116, 114, 115]), .lit (.string [108, 101, 110, 101, 110, 99, 45, 97, 117, 116, 104]), .lit (.string [101, 120, 112, 105, 114, 101, 100]), .lit (.string [115, 101, 115, 115, 105, 111, 110, 45, 116, 114, 97, 99, 107]), .lit (.string [100, 101, 112, 114, 101, 99, 97, 116, 101, 45, 101, 111, 102]), .lit (.string [98, 105, 116, 45, 50, 53]), .lit (.string [98, 105, 116, 45, 50, 54]), .lit (.string [98, 105, 116, 45, 50, 55]), .lit (.string [98, 105, 116, 45, 50, 56]), .lit (.string [98, 105, 116, 45, 50, 57]), .lit (.string [98, 105, 116, 45, 51, 48]), .lit (.string [98, 105, 116, 45, 51, 49])]
def laid_sluicegate_caps_statusNames {H : Type} : DataW H := .agg [.lit (.string [105, 110, 45, 116, 114, 97, 110, 115]), .lit (.string [97, 117, 116, 111, 99, 111, 109, 109, 105, 116]), .lit (.string [98, 105, 116, 45, 50]), .lit (.string [109, 111, 114, 101, 45, 114, 101, 115, 117, 108, 116, 115]), .lit (.string [98, 105, 116, 45, 52]), .lit (.string [98, 105, 116, 45, 53]), .lit (.string [99, 117, 114, 115, 111, 114]), .lit (.string [108, 97, 115, 116, 45, 114, 111, 119]), .lit (.string [98, 105, 116, 45, 56]), .lit (.string [98, 105, 116, 45, 57]), .lit (.string [98, 105, 116, 45, 49, 48]), .lit (.string [98, 105, 116, 45, 49, 49]), .lit (.string [98, 105, 116, 45, 49, 50]), .lit (.string [105, 110, 45, 116, 114, 97, 110, 115, 45, 114, 101, 97, 100]), .lit (.string [115, 116, 97, 116, 101, 45, 99, 104, 97, 110, 103, 101, 100]), .lit (.string [98, 105, 116, 45, 49, 53])]

/-- 'sluicegatelaw11.CapsNames': WHATEVER THE INPUT: true; the input reads as it did. -/
def capsNamesSpec : ChangeSpec := { name := "capsNames", fn := fun _ => fun
  | [] => { results := [.lit (.bool true)], args := [] }
  | _ => none }
def capsNamesRow : OpenClaim := { program := "ytnoabdafmgmenaadoor", sum := "82acecb14aef22cd657f9fca89e9ea5af5256d269bf14f7adde0eb0c3de21710", func := "sluicegate/sluicegatelaw11.CapsNames", spec := "capsNames", named := ["sluicegate/caps.capNames", "sluicegate/caps.statusNames", "sluicegate/caps.pairs"], apart := false, laid := [("sluicegate/caps.pairs", laid_sluicegate_caps_pairs), ("sluicegate/caps.capNames", laid_sluicegate_caps_capNames), ("sluicegate/caps.statusNames", laid_sluicegate_caps_statusNames)] }
def CapsNamesSaid : Prop := capsNamesRow.holds Tryd.pinned (OpenSpec.ofChange capsNamesSpec)

/-- ITS FALSE NEIGHBOUR: 'it returns false'. Refute it at one input. -/
def capsNamesWrong : ChangeSpec := { name := "capsNames", fn := fun _ => fun
  | [] => { results := [.lit (.bool false)], args := [] }
  | _ => none }
def CapsNamesWrongFalsely : Prop := capsNamesRow.holds Tryd.pinned (OpenSpec.ofChange capsNamesWrong)

/-- 'sluicegatelaw11.CapsCalls': WHATEVER THE INPUT: true; the input reads as it did. -/
def capsCallsSpec : ChangeSpec := { name := "capsCalls", fn := fun _ => fun
  | [d1, d2, d3, d4] => { results := [.lit (.bool true)], args := [d1, d2, d3, d4] }
  | _ => none }
def capsCallsRow : OpenClaim := { program := "ytnoabdafmgmenaadoor", sum := "82acecb14aef22cd657f9fca89e9ea5af5256d269bf14f7adde0eb0c3de21710", func := "sluicegate/sluicegatelaw11.CapsCalls", spec := "capsCalls", named := ["sluicegate/caps.capNames", "sluicegate/caps.pairs", "sluicegate/caps.statusNames"], apart := false, laid := [("sluicegate/caps.pairs", laid_sluicegate_caps_pairs), ("sluicegate/caps.capNames", laid_sluicegate_caps_capNames), ("sluicegate/caps.statusNames", laid_sluicegate_caps_statusNames)] }
def CapsCallsSaid : Prop := capsCallsRow.holds Tryd.pinned (OpenSpec.ofChange capsCallsSpec)

/-- ITS FALSE NEIGHBOUR: 'it returns false'. Refute it at one input. -/
def capsCallsWrong : ChangeSpec := { name := "capsCalls", fn := fun _ => fun
  | [d1, d2, d3, d4] => { results := [.lit (.bool false)], args := [d1, d2, d3, d4] }
  | _ => none }
def CapsCallsWrongFalsely : Prop := capsCallsRow.holds Tryd.pinned (OpenSpec.ofChange capsCallsWrong)

/-- 'sluicegatelaw11.CapsBoth': WHATEVER THE INPUT: true; the input reads as it did. -/
def capsBothSpec : ChangeSpec := { name := "capsBoth", fn := fun _ => fun
  | [d1, d2, d3] => { results := [.lit (.bool true)], args := [d1, d2, d3] }
  | _ => none }
def capsBothRow : OpenClaim := { program := "ytnoabdafmgmenaadoor", sum := "82acecb14aef22cd657f9fca89e9ea5af5256d269bf14f7adde0eb0c3de21710", func := "sluicegate/sluicegatelaw11.CapsBoth", spec := "capsBoth", named := ["sluicegate/caps.capNames", "sluicegate/caps.pairs"], apart := false, laid := [("sluicegate/caps.pairs", laid_sluicegate_caps_pairs), ("sluicegate/caps.capNames", laid_sluicegate_caps_capNames)] }
def CapsBothSaid : Prop := capsBothRow.holds Tryd.pinned (OpenSpec.ofChange capsBothSpec)

/-- ITS FALSE NEIGHBOUR: 'it returns false'. Refute it at one input. -/
def capsBothWrong : ChangeSpec := { name := "capsBoth", fn := fun _ => fun
  | [d1, d2, d3] => { results := [.lit (.bool false)], args := [d1, d2, d3] }
  | _ => none }
def CapsBothWrongFalsely : Prop := capsBothRow.holds Tryd.pinned (OpenSpec.ofChange capsBothWrong)

/-- 'sluicegatelaw11.CapsBack': WHATEVER THE INPUT: true; the input reads as it did. -/
def capsBackSpec : ChangeSpec := { name := "capsBack", fn := fun _ => fun
  | [d1, d2] => { results := [.lit (.bool true)], args := [d1, d2] }
  | _ => none }
def capsBackRow : OpenClaim := { program := "ytnoabdafmgmenaadoor", sum := "82acecb14aef22cd657f9fca89e9ea5af5256d269bf14f7adde0eb0c3de21710", func := "sluicegate/sluicegatelaw11.CapsBack", spec := "capsBack", named := ["sluicegate/caps.capNames", "sluicegate/caps.pairs"], apart := false, laid := [("sluicegate/caps.pairs", laid_sluicegate_caps_pairs), ("sluicegate/caps.capNames", laid_sluicegate_caps_capNames)] }
def CapsBackSaid : Prop := capsBackRow.holds Tryd.pinned (OpenSpec.ofChange capsBackSpec)

/-- ITS FALSE NEIGHBOUR: 'it returns false'. Refute it at one input. -/
def capsBackWrong : ChangeSpec := { name := "capsBack", fn := fun _ => fun
  | [d1, d2] => { results := [.lit (.bool false)], args := [d1, d2] }
  | _ => none }
def CapsBackWrongFalsely : Prop := capsBackRow.holds Tryd.pinned (OpenSpec.ofChange capsBackWrong)

/- THE SECOND FORM. 'bulk': how many values and letters a reading holds, each counted each time it is reached (what is shared counts as often as it is met; a slice's spare places count too). A statement '..UptoSaid' is the law's where the arguments, and the package variables that the reading takes, are together of bulk at most 1048576: NARROWER than '..Said'. Prove '..Said' where nothing that the law and all that it calls make is longer than what came in: it says more and counts as full. Else prove '..UptoSaid'. A law counts once. -/
mutual
def uptoBulk {H : Type} : DataW H → Nat
  | .lit (.string bytes) => bytes.length + 1
  | .lit _ => 1
  | .nil => 1
  | .ptr d => uptoBulk d + 1
  | .slice elems spare => uptoBulkAll elems + uptoBulkAll spare + 1
  | .agg parts => uptoBulkAll parts + 1
  | .iface _ d => uptoBulk d + 1
  | .map entries => uptoBulkEntries entries + 1
  | .held _ => 1
def uptoBulkAll {H : Type} : List (DataW H) → Nat
  | [] => 0
  | d :: r => uptoBulk d + uptoBulkAll r
def uptoBulkEntries {H : Type} : List (Lit × DataW H) → Nat
  | [] => 0
  | x :: r => uptoBulkEntry x + uptoBulkEntries r
def uptoBulkEntry {H : Type} : Lit × DataW H → Nat
  | (.string bytes, d) => bytes.length + uptoBulk d + 1
  | (_, d) => uptoBulk d + 1
 end
def uptoSmall : (H : Type) → List (DataW H) → Bool := fun _ ds => decide (uptoBulkAll ds ≤ 1048576)
def OpenSpec.upto (s : _root_.Go.ChangeSpec) : _root_.Go.OpenSpec := { _root_.Go.OpenSpec.ofChange s with cond := some uptoSmall }

/-- 'sluicegatelaw11.CapsNames', WHERE WHAT IT READS IS OF BULK AT MOST 1048576: true; the input reads as it did. -/
def capsNamesUptoRow : OpenClaim := { program := "ytnoabdafmgmenaadoor", sum := "82acecb14aef22cd657f9fca89e9ea5af5256d269bf14f7adde0eb0c3de21710", func := "sluicegate/sluicegatelaw11.CapsNames", spec := "capsNames", named := ["sluicegate/caps.capNames", "sluicegate/caps.statusNames", "sluicegate/caps.pairs"], apart := false, laid := [("sluicegate/caps.pairs", laid_sluicegate_caps_pairs), ("sluicegate/caps.capNames", laid_sluicegate_caps_capNames), ("sluicegate/caps.statusNames", laid_sluicegate_caps_statusNames)], narrowed := true }
def CapsNamesUptoSaid : Prop := capsNamesUptoRow.holds Tryd.pinned (OpenSpec.upto capsNamesSpec)

/-- 'sluicegatelaw11.CapsCalls', WHERE WHAT IT READS IS OF BULK AT MOST 1048576: true; the input reads as it did. -/
def capsCallsUptoRow : OpenClaim := { program := "ytnoabdafmgmenaadoor", sum := "82acecb14aef22cd657f9fca89e9ea5af5256d269bf14f7adde0eb0c3de21710", func := "sluicegate/sluicegatelaw11.CapsCalls", spec := "capsCalls", named := ["sluicegate/caps.capNames", "sluicegate/caps.pairs", "sluicegate/caps.statusNames"], apart := false, laid := [("sluicegate/caps.pairs", laid_sluicegate_caps_pairs), ("sluicegate/caps.capNames", laid_sluicegate_caps_capNames), ("sluicegate/caps.statusNames", laid_sluicegate_caps_statusNames)], narrowed := true }
def CapsCallsUptoSaid : Prop := capsCallsUptoRow.holds Tryd.pinned (OpenSpec.upto capsCallsSpec)

/-- 'sluicegatelaw11.CapsBoth', WHERE WHAT IT READS IS OF BULK AT MOST 1048576: true; the input reads as it did. -/
def capsBothUptoRow : OpenClaim := { program := "ytnoabdafmgmenaadoor", sum := "82acecb14aef22cd657f9fca89e9ea5af5256d269bf14f7adde0eb0c3de21710", func := "sluicegate/sluicegatelaw11.CapsBoth", spec := "capsBoth", named := ["sluicegate/caps.capNames", "sluicegate/caps.pairs"], apart := false, laid := [("sluicegate/caps.pairs", laid_sluicegate_caps_pairs), ("sluicegate/caps.capNames", laid_sluicegate_caps_capNames)], narrowed := true }
def CapsBothUptoSaid : Prop := capsBothUptoRow.holds Tryd.pinned (OpenSpec.upto capsBothSpec)

/-- 'sluicegatelaw11.CapsBack', WHERE WHAT IT READS IS OF BULK AT MOST 1048576: true; the input reads as it did. -/
def capsBackUptoRow : OpenClaim := { program := "ytnoabdafmgmenaadoor", sum := "82acecb14aef22cd657f9fca89e9ea5af5256d269bf14f7adde0eb0c3de21710", func := "sluicegate/sluicegatelaw11.CapsBack", spec := "capsBack", named := ["sluicegate/caps.capNames", "sluicegate/caps.pairs"], apart := false, laid := [("sluicegate/caps.pairs", laid_sluicegate_caps_pairs), ("sluicegate/caps.capNames", laid_sluicegate_caps_capNames)], narrowed := true }
def CapsBackUptoSaid : Prop := capsBackUptoRow.holds Tryd.pinned (OpenSpec.upto capsBackSpec)

end Rows
end Go.Proofs.YtnoabdafmgmenaaDoor
