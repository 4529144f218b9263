/-
  NARROWER THAN 'FOR EVERY INPUT', by the rows' own cells (each row's printed sentence says how): FeatNames: laid · FeatSets: laid · FeatBest: laid · FeatBits: laid.
  DERIVED. THE GIVEN ROWS OF THIS SEAT. 4 by the template 'for every input the law returns true; each argument reads behind the call as it read before'; 0 by the template 'total and deterministic' (their statements: YtkncaafjkoeijaaDoorTotals.lean).
  GIVEN WITH THE SEED: the statements are not yours to turn. If you find one false, say at which input.
  Laid BY PROGRAM, IN A SANDBOX (cutbox-rows.mjs): the forced cells as the released guide's own fill.sh prints them over the translation fd40e90a0f78f3ae… (all of the seat's roots in one cut). By AI agents, Wed Nov 11 2026. No macro, syntax, notation, axiom, sorry.
-/
import Derived.Test.YtkncaafjkoeijaaDoorChecked
import GoSem.Claim
import GoSem.ClaimJoined
import GoSem.ClaimMapViews
import Derived.JoinedTies
import Derived.KernelRfl
namespace Go.Proofs.YtkncaafjkoeijaaDoor
/- THE CELL 'sum', in the pinned program and in every row, IS THE sha256 OF THE DUMP (.gsa) THAT YtkncaafjkoeijaaDoorProg.lean LOADS. Nothing in Lean hashes anything: it is a label: what it is worth is what the hold of that sum in a sandbox is worth. -/
noncomputable def Tryd.pinned : Pinned := { name := "ytkncaafjkoeijaadoor", sum := "fd40e90a0f78f3ae2c825ba08da3a9d08d807921677feaf5ffa73aa979debbfb", checked := Tryd.checked }
namespace Rows
def none {H : Type} : Left H := { results := [], args := [] }

/- WHAT THE LISTED PACKAGE-LEVEL VARIABLES READ AS WHEN THE CALL BEGINS. Each datum BY PROGRAM (the guide's laid-datum.mjs) off the statement by which the dump's own 'gosem.cut.vars' lays the variable. In a bare row this is a premise. The card (YtkncaafjkoeijaaDoorCards.lean) ties it to the program's text. -/
def laid_dumbwaiter_feat_rules {H : Type} : DataW H := .slice [.agg [.lit (.int .u64 262144), .lit (.int .u64 131072)], .agg [.lit (.int .u64 524288), .lit (.int .u64 131072)], .agg [.lit (.int .u64 4194304), .lit (.int .u64 131072)], .agg [.lit (.int .u64 8388608), .lit (.int .u64 131072)], .agg [.lit (.int .u64 8388608), .lit (.int .u64 32)]] []

/-- 'dumbwaiterlaw06.FeatNames': WHATEVER THE INPUT: true; the input reads as it did. -/
def featNamesSpec : ChangeSpec := { name := "featNames", fn := fun _ => fun
  | [] => { results := [.lit (.bool true)], args := [] }
  | _ => none }
def featNamesRow : OpenClaim := { program := "ytkncaafjkoeijaadoor", sum := "fd40e90a0f78f3ae2c825ba08da3a9d08d807921677feaf5ffa73aa979debbfb", func := "dumbwaiter/dumbwaiterlaw06.FeatNames", spec := "featNames", unfollowed := true, recurses := true, named := ["dumbwaiter/feat.rules"], apart := false, laid := [("dumbwaiter/feat.rules", laid_dumbwaiter_feat_rules)] }
def FeatNamesSaid : Prop := featNamesRow.holds Tryd.pinned (OpenSpec.ofChange featNamesSpec)

/-- ITS FALSE NEIGHBOUR: 'it returns false'. Refute it at one input. -/
def featNamesWrong : ChangeSpec := { name := "featNames", fn := fun _ => fun
  | [] => { results := [.lit (.bool false)], args := [] }
  | _ => none }
def FeatNamesWrongFalsely : Prop := featNamesRow.holds Tryd.pinned (OpenSpec.ofChange featNamesWrong)

/-- 'dumbwaiterlaw06.FeatSets': WHATEVER THE INPUT: true; the input reads as it did. -/
def featSetsSpec : ChangeSpec := { name := "featSets", fn := fun _ => fun
  | [d1, d2, d3] => { results := [.lit (.bool true)], args := [d1, d2, d3] }
  | _ => none }
def featSetsRow : OpenClaim := { program := "ytkncaafjkoeijaadoor", sum := "fd40e90a0f78f3ae2c825ba08da3a9d08d807921677feaf5ffa73aa979debbfb", func := "dumbwaiter/dumbwaiterlaw06.FeatSets", spec := "featSets", unfollowed := true, recurses := true, named := ["dumbwaiter/feat.rules"], apart := false, laid := [("dumbwaiter/feat.rules", laid_dumbwaiter_feat_rules)] }
def FeatSetsSaid : Prop := featSetsRow.holds Tryd.pinned (OpenSpec.ofChange featSetsSpec)

/-- ITS FALSE NEIGHBOUR: 'it returns false'. Refute it at one input. -/
def featSetsWrong : ChangeSpec := { name := "featSets", fn := fun _ => fun
  | [d1, d2, d3] => { results := [.lit (.bool false)], args := [d1, d2, d3] }
  | _ => none }
def FeatSetsWrongFalsely : Prop := featSetsRow.holds Tryd.pinned (OpenSpec.ofChange featSetsWrong)

/-- 'dumbwaiterlaw06.FeatBest': WHATEVER THE INPUT: true; the input reads as it did. -/
def featBestSpec : ChangeSpec := { name := "featBest", fn := fun _ => fun
  | [d1, d2, d3, d4] => { results := [.lit (.bool true)], args := [d1, d2, d3, d4] }
  | _ => none }
def featBestRow : OpenClaim := { program := "ytkncaafjkoeijaadoor", sum := "fd40e90a0f78f3ae2c825ba08da3a9d08d807921677feaf5ffa73aa979debbfb", func := "dumbwaiter/dumbwaiterlaw06.FeatBest", spec := "featBest", unfollowed := true, recurses := true, named := ["dumbwaiter/feat.rules"], apart := false, laid := [("dumbwaiter/feat.rules", laid_dumbwaiter_feat_rules)] }
def FeatBestSaid : Prop := featBestRow.holds Tryd.pinned (OpenSpec.ofChange featBestSpec)

/-- ITS FALSE NEIGHBOUR: 'it returns false'. Refute it at one input. -/
def featBestWrong : ChangeSpec := { name := "featBest", fn := fun _ => fun
  | [d1, d2, d3, d4] => { results := [.lit (.bool false)], args := [d1, d2, d3, d4] }
  | _ => none }
def FeatBestWrongFalsely : Prop := featBestRow.holds Tryd.pinned (OpenSpec.ofChange featBestWrong)

/-- 'dumbwaiterlaw06.FeatBits': WHATEVER THE INPUT: true; the input reads as it did. -/
def featBitsSpec : ChangeSpec := { name := "featBits", fn := fun _ => fun
  | [d1, d2, d3, d4] => { results := [.lit (.bool true)], args := [d1, d2, d3, d4] }
  | _ => none }
def featBitsRow : OpenClaim := { program := "ytkncaafjkoeijaadoor", sum := "fd40e90a0f78f3ae2c825ba08da3a9d08d807921677feaf5ffa73aa979debbfb", func := "dumbwaiter/dumbwaiterlaw06.FeatBits", spec := "featBits", unfollowed := true, recurses := true, named := ["dumbwaiter/feat.rules"], apart := false, laid := [("dumbwaiter/feat.rules", laid_dumbwaiter_feat_rules)] }
def FeatBitsSaid : Prop := featBitsRow.holds Tryd.pinned (OpenSpec.ofChange featBitsSpec)

/-- ITS FALSE NEIGHBOUR: 'it returns false'. Refute it at one input. -/
def featBitsWrong : ChangeSpec := { name := "featBits", fn := fun _ => fun
  | [d1, d2, d3, d4] => { results := [.lit (.bool false)], args := [d1, d2, d3, d4] }
  | _ => none }
def FeatBitsWrongFalsely : Prop := featBitsRow.holds Tryd.pinned (OpenSpec.ofChange featBitsWrong)

/- THE SECOND FORM. 'bulk': how many values and letters a reading holds, each counted each time it is reached (what is shared counts as often as it is met; a slice's spare places count too). A statement '..UptoSaid' is the law's where the arguments, and the package variables that the reading takes, are together of bulk at most 1048576: NARROWER than '..Said'. Prove '..Said' where nothing that the law and all that it calls make is longer than what came in: it says more and counts as full. Else prove '..UptoSaid'. A law counts once. -/
mutual
def uptoBulk {H : Type} : DataW H → Nat
  | .lit (.string bytes) => bytes.length + 1
  | .lit _ => 1
  | .nil => 1
  | .ptr d => uptoBulk d + 1
  | .slice elems spare => uptoBulkAll elems + uptoBulkAll spare + 1
  | .agg parts => uptoBulkAll parts + 1
  | .iface _ d => uptoBulk d + 1
  | .map entries => uptoBulkEntries entries + 1
  | .held _ => 1
def uptoBulkAll {H : Type} : List (DataW H) → Nat
  | [] => 0
  | d :: r => uptoBulk d + uptoBulkAll r
def uptoBulkEntries {H : Type} : List (Lit × DataW H) → Nat
  | [] => 0
  | x :: r => uptoBulkEntry x + uptoBulkEntries r
def uptoBulkEntry {H : Type} : Lit × DataW H → Nat
  | (.string bytes, d) => bytes.length + uptoBulk d + 1
  | (_, d) => uptoBulk d + 1
 end
def uptoSmall : (H : Type) → List (DataW H) → Bool := fun _ ds => decide (uptoBulkAll ds ≤ 1048576)
def OpenSpec.upto (s : _root_.Go.ChangeSpec) : _root_.Go.OpenSpec := { _root_.Go.OpenSpec.ofChange s with cond := some uptoSmall }

/-- 'dumbwaiterlaw06.FeatNames', WHERE WHAT IT READS IS OF BULK AT MOST 1048576: true; the input reads as it did. -/
def featNamesUptoRow : OpenClaim := { program := "ytkncaafjkoeijaadoor", sum := "fd40e90a0f78f3ae2c825ba08da3a9d08d807921677feaf5ffa73aa979debbfb", func := "dumbwaiter/dumbwaiterlaw06.FeatNames", spec := "featNames", unfollowed := true, recurses := true, named := ["dumbwaiter/feat.rules"], apart := false, laid := [("dumbwaiter/feat.rules", laid_dumbwaiter_feat_rules)], narrowed := true }
def FeatNamesUptoSaid : Prop := featNamesUptoRow.holds Tryd.pinned (OpenSpec.upto featNamesSpec)

/-- 'dumbwaiterlaw06.FeatSets', WHERE WHAT IT READS IS OF BULK AT MOST 1048576: true; the input reads as it did. -/
def featSetsUptoRow : OpenClaim := { program := "ytkncaafjkoeijaadoor", sum := "fd40e90a0f78f3ae2c825ba08da3a9d08d807921677feaf5ffa73aa979debbfb", func := "dumbwaiter/dumbwaiterlaw06.FeatSets", spec := "featSets", unfollowed := true, recurses := true, named := ["dumbwaiter/feat.rules"], apart := false, laid := [("dumbwaiter/feat.rules", laid_dumbwaiter_feat_rules)], narrowed := true }
def FeatSetsUptoSaid : Prop := featSetsUptoRow.holds Tryd.pinned (OpenSpec.upto featSetsSpec)

/-- 'dumbwaiterlaw06.FeatBest', WHERE WHAT IT READS IS OF BULK AT MOST 1048576: true; the input reads as it did. -/
def featBestUptoRow : OpenClaim := { program := "ytkncaafjkoeijaadoor", sum := "fd40e90a0f78f3ae2c825ba08da3a9d08d807921677feaf5ffa73aa979debbfb", func := "dumbwaiter/dumbwaiterlaw06.FeatBest", spec := "featBest", unfollowed := true, recurses := true, named := ["dumbwaiter/feat.rules"], apart := false, laid := [("dumbwaiter/feat.rules", laid_dumbwaiter_feat_rules)], narrowed := true }
def FeatBestUptoSaid : Prop := featBestUptoRow.holds Tryd.pinned (OpenSpec.upto featBestSpec)

/-- 'dumbwaiterlaw06.FeatBits', WHERE WHAT IT READS IS OF BULK AT MOST 1048576: true; the input reads as it did. -/
def featBitsUptoRow : OpenClaim := { program := "ytkncaafjkoeijaadoor", sum := "fd40e90a0f78f3ae2c825ba08da3a9d08d807921677feaf5ffa73aa979debbfb", func := "dumbwaiter/dumbwaiterlaw06.FeatBits", spec := "featBits", unfollowed := true, recurses := true, named := ["dumbwaiter/feat.rules"], apart := false, laid := [("dumbwaiter/feat.rules", laid_dumbwaiter_feat_rules)], narrowed := true }
def FeatBitsUptoSaid : Prop := featBitsUptoRow.holds Tryd.pinned (OpenSpec.upto featBitsSpec)

end Rows
end Go.Proofs.YtkncaafjkoeijaaDoor
