/-
  NARROWER THAN 'FOR EVERY INPUT', by the rows' own cells (each row's printed sentence says how): StatusNames: laid · StatusGoes: laid · StatusSteps: laid · StatusInits: laid.
  DERIVED. THE GIVEN ROWS OF THIS SEAT. 4 by the template 'for every input the law returns true; each argument reads behind the call as it read before'; 0 by the template 'total and deterministic' (their statements: YtmmgcmbniidieaaDoorTotals.lean).
  GIVEN WITH THE SEED: the statements are not yours to turn. If you find one false, say at which input.
  Laid BY PROGRAM, IN A SANDBOX (cutbox-rows.mjs): the forced cells as the released guide's own fill.sh prints them over the translation 77c804d8cba92fe9… (all of the seat's roots in one cut). By AI agents, Wed Nov 11 2026. No macro, syntax, notation, axiom, sorry.
-/
import Derived.Test.YtmmgcmbniidieaaDoorChecked
import GoSem.Claim
import GoSem.ClaimJoined
import GoSem.ClaimMapViews
import Derived.JoinedTies
import Derived.KernelRfl
namespace Go.Proofs.YtmmgcmbniidieaaDoor
/- THE CELL 'sum', in the pinned program and in every row, IS THE sha256 OF THE DUMP (.gsa) THAT YtmmgcmbniidieaaDoorProg.lean LOADS. Nothing in Lean hashes anything: it is a label: what it is worth is what the hold of that sum in a sandbox is worth. -/
noncomputable def Tryd.pinned : Pinned := { name := "ytmmgcmbniidieaadoor", sum := "77c804d8cba92fe95fa0caadc438270123cb1829e37bb7da6d038e8362a2da3a", checked := Tryd.checked }
namespace Rows
def none {H : Type} : Left H := { results := [], args := [] }

/- WHAT THE LISTED PACKAGE-LEVEL VARIABLES READ AS WHEN THE CALL BEGINS. Each datum BY PROGRAM (the guide's laid-datum.mjs) off the statement by which the dump's own 'gosem.cut.vars' lays the variable. In a bare row this is a premise. The card (YtmmgcmbniidieaaDoorCards.lean) ties it to the program's text. -/
def laid_dumbwaiter_feat_rules {H : Type} : DataW H := .slice [.agg [.lit (.int .u64 262144), .lit (.int .u64 131072)], .agg [.lit (.int .u64 524288), .lit (.int .u64 131072)], .agg [.lit (.int .u64 4194304), .lit (.int .u64 131072)], .agg [.lit (.int .u64 8388608), .lit (.int .u64 131072)], .agg [.lit (.int .u64 8388608), .lit (.int .u64 32)]] []

/-- 'dumbwaiterlaw07.StatusNames': WHATEVER THE INPUT: true; the input reads as it did. -/
def statusNamesSpec : ChangeSpec := { name := "statusNames", fn := fun _ => fun
  | [] => { results := [.lit (.bool true)], args := [] }
  | _ => none }
def statusNamesRow : OpenClaim := { program := "ytmmgcmbniidieaadoor", sum := "77c804d8cba92fe95fa0caadc438270123cb1829e37bb7da6d038e8362a2da3a", func := "dumbwaiter/dumbwaiterlaw07.StatusNames", spec := "statusNames", unfollowed := true, recurses := true, named := ["dumbwaiter/feat.rules"], apart := false, laid := [("dumbwaiter/feat.rules", laid_dumbwaiter_feat_rules)] }
def StatusNamesSaid : Prop := statusNamesRow.holds Tryd.pinned (OpenSpec.ofChange statusNamesSpec)

/-- ITS FALSE NEIGHBOUR: 'it returns false'. Refute it at one input. -/
def statusNamesWrong : ChangeSpec := { name := "statusNames", fn := fun _ => fun
  | [] => { results := [.lit (.bool false)], args := [] }
  | _ => none }
def StatusNamesWrongFalsely : Prop := statusNamesRow.holds Tryd.pinned (OpenSpec.ofChange statusNamesWrong)

/-- 'dumbwaiterlaw07.StatusGoes': WHATEVER THE INPUT: true; the input reads as it did. -/
def statusGoesSpec : ChangeSpec := { name := "statusGoes", fn := fun _ => fun
  | [d1, d2, d3] => { results := [.lit (.bool true)], args := [d1, d2, d3] }
  | _ => none }
def statusGoesRow : OpenClaim := { program := "ytmmgcmbniidieaadoor", sum := "77c804d8cba92fe95fa0caadc438270123cb1829e37bb7da6d038e8362a2da3a", func := "dumbwaiter/dumbwaiterlaw07.StatusGoes", spec := "statusGoes", unfollowed := true, recurses := true, named := ["dumbwaiter/feat.rules"], apart := false, laid := [("dumbwaiter/feat.rules", laid_dumbwaiter_feat_rules)] }
def StatusGoesSaid : Prop := statusGoesRow.holds Tryd.pinned (OpenSpec.ofChange statusGoesSpec)

/-- ITS FALSE NEIGHBOUR: 'it returns false'. Refute it at one input. -/
def statusGoesWrong : ChangeSpec := { name := "statusGoes", fn := fun _ => fun
  | [d1, d2, d3] => { results := [.lit (.bool false)], args := [d1, d2, d3] }
  | _ => none }
def StatusGoesWrongFalsely : Prop := statusGoesRow.holds Tryd.pinned (OpenSpec.ofChange statusGoesWrong)

/-- 'dumbwaiterlaw07.StatusSteps': WHATEVER THE INPUT: true; the input reads as it did. -/
def statusStepsSpec : ChangeSpec := { name := "statusSteps", fn := fun _ => fun
  | [d1, d2] => { results := [.lit (.bool true)], args := [d1, d2] }
  | _ => none }
def statusStepsRow : OpenClaim := { program := "ytmmgcmbniidieaadoor", sum := "77c804d8cba92fe95fa0caadc438270123cb1829e37bb7da6d038e8362a2da3a", func := "dumbwaiter/dumbwaiterlaw07.StatusSteps", spec := "statusSteps", unfollowed := true, recurses := true, named := ["dumbwaiter/feat.rules"], apart := false, laid := [("dumbwaiter/feat.rules", laid_dumbwaiter_feat_rules)] }
def StatusStepsSaid : Prop := statusStepsRow.holds Tryd.pinned (OpenSpec.ofChange statusStepsSpec)

/-- ITS FALSE NEIGHBOUR: 'it returns false'. Refute it at one input. -/
def statusStepsWrong : ChangeSpec := { name := "statusSteps", fn := fun _ => fun
  | [d1, d2] => { results := [.lit (.bool false)], args := [d1, d2] }
  | _ => none }
def StatusStepsWrongFalsely : Prop := statusStepsRow.holds Tryd.pinned (OpenSpec.ofChange statusStepsWrong)

/-- 'dumbwaiterlaw07.StatusInits': WHATEVER THE INPUT: true; the input reads as it did. -/
def statusInitsSpec : ChangeSpec := { name := "statusInits", fn := fun _ => fun
  | [d1, d2] => { results := [.lit (.bool true)], args := [d1, d2] }
  | _ => none }
def statusInitsRow : OpenClaim := { program := "ytmmgcmbniidieaadoor", sum := "77c804d8cba92fe95fa0caadc438270123cb1829e37bb7da6d038e8362a2da3a", func := "dumbwaiter/dumbwaiterlaw07.StatusInits", spec := "statusInits", unfollowed := true, recurses := true, named := ["dumbwaiter/feat.rules"], apart := false, laid := [("dumbwaiter/feat.rules", laid_dumbwaiter_feat_rules)] }
def StatusInitsSaid : Prop := statusInitsRow.holds Tryd.pinned (OpenSpec.ofChange statusInitsSpec)

/-- ITS FALSE NEIGHBOUR: 'it returns false'. Refute it at one input. -/
def statusInitsWrong : ChangeSpec := { name := "statusInits", fn := fun _ => fun
  | [d1, d2] => { results := [.lit (.bool false)], args := [d1, d2] }
  | _ => none }
def StatusInitsWrongFalsely : Prop := statusInitsRow.holds Tryd.pinned (OpenSpec.ofChange statusInitsWrong)

/- THE SECOND FORM. 'bulk': how many values and letters a reading holds, each counted each time it is reached (what is shared counts as often as it is met; a slice's spare places count too). A statement '..UptoSaid' is the law's where the arguments, and the package variables that the reading takes, are together of bulk at most 1048576: NARROWER than '..Said'. Prove '..Said' where nothing that the law and all that it calls make is longer than what came in: it says more and counts as full. Else prove '..UptoSaid'. A law counts once. -/
mutual
def uptoBulk {H : Type} : DataW H → Nat
  | .lit (.string bytes) => bytes.length + 1
  | .lit _ => 1
  | .nil => 1
  | .ptr d => uptoBulk d + 1
  | .slice elems spare => uptoBulkAll elems + uptoBulkAll spare + 1
  | .agg parts => uptoBulkAll parts + 1
  | .iface _ d => uptoBulk d + 1
  | .map entries => uptoBulkEntries entries + 1
  | .held _ => 1
def uptoBulkAll {H : Type} : List (DataW H) → Nat
  | [] => 0
  | d :: r => uptoBulk d + uptoBulkAll r
def uptoBulkEntries {H : Type} : List (Lit × DataW H) → Nat
  | [] => 0
  | x :: r => uptoBulkEntry x + uptoBulkEntries r
def uptoBulkEntry {H : Type} : Lit × DataW H → Nat
  | (.string bytes, d) => bytes.length + uptoBulk d + 1
  | (_, d) => uptoBulk d + 1
 end
def uptoSmall : (H : Type) → List (DataW H) → Bool := fun _ ds => decide (uptoBulkAll ds ≤ 1048576)
def OpenSpec.upto (s : _root_.Go.ChangeSpec) : _root_.Go.OpenSpec := { _root_.Go.OpenSpec.ofChange s with cond := some uptoSmall }

/-- 'dumbwaiterlaw07.StatusNames', WHERE WHAT IT READS IS OF BULK AT MOST 1048576: true; the input reads as it did. -/
def statusNamesUptoRow : OpenClaim := { program := "ytmmgcmbniidieaadoor", sum := "77c804d8cba92fe95fa0caadc438270123cb1829e37bb7da6d038e8362a2da3a", func := "dumbwaiter/dumbwaiterlaw07.StatusNames", spec := "statusNames", unfollowed := true, recurses := true, named := ["dumbwaiter/feat.rules"], apart := false, laid := [("dumbwaiter/feat.rules", laid_dumbwaiter_feat_rules)], narrowed := true }
def StatusNamesUptoSaid : Prop := statusNamesUptoRow.holds Tryd.pinned (OpenSpec.upto statusNamesSpec)

/-- 'dumbwaiterlaw07.StatusGoes', WHERE WHAT IT READS IS OF BULK AT MOST 1048576: true; the input reads as it did. -/
def statusGoesUptoRow : OpenClaim := { program := "ytmmgcmbniidieaadoor", sum := "77c804d8cba92fe95fa0caadc438270123cb1829e37bb7da6d038e8362a2da3a", func := "dumbwaiter/dumbwaiterlaw07.StatusGoes", spec := "statusGoes", unfollowed := true, recurses := true, named := ["dumbwaiter/feat.rules"], apart := false, laid := [("dumbwaiter/feat.rules", laid_dumbwaiter_feat_rules)], narrowed := true }
def StatusGoesUptoSaid : Prop := statusGoesUptoRow.holds Tryd.pinned (OpenSpec.upto statusGoesSpec)

/-- 'dumbwaiterlaw07.StatusSteps', WHERE WHAT IT READS IS OF BULK AT MOST 1048576: true; the input reads as it did. -/
def statusStepsUptoRow : OpenClaim := { program := "ytmmgcmbniidieaadoor", sum := "77c804d8cba92fe95fa0caadc438270123cb1829e37bb7da6d038e8362a2da3a", func := "dumbwaiter/dumbwaiterlaw07.StatusSteps", spec := "statusSteps", unfollowed := true, recurses := true, named := ["dumbwaiter/feat.rules"], apart := false, laid := [("dumbwaiter/feat.rules", laid_dumbwaiter_feat_rules)], narrowed := true }
def StatusStepsUptoSaid : Prop := statusStepsUptoRow.holds Tryd.pinned (OpenSpec.upto statusStepsSpec)

/-- 'dumbwaiterlaw07.StatusInits', WHERE WHAT IT READS IS OF BULK AT MOST 1048576: true; the input reads as it did. -/
def statusInitsUptoRow : OpenClaim := { program := "ytmmgcmbniidieaadoor", sum := "77c804d8cba92fe95fa0caadc438270123cb1829e37bb7da6d038e8362a2da3a", func := "dumbwaiter/dumbwaiterlaw07.StatusInits", spec := "statusInits", unfollowed := true, recurses := true, named := ["dumbwaiter/feat.rules"], apart := false, laid := [("dumbwaiter/feat.rules", laid_dumbwaiter_feat_rules)], narrowed := true }
def StatusInitsUptoSaid : Prop := statusInitsUptoRow.holds Tryd.pinned (OpenSpec.upto statusInitsSpec)

end Rows
end Go.Proofs.YtmmgcmbniidieaaDoor
