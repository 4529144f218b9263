/-
  No cell of these rows narrows 'for every input' (looked for: loops, veiled, ifaces, maps, wideKeys, modest, calm, conditions, laid).
  DERIVED. THE GIVEN ROWS OF THIS SEAT. 3 by the template 'for every input the law returns true; each argument reads behind the call as it read before'; 0 by the template 'total and deterministic' (their statements: YtmmgcmbniidieaaTotals.lean).
  GIVEN WITH THE SEED: the statements are not yours to turn. If you find one false, say at which input.
  Laid BY PROGRAM, IN A SANDBOX (cutbox-rows.mjs): the forced cells as the released guide's own fill.sh prints them over the translation 65cdc46bebd6ca4a… (all of the seat's roots in one cut). By AI agents, Wed Nov 11 2026. No macro, syntax, notation, axiom, sorry.
-/
import Derived.Test.YtmmgcmbniidieaaChecked
import GoSem.Claim
import GoSem.ClaimJoined
import GoSem.ClaimMapViews
import Derived.JoinedTies
import Derived.KernelRfl
namespace Go.Proofs.Ytmmgcmbniidieaa
/- THE CELL 'sum', in the pinned program and in every row, IS THE sha256 OF THE DUMP (.gsa) THAT YtmmgcmbniidieaaProg.lean LOADS. Nothing in Lean hashes anything: it is a label: what it is worth is what the hold of that sum in a sandbox is worth. -/
noncomputable def Try.pinned : Pinned := { name := "ytmmgcmbniidieaa", sum := "65cdc46bebd6ca4a6d82e449f459d09f8ec162259cc67525b8fb4fe4970ee688", checked := Try.checked }
namespace Rows
def none {H : Type} : Left H := { results := [], args := [] }

/-- 'dumbwaiterlaw02.GmemScript': WHATEVER THE INPUT: true; the input reads as it did. -/
def gmemScriptSpec : ChangeSpec := { name := "gmemScript", fn := fun _ => fun
  | [d1, d2] => { results := [.lit (.bool true)], args := [d1, d2] }
  | _ => none }
def gmemScriptRow : OpenClaim := { program := "ytmmgcmbniidieaa", sum := "65cdc46bebd6ca4a6d82e449f459d09f8ec162259cc67525b8fb4fe4970ee688", func := "dumbwaiter/dumbwaiterlaw02.GmemScript", spec := "gmemScript", unfollowed := true, recurses := true, apart := false }
def GmemScriptSaid : Prop := gmemScriptRow.holds Try.pinned (OpenSpec.ofChange gmemScriptSpec)

/-- ITS FALSE NEIGHBOUR: 'it returns false'. Refute it at one input. -/
def gmemScriptWrong : ChangeSpec := { name := "gmemScript", fn := fun _ => fun
  | [d1, d2] => { results := [.lit (.bool false)], args := [d1, d2] }
  | _ => none }
def GmemScriptWrongFalsely : Prop := gmemScriptRow.holds Try.pinned (OpenSpec.ofChange gmemScriptWrong)

/-- 'dumbwaiterlaw02.GmemHolds': WHATEVER THE INPUT: true; the input reads as it did. -/
def gmemHoldsSpec : ChangeSpec := { name := "gmemHolds", fn := fun _ => fun
  | [d1, d2] => { results := [.lit (.bool true)], args := [d1, d2] }
  | _ => none }
def gmemHoldsRow : OpenClaim := { program := "ytmmgcmbniidieaa", sum := "65cdc46bebd6ca4a6d82e449f459d09f8ec162259cc67525b8fb4fe4970ee688", func := "dumbwaiter/dumbwaiterlaw02.GmemHolds", spec := "gmemHolds", unfollowed := true, recurses := true, apart := false }
def GmemHoldsSaid : Prop := gmemHoldsRow.holds Try.pinned (OpenSpec.ofChange gmemHoldsSpec)

/-- ITS FALSE NEIGHBOUR: 'it returns false'. Refute it at one input. -/
def gmemHoldsWrong : ChangeSpec := { name := "gmemHolds", fn := fun _ => fun
  | [d1, d2] => { results := [.lit (.bool false)], args := [d1, d2] }
  | _ => none }
def GmemHoldsWrongFalsely : Prop := gmemHoldsRow.holds Try.pinned (OpenSpec.ofChange gmemHoldsWrong)

/-- 'dumbwaiterlaw05.SegCalls': WHATEVER THE INPUT: true; the input reads as it did. -/
def segCallsSpec : ChangeSpec := { name := "segCalls", fn := fun _ => fun
  | [d1, d2, d3, d4, d5, d6, d7] => { results := [.lit (.bool true)], args := [d1, d2, d3, d4, d5, d6, d7] }
  | _ => none }
def segCallsRow : OpenClaim := { program := "ytmmgcmbniidieaa", sum := "65cdc46bebd6ca4a6d82e449f459d09f8ec162259cc67525b8fb4fe4970ee688", func := "dumbwaiter/dumbwaiterlaw05.SegCalls", spec := "segCalls", unfollowed := true, recurses := true, apart := false }
def SegCallsSaid : Prop := segCallsRow.holds Try.pinned (OpenSpec.ofChange segCallsSpec)

/-- ITS FALSE NEIGHBOUR: 'it returns false'. Refute it at one input. -/
def segCallsWrong : ChangeSpec := { name := "segCalls", fn := fun _ => fun
  | [d1, d2, d3, d4, d5, d6, d7] => { results := [.lit (.bool false)], args := [d1, d2, d3, d4, d5, d6, d7] }
  | _ => none }
def SegCallsWrongFalsely : Prop := segCallsRow.holds Try.pinned (OpenSpec.ofChange segCallsWrong)

/- THE SECOND FORM. 'bulk': how many values and letters a reading holds, each counted each time it is reached (what is shared counts as often as it is met; a slice's spare places count too). A statement '..UptoSaid' is the law's where the arguments, and the package variables that the reading takes, are together of bulk at most 1048576: NARROWER than '..Said'. Prove '..Said' where nothing that the law and all that it calls make is longer than what came in: it says more and counts as full. Else prove '..UptoSaid'. A law counts once. -/
mutual
def uptoBulk {H : Type} : DataW H → Nat
  | .lit (.string bytes) => bytes.length + 1
  | .lit _ => 1
  | .nil => 1
  | .ptr d => uptoBulk d + 1
  | .slice elems spare => uptoBulkAll elems + uptoBulkAll spare + 1
  | .agg parts => uptoBulkAll parts + 1
  | .iface _ d => uptoBulk d + 1
  | .map entries => uptoBulkEntries entries + 1
  | .held _ => 1
def uptoBulkAll {H : Type} : List (DataW H) → Nat
  | [] => 0
  | d :: r => uptoBulk d + uptoBulkAll r
def uptoBulkEntries {H : Type} : List (Lit × DataW H) → Nat
  | [] => 0
  | x :: r => uptoBulkEntry x + uptoBulkEntries r
def uptoBulkEntry {H : Type} : Lit × DataW H → Nat
  | (.string bytes, d) => bytes.length + uptoBulk d + 1
  | (_, d) => uptoBulk d + 1
 end
def uptoSmall : (H : Type) → List (DataW H) → Bool := fun _ ds => decide (uptoBulkAll ds ≤ 1048576)
def OpenSpec.upto (s : _root_.Go.ChangeSpec) : _root_.Go.OpenSpec := { _root_.Go.OpenSpec.ofChange s with cond := some uptoSmall }

/-- 'dumbwaiterlaw02.GmemScript', WHERE WHAT IT READS IS OF BULK AT MOST 1048576: true; the input reads as it did. -/
def gmemScriptUptoRow : OpenClaim := { program := "ytmmgcmbniidieaa", sum := "65cdc46bebd6ca4a6d82e449f459d09f8ec162259cc67525b8fb4fe4970ee688", func := "dumbwaiter/dumbwaiterlaw02.GmemScript", spec := "gmemScript", unfollowed := true, recurses := true, apart := false, narrowed := true }
def GmemScriptUptoSaid : Prop := gmemScriptUptoRow.holds Try.pinned (OpenSpec.upto gmemScriptSpec)

/-- 'dumbwaiterlaw02.GmemHolds', WHERE WHAT IT READS IS OF BULK AT MOST 1048576: true; the input reads as it did. -/
def gmemHoldsUptoRow : OpenClaim := { program := "ytmmgcmbniidieaa", sum := "65cdc46bebd6ca4a6d82e449f459d09f8ec162259cc67525b8fb4fe4970ee688", func := "dumbwaiter/dumbwaiterlaw02.GmemHolds", spec := "gmemHolds", unfollowed := true, recurses := true, apart := false, narrowed := true }
def GmemHoldsUptoSaid : Prop := gmemHoldsUptoRow.holds Try.pinned (OpenSpec.upto gmemHoldsSpec)

/-- 'dumbwaiterlaw05.SegCalls', WHERE WHAT IT READS IS OF BULK AT MOST 1048576: true; the input reads as it did. -/
def segCallsUptoRow : OpenClaim := { program := "ytmmgcmbniidieaa", sum := "65cdc46bebd6ca4a6d82e449f459d09f8ec162259cc67525b8fb4fe4970ee688", func := "dumbwaiter/dumbwaiterlaw05.SegCalls", spec := "segCalls", unfollowed := true, recurses := true, apart := false, narrowed := true }
def SegCallsUptoSaid : Prop := segCallsUptoRow.holds Try.pinned (OpenSpec.upto segCallsSpec)

end Rows
end Go.Proofs.Ytmmgcmbniidieaa
