/-
  DERIVED. GIVEN WITH THE SEED: THE CARDS: each row of YtmmgcmbniidieaaDoorRows.lean that lists a variable, with what it lists TIED to the program's text (the seventh form; the later family's looks); each row that meets fmt, with fmt's text TOLD by the authors' own Lean function (tested against real Go, not proved from fmt's source: count such statements apart). THE CARD IS WHAT COUNTS. Prove the row's statement (the work); the ties are given (YtmmgcmbniidieaaDoorTie.lean); close each card by the builder's one call (the guide's Derived/Test/ToyasCard.lean, 'card_holds'). Laid BY PROGRAM, IN A SANDBOX (cutbox-door.mjs). By AI agents, Wed Nov 11 2026. No macro, syntax, notation, axiom, sorry.
-/
import Derived.Test.YtmmgcmbniidieaaDoorRows
import GoSem.ClaimSeven
namespace Go.Proofs.YtmmgcmbniidieaaDoor
namespace Rows

/-- THE TIED CARD OF 'dumbwaiterlaw07.StatusNames'. -/
def statusNamesCard : Claim7 := { stood := { row := statusNamesRow, standIns := [], harness := (true, "74a40d17c9e69b6dfc5f574dcb600b566a565ea9fc66564c4647b223c52d408a"), looks := false }, kinds := [], alts := [], laidByText := true, laidKinds := [.data], laidTests := true, laidLooks := .later }
def StatusNamesCardSaid : Prop := Claim7.holds Tryd.pinned (.plain (OpenSpec.ofChange statusNamesSpec)) statusNamesCard

/-- THE TIED CARD OF 'dumbwaiterlaw07.StatusGoes'. -/
def statusGoesCard : Claim7 := { stood := { row := statusGoesRow, standIns := [], harness := (true, "74a40d17c9e69b6dfc5f574dcb600b566a565ea9fc66564c4647b223c52d408a"), looks := false }, kinds := [], alts := [], laidByText := true, laidKinds := [.data], laidTests := true, laidLooks := .later }
def StatusGoesCardSaid : Prop := Claim7.holds Tryd.pinned (.plain (OpenSpec.ofChange statusGoesSpec)) statusGoesCard

/-- THE TIED CARD OF 'dumbwaiterlaw07.StatusSteps'. -/
def statusStepsCard : Claim7 := { stood := { row := statusStepsRow, standIns := [], harness := (true, "74a40d17c9e69b6dfc5f574dcb600b566a565ea9fc66564c4647b223c52d408a"), looks := false }, kinds := [], alts := [], laidByText := true, laidKinds := [.data], laidTests := true, laidLooks := .later }
def StatusStepsCardSaid : Prop := Claim7.holds Tryd.pinned (.plain (OpenSpec.ofChange statusStepsSpec)) statusStepsCard

/-- THE TIED CARD OF 'dumbwaiterlaw07.StatusInits'. -/
def statusInitsCard : Claim7 := { stood := { row := statusInitsRow, standIns := [], harness := (true, "74a40d17c9e69b6dfc5f574dcb600b566a565ea9fc66564c4647b223c52d408a"), looks := false }, kinds := [], alts := [], laidByText := true, laidKinds := [.data], laidTests := true, laidLooks := .later }
def StatusInitsCardSaid : Prop := Claim7.holds Tryd.pinned (.plain (OpenSpec.ofChange statusInitsSpec)) statusInitsCard

/-- THE SECOND FORM's CARD OF 'dumbwaiterlaw07.StatusNames'. -/
def statusNamesUptoCard : Claim7 := { stood := { row := statusNamesUptoRow, standIns := [], harness := (true, "74a40d17c9e69b6dfc5f574dcb600b566a565ea9fc66564c4647b223c52d408a"), looks := false }, kinds := [], alts := [], laidByText := true, laidKinds := [.data], laidTests := true, laidLooks := .later }
def StatusNamesUptoCardSaid : Prop := Claim7.holds Tryd.pinned (.plain (OpenSpec.upto statusNamesSpec)) statusNamesUptoCard

/-- THE SECOND FORM's CARD OF 'dumbwaiterlaw07.StatusGoes'. -/
def statusGoesUptoCard : Claim7 := { stood := { row := statusGoesUptoRow, standIns := [], harness := (true, "74a40d17c9e69b6dfc5f574dcb600b566a565ea9fc66564c4647b223c52d408a"), looks := false }, kinds := [], alts := [], laidByText := true, laidKinds := [.data], laidTests := true, laidLooks := .later }
def StatusGoesUptoCardSaid : Prop := Claim7.holds Tryd.pinned (.plain (OpenSpec.upto statusGoesSpec)) statusGoesUptoCard

/-- THE SECOND FORM's CARD OF 'dumbwaiterlaw07.StatusSteps'. -/
def statusStepsUptoCard : Claim7 := { stood := { row := statusStepsUptoRow, standIns := [], harness := (true, "74a40d17c9e69b6dfc5f574dcb600b566a565ea9fc66564c4647b223c52d408a"), looks := false }, kinds := [], alts := [], laidByText := true, laidKinds := [.data], laidTests := true, laidLooks := .later }
def StatusStepsUptoCardSaid : Prop := Claim7.holds Tryd.pinned (.plain (OpenSpec.upto statusStepsSpec)) statusStepsUptoCard

/-- THE SECOND FORM's CARD OF 'dumbwaiterlaw07.StatusInits'. -/
def statusInitsUptoCard : Claim7 := { stood := { row := statusInitsUptoRow, standIns := [], harness := (true, "74a40d17c9e69b6dfc5f574dcb600b566a565ea9fc66564c4647b223c52d408a"), looks := false }, kinds := [], alts := [], laidByText := true, laidKinds := [.data], laidTests := true, laidLooks := .later }
def StatusInitsUptoCardSaid : Prop := Claim7.holds Tryd.pinned (.plain (OpenSpec.upto statusInitsSpec)) statusInitsUptoCard
end Rows
end Go.Proofs.YtmmgcmbniidieaaDoor
