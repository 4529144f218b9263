/-
  DERIVED. GIVEN WITH THE SEED: THE CARDS: each row of YtkncaafjkoeijaaDoorRows.lean that lists a variable, with what it lists TIED to the program's text (the seventh form; the later family's looks); each row that meets fmt, with fmt's text TOLD by the authors' own Lean function (tested against real Go, not proved from fmt's source: count such statements apart). THE CARD IS WHAT COUNTS. Prove the row's statement (the work); the ties are given (YtkncaafjkoeijaaDoorTie.lean); close each card by the builder's one call (the guide's Derived/Test/ToyasCard.lean, 'card_holds'). Laid BY PROGRAM, IN A SANDBOX (cutbox-door.mjs). By AI agents, Wed Nov 11 2026. No macro, syntax, notation, axiom, sorry.
-/
import Derived.Test.YtkncaafjkoeijaaDoorRows
import GoSem.ClaimSeven
namespace Go.Proofs.YtkncaafjkoeijaaDoor
namespace Rows

/-- THE TIED CARD OF 'dumbwaiterlaw06.FeatNames'. -/
def featNamesCard : Claim7 := { stood := { row := featNamesRow, standIns := [], harness := (true, "a075ef545f6c9b4515af10e3e04709cd275a722abc225309c8c1166fdaa19dc6"), looks := false }, kinds := [], alts := [], laidByText := true, laidKinds := [.data], laidTests := true, laidLooks := .later }
def FeatNamesCardSaid : Prop := Claim7.holds Tryd.pinned (.plain (OpenSpec.ofChange featNamesSpec)) featNamesCard

/-- THE TIED CARD OF 'dumbwaiterlaw06.FeatSets'. -/
def featSetsCard : Claim7 := { stood := { row := featSetsRow, standIns := [], harness := (true, "a075ef545f6c9b4515af10e3e04709cd275a722abc225309c8c1166fdaa19dc6"), looks := false }, kinds := [], alts := [], laidByText := true, laidKinds := [.data], laidTests := true, laidLooks := .later }
def FeatSetsCardSaid : Prop := Claim7.holds Tryd.pinned (.plain (OpenSpec.ofChange featSetsSpec)) featSetsCard

/-- THE TIED CARD OF 'dumbwaiterlaw06.FeatBest'. -/
def featBestCard : Claim7 := { stood := { row := featBestRow, standIns := [], harness := (true, "a075ef545f6c9b4515af10e3e04709cd275a722abc225309c8c1166fdaa19dc6"), looks := false }, kinds := [], alts := [], laidByText := true, laidKinds := [.data], laidTests := true, laidLooks := .later }
def FeatBestCardSaid : Prop := Claim7.holds Tryd.pinned (.plain (OpenSpec.ofChange featBestSpec)) featBestCard

/-- THE TIED CARD OF 'dumbwaiterlaw06.FeatBits'. -/
def featBitsCard : Claim7 := { stood := { row := featBitsRow, standIns := [], harness := (true, "a075ef545f6c9b4515af10e3e04709cd275a722abc225309c8c1166fdaa19dc6"), looks := false }, kinds := [], alts := [], laidByText := true, laidKinds := [.data], laidTests := true, laidLooks := .later }
def FeatBitsCardSaid : Prop := Claim7.holds Tryd.pinned (.plain (OpenSpec.ofChange featBitsSpec)) featBitsCard

/-- THE SECOND FORM's CARD OF 'dumbwaiterlaw06.FeatNames'. -/
def featNamesUptoCard : Claim7 := { stood := { row := featNamesUptoRow, standIns := [], harness := (true, "a075ef545f6c9b4515af10e3e04709cd275a722abc225309c8c1166fdaa19dc6"), looks := false }, kinds := [], alts := [], laidByText := true, laidKinds := [.data], laidTests := true, laidLooks := .later }
def FeatNamesUptoCardSaid : Prop := Claim7.holds Tryd.pinned (.plain (OpenSpec.upto featNamesSpec)) featNamesUptoCard

/-- THE SECOND FORM's CARD OF 'dumbwaiterlaw06.FeatSets'. -/
def featSetsUptoCard : Claim7 := { stood := { row := featSetsUptoRow, standIns := [], harness := (true, "a075ef545f6c9b4515af10e3e04709cd275a722abc225309c8c1166fdaa19dc6"), looks := false }, kinds := [], alts := [], laidByText := true, laidKinds := [.data], laidTests := true, laidLooks := .later }
def FeatSetsUptoCardSaid : Prop := Claim7.holds Tryd.pinned (.plain (OpenSpec.upto featSetsSpec)) featSetsUptoCard

/-- THE SECOND FORM's CARD OF 'dumbwaiterlaw06.FeatBest'. -/
def featBestUptoCard : Claim7 := { stood := { row := featBestUptoRow, standIns := [], harness := (true, "a075ef545f6c9b4515af10e3e04709cd275a722abc225309c8c1166fdaa19dc6"), looks := false }, kinds := [], alts := [], laidByText := true, laidKinds := [.data], laidTests := true, laidLooks := .later }
def FeatBestUptoCardSaid : Prop := Claim7.holds Tryd.pinned (.plain (OpenSpec.upto featBestSpec)) featBestUptoCard

/-- THE SECOND FORM's CARD OF 'dumbwaiterlaw06.FeatBits'. -/
def featBitsUptoCard : Claim7 := { stood := { row := featBitsUptoRow, standIns := [], harness := (true, "a075ef545f6c9b4515af10e3e04709cd275a722abc225309c8c1166fdaa19dc6"), looks := false }, kinds := [], alts := [], laidByText := true, laidKinds := [.data], laidTests := true, laidLooks := .later }
def FeatBitsUptoCardSaid : Prop := Claim7.holds Tryd.pinned (.plain (OpenSpec.upto featBitsSpec)) featBitsUptoCard
end Rows
end Go.Proofs.YtkncaafjkoeijaaDoor
