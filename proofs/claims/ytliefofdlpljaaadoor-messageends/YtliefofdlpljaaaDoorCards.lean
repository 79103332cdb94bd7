/-
  DERIVED. GIVEN WITH THE SEED: THE CARDS: each row of YtliefofdlpljaaaDoorRows.lean that lists a variable, with what it lists TIED to the program's text (the seventh form; the later family's looks); each row that meets fmt, with fmt's text TOLD by the authors' own Lean function (tested against real Go, not proved from fmt's source: count such statements apart). THE CARD IS WHAT COUNTS. Prove the row's statement (the work); the ties are given (YtliefofdlpljaaaDoorTie.lean); close each card by the builder's one call (the guide's Derived/Test/ToyasCard.lean, 'card_holds'). Laid BY PROGRAM, IN A SANDBOX (cutbox-door.mjs). By AI agents, Wed Nov 11 2026. No macro, syntax, notation, axiom, sorry.
-/
import Derived.Test.YtliefofdlpljaaaDoorRows
import GoSem.ClaimSeven
namespace Go.Proofs.YtliefofdlpljaaaDoor
namespace Rows

/-- THE TIED CARD OF 'hustingslaw04.MessagePuts'. -/
def messagePutsCard : Claim7 := { stood := { row := messagePutsRow, standIns := [], harness := (true, "d946cdbf742465e0bc81834dab77a4fda9131bfe3fe74e67089a51a291d351ad"), looks := false }, kinds := [], alts := [], laidByText := true, laidKinds := [.data], laidTests := true, laidLooks := .later }
def MessagePutsCardSaid : Prop := Claim7.holds Tryd.pinned (.plain (OpenSpec.ofChange messagePutsSpec)) messagePutsCard

/-- THE TIED CARD OF 'hustingslaw04.MessageGets'. -/
def messageGetsCard : Claim7 := { stood := { row := messageGetsRow, standIns := [], harness := (true, "d946cdbf742465e0bc81834dab77a4fda9131bfe3fe74e67089a51a291d351ad"), looks := false }, kinds := [], alts := [], laidByText := true, laidKinds := [.data], laidTests := true, laidLooks := .later }
def MessageGetsCardSaid : Prop := Claim7.holds Tryd.pinned (.plain (OpenSpec.ofChange messageGetsSpec)) messageGetsCard

/-- THE TIED CARD OF 'hustingslaw04.MessageCopies'. -/
def messageCopiesCard : Claim7 := { stood := { row := messageCopiesRow, standIns := [], harness := (true, "d946cdbf742465e0bc81834dab77a4fda9131bfe3fe74e67089a51a291d351ad"), looks := false }, kinds := [], alts := [], laidByText := true, laidKinds := [.data], laidTests := true, laidLooks := .later }
def MessageCopiesCardSaid : Prop := Claim7.holds Tryd.pinned (.plain (OpenSpec.ofChange messageCopiesSpec)) messageCopiesCard

/-- THE TIED CARD OF 'hustingslaw04.MessageBack'. -/
def messageBackCard : Claim7 := { stood := { row := messageBackRow, standIns := [], harness := (true, "d946cdbf742465e0bc81834dab77a4fda9131bfe3fe74e67089a51a291d351ad"), looks := false }, kinds := [], alts := [], laidByText := true, laidKinds := [.data], laidTests := true, laidLooks := .later }
def MessageBackCardSaid : Prop := Claim7.holds Tryd.pinned (.plain (OpenSpec.ofChange messageBackSpec)) messageBackCard

/-- THE TIED CARD OF 'hustingslaw04.MessageApart'. -/
def messageApartCard : Claim7 := { stood := { row := messageApartRow, standIns := [], harness := (true, "d946cdbf742465e0bc81834dab77a4fda9131bfe3fe74e67089a51a291d351ad"), looks := false }, kinds := [], alts := [], laidByText := true, laidKinds := [.data], laidTests := true, laidLooks := .later }
def MessageApartCardSaid : Prop := Claim7.holds Tryd.pinned (.plain (OpenSpec.ofChange messageApartSpec)) messageApartCard

/-- THE TIED CARD OF 'hustingslaw04.MessageEnds'. -/
def messageEndsCard : Claim7 := { stood := { row := messageEndsRow, standIns := [], harness := (true, "d946cdbf742465e0bc81834dab77a4fda9131bfe3fe74e67089a51a291d351ad"), looks := false }, kinds := [], alts := [], laidByText := true, laidKinds := [.data], laidTests := true, laidLooks := .later }
def MessageEndsCardSaid : Prop := Claim7.holds Tryd.pinned (.plain (OpenSpec.ofChange messageEndsSpec)) messageEndsCard

/-- THE SECOND FORM's CARD OF 'hustingslaw04.MessagePuts'. -/
def messagePutsUptoCard : Claim7 := { stood := { row := messagePutsUptoRow, standIns := [], harness := (true, "d946cdbf742465e0bc81834dab77a4fda9131bfe3fe74e67089a51a291d351ad"), looks := false }, kinds := [], alts := [], laidByText := true, laidKinds := [.data], laidTests := true, laidLooks := .later }
def MessagePutsUptoCardSaid : Prop := Claim7.holds Tryd.pinned (.plain (OpenSpec.upto messagePutsSpec)) messagePutsUptoCard

/-- THE SECOND FORM's CARD OF 'hustingslaw04.MessageGets'. -/
def messageGetsUptoCard : Claim7 := { stood := { row := messageGetsUptoRow, standIns := [], harness := (true, "d946cdbf742465e0bc81834dab77a4fda9131bfe3fe74e67089a51a291d351ad"), looks := false }, kinds := [], alts := [], laidByText := true, laidKinds := [.data], laidTests := true, laidLooks := .later }
def MessageGetsUptoCardSaid : Prop := Claim7.holds Tryd.pinned (.plain (OpenSpec.upto messageGetsSpec)) messageGetsUptoCard

/-- THE SECOND FORM's CARD OF 'hustingslaw04.MessageCopies'. -/
def messageCopiesUptoCard : Claim7 := { stood := { row := messageCopiesUptoRow, standIns := [], harness := (true, "d946cdbf742465e0bc81834dab77a4fda9131bfe3fe74e67089a51a291d351ad"), looks := false }, kinds := [], alts := [], laidByText := true, laidKinds := [.data], laidTests := true, laidLooks := .later }
def MessageCopiesUptoCardSaid : Prop := Claim7.holds Tryd.pinned (.plain (OpenSpec.upto messageCopiesSpec)) messageCopiesUptoCard

/-- THE SECOND FORM's CARD OF 'hustingslaw04.MessageBack'. -/
def messageBackUptoCard : Claim7 := { stood := { row := messageBackUptoRow, standIns := [], harness := (true, "d946cdbf742465e0bc81834dab77a4fda9131bfe3fe74e67089a51a291d351ad"), looks := false }, kinds := [], alts := [], laidByText := true, laidKinds := [.data], laidTests := true, laidLooks := .later }
def MessageBackUptoCardSaid : Prop := Claim7.holds Tryd.pinned (.plain (OpenSpec.upto messageBackSpec)) messageBackUptoCard

/-- THE SECOND FORM's CARD OF 'hustingslaw04.MessageApart'. -/
def messageApartUptoCard : Claim7 := { stood := { row := messageApartUptoRow, standIns := [], harness := (true, "d946cdbf742465e0bc81834dab77a4fda9131bfe3fe74e67089a51a291d351ad"), looks := false }, kinds := [], alts := [], laidByText := true, laidKinds := [.data], laidTests := true, laidLooks := .later }
def MessageApartUptoCardSaid : Prop := Claim7.holds Tryd.pinned (.plain (OpenSpec.upto messageApartSpec)) messageApartUptoCard

/-- THE SECOND FORM's CARD OF 'hustingslaw04.MessageEnds'. -/
def messageEndsUptoCard : Claim7 := { stood := { row := messageEndsUptoRow, standIns := [], harness := (true, "d946cdbf742465e0bc81834dab77a4fda9131bfe3fe74e67089a51a291d351ad"), looks := false }, kinds := [], alts := [], laidByText := true, laidKinds := [.data], laidTests := true, laidLooks := .later }
def MessageEndsUptoCardSaid : Prop := Claim7.holds Tryd.pinned (.plain (OpenSpec.upto messageEndsSpec)) messageEndsUptoCard
end Rows
end Go.Proofs.YtliefofdlpljaaaDoor
