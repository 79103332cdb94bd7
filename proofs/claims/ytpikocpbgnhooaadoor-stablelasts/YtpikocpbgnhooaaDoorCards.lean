/-
  DERIVED. GIVEN WITH THE SEED: THE CARDS: each row of YtpikocpbgnhooaaDoorRows.lean that lists a variable, with what it lists TIED to the program's text (the seventh form; the later family's looks); each row that meets fmt, with fmt's text TOLD by the authors' own Lean function (tested against real Go, not proved from fmt's source: count such statements apart). THE CARD IS WHAT COUNTS. Prove the row's statement (the work); the ties are given (YtpikocpbgnhooaaDoorTie.lean); close each card by the builder's one call (the guide's Derived/Test/ToyasCard.lean, 'card_holds'). Laid BY PROGRAM, IN A SANDBOX (cutbox-door.mjs). By AI agents, Wed Nov 11 2026. No macro, syntax, notation, axiom, sorry.
-/
import Derived.Test.YtpikocpbgnhooaaDoorRows
import GoSem.ClaimSeven
namespace Go.Proofs.YtpikocpbgnhooaaDoor
namespace Rows

/-- THE TIED CARD OF 'hustingslaw06.StableNil'. -/
def stableNilCard : Claim7 := { stood := { row := stableNilRow, standIns := [], harness := (true, "680bd28be71f7414e72954e05a5ccde77a458c10c01adcf62b25febb5bcd49db"), looks := true }, kinds := [], alts := [], laidByText := true, laidKinds := [.data], laidTests := true, laidLooks := .later }
def StableNilCardSaid : Prop := Claim7.holds Tryd.pinned (.plain (OpenSpec.ofChange stableNilSpec)) stableNilCard

/-- THE TIED CARD OF 'hustingslaw06.StableLasts'. -/
def stableLastsCard : Claim7 := { stood := { row := stableLastsRow, standIns := [], harness := (true, "680bd28be71f7414e72954e05a5ccde77a458c10c01adcf62b25febb5bcd49db"), looks := true }, kinds := [], alts := [], laidByText := true, laidKinds := [.data], laidTests := true, laidLooks := .later }
def StableLastsCardSaid : Prop := Claim7.holds Tryd.pinned (.plain (OpenSpec.ofChange stableLastsSpec)) stableLastsCard

/-- THE SECOND FORM's CARD OF 'hustingslaw06.StableNil'. -/
def stableNilUptoCard : Claim7 := { stood := { row := stableNilUptoRow, standIns := [], harness := (true, "680bd28be71f7414e72954e05a5ccde77a458c10c01adcf62b25febb5bcd49db"), looks := true }, kinds := [], alts := [], laidByText := true, laidKinds := [.data], laidTests := true, laidLooks := .later }
def StableNilUptoCardSaid : Prop := Claim7.holds Tryd.pinned (.plain (OpenSpec.upto stableNilSpec)) stableNilUptoCard

/-- THE SECOND FORM's CARD OF 'hustingslaw06.StableLasts'. -/
def stableLastsUptoCard : Claim7 := { stood := { row := stableLastsUptoRow, standIns := [], harness := (true, "680bd28be71f7414e72954e05a5ccde77a458c10c01adcf62b25febb5bcd49db"), looks := true }, kinds := [], alts := [], laidByText := true, laidKinds := [.data], laidTests := true, laidLooks := .later }
def StableLastsUptoCardSaid : Prop := Claim7.holds Tryd.pinned (.plain (OpenSpec.upto stableLastsSpec)) stableLastsUptoCard
end Rows
end Go.Proofs.YtpikocpbgnhooaaDoor
