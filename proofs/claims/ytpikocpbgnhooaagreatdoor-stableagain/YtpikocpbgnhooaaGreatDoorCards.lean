/-
  DERIVED. GIVEN WITH THE SEED: THE CARDS: each row of YtpikocpbgnhooaaGreatDoorRows.lean that lists a variable, with what it lists TIED to the program's text (the seventh form; the later family's looks); each row that meets fmt, with fmt's text TOLD by the authors' own Lean function (tested against real Go, not proved from fmt's source: count such statements apart). THE CARD IS WHAT COUNTS. Prove the row's statement (the work); the ties are given (YtpikocpbgnhooaaGreatDoorTie.lean); close each card by the builder's one call (the guide's Derived/Test/ToyasCard.lean, 'card_holds'). Laid BY PROGRAM, IN A SANDBOX (cutbox-door.mjs). By AI agents, Wed Nov 11 2026. No macro, syntax, notation, axiom, sorry.
-/
import Derived.Test.YtpikocpbgnhooaaGreatDoorRows
import GoSem.ClaimSeven
namespace Go.Proofs.YtpikocpbgnhooaaGreatDoor
namespace Rows

/-- THE TIED CARD OF 'hustingslaw06.StableBytes'. -/
def stableBytesCard : Claim7 := { stood := { row := stableBytesRow, standIns := [], harness := (true, "fc5500e912c2c5846ca8b2d63bcbd1db5b6e86ec2e74428969a11d99644dc4f8"), looks := true }, kinds := [], alts := [], laidByText := true, laidKinds := [.data], laidTests := true, laidLooks := .later }
def StableBytesCardSaid : Prop := Claim7.holds Tryz.pinned (.plain (OpenSpec.ofChange stableBytesSpec)) stableBytesCard

/-- THE TIED CARD OF 'hustingslaw06.StableLoads'. -/
def stableLoadsCard : Claim7 := { stood := { row := stableLoadsRow, standIns := [], harness := (true, "fc5500e912c2c5846ca8b2d63bcbd1db5b6e86ec2e74428969a11d99644dc4f8"), looks := true }, kinds := [], alts := [], laidByText := true, laidKinds := [.data], laidTests := true, laidLooks := .later }
def StableLoadsCardSaid : Prop := Claim7.holds Tryz.pinned (.plain (OpenSpec.ofChange stableLoadsSpec)) stableLoadsCard

/-- THE TIED CARD OF 'hustingslaw06.StableAgain'. -/
def stableAgainCard : Claim7 := { stood := { row := stableAgainRow, standIns := [], harness := (true, "fc5500e912c2c5846ca8b2d63bcbd1db5b6e86ec2e74428969a11d99644dc4f8"), looks := true }, kinds := [], alts := [], laidByText := true, laidKinds := [.data], laidTests := true, laidLooks := .later }
def StableAgainCardSaid : Prop := Claim7.holds Tryz.pinned (.plain (OpenSpec.ofChange stableAgainSpec)) stableAgainCard

/-- THE SECOND FORM's CARD OF 'hustingslaw06.StableBytes'. -/
def stableBytesUptoCard : Claim7 := { stood := { row := stableBytesUptoRow, standIns := [], harness := (true, "fc5500e912c2c5846ca8b2d63bcbd1db5b6e86ec2e74428969a11d99644dc4f8"), looks := true }, kinds := [], alts := [], laidByText := true, laidKinds := [.data], laidTests := true, laidLooks := .later }
def StableBytesUptoCardSaid : Prop := Claim7.holds Tryz.pinned (.plain (OpenSpec.upto stableBytesSpec)) stableBytesUptoCard

/-- THE SECOND FORM's CARD OF 'hustingslaw06.StableLoads'. -/
def stableLoadsUptoCard : Claim7 := { stood := { row := stableLoadsUptoRow, standIns := [], harness := (true, "fc5500e912c2c5846ca8b2d63bcbd1db5b6e86ec2e74428969a11d99644dc4f8"), looks := true }, kinds := [], alts := [], laidByText := true, laidKinds := [.data], laidTests := true, laidLooks := .later }
def StableLoadsUptoCardSaid : Prop := Claim7.holds Tryz.pinned (.plain (OpenSpec.upto stableLoadsSpec)) stableLoadsUptoCard

/-- THE SECOND FORM's CARD OF 'hustingslaw06.StableAgain'. -/
def stableAgainUptoCard : Claim7 := { stood := { row := stableAgainUptoRow, standIns := [], harness := (true, "fc5500e912c2c5846ca8b2d63bcbd1db5b6e86ec2e74428969a11d99644dc4f8"), looks := true }, kinds := [], alts := [], laidByText := true, laidKinds := [.data], laidTests := true, laidLooks := .later }
def StableAgainUptoCardSaid : Prop := Claim7.holds Tryz.pinned (.plain (OpenSpec.upto stableAgainSpec)) stableAgainUptoCard
end Rows
end Go.Proofs.YtpikocpbgnhooaaGreatDoor
