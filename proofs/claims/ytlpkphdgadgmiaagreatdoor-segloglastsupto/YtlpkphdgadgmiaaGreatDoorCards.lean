/-
  DERIVED. GIVEN WITH THE SEED: THE CARDS: each row of YtlpkphdgadgmiaaGreatDoorRows.lean that lists a variable, with what it lists TIED to the program's text (the seventh form; the later family's looks); each row that meets fmt, with fmt's text TOLD by the authors' own Lean function (tested against real Go, not proved from fmt's source: count such statements apart). THE CARD IS WHAT COUNTS. Prove the row's statement (the work); the ties are given (YtlpkphdgadgmiaaGreatDoorTie.lean); close each card by the builder's one call (the guide's Derived/Test/ToyasCard.lean, 'card_holds'). Laid BY PROGRAM, IN A SANDBOX (cutbox-door.mjs). By AI agents, Wed Nov 11 2026. No macro, syntax, notation, axiom, sorry.
-/
import Derived.Test.YtlpkphdgadgmiaaGreatDoorRows
import GoSem.ClaimSeven
namespace Go.Proofs.YtlpkphdgadgmiaaGreatDoor
namespace Rows

/-- THE TIED CARD OF 'hustingslaw05.SeglogPlays'. -/
def seglogPlaysCard : Claim7 := { stood := { row := seglogPlaysRow, standIns := [], harness := (true, "cdc383b0069852c7010c7fd8d31c63f876eb786c73acd67d76b37d0968b4f23a"), looks := true }, kinds := [], alts := [], laidByText := true, laidKinds := [.data, .data, .data, .data, .sentinel, .sentinel, .data, .pinned], laidTests := true, laidLooks := .later }
def SeglogPlaysCardSaid : Prop := Claim7.holds Tryz.pinned (.plain (OpenSpec.ofChange seglogPlaysSpec)) seglogPlaysCard

/-- THE TIED CARD OF 'hustingslaw05.SeglogTells'. -/
def seglogTellsCard : Claim7 := { stood := { row := seglogTellsRow, standIns := [], harness := (true, "cdc383b0069852c7010c7fd8d31c63f876eb786c73acd67d76b37d0968b4f23a"), looks := true }, kinds := [], alts := [], laidByText := true, laidKinds := [.data, .data, .data, .data, .sentinel, .sentinel, .data, .pinned], laidTests := true, laidLooks := .later }
def SeglogTellsCardSaid : Prop := Claim7.holds Tryz.pinned (.plain (OpenSpec.ofChange seglogTellsSpec)) seglogTellsCard

/-- THE TIED CARD OF 'hustingslaw05.SeglogNil'. -/
def seglogNilCard : Claim7 := { stood := { row := seglogNilRow, standIns := [], harness := (true, "cdc383b0069852c7010c7fd8d31c63f876eb786c73acd67d76b37d0968b4f23a"), looks := true }, kinds := [], alts := [], laidByText := true, laidKinds := [.data, .data, .data, .data, .sentinel, .sentinel, .data, .pinned], laidTests := true, laidLooks := .later }
def SeglogNilCardSaid : Prop := Claim7.holds Tryz.pinned (.plain (OpenSpec.ofChange seglogNilSpec)) seglogNilCard

/-- THE TIED CARD OF 'hustingslaw05.SeglogLasts'. -/
def seglogLastsCard : Claim7 := { stood := { row := seglogLastsRow, standIns := [], harness := (true, "cdc383b0069852c7010c7fd8d31c63f876eb786c73acd67d76b37d0968b4f23a"), looks := true }, kinds := [], alts := [], laidByText := true, laidKinds := [.data, .data, .data, .data, .sentinel, .sentinel, .data, .pinned], laidTests := true, laidLooks := .later }
def SeglogLastsCardSaid : Prop := Claim7.holds Tryz.pinned (.plain (OpenSpec.ofChange seglogLastsSpec)) seglogLastsCard

/-- THE TIED CARD OF 'hustingslaw05.SeglogRoom'. -/
def seglogRoomCard : Claim7 := { stood := { row := seglogRoomRow, standIns := [], harness := (true, "cdc383b0069852c7010c7fd8d31c63f876eb786c73acd67d76b37d0968b4f23a"), looks := true }, kinds := [], alts := [], laidByText := true, laidKinds := [.data, .data, .data, .data, .sentinel, .sentinel, .data, .pinned], laidTests := true, laidLooks := .later }
def SeglogRoomCardSaid : Prop := Claim7.holds Tryz.pinned (.plain (OpenSpec.ofChange seglogRoomSpec)) seglogRoomCard

/-- THE TIED CARD OF 'hustingslaw05.SeglogOnes'. -/
def seglogOnesCard : Claim7 := { stood := { row := seglogOnesRow, standIns := [], harness := (true, "cdc383b0069852c7010c7fd8d31c63f876eb786c73acd67d76b37d0968b4f23a"), looks := true }, kinds := [], alts := [], laidByText := true, laidKinds := [.data, .data, .data, .data, .sentinel, .sentinel, .data, .pinned], laidTests := true, laidLooks := .later }
def SeglogOnesCardSaid : Prop := Claim7.holds Tryz.pinned (.plain (OpenSpec.ofChange seglogOnesSpec)) seglogOnesCard

/-- THE SECOND FORM's CARD OF 'hustingslaw05.SeglogPlays'. -/
def seglogPlaysUptoCard : Claim7 := { stood := { row := seglogPlaysUptoRow, standIns := [], harness := (true, "cdc383b0069852c7010c7fd8d31c63f876eb786c73acd67d76b37d0968b4f23a"), looks := true }, kinds := [], alts := [], laidByText := true, laidKinds := [.data, .data, .data, .data, .sentinel, .sentinel, .data, .pinned], laidTests := true, laidLooks := .later }
def SeglogPlaysUptoCardSaid : Prop := Claim7.holds Tryz.pinned (.plain (OpenSpec.upto seglogPlaysSpec)) seglogPlaysUptoCard

/-- THE SECOND FORM's CARD OF 'hustingslaw05.SeglogTells'. -/
def seglogTellsUptoCard : Claim7 := { stood := { row := seglogTellsUptoRow, standIns := [], harness := (true, "cdc383b0069852c7010c7fd8d31c63f876eb786c73acd67d76b37d0968b4f23a"), looks := true }, kinds := [], alts := [], laidByText := true, laidKinds := [.data, .data, .data, .data, .sentinel, .sentinel, .data, .pinned], laidTests := true, laidLooks := .later }
def SeglogTellsUptoCardSaid : Prop := Claim7.holds Tryz.pinned (.plain (OpenSpec.upto seglogTellsSpec)) seglogTellsUptoCard

/-- THE SECOND FORM's CARD OF 'hustingslaw05.SeglogNil'. -/
def seglogNilUptoCard : Claim7 := { stood := { row := seglogNilUptoRow, standIns := [], harness := (true, "cdc383b0069852c7010c7fd8d31c63f876eb786c73acd67d76b37d0968b4f23a"), looks := true }, kinds := [], alts := [], laidByText := true, laidKinds := [.data, .data, .data, .data, .sentinel, .sentinel, .data, .pinned], laidTests := true, laidLooks := .later }
def SeglogNilUptoCardSaid : Prop := Claim7.holds Tryz.pinned (.plain (OpenSpec.upto seglogNilSpec)) seglogNilUptoCard

/-- THE SECOND FORM's CARD OF 'hustingslaw05.SeglogLasts'. -/
def seglogLastsUptoCard : Claim7 := { stood := { row := seglogLastsUptoRow, standIns := [], harness := (true, "cdc383b0069852c7010c7fd8d31c63f876eb786c73acd67d76b37d0968b4f23a"), looks := true }, kinds := [], alts := [], laidByText := true, laidKinds := [.data, .data, .data, .data, .sentinel, .sentinel, .data, .pinned], laidTests := true, laidLooks := .later }
def SeglogLastsUptoCardSaid : Prop := Claim7.holds Tryz.pinned (.plain (OpenSpec.upto seglogLastsSpec)) seglogLastsUptoCard

/-- THE SECOND FORM's CARD OF 'hustingslaw05.SeglogRoom'. -/
def seglogRoomUptoCard : Claim7 := { stood := { row := seglogRoomUptoRow, standIns := [], harness := (true, "cdc383b0069852c7010c7fd8d31c63f876eb786c73acd67d76b37d0968b4f23a"), looks := true }, kinds := [], alts := [], laidByText := true, laidKinds := [.data, .data, .data, .data, .sentinel, .sentinel, .data, .pinned], laidTests := true, laidLooks := .later }
def SeglogRoomUptoCardSaid : Prop := Claim7.holds Tryz.pinned (.plain (OpenSpec.upto seglogRoomSpec)) seglogRoomUptoCard

/-- THE SECOND FORM's CARD OF 'hustingslaw05.SeglogOnes'. -/
def seglogOnesUptoCard : Claim7 := { stood := { row := seglogOnesUptoRow, standIns := [], harness := (true, "cdc383b0069852c7010c7fd8d31c63f876eb786c73acd67d76b37d0968b4f23a"), looks := true }, kinds := [], alts := [], laidByText := true, laidKinds := [.data, .data, .data, .data, .sentinel, .sentinel, .data, .pinned], laidTests := true, laidLooks := .later }
def SeglogOnesUptoCardSaid : Prop := Claim7.holds Tryz.pinned (.plain (OpenSpec.upto seglogOnesSpec)) seglogOnesUptoCard
end Rows
end Go.Proofs.YtlpkphdgadgmiaaGreatDoor
