/-
  No cell of these rows narrows 'for every input' (looked for: loops, veiled, ifaces, maps, wideKeys, modest, calm, conditions, laid).
  DERIVED. THE GIVEN ROWS OF THIS SEAT. 5 by the template 'for every input the law returns true; each argument reads behind the call as it read before'; 0 by the template 'total and deterministic' (their statements: YthidpnjndhelbaaTotals.lean).
  GIVEN WITH THE SEED: the statements are not yours to turn. If you find one false, say at which input.
  Laid BY PROGRAM, IN A SANDBOX (cutbox-rows.mjs): the forced cells as the released guide's own fill.sh prints them over the translation e7f65fc3bd3bd7a1… (all of the seat's roots in one cut). By AI agents, Wed Nov 11 2026. No macro, syntax, notation, axiom, sorry.
-/
import Derived.Test.YthidpnjndhelbaaChecked
import GoSem.Claim
import GoSem.ClaimJoined
import GoSem.ClaimMapViews
import Derived.JoinedTies
import Derived.KernelRfl
namespace Go.Proofs.Ythidpnjndhelbaa
/- THE CELL 'sum', in the pinned program and in every row, IS THE sha256 OF THE DUMP (.gsa) THAT YthidpnjndhelbaaProg.lean LOADS. Nothing in Lean hashes anything: it is a label: what it is worth is what the hold of that sum in a sandbox is worth. -/
noncomputable def Try.pinned : Pinned := { name := "ythidpnjndhelbaa", sum := "e7f65fc3bd3bd7a1550d161c7c47db3106558b4415ced9fcdd0cbe8c894b8ca1", checked := Try.checked }
namespace Rows
def none {H : Type} : Left H := { results := [], args := [] }

/-- 'hustingslaw17.NetPlays': WHATEVER THE INPUT: true; the input reads as it did. -/
def netPlaysSpec : ChangeSpec := { name := "netPlays", fn := fun _ => fun
  | [d1, d2, d3] => { results := [.lit (.bool true)], args := [d1, d2, d3] }
  | _ => none }
def netPlaysRow : OpenClaim := { program := "ythidpnjndhelbaa", sum := "e7f65fc3bd3bd7a1550d161c7c47db3106558b4415ced9fcdd0cbe8c894b8ca1", func := "hustings/hustingslaw17.NetPlays", spec := "netPlays", unfollowed := true, recurses := true, apart := false }
def NetPlaysSaid : Prop := netPlaysRow.holds Try.pinned (OpenSpec.ofChange netPlaysSpec)

/-- ITS FALSE NEIGHBOUR: 'it returns false'. Refute it at one input. -/
def netPlaysWrong : ChangeSpec := { name := "netPlays", fn := fun _ => fun
  | [d1, d2, d3] => { results := [.lit (.bool false)], args := [d1, d2, d3] }
  | _ => none }
def NetPlaysWrongFalsely : Prop := netPlaysRow.holds Try.pinned (OpenSpec.ofChange netPlaysWrong)

/-- 'hustingslaw17.NetNil': WHATEVER THE INPUT: true; the input reads as it did. -/
def netNilSpec : ChangeSpec := { name := "netNil", fn := fun _ => fun
  | [d] => { results := [.lit (.bool true)], args := [d] }
  | _ => none }
def netNilRow : OpenClaim := { program := "ythidpnjndhelbaa", sum := "e7f65fc3bd3bd7a1550d161c7c47db3106558b4415ced9fcdd0cbe8c894b8ca1", func := "hustings/hustingslaw17.NetNil", spec := "netNil", unfollowed := true, recurses := true, apart := false }
def NetNilSaid : Prop := netNilRow.holds Try.pinned (OpenSpec.ofChange netNilSpec)

/-- ITS FALSE NEIGHBOUR: 'it returns false'. Refute it at one input. -/
def netNilWrong : ChangeSpec := { name := "netNil", fn := fun _ => fun
  | [d] => { results := [.lit (.bool false)], args := [d] }
  | _ => none }
def NetNilWrongFalsely : Prop := netNilRow.holds Try.pinned (OpenSpec.ofChange netNilWrong)

/-- 'hustingslaw17.NetForges': WHATEVER THE INPUT: true; the input reads as it did. -/
def netForgesSpec : ChangeSpec := { name := "netForges", fn := fun _ => fun
  | [d] => { results := [.lit (.bool true)], args := [d] }
  | _ => none }
def netForgesRow : OpenClaim := { program := "ythidpnjndhelbaa", sum := "e7f65fc3bd3bd7a1550d161c7c47db3106558b4415ced9fcdd0cbe8c894b8ca1", func := "hustings/hustingslaw17.NetForges", spec := "netForges", unfollowed := true, recurses := true, apart := false }
def NetForgesSaid : Prop := netForgesRow.holds Try.pinned (OpenSpec.ofChange netForgesSpec)

/-- ITS FALSE NEIGHBOUR: 'it returns false'. Refute it at one input. -/
def netForgesWrong : ChangeSpec := { name := "netForges", fn := fun _ => fun
  | [d] => { results := [.lit (.bool false)], args := [d] }
  | _ => none }
def NetForgesWrongFalsely : Prop := netForgesRow.holds Try.pinned (OpenSpec.ofChange netForgesWrong)

/-- 'hustingslaw17.NetOrder': WHATEVER THE INPUT: true; the input reads as it did. -/
def netOrderSpec : ChangeSpec := { name := "netOrder", fn := fun _ => fun
  | [d1, d2] => { results := [.lit (.bool true)], args := [d1, d2] }
  | _ => none }
def netOrderRow : OpenClaim := { program := "ythidpnjndhelbaa", sum := "e7f65fc3bd3bd7a1550d161c7c47db3106558b4415ced9fcdd0cbe8c894b8ca1", func := "hustings/hustingslaw17.NetOrder", spec := "netOrder", unfollowed := true, recurses := true, apart := false }
def NetOrderSaid : Prop := netOrderRow.holds Try.pinned (OpenSpec.ofChange netOrderSpec)

/-- ITS FALSE NEIGHBOUR: 'it returns false'. Refute it at one input. -/
def netOrderWrong : ChangeSpec := { name := "netOrder", fn := fun _ => fun
  | [d1, d2] => { results := [.lit (.bool false)], args := [d1, d2] }
  | _ => none }
def NetOrderWrongFalsely : Prop := netOrderRow.holds Try.pinned (OpenSpec.ofChange netOrderWrong)

/-- 'hustingslaw17.NetWalls': WHATEVER THE INPUT: true; the input reads as it did. -/
def netWallsSpec : ChangeSpec := { name := "netWalls", fn := fun _ => fun
  | [d1, d2] => { results := [.lit (.bool true)], args := [d1, d2] }
  | _ => none }
def netWallsRow : OpenClaim := { program := "ythidpnjndhelbaa", sum := "e7f65fc3bd3bd7a1550d161c7c47db3106558b4415ced9fcdd0cbe8c894b8ca1", func := "hustings/hustingslaw17.NetWalls", spec := "netWalls", unfollowed := true, recurses := true, apart := false }
def NetWallsSaid : Prop := netWallsRow.holds Try.pinned (OpenSpec.ofChange netWallsSpec)

/-- ITS FALSE NEIGHBOUR: 'it returns false'. Refute it at one input. -/
def netWallsWrong : ChangeSpec := { name := "netWalls", fn := fun _ => fun
  | [d1, d2] => { results := [.lit (.bool false)], args := [d1, d2] }
  | _ => none }
def NetWallsWrongFalsely : Prop := netWallsRow.holds Try.pinned (OpenSpec.ofChange netWallsWrong)

/- THE SECOND FORM. 'bulk': how many values and letters a reading holds, each counted each time it is reached (what is shared counts as often as it is met; a slice's spare places count too). A statement '..UptoSaid' is the law's where the arguments, and the package variables that the reading takes, are together of bulk at most 1048576: NARROWER than '..Said'. Prove '..Said' where nothing that the law and all that it calls make is longer than what came in: it says more and counts as full. Else prove '..UptoSaid'. A law counts once. -/
mutual
def uptoBulk {H : Type} : DataW H → Nat
  | .lit (.string bytes) => bytes.length + 1
  | .lit _ => 1
  | .nil => 1
  | .ptr d => uptoBulk d + 1
  | .slice elems spare => uptoBulkAll elems + uptoBulkAll spare + 1
  | .agg parts => uptoBulkAll parts + 1
  | .iface _ d => uptoBulk d + 1
  | .map entries => uptoBulkEntries entries + 1
  | .held _ => 1
def uptoBulkAll {H : Type} : List (DataW H) → Nat
  | [] => 0
  | d :: r => uptoBulk d + uptoBulkAll r
def uptoBulkEntries {H : Type} : List (Lit × DataW H) → Nat
  | [] => 0
  | x :: r => uptoBulkEntry x + uptoBulkEntries r
def uptoBulkEntry {H : Type} : Lit × DataW H → Nat
  | (.string bytes, d) => bytes.length + uptoBulk d + 1
  | (_, d) => uptoBulk d + 1
 end
def uptoSmall : (H : Type) → List (DataW H) → Bool := fun _ ds => decide (uptoBulkAll ds ≤ 1048576)
def OpenSpec.upto (s : _root_.Go.ChangeSpec) : _root_.Go.OpenSpec := { _root_.Go.OpenSpec.ofChange s with cond := some uptoSmall }

/-- 'hustingslaw17.NetPlays', WHERE WHAT IT READS IS OF BULK AT MOST 1048576: true; the input reads as it did. -/
def netPlaysUptoRow : OpenClaim := { program := "ythidpnjndhelbaa", sum := "e7f65fc3bd3bd7a1550d161c7c47db3106558b4415ced9fcdd0cbe8c894b8ca1", func := "hustings/hustingslaw17.NetPlays", spec := "netPlays", unfollowed := true, recurses := true, apart := false, narrowed := true }
def NetPlaysUptoSaid : Prop := netPlaysUptoRow.holds Try.pinned (OpenSpec.upto netPlaysSpec)

/-- 'hustingslaw17.NetNil', WHERE WHAT IT READS IS OF BULK AT MOST 1048576: true; the input reads as it did. -/
def netNilUptoRow : OpenClaim := { program := "ythidpnjndhelbaa", sum := "e7f65fc3bd3bd7a1550d161c7c47db3106558b4415ced9fcdd0cbe8c894b8ca1", func := "hustings/hustingslaw17.NetNil", spec := "netNil", unfollowed := true, recurses := true, apart := false, narrowed := true }
def NetNilUptoSaid : Prop := netNilUptoRow.holds Try.pinned (OpenSpec.upto netNilSpec)

/-- 'hustingslaw17.NetForges', WHERE WHAT IT READS IS OF BULK AT MOST 1048576: true; the input reads as it did. -/
def netForgesUptoRow : OpenClaim := { program := "ythidpnjndhelbaa", sum := "e7f65fc3bd3bd7a1550d161c7c47db3106558b4415ced9fcdd0cbe8c894b8ca1", func := "hustings/hustingslaw17.NetForges", spec := "netForges", unfollowed := true, recurses := true, apart := false, narrowed := true }
def NetForgesUptoSaid : Prop := netForgesUptoRow.holds Try.pinned (OpenSpec.upto netForgesSpec)

/-- 'hustingslaw17.NetOrder', WHERE WHAT IT READS IS OF BULK AT MOST 1048576: true; the input reads as it did. -/
def netOrderUptoRow : OpenClaim := { program := "ythidpnjndhelbaa", sum := "e7f65fc3bd3bd7a1550d161c7c47db3106558b4415ced9fcdd0cbe8c894b8ca1", func := "hustings/hustingslaw17.NetOrder", spec := "netOrder", unfollowed := true, recurses := true, apart := false, narrowed := true }
def NetOrderUptoSaid : Prop := netOrderUptoRow.holds Try.pinned (OpenSpec.upto netOrderSpec)

/-- 'hustingslaw17.NetWalls', WHERE WHAT IT READS IS OF BULK AT MOST 1048576: true; the input reads as it did. -/
def netWallsUptoRow : OpenClaim := { program := "ythidpnjndhelbaa", sum := "e7f65fc3bd3bd7a1550d161c7c47db3106558b4415ced9fcdd0cbe8c894b8ca1", func := "hustings/hustingslaw17.NetWalls", spec := "netWalls", unfollowed := true, recurses := true, apart := false, narrowed := true }
def NetWallsUptoSaid : Prop := netWallsUptoRow.holds Try.pinned (OpenSpec.upto netWallsSpec)

end Rows
end Go.Proofs.Ythidpnjndhelbaa
